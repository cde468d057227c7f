/- live's node. What must be whatever is asked of a node. -/
import Derived.Test.YtimhkgpjfppkmaaGreatDoorRI
namespace Go.Proofs.YtimhkgpjfppkmaaGreatDoor
open Go.RowKit

def bD : ByteArray := ⟨#[98, 64, 100]⟩
def aD : ByteArray := ⟨#[97, 64, 100]⟩
/-- live's node. -/
def liveN : Nd := { name := ⟨#[110]⟩, coll := false, acc := 1, max := 2, affs := [(aD, 5)], subs := [], items := [], parent := ⟨#[]⟩ }
/-- The same with the one who waits. -/
def liveM : Nd := { liveN with subs := [(bD, true, 0)] }
theorem lv_role : roleL liveN.affs bD = 2 := by
  unfold roleL
  decide +kernel
theorem lv_role_m : roleL liveM.affs bD = 2 := lv_role
theorem lv_owner : roleL liveN.affs aD = 5 := by
  unfold roleL
  decide +kernel
theorem lv_code : codeS liveN bD = 0 := by
  unfold codeS
  rw [lv_role]
  rfl
theorem lv_new : newS liveN bD 0 = (bD, true, 0) := by
  unfold newS
  rw [lv_role]
  rfl
theorem lv_with : WithS liveN.subs (newS liveN bD 0) := withS_end (fun y hy => by simp [woSub, liveN] at hy)
theorem lv_in : { liveN with subs := inSub (newS liveN bD 0) liveN.subs } = liveM := by
  rw [lv_new]
  rfl
theorem lv_right : RightN liveN := by
  refine ⟨by decide +kernel, by decide, by decide, .inl rfl, ⟨by decide, List.pairwise_singleton _ _, fun x hx => ?_, ⟨(aD, 5), by simp [liveN], rfl⟩⟩, ⟨by decide, List.Pairwise.nil, fun x hx => by simp [liveN] at hx⟩, ⟨by decide, fun x hx => by simp [liveN] at hx, List.Pairwise.nil⟩⟩
  simp [liveN] at hx
  subst hx
  exact ⟨by decide +kernel, by decide, by decide, by decide⟩
theorem lv_ask : AskS liveN bD 0 := ⟨lv_right, by decide +kernel, by decide⟩
theorem lv_reads : readsB liveM bD = false := by
  unfold readsB
  rw [lv_role_m]
  decide +kernel
theorem lv_sub : SbsC liveN bD 0 = fun m c => c = 0 ∧ m = liveM := by
  funext m c
  apply propext
  constructor
  · rintro (⟨h, _⟩ | ⟨_, h, _⟩ | ⟨_, _, h1, h2⟩)
    · exact absurd lv_ask h
    · exact absurd lv_code h
    · exact ⟨h1, h2.trans lv_in⟩
  · rintro ⟨h1, h2⟩
    exact .inr (.inr ⟨lv_ask, lv_code, h1, h2.trans lv_in.symm⟩)
end Go.Proofs.YtimhkgpjfppkmaaGreatDoor
namespace Go.Proofs.YtimhkgpjfppkmaaGreatDoor
open Go.RowKit

def liveU (p : Nat) : NdW := ⟨some ⟨p, 0, none⟩, 1, none, 0, none, 0⟩
theorem liveU_mem {W : World} {p : Nat} (f : W.heap[p]? = some (.cells #[.string aD, .int .u8 5] 55)) : NdM W.heap.size W liveN (liveU p) := by
  have hl := (Array.getElem?_eq_some_iff.1 f).1
  refine ⟨⟨⟨by simp [liveN], fun i x hx => ?_⟩, ⟨by simp [liveN], fun i x hx => by simp [liveN] at hx⟩, by simp [liveN, liveU], by simp [liveN, liveU]⟩, ⟨by simp [liveN], fun i x hx => by simp [liveN] at hx⟩, by simp [liveN, liveU], ⟨by decide, by decide, fun x hx => ?_, fun x hx => by simp [liveN] at hx, fun x hx => by simp [liveN] at hx⟩⟩
  · match i, hx with
    | 0, hx =>
      simp [liveN] at hx
      subst hx
      exact ⟨p, 0, rfl, hl, by simp [World.cell?, f], by simp [World.cell?, f]⟩
  · simp [liveN] at hx
    subst hx
    decide
set_option maxRecDepth 100000 in
set_option maxHeartbeats 4000000 in
theorem live11_any (w : World) (hg : Glob w) :
    Calls Tryz.prog 8 #[] w fun e w' => e = .returned (.bool true) ∧ Below w.heap.size w w' := by
  obtain ⟨W3, hbs, f3, b3⟩ := one_a (aD, 5) w
  obtain ⟨W4, hW4⟩ : ∃ W4, W3.alloc (.cells (ndA liveN (liveU w.heap.size)) 27) = W4 := ⟨_, rfl⟩
  have f4 : W4.heap[W3.heap.size]? = some (.cells (ndA liveN (liveU w.heap.size)) 27) := by rw [← hW4]; exact World.alloc_heap_new _ _
  have b4 : Below W3.heap.size W3 W4 := by rw [← hW4]; exact (Below.refl _ W3).alloc (Nat.le_refl _) _
  have B4 : Below w.heap.size w W4 := b3.trans (b4.mono b3.size)
  have hm4 := liveU_mem ((b4.block _ (Array.getElem?_eq_some_iff.1 f3).1).trans f3)
  have hsu := subscribe_any liveN _ bD 0 W4 hm4 (hg.below B4) (by decide) lv_with
  rw [lv_sub] at hsu
  have HS := hide hsu
  have HM := hide (And.intro B4 (And.intro hm4 f4))
  have HW := hide hW4
  have HA := hide f4
  rw [← hW4] at HS HA
  have HG := hide hg
  clear hg f3 f4 b3 b4 B4 hm4 hsu hW4
  go_enter Tryz.func8, Tryz.ntmps8
  go_wp2_with (first | refine l_val rfl _ (ex_sliceI (us := #[(0, .agg #[.string aD, .int .u8 5])]) rfl (by simp [Act.eval, aD]) hbs) ?_ | refine l_load _ (load_nd HA.out) rfl rfl rfl ?_)
  refine HS.out.mono ?_
  rintro e w5 ⟨m, u, c, rfl, ⟨rfl, rfl⟩, hm5, b5, _⟩
  have b5' : Below W4.heap.size W4 w5 := by
    have h : _ = W4 := HW.out
    rw [h] at b5
    exact b5
  obtain ⟨W6, hW6⟩ : ∃ W6, w5.alloc (.cells (ndA liveM u) 27) = W6 := ⟨_, rfl⟩
  have f6 : W6.heap[w5.heap.size]? = some (.cells (ndA liveM u) 27) := by rw [← hW6]; exact World.alloc_heap_new _ _
  have b6 : Below w5.heap.size w5 W6 := by rw [← hW6]; exact (Below.refl _ w5).alloc (Nat.le_refl _) _
  have B6 : Below W4.heap.size W4 W6 := b5'.trans (b6.mono b5'.size)
  have hm6 := hm5.move b6
  have HSu := hide (sub_any liveM u bD W6 hm6.ok)
  have HM6 := hide (And.intro B6 (And.intro hm6 f6))
  have HW6 := hide hW6
  have HA6 := hide f6
  rw [← hW6] at HSu HA6
  clear b5 b5' hW6 f6 b6 B6 hm6 hm5 HS HA HW
  have hlit : (ndA liveM u : Array Value) = #[.string ⟨#[110]⟩, .bool false, .int .u8 1, .int .i64 2, .slice u.aa 1 u.ac, .slice u.sa 1 u.sc, .slice u.ia 0 u.ic, .string ⟨#[]⟩] := rfl
  rw [hlit] at HSu HA6 ⊢
  clear hlit
  go_wp2_with (refine l_load _ (load_nd (n := liveM) (u := u) HA6.out) rfl rfl rfl ?_)
  refine HSu.out.mono ?_
  rintro e w7 ⟨hf, b7⟩
  obtain rfl : e = .returned (.tuple #[.agg #[.string bD, .bool true, .int .i64 0], .bool true]) := by
    rcases hf with ⟨x, hx, rfl⟩ | ⟨hx, _⟩
    · simp [liveM] at hx
      subst hx
      rfl
    · simp [liveM] at hx
  have b7' : Below W6.heap.size W6 w7 := by
    have h : w5.alloc (.cells #[.string ⟨#[110]⟩, .bool false, .int .u8 1, .int .i64 2, .slice u.aa 1 u.ac, .slice u.sa 1 u.sc, .slice u.ia 0 u.ic, .string ⟨#[]⟩] 27) = W6 := HW6.out
    rw [h] at b7
    exact b7
  have b8 : Below W6.heap.size W6 (w7.alloc (.cells #[.string bD, .bool true, .int .i64 0] 58)) := b7'.alloc b7'.size _
  have f8 := World.alloc_heap_new w7 (.cells #[.string bD, .bool true, .int .i64 0] 58)
  obtain ⟨W8, hW8⟩ : ∃ W8, w7.alloc (.cells #[.string bD, .bool true, .int .i64 0] 58) = W8 := ⟨_, rfl⟩
  rw [hW8] at b8 f8
  have B8 : Below W4.heap.size W4 W8 := HM6.out.1.trans (b8.mono HM6.out.1.size)
  have n8 := q_call HM.out.2.2 B8
  have m8 := q_call HM6.out.2.2 b8
  have HRi := hide (rightN_any liveN _ W8 (HM.out.2.1.move B8) (HG.out.below (HM.out.1.trans (B8.mono HM.out.1.size))))
  have K8 := hide (And.intro B8 (And.intro n8 (And.intro m8 (And.intro f8 (And.intro (HM.out.2.1.move B8) (HM6.out.2.1.move b8))))))
  have N8 := hide n8
  rw [← hW8] at N8 HRi
  have HW8 := hide hW8
  clear b7 b7' hf b8 f8 B8 n8 m8 HSu HA6 HW6 hW8
  go_wp2_with (refine l_load _ (load_nd N8.out) rfl rfl rfl ?_)
  refine HRi.out.mono ?_
  rintro e w9 ⟨⟨p, rfl, hp⟩, b9⟩
  obtain rfl : true = p := (hp.2 lv_right).symm
  have b9' : Below W8.heap.size W8 w9 := by
    have h : _ = W8 := HW8.out
    rw [h] at b9
    exact b9
  have q9 : w9.cell? ⟨w7.heap.size, 1, none⟩ = some (.bool true) := (cells_s (q_call K8.out.2.2.2.1 b9')).2.1
  have m9 := hide (q_call K8.out.2.2.1 b9')
  have HRe := hide (reads_any liveM u bD w9 (K8.out.2.2.2.2.2.move b9').ok)
  rw [lv_reads] at HRe
  have K9 := hide b9'
  clear b9 b9' hp HRi N8
  have c0 := (nd_box m9.out).1
  have c1 := (nd_box m9.out).2.1
  have c2 := (nd_box m9.out).2.2.1
  have c3 := (nd_box m9.out).2.2.2.1
  have c4 := (nd_box m9.out).2.2.2.2.1
  have c5 := (nd_box m9.out).2.2.2.2.2.1
  have c6 := (nd_box m9.out).2.2.2.2.2.2.1
  have c7 := (nd_box m9.out).2.2.2.2.2.2.2
  go_wp2_with fail
  clear c0 c1 c2 c3 c4 c5 c6 c7
  refine HRe.out.mono ?_
  rintro e w10 ⟨rfl, b10⟩
  have B10 := K9.out.trans (b10.mono K9.out.size)
  have n10 := hide (q_call K8.out.2.1 B10)
  have HRo := hide (role_any liveN _ aD w10 (K8.out.2.2.2.2.1.move B10).ok)
  rw [lv_owner] at HRo
  have K10 := hide B10
  clear b10 B10 q9 HRe m9
  have c0 := (nd_box n10.out).1
  have c1 := (nd_box n10.out).2.1
  have c2 := (nd_box n10.out).2.2.1
  have c3 := (nd_box n10.out).2.2.2.1
  have c4 := (nd_box n10.out).2.2.2.2.1
  have c5 := (nd_box n10.out).2.2.2.2.2.1
  have c6 := (nd_box n10.out).2.2.2.2.2.2.1
  have c7 := (nd_box n10.out).2.2.2.2.2.2.2
  go_wp2_with fail
  clear c0 c1 c2 c3 c4 c5 c6 c7
  refine HRo.out.mono ?_
  rintro e w11 ⟨rfl, b11⟩
  have B11 := K10.out.trans (b11.mono K10.out.size)
  have B11' := K8.out.1.trans (B11.mono K8.out.1.size)
  have K11 := hide (HM.out.1.trans (B11'.mono HM.out.1.size))
  clear b11 B11 B11'
  go_wp2_with fail
  go_ret
  exact ⟨rfl, K11.out⟩
end Go.Proofs.YtimhkgpjfppkmaaGreatDoor
