/- Roles, and who may read. -/
import Derived.Test.YtimhkgpjfppkmaaGreatDoorQC
namespace Go.Proofs.YtimhkgpjfppkmaaGreatDoor
open Go.RowKit

def roleL (l : List (ByteArray × Nat)) (s : ByteArray) : Nat := ((l.find? fun x => decide (x.1 = s)).map (·.2)).getD 2
theorem affKey_any (a : ByteArray × Nat) (w : World) : Calls Tryz.prog 42 #[.agg #[.string a.1, .int .u8 a.2]] w fun e w' => e = .returned (.string a.1) ∧ Below w.heap.size w w' := by
  go_enter Tryz.func42, Tryz.ntmps42
  go_wp2_with fail
  go_ret
  exact ⟨rfl, (Below.refl _ w).alloc (Nat.le_refl _) _⟩
theorem results_aff {fn : Func} {tmps : Array Value} {w : World} {b : Nat} {x y z : Value} (h : fn.results = #[.cell 6 55, .tmp 7]) (hp : tmps[6]?.getD undef = .pointer (some ⟨b, 0, none⟩)) (hq : tmps[7]?.getD undef = z) (h0 : w.cell? ⟨b, 0, none⟩ = some x) (h1 : w.cell? ⟨b, 1, none⟩ = some y) : (results fn tmps).run Tryz.prog w = .ok (.tuple #[.agg #[x, y], z]) w := by
  simp [results, h, hp, hq, h0, h1, go_sem, Tryz.isAgg55, Tryz.sizeOf55]
theorem find_first {l : List (ByteArray × Nat)} {s : ByteArray} {k : Nat} {x : ByteArray × Nat} (hno : ∀ y ∈ l.take k, y.1 ≠ s) (hx : l[k]? = some x) (hs : x.1 = s) : l.find? (fun x => decide (x.1 = s)) = some x := by
  have hd : l = l.take k ++ x :: l.drop (k + 1) := by
    obtain ⟨h1, h2⟩ := List.getElem?_eq_some_iff.1 hx
    rw [← h2, ← List.drop_eq_getElem_cons h1, List.take_append_drop]
  rw [hd, List.find?_append, List.find?_eq_none.2 (fun y hy => by simpa using hno y hy), Option.none_or, List.find?_cons_of_pos (by simpa using hs)]
theorem heap_set0 {w : World} {b : Nat} {x y v : Value} {T : TypeId} (h : w.heap[b]? = some (.cells #[x, y] T)) : (w.setCell ⟨b, 0, none⟩ v).heap[b]? = some (.cells #[v, y] T) := heap_setCell_same _ _ 0 _ _ _ h
theorem heap_set1 {w : World} {b : Nat} {x y v : Value} {T : TypeId} (h : w.heap[b]? = some (.cells #[x, y] T)) : (w.setCell ⟨b, 1, none⟩ v).heap[b]? = some (.cells #[x, v] T) := heap_setCell_same _ _ 1 _ _ _ h
/-- What is found first. -/
def FirstE (l : List (ByteArray × Nat)) (s : ByteArray) (e : Ending) : Prop := (∃ x, l.find? (fun x => decide (x.1 = s)) = some x ∧ e = .returned (.tuple #[.agg #[.string x.1, .int .u8 x.2], .bool true])) ∨ (l.find? (fun x => decide (x.1 = s)) = none ∧ e = .returned (.tuple #[.agg #[.string ⟨#[]⟩, .int .u8 0], .bool false]))
theorem cell01 {w : World} {b : Nat} {x y : Value} {T : TypeId} (h : w.heap[b]? = some (.cells #[x, y] T)) : w.cell? ⟨b, 0, none⟩ = some x ∧ w.cell? ⟨b, 1, none⟩ = some y := by simp [World.cell?, h]
set_option maxRecDepth 100000 in
set_option maxHeartbeats 4000000 in
theorem first_any (ao : Option Addr) (cap : Nat) (l : List (ByteArray × Nat)) (s : ByteArray) (w : World) (hm : AffMem w.heap.size w ao l) :
    Calls Tryz.prog 41 #[.slice ao l.length cap, .func (.func 42) #[] #[], .string s] w fun e w' => FirstE l s e ∧ Below w.heap.size w w' := by
  obtain ⟨m, hml⟩ : ∃ m, l.length = m := ⟨_, rfl⟩
  have hm6 : m ≤ 1000000 := by have := hm.1; omega
  have HH := hide (And.intro hm hml)
  rw [hml]
  clear hm hml
  go_enter Tryz.func41, Tryz.ntmps41
  go_wp2_with fail
  go_loopw [13] (fun iv wr => ∃ k : Nat, k ≤ m ∧ iv = .int .i64 k ∧ (∀ x ∈ l.take k, x.1 ≠ s) ∧ wr.heap[w.heap.size]? = some (.cells #[.string ⟨#[]⟩, .int .u8 0] 55) ∧ Below w.heap.size w wr) (fun iv _ => m - (intOf iv).toNat)
  case atStart => exact ⟨0, Nat.zero_le _, rfl, by simp, World.alloc_heap_new w _, (Below.refl _ w).alloc (Nat.le_refl _) _⟩
  case round =>
    obtain ⟨k, hk, rfl, hno, hbx, hbw⟩ := hrel
    have hzw := hbw.size
    have hlw : w.heap.size < wr.heap.size := (Array.getElem?_eq_some_iff.1 hbx).1
    by_cases hlt : (k : Int) < m
    · obtain ⟨x, hx⟩ : ∃ x, l[k]? = some x := ⟨_, List.getElem?_eq_getElem (by have := HH.out.2; omega)⟩
      obtain ⟨b, off, hbe, hb1, d0, d1⟩ := HH.out.1.2 k x hx
      have e0 := (hbw.cell (p := ⟨b, _, none⟩) hb1).trans d0
      have e1 := (hbw.cell (p := ⟨b, _, none⟩) hb1).trans d1
      have hk0 : (0 : Int) ≤ k := by omega
      have hky := affKey_any x (wr.alloc (.cells #[.string x.1, .int .u8 x.2] 55))
      have HK := hide hky
      have HI := hide (And.intro hno (And.intro hbx (And.intro hbw hx)))
      clear hno hbx hbw d0 d1 hky hx
      rw [hbe]
      go_wp2_with (go_at_call 42; refine HK.out.mono ?_; rintro e w2 ⟨rfl, b2⟩; refine stopNd ?_)
      unfold Hid
      have b1 : Below wr.heap.size wr w2 := ((Below.refl _ wr).alloc (Nat.le_refl _) _).trans (b2.mono (by simp))
      have f2 : w2.heap[wr.heap.size]? = some (.cells #[.string x.1, .int .u8 x.2] 55) := (b2.block _ (by simp)).trans (World.alloc_heap_new wr _)
      have g0 : w2.cell? ⟨wr.heap.size, 0, none⟩ = some (.string x.1) := by simp [World.cell?, f2]
      have g1 : w2.cell? ⟨wr.heap.size, 1, none⟩ = some (.int .u8 x.2) := by simp [World.cell?, f2]
      have fb := (b1.block _ hlw).trans HI.out.2.1
      have y0 : w2.cell? ⟨w.heap.size, 0, none⟩ = some (.string ⟨#[]⟩) := by simp [World.cell?, fb]
      have y1 : w2.cell? ⟨w.heap.size, 1, none⟩ = some (.int .u8 0) := by simp [World.cell?, fb]
      have yf0 : w2.frozen? ⟨w.heap.size, 0, none⟩ = false := by simp [World.frozen?, fb]
      have yf1 : w2.frozen? ⟨w.heap.size, 1, none⟩ = false := by simp [World.frozen?, fb]
      have B2 : Below w.heap.size w w2 := HI.out.2.2.1.trans (b1.mono hzw)
      have H2 := hide (And.intro B2 fb)
      clear b1 b2 f2 B2
      by_cases hs : x.1 = s
      · have hse : (x.1.toList == s.toList) = true := by rw [hs]; simp
        clear fb
        have HF := hide (find_first HI.out.1 HI.out.2.2.2 hs)
        go_wp2_with fail
        have h0 := heap_set0 (v := .string s) H2.out.2
        have h1 := heap_set1 (v := .int .u8 x.2) h0
        refine bodyPost_ret (results_aff rfl rfl rfl (cell01 h1).1 (cell01 h1).2) rfl ⟨.inl ⟨x, HF.out, by rw [← hs]; rfl⟩, ?_⟩
        exact (H2.out.1.setCell (p := ⟨w.heap.size, 0, none⟩) (Nat.le_refl _) _).setCell (p := ⟨w.heap.size, 1, none⟩) (Nat.le_refl _) _
      · have hse : (x.1.toList == s.toList) = false := by
          rw [beq_eq_false_iff_ne]
          exact fun e => hs (ba_ext e)
        clear fb
        go_wp2_with fail
        refine ⟨⟨k + 1, by omega, by simp, fun y hy => ?_, H2.out.2, H2.out.1⟩, by simp [intOf]; omega⟩
        rw [List.take_add_one, HI.out.2.2.2] at hy
        rcases List.mem_append.1 hy with hy | hy
        · exact HI.out.1 y hy
        · simp at hy
          rw [hy]
          exact hs
    · have hkm : k = m := by omega
      have hnf : l.find? (fun x => decide (x.1 = s)) = none := by
        rw [List.find?_eq_none]
        intro x hx
        rw [List.take_of_length_le (by have := HH.out.2; omega)] at hno
        simpa using hno x hx
      have HN := hide (And.intro hnf (And.intro hbx hbw))
      have y0 : wr.cell? ⟨w.heap.size, 0, none⟩ = some (.string ⟨#[]⟩) := by simp [World.cell?, hbx]
      have y1 : wr.cell? ⟨w.heap.size, 1, none⟩ = some (.int .u8 0) := by simp [World.cell?, hbx]
      have yf0 : wr.frozen? ⟨w.heap.size, 0, none⟩ = false := by simp [World.frozen?, hbx]
      have yf1 : wr.frozen? ⟨w.heap.size, 1, none⟩ = false := by simp [World.frozen?, hbx]
      have H2 := hide (And.intro hbw hbx)
      clear hno hbx hbw hnf
      go_wp2_with fail
      have h0 := heap_set0 (v := .string ⟨#[]⟩) H2.out.2
      have h1 := heap_set1 (v := .int .u8 0) h0
      have b3 : Below w.heap.size w ((wr.setCell ⟨w.heap.size, 0, none⟩ (.string ⟨#[]⟩)).setCell ⟨w.heap.size, 1, none⟩ (.int .u8 0)) := (H2.out.1.setCell (p := ⟨w.heap.size, 0, none⟩) (Nat.le_refl _) _).setCell (p := ⟨w.heap.size, 1, none⟩) (Nat.le_refl _) _
      have h2 := (Below.heap_alloc ((wr.setCell ⟨w.heap.size, 0, none⟩ (.string ⟨#[]⟩)).setCell ⟨w.heap.size, 1, none⟩ (.int .u8 0)) (.cells #[.string ⟨#[]⟩, .int .u8 0] 55) w.heap.size (by simpa using hlw)).trans h1
      exact bodyPost_ret (results_aff rfl rfl rfl (cell01 h2).1 (cell01 h2).2) rfl ⟨.inr ⟨HN.out.1, rfl⟩, b3.alloc b3.size _⟩
set_option maxRecDepth 100000 in
set_option maxHeartbeats 4000000 in
theorem role_any (n : Nd) (v : NdW) (s : ByteArray) (w : World) (hok : NdOk w.heap.size w n v) :
    Calls Tryz.prog 21 #[.agg (ndA n v), .string s] w fun e w' => e = .returned (.int .u8 (roleL n.affs s)) ∧ Below w.heap.size w w' := by
  have b1 : Below w.heap.size w (w.alloc (.cells (ndA n v) 27)) := (Below.refl _ w).alloc (Nat.le_refl _) _
  have hf := first_any v.aa v.ac n.affs s (w.alloc (.cells (ndA n v) 27)) ((hok.1.below b1).raise b1.size)
  obtain ⟨r, hr⟩ : ∃ r, roleL n.affs s = r := ⟨_, rfl⟩
  rw [hr]
  have HF := hide (And.intro hf (And.intro b1 hr))
  clear hf b1 hr hok
  unfold ndA at HF ⊢
  go_enter Tryz.func21, Tryz.ntmps21
  go_wp2_with fail
  refine HF.out.1.mono ?_
  rintro e w2 ⟨⟨x, hx, rfl⟩ | ⟨hx, rfl⟩, b2⟩
  · have hrr : x.2 = r := by rw [← HF.out.2.2, roleL, hx]; rfl
    have H2 := hide (HF.out.2.1.trans (b2.mono HF.out.2.1.size))
    clear b2 hx
    go_wp2_with fail
    go_ret
    exact ⟨rfl, H2.out.alloc H2.out.size _⟩
  · have hrr : 2 = r := by rw [← HF.out.2.2, roleL, hx]; rfl
    have H2 := hide (HF.out.2.1.trans (b2.mono HF.out.2.1.size))
    clear b2 hx
    go_wp2_with fail
    go_ret
    exact ⟨by first | rfl | (rw [← hrr]; rfl), H2.out.alloc H2.out.size _⟩
set_option maxRecDepth 100000 in
set_option maxHeartbeats 4000000 in
/-- Who is no outcast reads where all may. -/
theorem reads_open (n : Nd) (v : NdW) (s : ByteArray) (w : World) (hok : NdOk w.heap.size w n v) (ha : n.acc = 0) (hr : roleL n.affs s ≠ 1) :
    Calls Tryz.prog 20 #[.agg (ndA n v), .string s] w fun e w' => e = .returned (.bool true) ∧ Below w.heap.size w w' := by
  have b1 : Below w.heap.size w (w.alloc (.cells (ndA n v) 27)) := (Below.refl _ w).alloc (Nat.le_refl _) _
  have hf := role_any n v s (w.alloc (.cells (ndA n v) 27)) ((hok.below b1).raise b1.size)
  have hl1 : w.heap.size < (w.alloc (.cells (ndA n v) 27)).heap.size := by simp
  have f1 := World.alloc_heap_new w (.cells (ndA n v) 27)
  obtain ⟨r, hre⟩ : ∃ r, roleL n.affs s = r := ⟨_, rfl⟩
  rw [hre] at hf hr
  have h1 : ((r : Int) == 1) = false := by rw [beq_eq_false_iff_ne]; omega
  have HF := hide (And.intro hf (And.intro b1 (And.intro hl1 f1)))
  obtain ⟨c0, c1, c2, c3, c4, c5, c6, c7⟩ := nd_box f1
  clear hf b1 hre hok hl1 f1
  unfold ndA at HF c0 c1 c2 c3 c4 c5 c6 c7 ⊢
  rw [ha] at HF c0 c1 c2 c3 c4 c5 c6 c7 ⊢
  go_enter Tryz.func20, Tryz.ntmps20
  go_wp2_with fail
  refine HF.out.1.mono ?_
  rintro e w2 ⟨rfl, b2⟩
  have f2 := (b2.block _ HF.out.2.2.1).trans HF.out.2.2.2
  have g2 : w2.cell? ⟨w.heap.size, 2, none⟩ = some (.int .u8 0) := by simp [World.cell?, f2]
  have H2 := hide (HF.out.2.1.trans (b2.mono HF.out.2.1.size))
  clear b2 f2 c0 c1 c2 c3 c4 c5 c6 c7
  by_cases h3 : (3 : Int) ≤ r
  · go_wp2_with fail
    go_ret
    exact ⟨rfl, H2.out⟩
  · go_wp2_with fail
    go_ret
    exact ⟨rfl, H2.out⟩
end Go.Proofs.YtimhkgpjfppkmaaGreatDoor
