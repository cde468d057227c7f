/- The document's parser: a byte (in a tag). The document's parser: a byte (in a quote). The document's parser: a byte (that ends a quote). The document's parser: a byte (in a quote). The document's parser: a byte (that begins a quote). -/
import Derived.Test.YthmidlmknkbdaaaDoorWG
namespace Go.Proofs.YthmidlmknkbdaaaDoor.Xm
open Go.RowKit

set_option maxRecDepth 100000 in
set_option maxHeartbeats 4000000 in
theorem rfOne_b0 (base p bt : Nat) (st : PS) (vw vo : Value) (w : World) (hP : IsF base p st vw vo w) (_hbt : bt ≤ w.heap.size) (hin : inTagL (st.wait ++ [60]) = true) (hin0 : inTagL st.wait = true) (hlen : st.wait.length < 2048) (hq : st.quote = 0) :
    Calls Tryd.prog 26 #[.pointer (some ⟨p, 0, none⟩), .int .u8 60] w fun e w' => OneOk bt base p { st with wait := st.wait ++ [60] } [] w e w' := by
  have hpl := hP.lt
  have hb0 := hP.1
  obtain ⟨c0, c1, c2, c3, c4, c5, cf⟩ := hP.cells
  have cf0 := cf 0 (by omega)
  have cf4 := cf 4 (by omega)
  obtain ⟨a0, wt, hwt⟩ : ∃ a0 wt, st.wait = a0 :: wt := by
    cases hw' : st.wait with
    | nil => exact absurd hw' (by intro e; rw [e] at hin0; cases hin0)
    | cons a t => exact ⟨a, t, rfl⟩
  have hc00 : (Lib.byteCells st.wait)[0]? = some (.int .u8 a0.toNat) := by rw [hwt]; rfl
  obtain ⟨g0, wc, hvw, hgc0, hcell0⟩ := own_at hP.2.2.1 hc00
  subst hvw
  have ha0 : a0 = 60 := by rw [hwt] at hin0; exact eq_of_beq hin0
  rw [ha0, show (((60 : UInt8).toNat : Nat) : Int) = 60 from rfl] at hcell0
  have hm0 : 0 < st.wait.length := by rw [hwt]; simp
  obtain ⟨m, hm⟩ : ∃ m, st.wait.length = m := ⟨_, rfl⟩
  rw [hm] at c0
  have hm1 : (0 : Int) < m := by omega
  rw [hq] at c1
  have HQ := hide hq
  clear hq
  have u0 : (w.alloc (.cells #[] 5)).cell? ⟨p, 0, none⟩ = some (.slice (some ⟨g0, 0, none⟩) m wc) := by
    rw [((Below.refl w.heap.size w).alloc (Nat.le_refl _) (.cells #[] 5)).cell (p := ⟨p, 0, none⟩) hpl]
    exact c0
  have HPb := hide (And.intro hP (And.intro (Only.refl p w) (And.intro (nil_row bt w) (show ([] : List TokV).map (·.1) = [] from rfl))))
  have hzb : base ≤ w.heap.size := by omega
  have HM := hide hm
  clear hP hm c1 c2 c3 c4 c5 cf cf4 hwt hc00 ha0
  go_enter Tryd.func26, Tryd.ntmps26
  go_wp2_with (at_builtin; refine stopHere ?_)
  unfold Hid
  have hE0 : (w.alloc (.cells #[] 5)).ownsRow w.heap.size 5 1 (.slice (some ⟨w.heap.size, 0, none⟩) 0 0) ([] : List UInt8).length (Lib.byteCells []) := by
    have h := empty_own (w := w) (e := 5) (Nat.le_refl w.heap.size)
    skip
    exact h
  have hlm : st.wait.length = m := HM.out
  have hE2 : (w.alloc (.cells #[] 5)).ownsRow base 5 1 (.slice (some ⟨g0, 0, none⟩) m wc) st.wait.length (Lib.byteCells st.wait) := by
    have h := own_same (B := w.alloc (.cells #[] 5)) HPb.out.1.2.2.1 (fun g hg => Below.heap_alloc _ _ _ (own_lt HPb.out.1.2.2.1 g hg))
    rw [hlm] at h ⊢
    exact h
  have hl2 : st.wait.length ≤ 2048 := by omega
  refine append_bys _ rfl _ _ rfl w.heap.size base _ _ [] st.wait rfl rfl hE0 hE2 (by simp) (by omega) (by simp) ?_
  intro v5 w5 hown5 hgr5
  simp only [List.nil_append] at hown5
  have hb5 : Below w.heap.size w w5 := ((Below.refl w.heap.size w).alloc (Nat.le_refl _) _).grown hgr5 (by simp) (fun g hg => own_base hE0 g hg)
  obtain ⟨g5, c5', hv5⟩ := own_shape hown5
  rw [hv5] at hown5 ⊢
  clear hv5 v5
  have hz5 := hb5.size
  have H5 := hide (And.intro hown5 hb5)
  have HLM := hide hlm
  clear hown5 hb5 hgr5 hE2 hE0 hlm
  go_wp2_with (at_builtin; refine stopHere ?_)
  unfold Hid
  refine append_bys _ rfl _ _ rfl w.heap.size w5.heap.size _ _ st.wait [60] rfl rfl (own_same H5.out.1 (fun g hg => Below.heap_alloc _ _ _ (own_lt H5.out.1 g hg))) (one_own (Nat.le_refl _)) (by have := hl2; omega) (by simp) (by simp; omega) ?_
  intro v7 w7 hown7 hgr7
  have hb7 : Below w.heap.size w w7 := (H5.out.2.alloc hz5 _).grown hgr7 (by simp; omega) (fun g hg => own_base H5.out.1 g hg)
  have hP7 := HPb.out.1.below hb7
  obtain ⟨z0, z1, z2, z3, z4, z5, zf⟩ := hP7.cells
  clear z1 z2 z3 z4 z5
  have zf0 := zf 0 (by omega)
  have hpb := HPb.out.1.lt
  have hF7 := hP7.set (st' := { (st : PS) with wait := st.wait ++ [60] }) (vw' := v7) (vo' := vo) (v := v7) 0 (by omega) (own_lower hown7 hzb) hP7.2.2.2 rfl
  have hE8 := (HPb.out.2.2.1.below hb7).setF (i := 0) (x := v7) hP7.2.1
  have hO7 := (HPb.out.2.1.trans (Only.of_below hb7 (Nat.le_of_lt hpb))).set (i := 0) v7
  obtain ⟨ft, hfe⟩ := (inTag_first (l := st.wait) (60 : UInt8)).1 hin
  have hfc : (Lib.byteCells (st.wait ++ [60]))[0]? = some (.int .u8 60) := by rw [hfe]; rfl
  obtain ⟨g7, c7, hv7, hgc7, hcell7⟩ := own_at hF7.2.2.1 hfc
  subst hv7
  obtain ⟨k7, hk7⟩ : ∃ k7, ({ (st : PS) with wait := st.wait ++ [60] } : PS).wait.length = k7 := ⟨_, rfl⟩
  have hk8 : k7 = m + 1 := by
    rw [← hk7, ← HLM.out]
    simp
  rw [hk7] at hF7 hE8 hO7 hcell7 ⊢
  obtain ⟨y0, y1, y2, y3, y4, y5, yf⟩ := hF7.cells
  have yf0 := yf 0 (by omega)
  have yf1 := yf 1 (by omega)
  have l0 : (0 : Int) < k7 := by omega
  have l0' : 0 < k7 := by omega
  have yq := y1.trans (show some (Value.int .u8 ((st.quote : Nat) : Int)) = some (Value.int .u8 0) by rw [HQ.out]; rfl)
  clear y1
  have H7 := hide (And.intro hF7 (And.intro hE8 (And.intro hO7 hown7)))
  have hgl7 : g7 ≠ p := own_ne0 hF7.2.2.1 hF7.2.1 (by decide) g7 rfl
  have l1 : ¬ ((2048 : Int) < k7) := by have := HLM.out; omega
  clear hF7 hE8 hO7 hown7 hgr7 hb7 hP7 zf yf hfc hk7 hk8 hfe hin
  go_wp2_with fail
  go_ret2
  refine ⟨.slice none 0 0, [], .slice (some ⟨g7, 0, none⟩) k7 c7, vo, rfl, rfl, nil_row _ _, ?_, H7.out.2.2.1⟩
  have h := H7.out.1
  exact h
end Go.Proofs.YthmidlmknkbdaaaDoor.Xm
namespace Go.Proofs.YthmidlmknkbdaaaDoor.Xm
open Go.RowKit

set_option maxRecDepth 100000 in
set_option maxHeartbeats 4000000 in
theorem rfOne_b1 (base p bt : Nat) (st : PS) (vw vo : Value) (w : World) (hP : IsF base p st vw vo w) (_hbt : bt ≤ w.heap.size) (hin : inTagL (st.wait ++ [60]) = true) (hin0 : inTagL st.wait = true) (hlen : st.wait.length < 2048) (hq : st.quote ≠ 0) (hqc : st.quote ≠ (60 : UInt8).toNat) :
    Calls Tryd.prog 26 #[.pointer (some ⟨p, 0, none⟩), .int .u8 60] w fun e w' => OneOk bt base p { st with wait := st.wait ++ [60] } [] w e w' := by
  have hpl := hP.lt
  have hb0 := hP.1
  obtain ⟨c0, c1, c2, c3, c4, c5, cf⟩ := hP.cells
  have cf0 := cf 0 (by omega)
  have cf4 := cf 4 (by omega)
  obtain ⟨a0, wt, hwt⟩ : ∃ a0 wt, st.wait = a0 :: wt := by
    cases hw' : st.wait with
    | nil => exact absurd hw' (by intro e; rw [e] at hin0; cases hin0)
    | cons a t => exact ⟨a, t, rfl⟩
  have hc00 : (Lib.byteCells st.wait)[0]? = some (.int .u8 a0.toNat) := by rw [hwt]; rfl
  obtain ⟨g0, wc, hvw, hgc0, hcell0⟩ := own_at hP.2.2.1 hc00
  subst hvw
  have ha0 : a0 = 60 := by rw [hwt] at hin0; exact eq_of_beq hin0
  rw [ha0, show (((60 : UInt8).toNat : Nat) : Int) = 60 from rfl] at hcell0
  have hm0 : 0 < st.wait.length := by rw [hwt]; simp
  obtain ⟨m, hm⟩ : ∃ m, st.wait.length = m := ⟨_, rfl⟩
  rw [hm] at c0
  have hm1 : (0 : Int) < m := by omega
  have q1 : ((st.quote : Int) == 0) = false := by rw [beq_eq_false_iff_ne]; omega
  have q2 : ((60 : Int) == (st.quote : Int)) = false := by
    rw [beq_eq_false_iff_ne]
    intro e
    exact hqc (by show st.quote = 60; omega)
  have u0 : (w.alloc (.cells #[] 5)).cell? ⟨p, 0, none⟩ = some (.slice (some ⟨g0, 0, none⟩) m wc) := by
    rw [((Below.refl w.heap.size w).alloc (Nat.le_refl _) (.cells #[] 5)).cell (p := ⟨p, 0, none⟩) hpl]
    exact c0
  have HPb := hide (And.intro hP (And.intro (Only.refl p w) (And.intro (nil_row bt w) (show ([] : List TokV).map (·.1) = [] from rfl))))
  have hzb : base ≤ w.heap.size := by omega
  have HM := hide hm
  clear hP hm c1 c2 c3 c4 c5 cf cf4 hwt hc00 ha0
  go_enter Tryd.func26, Tryd.ntmps26
  go_wp2_with (at_builtin; refine stopHere ?_)
  unfold Hid
  have hE0 : (w.alloc (.cells #[] 5)).ownsRow w.heap.size 5 1 (.slice (some ⟨w.heap.size, 0, none⟩) 0 0) ([] : List UInt8).length (Lib.byteCells []) := by
    have h := empty_own (w := w) (e := 5) (Nat.le_refl w.heap.size)
    skip
    exact h
  have hlm : st.wait.length = m := HM.out
  have hE2 : (w.alloc (.cells #[] 5)).ownsRow base 5 1 (.slice (some ⟨g0, 0, none⟩) m wc) st.wait.length (Lib.byteCells st.wait) := by
    have h := own_same (B := w.alloc (.cells #[] 5)) HPb.out.1.2.2.1 (fun g hg => Below.heap_alloc _ _ _ (own_lt HPb.out.1.2.2.1 g hg))
    rw [hlm] at h ⊢
    exact h
  have hl2 : st.wait.length ≤ 2048 := by omega
  refine append_bys _ rfl _ _ rfl w.heap.size base _ _ [] st.wait rfl rfl hE0 hE2 (by simp) (by omega) (by simp) ?_
  intro v5 w5 hown5 hgr5
  simp only [List.nil_append] at hown5
  have hb5 : Below w.heap.size w w5 := ((Below.refl w.heap.size w).alloc (Nat.le_refl _) _).grown hgr5 (by simp) (fun g hg => own_base hE0 g hg)
  obtain ⟨g5, c5', hv5⟩ := own_shape hown5
  rw [hv5] at hown5 ⊢
  clear hv5 v5
  have hz5 := hb5.size
  have H5 := hide (And.intro hown5 hb5)
  have HLM := hide hlm
  clear hown5 hb5 hgr5 hE2 hE0 hlm
  go_wp2_with (at_builtin; refine stopHere ?_)
  unfold Hid
  refine append_bys _ rfl _ _ rfl w.heap.size w5.heap.size _ _ st.wait [60] rfl rfl (own_same H5.out.1 (fun g hg => Below.heap_alloc _ _ _ (own_lt H5.out.1 g hg))) (one_own (Nat.le_refl _)) (by have := hl2; omega) (by simp) (by simp; omega) ?_
  intro v7 w7 hown7 hgr7
  have hb7 : Below w.heap.size w w7 := (H5.out.2.alloc hz5 _).grown hgr7 (by simp; omega) (fun g hg => own_base H5.out.1 g hg)
  have hP7 := HPb.out.1.below hb7
  obtain ⟨z0, z1, z2, z3, z4, z5, zf⟩ := hP7.cells
  clear z1 z2 z3 z4 z5
  have zf0 := zf 0 (by omega)
  have hpb := HPb.out.1.lt
  have hF7 := hP7.set (st' := { (st : PS) with wait := st.wait ++ [60] }) (vw' := v7) (vo' := vo) (v := v7) 0 (by omega) (own_lower hown7 hzb) hP7.2.2.2 rfl
  have hE8 := (HPb.out.2.2.1.below hb7).setF (i := 0) (x := v7) hP7.2.1
  have hO7 := (HPb.out.2.1.trans (Only.of_below hb7 (Nat.le_of_lt hpb))).set (i := 0) v7
  obtain ⟨ft, hfe⟩ := (inTag_first (l := st.wait) (60 : UInt8)).1 hin
  have hfc : (Lib.byteCells (st.wait ++ [60]))[0]? = some (.int .u8 60) := by rw [hfe]; rfl
  obtain ⟨g7, c7, hv7, hgc7, hcell7⟩ := own_at hF7.2.2.1 hfc
  subst hv7
  obtain ⟨k7, hk7⟩ : ∃ k7, ({ (st : PS) with wait := st.wait ++ [60] } : PS).wait.length = k7 := ⟨_, rfl⟩
  have hk8 : k7 = m + 1 := by
    rw [← hk7, ← HLM.out]
    simp
  rw [hk7] at hF7 hE8 hO7 hcell7 ⊢
  obtain ⟨y0, y1, y2, y3, y4, y5, yf⟩ := hF7.cells
  have yf0 := yf 0 (by omega)
  have yf1 := yf 1 (by omega)
  have l0 : (0 : Int) < k7 := by omega
  have l0' : 0 < k7 := by omega
  have H7 := hide (And.intro hF7 (And.intro hE8 (And.intro hO7 hown7)))
  have hgl7 : g7 ≠ p := own_ne0 hF7.2.2.1 hF7.2.1 (by decide) g7 rfl
  have l1 : ¬ ((2048 : Int) < k7) := by have := HLM.out; omega
  clear hF7 hE8 hO7 hown7 hgr7 hb7 hP7 zf yf hfc hk7 hk8 hfe hin
  go_wp2_with fail
  go_ret2
  refine ⟨.slice none 0 0, [], .slice (some ⟨g7, 0, none⟩) k7 c7, vo, rfl, rfl, nil_row _ _, ?_, H7.out.2.2.1⟩
  have h := H7.out.1
  exact h
end Go.Proofs.YthmidlmknkbdaaaDoor.Xm
namespace Go.Proofs.YthmidlmknkbdaaaDoor.Xm
open Go.RowKit

set_option maxRecDepth 100000 in
set_option maxHeartbeats 4000000 in
theorem rfOne_b2 (base p bt : Nat) (st : PS) (vw vo : Value) (c : UInt8) (w : World) (hP : IsF base p st vw vo w) (_hbt : bt ≤ w.heap.size) (hc : c ≠ 60) (hin : inTagL (st.wait ++ [c]) = true) (hlen : st.wait.length < 2048) (hq : st.quote ≠ 0) (hqc : st.quote = c.toNat) (h62 : c ≠ 62) :
    Calls Tryd.prog 26 #[.pointer (some ⟨p, 0, none⟩), .int .u8 c.toNat] w fun e w' => OneOk bt base p { st with wait := st.wait ++ [c], quote := 0 } [] w e w' := by
  have hpl := hP.lt
  have hb0 := hP.1
  obtain ⟨c0, c1, c2, c3, c4, c5, cf⟩ := hP.cells
  have cf0 := cf 0 (by omega)
  have cf4 := cf 4 (by omega)
  have n60 : ((c.toNat : Int) == 60) = false := by
    rw [beq_eq_false_iff_ne]
    exact fun e => hc (UInt8.toNat_inj.1 (by show _ = 60; omega))
  obtain ⟨wa, wc, hvw⟩ := own_shape hP.2.2.1
  subst hvw
  obtain ⟨m, hm⟩ : ∃ m, st.wait.length = m := ⟨_, rfl⟩
  rw [hm] at c0
  rw [hqc] at c1
  have q1 : ((c.toNat : Int) == 0) = false := by rw [beq_eq_false_iff_ne]; omega
  have q2 : ¬ ((c.toNat : Int) = 0) := by omega
  have HQ := hide hqc
  clear hqc hq
  have n62 : ((c.toNat : Int) == 62) = false := by rw [beq_eq_false_iff_ne]; exact fun e => h62 (UInt8.toNat_inj.1 (by show _ = 62; omega))
  have u0 : (w.alloc (.cells #[] 5)).cell? ⟨p, 0, none⟩ = some (.slice wa m wc) := by
    rw [((Below.refl w.heap.size w).alloc (Nat.le_refl _) (.cells #[] 5)).cell (p := ⟨p, 0, none⟩) hpl]
    exact c0
  have HPb := hide (And.intro hP (And.intro (Only.refl p w) (And.intro (nil_row bt w) (show ([] : List TokV).map (·.1) = [] from rfl))))
  have hzb : base ≤ w.heap.size := by omega
  have HM := hide hm
  clear hP hm c1 c2 c3 c4 c5 cf cf4 hc
  go_enter Tryd.func26, Tryd.ntmps26
  go_wp2_with (at_builtin; refine stopHere ?_)
  unfold Hid
  have hE0 : (w.alloc (.cells #[] 5)).ownsRow w.heap.size 5 1 (.slice (some ⟨w.heap.size, 0, none⟩) 0 0) ([] : List UInt8).length (Lib.byteCells []) := by
    have h := empty_own (w := w) (e := 5) (Nat.le_refl w.heap.size)
    skip
    exact h
  have hlm : st.wait.length = m := HM.out
  have hE2 : (w.alloc (.cells #[] 5)).ownsRow base 5 1 (.slice wa m wc) st.wait.length (Lib.byteCells st.wait) := by
    have h := own_same (B := w.alloc (.cells #[] 5)) HPb.out.1.2.2.1 (fun g hg => Below.heap_alloc _ _ _ (own_lt HPb.out.1.2.2.1 g hg))
    rw [hlm] at h ⊢
    exact h
  have hl2 : st.wait.length ≤ 2048 := by omega
  refine append_bys _ rfl _ _ rfl w.heap.size base _ _ [] st.wait rfl rfl hE0 hE2 (by simp) (by omega) (by simp) ?_
  intro v5 w5 hown5 hgr5
  simp only [List.nil_append] at hown5
  have hb5 : Below w.heap.size w w5 := ((Below.refl w.heap.size w).alloc (Nat.le_refl _) _).grown hgr5 (by simp) (fun g hg => own_base hE0 g hg)
  obtain ⟨g5, c5', hv5⟩ := own_shape hown5
  rw [hv5] at hown5 ⊢
  clear hv5 v5
  have hz5 := hb5.size
  have H5 := hide (And.intro hown5 hb5)
  have HLM := hide hlm
  clear hown5 hb5 hgr5 hE2 hE0 hlm
  go_wp2_with (at_builtin; refine stopHere ?_)
  unfold Hid
  refine append_bys _ rfl _ _ rfl w.heap.size w5.heap.size _ _ st.wait [c] rfl rfl (own_same H5.out.1 (fun g hg => Below.heap_alloc _ _ _ (own_lt H5.out.1 g hg))) (one_own (Nat.le_refl _)) (by have := hl2; omega) (by simp) (by simp; omega) ?_
  intro v7 w7 hown7 hgr7
  have hb7 : Below w.heap.size w w7 := (H5.out.2.alloc hz5 _).grown hgr7 (by simp; omega) (fun g hg => own_base H5.out.1 g hg)
  have hP7 := HPb.out.1.below hb7
  obtain ⟨z0, z1, z2, z3, z4, z5, zf⟩ := hP7.cells
  clear z1 z2 z3 z4 z5
  have zf0 := zf 0 (by omega)
  have hpb := HPb.out.1.lt
  have hF7 := hP7.set (st' := { (st : PS) with wait := st.wait ++ [c] }) (vw' := v7) (vo' := vo) (v := v7) 0 (by omega) (own_lower hown7 hzb) hP7.2.2.2 rfl
  have hE8 := (HPb.out.2.2.1.below hb7).setF (i := 0) (x := v7) hP7.2.1
  have hO7 := (HPb.out.2.1.trans (Only.of_below hb7 (Nat.le_of_lt hpb))).set (i := 0) v7
  obtain ⟨ft, hfe⟩ := (inTag_first (l := st.wait) c).1 hin
  have hfc : (Lib.byteCells (st.wait ++ [c]))[0]? = some (.int .u8 60) := by rw [hfe]; rfl
  obtain ⟨g7, c7, hv7, hgc7, hcell7⟩ := own_at hF7.2.2.1 hfc
  subst hv7
  obtain ⟨k7, hk7⟩ : ∃ k7, ({ (st : PS) with wait := st.wait ++ [c] } : PS).wait.length = k7 := ⟨_, rfl⟩
  have hk8 : k7 = m + 1 := by
    rw [← hk7, ← HLM.out]
    simp
  rw [hk7] at hF7 hE8 hO7 hcell7 ⊢
  obtain ⟨y0, y1, y2, y3, y4, y5, yf⟩ := hF7.cells
  have yf0 := yf 0 (by omega)
  have yf1 := yf 1 (by omega)
  have l0 : (0 : Int) < k7 := by omega
  have l0' : 0 < k7 := by omega
  have yq := y1.trans (show some (Value.int .u8 ((st.quote : Nat) : Int)) = some (Value.int .u8 ((c.toNat : Nat) : Int)) by rw [HQ.out])
  clear y1
  have H7 := hide (And.intro hF7 (And.intro hE8 (And.intro hO7 hown7)))
  have hgl7 : g7 ≠ p := own_ne0 hF7.2.2.1 hF7.2.1 (by decide) g7 rfl
  have l1 : ¬ ((2048 : Int) < k7) := by have := HLM.out; omega
  clear hF7 hE8 hO7 hown7 hgr7 hb7 hP7 zf yf hfc hk7 hk8 hfe hin
  have hF9 := H7.out.1.set (st' := { st with wait := st.wait ++ [c], quote := 0 }) (vw' := .slice (some ⟨g7, 0, none⟩) k7 c7) (vo' := vo) (v := .int .u8 0) 1 (by omega) H7.out.1.2.2.1 H7.out.1.2.2.2 rfl
  have hO9 := H7.out.2.2.1.set (i := 1) (.int .u8 0)
  have H9 := hide (And.intro hF9 hO9)
  clear hF9 hO9
  go_wp2_with fail
  go_ret2
  exact ⟨.slice none 0 0, [], _, _, rfl, rfl, nil_row _ _, H9.out.1, H9.out.2⟩
end Go.Proofs.YthmidlmknkbdaaaDoor.Xm
namespace Go.Proofs.YthmidlmknkbdaaaDoor.Xm
open Go.RowKit

set_option maxRecDepth 100000 in
set_option maxHeartbeats 4000000 in
theorem rfOne_b3 (base p bt : Nat) (st : PS) (vw vo : Value) (c : UInt8) (w : World) (hP : IsF base p st vw vo w) (_hbt : bt ≤ w.heap.size) (hc : c ≠ 60) (hin : inTagL (st.wait ++ [c]) = true) (hlen : st.wait.length < 2048) (hq : st.quote ≠ 0) (hqc : st.quote ≠ c.toNat) (h62 : c ≠ 62) :
    Calls Tryd.prog 26 #[.pointer (some ⟨p, 0, none⟩), .int .u8 c.toNat] w fun e w' => OneOk bt base p { st with wait := st.wait ++ [c] } [] w e w' := by
  have hpl := hP.lt
  have hb0 := hP.1
  obtain ⟨c0, c1, c2, c3, c4, c5, cf⟩ := hP.cells
  have cf0 := cf 0 (by omega)
  have cf4 := cf 4 (by omega)
  have n60 : ((c.toNat : Int) == 60) = false := by
    rw [beq_eq_false_iff_ne]
    exact fun e => hc (UInt8.toNat_inj.1 (by show _ = 60; omega))
  obtain ⟨wa, wc, hvw⟩ := own_shape hP.2.2.1
  subst hvw
  obtain ⟨m, hm⟩ : ∃ m, st.wait.length = m := ⟨_, rfl⟩
  rw [hm] at c0
  have q1 : ((st.quote : Int) == 0) = false := by rw [beq_eq_false_iff_ne]; omega
  have q2 : (((c.toNat : Int)) == (st.quote : Int)) = false := by
    rw [beq_eq_false_iff_ne]
    intro e
    exact hqc (by omega)
  have q3 : ¬ (c.toNat = st.quote) := fun e => hqc e.symm
  have q4 : (c.toNat == st.quote) = false := by rw [beq_eq_false_iff_ne]; exact q3
  have n62 : ((c.toNat : Int) == 62) = false := by rw [beq_eq_false_iff_ne]; exact fun e => h62 (UInt8.toNat_inj.1 (by show _ = 62; omega))
  have u0 : (w.alloc (.cells #[] 5)).cell? ⟨p, 0, none⟩ = some (.slice wa m wc) := by
    rw [((Below.refl w.heap.size w).alloc (Nat.le_refl _) (.cells #[] 5)).cell (p := ⟨p, 0, none⟩) hpl]
    exact c0
  have HPb := hide (And.intro hP (And.intro (Only.refl p w) (And.intro (nil_row bt w) (show ([] : List TokV).map (·.1) = [] from rfl))))
  have hzb : base ≤ w.heap.size := by omega
  have HM := hide hm
  clear hP hm c1 c2 c3 c4 c5 cf cf4 hc
  go_enter Tryd.func26, Tryd.ntmps26
  go_wp2_with (at_builtin; refine stopHere ?_)
  unfold Hid
  have hE0 : (w.alloc (.cells #[] 5)).ownsRow w.heap.size 5 1 (.slice (some ⟨w.heap.size, 0, none⟩) 0 0) ([] : List UInt8).length (Lib.byteCells []) := by
    have h := empty_own (w := w) (e := 5) (Nat.le_refl w.heap.size)
    skip
    exact h
  have hlm : st.wait.length = m := HM.out
  have hE2 : (w.alloc (.cells #[] 5)).ownsRow base 5 1 (.slice wa m wc) st.wait.length (Lib.byteCells st.wait) := by
    have h := own_same (B := w.alloc (.cells #[] 5)) HPb.out.1.2.2.1 (fun g hg => Below.heap_alloc _ _ _ (own_lt HPb.out.1.2.2.1 g hg))
    rw [hlm] at h ⊢
    exact h
  have hl2 : st.wait.length ≤ 2048 := by omega
  refine append_bys _ rfl _ _ rfl w.heap.size base _ _ [] st.wait rfl rfl hE0 hE2 (by simp) (by omega) (by simp) ?_
  intro v5 w5 hown5 hgr5
  simp only [List.nil_append] at hown5
  have hb5 : Below w.heap.size w w5 := ((Below.refl w.heap.size w).alloc (Nat.le_refl _) _).grown hgr5 (by simp) (fun g hg => own_base hE0 g hg)
  obtain ⟨g5, c5', hv5⟩ := own_shape hown5
  rw [hv5] at hown5 ⊢
  clear hv5 v5
  have hz5 := hb5.size
  have H5 := hide (And.intro hown5 hb5)
  have HLM := hide hlm
  clear hown5 hb5 hgr5 hE2 hE0 hlm
  go_wp2_with (at_builtin; refine stopHere ?_)
  unfold Hid
  refine append_bys _ rfl _ _ rfl w.heap.size w5.heap.size _ _ st.wait [c] rfl rfl (own_same H5.out.1 (fun g hg => Below.heap_alloc _ _ _ (own_lt H5.out.1 g hg))) (one_own (Nat.le_refl _)) (by have := hl2; omega) (by simp) (by simp; omega) ?_
  intro v7 w7 hown7 hgr7
  have hb7 : Below w.heap.size w w7 := (H5.out.2.alloc hz5 _).grown hgr7 (by simp; omega) (fun g hg => own_base H5.out.1 g hg)
  have hP7 := HPb.out.1.below hb7
  obtain ⟨z0, z1, z2, z3, z4, z5, zf⟩ := hP7.cells
  clear z1 z2 z3 z4 z5
  have zf0 := zf 0 (by omega)
  have hpb := HPb.out.1.lt
  have hF7 := hP7.set (st' := { (st : PS) with wait := st.wait ++ [c] }) (vw' := v7) (vo' := vo) (v := v7) 0 (by omega) (own_lower hown7 hzb) hP7.2.2.2 rfl
  have hE8 := (HPb.out.2.2.1.below hb7).setF (i := 0) (x := v7) hP7.2.1
  have hO7 := (HPb.out.2.1.trans (Only.of_below hb7 (Nat.le_of_lt hpb))).set (i := 0) v7
  obtain ⟨ft, hfe⟩ := (inTag_first (l := st.wait) c).1 hin
  have hfc : (Lib.byteCells (st.wait ++ [c]))[0]? = some (.int .u8 60) := by rw [hfe]; rfl
  obtain ⟨g7, c7, hv7, hgc7, hcell7⟩ := own_at hF7.2.2.1 hfc
  subst hv7
  obtain ⟨k7, hk7⟩ : ∃ k7, ({ (st : PS) with wait := st.wait ++ [c] } : PS).wait.length = k7 := ⟨_, rfl⟩
  have hk8 : k7 = m + 1 := by
    rw [← hk7, ← HLM.out]
    simp
  rw [hk7] at hF7 hE8 hO7 hcell7 ⊢
  obtain ⟨y0, y1, y2, y3, y4, y5, yf⟩ := hF7.cells
  have yf0 := yf 0 (by omega)
  have yf1 := yf 1 (by omega)
  have l0 : (0 : Int) < k7 := by omega
  have l0' : 0 < k7 := by omega
  have H7 := hide (And.intro hF7 (And.intro hE8 (And.intro hO7 hown7)))
  have hgl7 : g7 ≠ p := own_ne0 hF7.2.2.1 hF7.2.1 (by decide) g7 rfl
  have l1 : ¬ ((2048 : Int) < k7) := by have := HLM.out; omega
  clear hF7 hE8 hO7 hown7 hgr7 hb7 hP7 zf yf hfc hk7 hk8 hfe hin
  go_wp2_with fail
  go_ret2
  refine ⟨.slice none 0 0, [], .slice (some ⟨g7, 0, none⟩) k7 c7, vo, rfl, rfl, nil_row _ _, ?_, H7.out.2.2.1⟩
  have h := H7.out.1
  exact h
end Go.Proofs.YthmidlmknkbdaaaDoor.Xm
namespace Go.Proofs.YthmidlmknkbdaaaDoor.Xm
open Go.RowKit

set_option maxRecDepth 100000 in
set_option maxHeartbeats 4000000 in
theorem rfOne_b4 (base p bt : Nat) (st : PS) (vw vo : Value) (w : World) (hP : IsF base p st vw vo w) (_hbt : bt ≤ w.heap.size) (hin : inTagL (st.wait ++ [39]) = true) (hlen : st.wait.length < 2048) (hq : st.quote = 0) :
    Calls Tryd.prog 26 #[.pointer (some ⟨p, 0, none⟩), .int .u8 39] w fun e w' => OneOk bt base p { st with wait := st.wait ++ [39], quote := 39 } [] w e w' := by
  have hpl := hP.lt
  have hb0 := hP.1
  obtain ⟨c0, c1, c2, c3, c4, c5, cf⟩ := hP.cells
  have cf0 := cf 0 (by omega)
  have cf4 := cf 4 (by omega)
  obtain ⟨wa, wc, hvw⟩ := own_shape hP.2.2.1
  subst hvw
  obtain ⟨m, hm⟩ : ∃ m, st.wait.length = m := ⟨_, rfl⟩
  rw [hm] at c0
  rw [hq] at c1
  have HQ := hide hq
  clear hq
  have u0 : (w.alloc (.cells #[] 5)).cell? ⟨p, 0, none⟩ = some (.slice wa m wc) := by
    rw [((Below.refl w.heap.size w).alloc (Nat.le_refl _) (.cells #[] 5)).cell (p := ⟨p, 0, none⟩) hpl]
    exact c0
  have HPb := hide (And.intro hP (And.intro (Only.refl p w) (And.intro (nil_row bt w) (show ([] : List TokV).map (·.1) = [] from rfl))))
  have hzb : base ≤ w.heap.size := by omega
  have HM := hide hm
  clear hP hm c1 c2 c3 c4 c5 cf cf4
  go_enter Tryd.func26, Tryd.ntmps26
  go_wp2_with (at_builtin; refine stopHere ?_)
  unfold Hid
  have hE0 : (w.alloc (.cells #[] 5)).ownsRow w.heap.size 5 1 (.slice (some ⟨w.heap.size, 0, none⟩) 0 0) ([] : List UInt8).length (Lib.byteCells []) := by
    have h := empty_own (w := w) (e := 5) (Nat.le_refl w.heap.size)
    skip
    exact h
  have hlm : st.wait.length = m := HM.out
  have hE2 : (w.alloc (.cells #[] 5)).ownsRow base 5 1 (.slice wa m wc) st.wait.length (Lib.byteCells st.wait) := by
    have h := own_same (B := w.alloc (.cells #[] 5)) HPb.out.1.2.2.1 (fun g hg => Below.heap_alloc _ _ _ (own_lt HPb.out.1.2.2.1 g hg))
    rw [hlm] at h ⊢
    exact h
  have hl2 : st.wait.length ≤ 2048 := by omega
  refine append_bys _ rfl _ _ rfl w.heap.size base _ _ [] st.wait rfl rfl hE0 hE2 (by simp) (by omega) (by simp) ?_
  intro v5 w5 hown5 hgr5
  simp only [List.nil_append] at hown5
  have hb5 : Below w.heap.size w w5 := ((Below.refl w.heap.size w).alloc (Nat.le_refl _) _).grown hgr5 (by simp) (fun g hg => own_base hE0 g hg)
  obtain ⟨g5, c5', hv5⟩ := own_shape hown5
  rw [hv5] at hown5 ⊢
  clear hv5 v5
  have hz5 := hb5.size
  have H5 := hide (And.intro hown5 hb5)
  have HLM := hide hlm
  clear hown5 hb5 hgr5 hE2 hE0 hlm
  go_wp2_with (at_builtin; refine stopHere ?_)
  unfold Hid
  refine append_bys _ rfl _ _ rfl w.heap.size w5.heap.size _ _ st.wait [39] rfl rfl (own_same H5.out.1 (fun g hg => Below.heap_alloc _ _ _ (own_lt H5.out.1 g hg))) (one_own (Nat.le_refl _)) (by have := hl2; omega) (by simp) (by simp; omega) ?_
  intro v7 w7 hown7 hgr7
  have hb7 : Below w.heap.size w w7 := (H5.out.2.alloc hz5 _).grown hgr7 (by simp; omega) (fun g hg => own_base H5.out.1 g hg)
  have hP7 := HPb.out.1.below hb7
  obtain ⟨z0, z1, z2, z3, z4, z5, zf⟩ := hP7.cells
  clear z1 z2 z3 z4 z5
  have zf0 := zf 0 (by omega)
  have hpb := HPb.out.1.lt
  have hF7 := hP7.set (st' := { (st : PS) with wait := st.wait ++ [39] }) (vw' := v7) (vo' := vo) (v := v7) 0 (by omega) (own_lower hown7 hzb) hP7.2.2.2 rfl
  have hE8 := (HPb.out.2.2.1.below hb7).setF (i := 0) (x := v7) hP7.2.1
  have hO7 := (HPb.out.2.1.trans (Only.of_below hb7 (Nat.le_of_lt hpb))).set (i := 0) v7
  obtain ⟨ft, hfe⟩ := (inTag_first (l := st.wait) (39 : UInt8)).1 hin
  have hfc : (Lib.byteCells (st.wait ++ [39]))[0]? = some (.int .u8 60) := by rw [hfe]; rfl
  obtain ⟨g7, c7, hv7, hgc7, hcell7⟩ := own_at hF7.2.2.1 hfc
  subst hv7
  obtain ⟨k7, hk7⟩ : ∃ k7, ({ (st : PS) with wait := st.wait ++ [39] } : PS).wait.length = k7 := ⟨_, rfl⟩
  have hk8 : k7 = m + 1 := by
    rw [← hk7, ← HLM.out]
    simp
  rw [hk7] at hF7 hE8 hO7 hcell7 ⊢
  obtain ⟨y0, y1, y2, y3, y4, y5, yf⟩ := hF7.cells
  have yf0 := yf 0 (by omega)
  have yf1 := yf 1 (by omega)
  have l0 : (0 : Int) < k7 := by omega
  have l0' : 0 < k7 := by omega
  have yq := y1.trans (show some (Value.int .u8 ((st.quote : Nat) : Int)) = some (Value.int .u8 0) by rw [HQ.out]; rfl)
  clear y1
  have H7 := hide (And.intro hF7 (And.intro hE8 (And.intro hO7 hown7)))
  have hgl7 : g7 ≠ p := own_ne0 hF7.2.2.1 hF7.2.1 (by decide) g7 rfl
  have l1 : ¬ ((2048 : Int) < k7) := by have := HLM.out; omega
  clear hF7 hE8 hO7 hown7 hgr7 hb7 hP7 zf yf hfc hk7 hk8 hfe hin
  have hF9 := H7.out.1.set (st' := { st with wait := st.wait ++ [39], quote := 39 }) (vw' := .slice (some ⟨g7, 0, none⟩) k7 c7) (vo' := vo) (v := .int .u8 39) 1 (by omega) H7.out.1.2.2.1 H7.out.1.2.2.2 rfl
  have hO9 := H7.out.2.2.1.set (i := 1) (.int .u8 39)
  have H9 := hide (And.intro hF9 hO9)
  clear hF9 hO9
  go_wp2_with fail
  go_ret2
  exact ⟨.slice none 0 0, [], _, _, rfl, rfl, nil_row _ _, H9.out.1, H9.out.2⟩
end Go.Proofs.YthmidlmknkbdaaaDoor.Xm
