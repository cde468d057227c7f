/- The document's parser: a byte (of a text). The document's parser: a byte (of a text that is too long). The document's parser: a byte (that begins a tag). The document's parser: a byte (that ends a text). The document's parser: a byte (of a tag that is too long). The document's parser: a byte (of a tag that is too long). -/
import Derived.Test.YthmidlmknkbdaaaDoorWG
namespace Go.Proofs.YthmidlmknkbdaaaDoor.Xm
open Go.RowKit

set_option maxRecDepth 100000 in
set_option maxHeartbeats 4000000 in
theorem rfOne_a0 (base p bt : Nat) (st : PS) (vw vo : Value) (c : UInt8) (w : World) (hP : IsF base p st vw vo w) (_hbt : bt ≤ w.heap.size) (hc : c ≠ 60) (hin : inTagL (st.wait ++ [c]) = false) (hlen : st.wait.length < 512) :
    Calls Tryd.prog 26 #[.pointer (some ⟨p, 0, none⟩), .int .u8 c.toNat] w fun e w' => OneOk bt base p { st with wait := st.wait ++ [c] } [] w e w' := by
  have hpl := hP.lt
  have hb0 := hP.1
  obtain ⟨c0, c1, c2, c3, c4, c5, cf⟩ := hP.cells
  have cf0 := cf 0 (by omega)
  have cf4 := cf 4 (by omega)
  have n60 : ((c.toNat : Int) == 60) = false := by
    rw [beq_eq_false_iff_ne]
    exact fun e => hc (UInt8.toNat_inj.1 (by show _ = 60; omega))
  obtain ⟨wa, wc, hvw⟩ := own_shape hP.2.2.1
  subst hvw
  obtain ⟨m, hm⟩ : ∃ m, st.wait.length = m := ⟨_, rfl⟩
  rw [hm] at c0
  have u0 : (w.alloc (.cells #[] 5)).cell? ⟨p, 0, none⟩ = some (.slice wa m wc) := by
    rw [((Below.refl w.heap.size w).alloc (Nat.le_refl _) (.cells #[] 5)).cell (p := ⟨p, 0, none⟩) hpl]
    exact c0
  have HPb := hide (And.intro hP (And.intro (Only.refl p w) (And.intro (nil_row bt w) (show ([] : List TokV).map (·.1) = [] from rfl))))
  have hzb : base ≤ w.heap.size := by omega
  have HM := hide hm
  clear hP hm c1 c2 c3 c4 c5 cf cf4 hc
  go_enter Tryd.func26, Tryd.ntmps26
  go_wp2_with (at_builtin; refine stopHere ?_)
  unfold Hid
  have hE0 : (w.alloc (.cells #[] 5)).ownsRow w.heap.size 5 1 (.slice (some ⟨w.heap.size, 0, none⟩) 0 0) ([] : List UInt8).length (Lib.byteCells []) := by
    have h := empty_own (w := w) (e := 5) (Nat.le_refl w.heap.size)
    skip
    exact h
  have hlm : st.wait.length = m := HM.out
  have hE2 : (w.alloc (.cells #[] 5)).ownsRow base 5 1 (.slice wa m wc) st.wait.length (Lib.byteCells st.wait) := by
    have h := own_same (B := w.alloc (.cells #[] 5)) HPb.out.1.2.2.1 (fun g hg => Below.heap_alloc _ _ _ (own_lt HPb.out.1.2.2.1 g hg))
    rw [hlm] at h ⊢
    exact h
  have hl2 : st.wait.length ≤ 2048 := by omega
  refine append_bys _ rfl _ _ rfl w.heap.size base _ _ [] st.wait rfl rfl hE0 hE2 (by simp) (by omega) (by simp) ?_
  intro v5 w5 hown5 hgr5
  simp only [List.nil_append] at hown5
  have hb5 : Below w.heap.size w w5 := ((Below.refl w.heap.size w).alloc (Nat.le_refl _) _).grown hgr5 (by simp) (fun g hg => own_base hE0 g hg)
  obtain ⟨g5, c5', hv5⟩ := own_shape hown5
  rw [hv5] at hown5 ⊢
  clear hv5 v5
  have hz5 := hb5.size
  have H5 := hide (And.intro hown5 hb5)
  have HLM := hide hlm
  clear hown5 hb5 hgr5 hE2 hE0 hlm
  go_wp2_with (at_builtin; refine stopHere ?_)
  unfold Hid
  refine append_bys _ rfl _ _ rfl w.heap.size w5.heap.size _ _ st.wait [c] rfl rfl (own_same H5.out.1 (fun g hg => Below.heap_alloc _ _ _ (own_lt H5.out.1 g hg))) (one_own (Nat.le_refl _)) (by have := hl2; omega) (by simp) (by simp; omega) ?_
  intro v7 w7 hown7 hgr7
  have hb7 : Below w.heap.size w w7 := (H5.out.2.alloc hz5 _).grown hgr7 (by simp; omega) (fun g hg => own_base H5.out.1 g hg)
  have hP7 := HPb.out.1.below hb7
  obtain ⟨z0, z1, z2, z3, z4, z5, zf⟩ := hP7.cells
  clear z1 z2 z3 z4 z5
  have zf0 := zf 0 (by omega)
  have hpb := HPb.out.1.lt
  have hF7 := hP7.set (st' := { (st : PS) with wait := st.wait ++ [c] }) (vw' := v7) (vo' := vo) (v := v7) 0 (by omega) (own_lower hown7 hzb) hP7.2.2.2 rfl
  have hE8 := (HPb.out.2.2.1.below hb7).setF (i := 0) (x := v7) hP7.2.1
  have hO7 := (HPb.out.2.1.trans (Only.of_below hb7 (Nat.le_of_lt hpb))).set (i := 0) v7
  obtain ⟨f, ft, hfe, hf60⟩ := (inTag_first (l := st.wait) c).2 hin
  have hfn : ((f.toNat : Int) == 60) = false := by
    rw [beq_eq_false_iff_ne]
    exact fun e => hf60 (UInt8.toNat_inj.1 (by show _ = 60; omega))
  have hfc : (Lib.byteCells (st.wait ++ [c]))[0]? = some (.int .u8 f.toNat) := by rw [hfe]; rfl
  obtain ⟨g7, c7, hv7, hgc7, hcell7⟩ := own_at hF7.2.2.1 hfc
  subst hv7
  obtain ⟨k7, hk7⟩ : ∃ k7, ({ (st : PS) with wait := st.wait ++ [c] } : PS).wait.length = k7 := ⟨_, rfl⟩
  have hk8 : k7 = m + 1 := by
    rw [← hk7, ← HLM.out]
    simp
  rw [hk7] at hF7 hE8 hO7 hcell7 ⊢
  obtain ⟨y0, y1, y2, y3, y4, y5, yf⟩ := hF7.cells
  have yf0 := yf 0 (by omega)
  have yf1 := yf 1 (by omega)
  have l0 : (0 : Int) < k7 := by omega
  have l0' : 0 < k7 := by omega
  have H7 := hide (And.intro hF7 (And.intro hE8 (And.intro hO7 hown7)))
  have hgl7 : g7 ≠ p := own_ne0 hF7.2.2.1 hF7.2.1 (by decide) g7 rfl
  have l1 : ¬ ((512 : Int) < k7) := by have := HLM.out; omega
  clear hF7 hE8 hO7 hown7 hgr7 hb7 hP7 zf yf hfc hk7 hk8 hfe hin
  go_wp2_with fail
  go_ret2
  exact ⟨.slice none 0 0, [], _, _, rfl, rfl, nil_row _ _, H7.out.1, H7.out.2.2.1⟩
end Go.Proofs.YthmidlmknkbdaaaDoor.Xm
namespace Go.Proofs.YthmidlmknkbdaaaDoor.Xm
open Go.RowKit

set_option maxRecDepth 100000 in
set_option maxHeartbeats 4000000 in
theorem rfOne_a1 (base p bt : Nat) (st : PS) (vw vo : Value) (c : UInt8) (w : World) (hP : IsF base p st vw vo w) (_hbt : bt ≤ w.heap.size) (hc : c ≠ 60) (hin : inTagL (st.wait ++ [c]) = false) (hlen : st.wait.length = 512) :
    Calls Tryd.prog 26 #[.pointer (some ⟨p, 0, none⟩), .int .u8 c.toNat] w fun e w' => OneErr base p w e w' := by
  have hpl := hP.lt
  have hb0 := hP.1
  obtain ⟨c0, c1, c2, c3, c4, c5, cf⟩ := hP.cells
  have cf0 := cf 0 (by omega)
  have cf4 := cf 4 (by omega)
  have n60 : ((c.toNat : Int) == 60) = false := by
    rw [beq_eq_false_iff_ne]
    exact fun e => hc (UInt8.toNat_inj.1 (by show _ = 60; omega))
  obtain ⟨wa, wc, hvw⟩ := own_shape hP.2.2.1
  subst hvw
  obtain ⟨m, hm⟩ : ∃ m, st.wait.length = m := ⟨_, rfl⟩
  rw [hm] at c0
  have u0 : (w.alloc (.cells #[] 5)).cell? ⟨p, 0, none⟩ = some (.slice wa m wc) := by
    rw [((Below.refl w.heap.size w).alloc (Nat.le_refl _) (.cells #[] 5)).cell (p := ⟨p, 0, none⟩) hpl]
    exact c0
  have HPb := hide (And.intro hP (And.intro (Only.refl p w) (And.intro (nil_row bt w) (show ([] : List TokV).map (·.1) = [] from rfl))))
  have hzb : base ≤ w.heap.size := by omega
  have HM := hide hm
  have HLE := hide hlen
  have hle2 : st.wait.length ≤ 2048 := by omega
  clear hP hm c1 c2 c3 c4 c5 cf cf4 hlen hc
  go_enter Tryd.func26, Tryd.ntmps26
  go_wp2_with (at_builtin; refine stopHere ?_)
  unfold Hid
  have hE0 : (w.alloc (.cells #[] 5)).ownsRow w.heap.size 5 1 (.slice (some ⟨w.heap.size, 0, none⟩) 0 0) ([] : List UInt8).length (Lib.byteCells []) := by
    have h := empty_own (w := w) (e := 5) (Nat.le_refl w.heap.size)
    skip
    exact h
  have hlm : st.wait.length = m := HM.out
  have hE2 : (w.alloc (.cells #[] 5)).ownsRow base 5 1 (.slice wa m wc) st.wait.length (Lib.byteCells st.wait) := by
    have h := own_same (B := w.alloc (.cells #[] 5)) HPb.out.1.2.2.1 (fun g hg => Below.heap_alloc _ _ _ (own_lt HPb.out.1.2.2.1 g hg))
    rw [hlm] at h ⊢
    exact h
  have hl2 : st.wait.length ≤ 2048 := by omega
  refine append_bys _ rfl _ _ rfl w.heap.size base _ _ [] st.wait rfl rfl hE0 hE2 (by simp) (by omega) (by simp) ?_
  intro v5 w5 hown5 hgr5
  simp only [List.nil_append] at hown5
  have hb5 : Below w.heap.size w w5 := ((Below.refl w.heap.size w).alloc (Nat.le_refl _) _).grown hgr5 (by simp) (fun g hg => own_base hE0 g hg)
  obtain ⟨g5, c5', hv5⟩ := own_shape hown5
  rw [hv5] at hown5 ⊢
  clear hv5 v5
  have hz5 := hb5.size
  have H5 := hide (And.intro hown5 hb5)
  have HLM := hide hlm
  clear hown5 hb5 hgr5 hE2 hE0 hlm
  go_wp2_with (at_builtin; refine stopHere ?_)
  unfold Hid
  refine append_bys _ rfl _ _ rfl w.heap.size w5.heap.size _ _ st.wait [c] rfl rfl (own_same H5.out.1 (fun g hg => Below.heap_alloc _ _ _ (own_lt H5.out.1 g hg))) (one_own (Nat.le_refl _)) (by have := hl2; omega) (by simp) (by simp; omega) ?_
  intro v7 w7 hown7 hgr7
  have hb7 : Below w.heap.size w w7 := (H5.out.2.alloc hz5 _).grown hgr7 (by simp; omega) (fun g hg => own_base H5.out.1 g hg)
  have hP7 := HPb.out.1.below hb7
  obtain ⟨z0, z1, z2, z3, z4, z5, zf⟩ := hP7.cells
  clear z1 z2 z3 z4 z5
  have zf0 := zf 0 (by omega)
  have hpb := HPb.out.1.lt
  have hF7 := hP7.set (st' := { (st : PS) with wait := st.wait ++ [c] }) (vw' := v7) (vo' := vo) (v := v7) 0 (by omega) (own_lower hown7 hzb) hP7.2.2.2 rfl
  have hE8 := (HPb.out.2.2.1.below hb7).setF (i := 0) (x := v7) hP7.2.1
  have hO7 := (HPb.out.2.1.trans (Only.of_below hb7 (Nat.le_of_lt hpb))).set (i := 0) v7
  obtain ⟨f, ft, hfe, hf60⟩ := (inTag_first (l := st.wait) c).2 hin
  have hfn : ((f.toNat : Int) == 60) = false := by
    rw [beq_eq_false_iff_ne]
    exact fun e => hf60 (UInt8.toNat_inj.1 (by show _ = 60; omega))
  have hfc : (Lib.byteCells (st.wait ++ [c]))[0]? = some (.int .u8 f.toNat) := by rw [hfe]; rfl
  obtain ⟨g7, c7, hv7, hgc7, hcell7⟩ := own_at hF7.2.2.1 hfc
  subst hv7
  obtain ⟨k7, hk7⟩ : ∃ k7, ({ (st : PS) with wait := st.wait ++ [c] } : PS).wait.length = k7 := ⟨_, rfl⟩
  have hk8 : k7 = m + 1 := by
    rw [← hk7, ← HLM.out]
    simp
  rw [hk7] at hF7 hE8 hO7 hcell7 ⊢
  obtain ⟨y0, y1, y2, y3, y4, y5, yf⟩ := hF7.cells
  have yf0 := yf 0 (by omega)
  have yf1 := yf 1 (by omega)
  have l0 : (0 : Int) < k7 := by omega
  have l0' : 0 < k7 := by omega
  have H7 := hide (And.intro hF7 (And.intro hE8 (And.intro hO7 hown7)))
  have hgl7 : g7 ≠ p := own_ne0 hF7.2.2.1 hF7.2.1 (by decide) g7 rfl
  have l1 : (512 : Int) < k7 := by have := HLE.out; have := HLM.out; omega
  clear hF7 hE8 hO7 hown7 hgr7 hb7 hP7 zf yf hfc hk7 hk8 hfe hin
  go_wp2_with fail
  go_ret2
  exact ⟨_, _, _, rfl, H7.out.1, H7.out.2.2.1⟩
end Go.Proofs.YthmidlmknkbdaaaDoor.Xm
namespace Go.Proofs.YthmidlmknkbdaaaDoor.Xm
open Go.RowKit

set_option maxRecDepth 100000 in
set_option maxHeartbeats 4000000 in
theorem rfOne_a2 (base p bt : Nat) (st : PS) (vw vo : Value) (w : World) (hP : IsF base p st vw vo w) (_hbt : bt ≤ w.heap.size) (hw : st.wait = []) (hlen : st.wait.length ≤ 512) (hq : st.quote = 0) :
    Calls Tryd.prog 26 #[.pointer (some ⟨p, 0, none⟩), .int .u8 60] w fun e w' => OneOk bt base p { st with wait := [60] } [] w e w' := by
  have hpl := hP.lt
  have hb0 := hP.1
  obtain ⟨c0, c1, c2, c3, c4, c5, cf⟩ := hP.cells
  have cf0 := cf 0 (by omega)
  have cf4 := cf 4 (by omega)
  obtain ⟨wa, wc, hvw⟩ := own_shape hP.2.2.1
  subst hvw
  rw [hw] at c0
  have c0 : w.cell? ⟨p, 0, none⟩ = some (.slice wa 0 wc) := c0
  rw [hq] at c1
  have HQ := hide hq
  clear hq
  have u0 : (w.alloc (.cells #[] 5)).cell? ⟨p, 0, none⟩ = some (.slice wa 0 wc) := by
    rw [((Below.refl w.heap.size w).alloc (Nat.le_refl _) (.cells #[] 5)).cell (p := ⟨p, 0, none⟩) hpl]
    exact c0
  have HPb := hide (And.intro hP (And.intro (Only.refl p w) (And.intro (nil_row bt w) (show ([] : List TokV).map (·.1) = [] from rfl))))
  have hzb : base ≤ w.heap.size := by omega
  
  have HW0 := hide hw
  clear hP c1 c2 c3 c4 c5 cf cf4 hw
  go_enter Tryd.func26, Tryd.ntmps26
  go_wp2_with (at_builtin; refine stopHere ?_)
  unfold Hid
  have hE0 : (w.alloc (.cells #[] 5)).ownsRow w.heap.size 5 1 (.slice (some ⟨w.heap.size, 0, none⟩) 0 0) ([] : List UInt8).length (Lib.byteCells []) := by
    have h := empty_own (w := w) (e := 5) (Nat.le_refl w.heap.size)
    skip
    exact h
  have hlm : st.wait.length = 0 := (by rw [HW0.out]; rfl)
  have hE2 : (w.alloc (.cells #[] 5)).ownsRow base 5 1 (.slice wa 0 wc) st.wait.length (Lib.byteCells st.wait) := by
    have h := own_same (B := w.alloc (.cells #[] 5)) HPb.out.1.2.2.1 (fun g hg => Below.heap_alloc _ _ _ (own_lt HPb.out.1.2.2.1 g hg))
    rw [hlm] at h ⊢
    exact h
  have hl2 : st.wait.length ≤ 2048 := by omega
  refine append_bys _ rfl _ _ rfl w.heap.size base _ _ [] st.wait rfl rfl hE0 hE2 (by simp) (by omega) (by simp) ?_
  intro v5 w5 hown5 hgr5
  simp only [List.nil_append] at hown5
  have hb5 : Below w.heap.size w w5 := ((Below.refl w.heap.size w).alloc (Nat.le_refl _) _).grown hgr5 (by simp) (fun g hg => own_base hE0 g hg)
  obtain ⟨g5, c5', hv5⟩ := own_shape hown5
  rw [hv5] at hown5 ⊢
  clear hv5 v5
  have hz5 := hb5.size
  have H5 := hide (And.intro hown5 hb5)
  have HLM := hide hlm
  clear hown5 hb5 hgr5 hE2 hE0 hlm
  go_wp2_with (at_builtin; refine stopHere ?_)
  unfold Hid
  refine append_bys _ rfl _ _ rfl w.heap.size w5.heap.size _ _ st.wait [60] rfl rfl (own_same H5.out.1 (fun g hg => Below.heap_alloc _ _ _ (own_lt H5.out.1 g hg))) (one_own (Nat.le_refl _)) (by have := hl2; omega) (by simp) (by simp; omega) ?_
  intro v7 w7 hown7 hgr7
  have hb7 : Below w.heap.size w w7 := (H5.out.2.alloc hz5 _).grown hgr7 (by simp; omega) (fun g hg => own_base H5.out.1 g hg)
  have hP7 := HPb.out.1.below hb7
  obtain ⟨z0, z1, z2, z3, z4, z5, zf⟩ := hP7.cells
  clear z1 z2 z3 z4 z5
  have zf0 := zf 0 (by omega)
  have hpb := HPb.out.1.lt
  have hF7 := hP7.set (st' := { (st : PS) with wait := st.wait ++ [60] }) (vw' := v7) (vo' := vo) (v := v7) 0 (by omega) (own_lower hown7 hzb) hP7.2.2.2 rfl
  have hE8 := (HPb.out.2.2.1.below hb7).setF (i := 0) (x := v7) hP7.2.1
  have hO7 := (HPb.out.2.1.trans (Only.of_below hb7 (Nat.le_of_lt hpb))).set (i := 0) v7
  have hfc : (Lib.byteCells (st.wait ++ [60]))[0]? = some (.int .u8 60) := by rw [HW0.out]; rfl
  obtain ⟨g7, c7, hv7, hgc7, hcell7⟩ := own_at hF7.2.2.1 hfc
  subst hv7
  obtain ⟨k7, hk7⟩ : ∃ k7, ({ (st : PS) with wait := st.wait ++ [60] } : PS).wait.length = k7 := ⟨_, rfl⟩
  have hk8 : k7 = 0 + 1 := by
    rw [← hk7, ← HLM.out]
    simp
  rw [hk7] at hF7 hE8 hO7 hcell7 ⊢
  obtain ⟨y0, y1, y2, y3, y4, y5, yf⟩ := hF7.cells
  have yf0 := yf 0 (by omega)
  have yf1 := yf 1 (by omega)
  have l0 : (0 : Int) < k7 := by omega
  have l0' : 0 < k7 := by omega
  have yq := y1.trans (show some (Value.int .u8 ((st.quote : Nat) : Int)) = some (Value.int .u8 0) by rw [HQ.out]; rfl)
  clear y1
  have H7 := hide (And.intro hF7 (And.intro hE8 (And.intro hO7 hown7)))
  have hgl7 : g7 ≠ p := own_ne0 hF7.2.2.1 hF7.2.1 (by decide) g7 rfl
  have l1 : ¬ ((2048 : Int) < k7) := by have := HLM.out; omega
  clear hF7 hE8 hO7 hown7 hgr7 hb7 hP7 zf yf hfc hk7 hk8
  go_wp2_with fail
  go_ret2
  refine ⟨.slice none 0 0, [], .slice (some ⟨g7, 0, none⟩) k7 c7, vo, rfl, rfl, nil_row _ _, ?_, H7.out.2.2.1⟩
  have h := H7.out.1
  rw [HW0.out] at h
  exact h
end Go.Proofs.YthmidlmknkbdaaaDoor.Xm
namespace Go.Proofs.YthmidlmknkbdaaaDoor.Xm
open Go.RowKit

set_option maxRecDepth 100000 in
set_option maxHeartbeats 4000000 in
theorem rfOne_a3 (base p bt : Nat) (st : PS) (vw vo : Value) (w : World) (hP : IsF base p st vw vo w) (hbt : bt ≤ w.heap.size) (hw : st.wait ≠ []) (hin : inTagL st.wait = false) (st2 : PS) (toks : List Tok) (htx : textL { st with wait := [] } st.wait = .ok (st2, toks)) (hT : Tabs w) (h4 : 4 ≤ p) (hol : st.op.length ≤ 8) (hlen : st.wait.length ≤ 512) (hq : st.quote = 0) :
    Calls Tryd.prog 26 #[.pointer (some ⟨p, 0, none⟩), .int .u8 60] w fun e w' => OneOk bt base p { st2 with wait := [60] } toks w e w' := by
  have hpl := hP.lt
  have hb0 := hP.1
  obtain ⟨c0, c1, c2, c3, c4, c5, cf⟩ := hP.cells
  have cf0 := cf 0 (by omega)
  have cf4 := cf 4 (by omega)
  obtain ⟨a0, wt, hwt⟩ : ∃ a0 wt, st.wait = a0 :: wt := by
    cases hw' : st.wait with
    | nil => exact absurd hw' (by exact hw)
    | cons a t => exact ⟨a, t, rfl⟩
  have hc00 : (Lib.byteCells st.wait)[0]? = some (.int .u8 a0.toNat) := by rw [hwt]; rfl
  obtain ⟨g0, wc, hvw, hgc0, hcell0⟩ := own_at hP.2.2.1 hc00
  subst hvw
  have ha0 : ((a0.toNat : Int) == 60) = false := by
    rw [hwt] at hin
    have h9 : a0 ≠ 60 := by simpa [inTagL] using hin
    rw [beq_eq_false_iff_ne]
    exact fun e => h9 (UInt8.toNat_inj.1 (by show _ = 60; omega))
  have hm0 : 0 < st.wait.length := by rw [hwt]; simp
  obtain ⟨m, hm⟩ : ∃ m, st.wait.length = m := ⟨_, rfl⟩
  rw [hm] at c0
  have hm1 : (0 : Int) < m := by omega
  rw [hq] at c1
  have HQ := hide hq
  clear hq
  have hst2 := (textL_ok hw htx)
  obtain ⟨tt, _, _, hst2, _⟩ := hst2
  have hwl : st.wait.length ≤ 2048 := by omega
  have hPt := hP.set (st' := { st with wait := [] }) (vw' := .slice none 0 0) (vo' := vo) (v := .slice none 0 0) 0 (by omega) (World.ownsRow_nil _ _ _ _) hP.2.2.2 rfl
  have hcv0 := conv_rf hP.2.2.1
  rw [hm] at hcv0
  have hTt : Tabs (w.setCell ⟨p, 0, none⟩ (.slice none 0 0)) := tabs_below4 hT (((Only.refl p w).set _).below) h4
  have htext := rfText_any base p bt { st with wait := [] } st2 (.slice none 0 0) vo ⟨st.wait.toArray⟩ toks (w.setCell ⟨p, 0, none⟩ (.slice none 0 0)) hPt (by rw [mk_size]; omega) hTt (by rw [World.size_setCell]; omega) (by rw [arr_list]; exact hw) (by rw [World.size_setCell]; exact hbt) (by show st.op.length ≤ _; omega) (by rw [arr_list]; exact htx)
  have HTX := hide htext
  have HPt := hide (And.intro hPt hst2)
  clear htext hTt hPt hst2 htx hP hwt hc00 hin hw c1 c2 c3 c5 cf hT
  go_enter Tryd.func26, Tryd.ntmps26
  go_wp2_with fail
  refine HTX.out.mono ?_
  rintro e w2 ⟨v2, l2, rfl, hl2, hE2, hb2⟩
  have hP2 := HPt.out.1.below hb2
  have hP3 := hP2.set (st' := { st with wait := [], begun := true }) (vw' := .slice none 0 0) (vo' := vo) (v := .bool true) 4 (by omega) (World.ownsRow_nil _ _ _ _) hP2.2.2.2 rfl
  have hE3 := hE2.setF (i := 4) (x := .bool true) hP2.2.1
  have hO3 : Only p w (w2.setCell ⟨p, 4, none⟩ (.bool true)) := (((Only.refl p w).set (i := 0) (.slice none 0 0)).trans (Only.of_below hb2 (by rw [World.size_setCell]; omega))).set _
  obtain ⟨x0, x1, x2, x3, x4, x5, xf⟩ := hP2.cells
  have xf4 := xf 4 (by omega)
  obtain ⟨Wb, hWb⟩ : ∃ Wb, w2.setCell ⟨p, 4, none⟩ (.bool true) = Wb := ⟨_, rfl⟩
  rw [hWb] at hP3 hE3 hO3
  have hpl3 := hP3.lt
  have u0 : (Wb.alloc (.cells #[] 5)).cell? ⟨p, 0, none⟩ = some (.slice none 0 0) := by
    rw [((Below.refl Wb.heap.size Wb).alloc (Nat.le_refl _) (.cells #[] 5)).cell (p := ⟨p, 0, none⟩) hpl3]
    exact hP3.cells.1
  rw [← hWb] at u0
  obtain ⟨vg, vc, hv2⟩ := own_shape hE3.1
  subst hv2
  have HPb := hide (And.intro hP3 (And.intro hO3 (And.intro hE3 hl2)))
  have HWb := hide hWb
  have hzw : Wb.heap.size = w2.heap.size := by rw [← hWb]; simp
  have hzb : base ≤ Wb.heap.size := by have := hP3.1; omega
  clear hP2 hP3 hE3 hO3 hb2 hE2 hl2 hWb xf x1 x2 x3 x5 c0 c4 cf0 cf4 hcv0 hcell0
  go_wp2_with (at_builtin; refine stopHere ?_)
  unfold Hid
  rw [HWb.out]
  have hE0 : (Wb.alloc (.cells #[] 5)).ownsRow Wb.heap.size 5 1 (.slice (some ⟨w2.heap.size, 0, none⟩) 0 0) ([] : List UInt8).length (Lib.byteCells []) := by
    have h := empty_own (w := Wb) (e := 5) (Nat.le_refl Wb.heap.size)
    rw [hzw] at h ⊢
    exact h
  have hlm : ([] : List UInt8).length = 0 := rfl
  have hE2 : (Wb.alloc (.cells #[] 5)).ownsRow base 5 1 (.slice none 0 0) ([] : List UInt8).length (Lib.byteCells ([] : List UInt8)) := by
    have h := own_same (B := Wb.alloc (.cells #[] 5)) HPb.out.1.2.2.1 (fun g hg => Below.heap_alloc _ _ _ (own_lt HPb.out.1.2.2.1 g hg))
    
    exact h
  have hl2 : ([] : List UInt8).length ≤ 2048 := by simp
  refine append_bys _ rfl _ _ rfl Wb.heap.size base _ _ [] ([] : List UInt8) rfl rfl hE0 hE2 (by simp) (by omega) (by simp) ?_
  intro v5 w5 hown5 hgr5
  simp only [List.nil_append] at hown5
  have hb5 : Below Wb.heap.size Wb w5 := ((Below.refl Wb.heap.size Wb).alloc (Nat.le_refl _) _).grown hgr5 (by simp) (fun g hg => own_base hE0 g hg)
  obtain ⟨g5, c5', hv5⟩ := own_shape hown5
  rw [hv5] at hown5 ⊢
  clear hv5 v5
  have hz5 := hb5.size
  have H5 := hide (And.intro hown5 hb5)
  have HLM := hide hlm
  clear hown5 hb5 hgr5 hE2 hE0 hlm
  go_wp2_with (at_builtin; refine stopHere ?_)
  unfold Hid
  refine append_bys _ rfl _ _ rfl Wb.heap.size w5.heap.size _ _ ([] : List UInt8) [60] rfl rfl (own_same H5.out.1 (fun g hg => Below.heap_alloc _ _ _ (own_lt H5.out.1 g hg))) (one_own (Nat.le_refl _)) (by have := hl2; omega) (by simp) (by simp; omega) ?_
  intro v7 w7 hown7 hgr7
  have hb7 : Below Wb.heap.size Wb w7 := (H5.out.2.alloc hz5 _).grown hgr7 (by simp; omega) (fun g hg => own_base H5.out.1 g hg)
  have hP7 := HPb.out.1.below hb7
  obtain ⟨z0, z1, z2, z3, z4, z5, zf⟩ := hP7.cells
  clear z1 z2 z3 z4 z5
  have zf0 := zf 0 (by omega)
  have hpb := HPb.out.1.lt
  have hF7 := hP7.set (st' := { ({ st with wait := [], begun := true } : PS) with wait := ([] : List UInt8) ++ [60] }) (vw' := v7) (vo' := vo) (v := v7) 0 (by omega) (own_lower hown7 hzb) hP7.2.2.2 rfl
  have hE8 := (HPb.out.2.2.1.below hb7).setF (i := 0) (x := v7) hP7.2.1
  have hO7 := (HPb.out.2.1.trans (Only.of_below hb7 (Nat.le_of_lt hpb))).set (i := 0) v7
  have hfc : (Lib.byteCells (([] : List UInt8) ++ [60]))[0]? = some (.int .u8 60) := rfl
  obtain ⟨g7, c7, hv7, hgc7, hcell7⟩ := own_at hF7.2.2.1 hfc
  subst hv7
  obtain ⟨k7, hk7⟩ : ∃ k7, ({ ({ st with wait := [], begun := true } : PS) with wait := ([] : List UInt8) ++ [60] } : PS).wait.length = k7 := ⟨_, rfl⟩
  have hk8 : k7 = 0 + 1 := by
    rw [← hk7, ← HLM.out]
    simp
  rw [hk7] at hF7 hE8 hO7 hcell7 ⊢
  obtain ⟨y0, y1, y2, y3, y4, y5, yf⟩ := hF7.cells
  have yf0 := yf 0 (by omega)
  have yf1 := yf 1 (by omega)
  have l0 : (0 : Int) < k7 := by omega
  have l0' : 0 < k7 := by omega
  have yq := y1.trans (show some (Value.int .u8 ((st.quote : Nat) : Int)) = some (Value.int .u8 0) by rw [HQ.out]; rfl)
  clear y1
  have H7 := hide (And.intro hF7 (And.intro hE8 (And.intro hO7 hown7)))
  have hgl7 : g7 ≠ p := own_ne0 hF7.2.2.1 hF7.2.1 (by decide) g7 rfl
  have l1 : ¬ ((2048 : Int) < k7) := by have := HLM.out; omega
  clear hF7 hE8 hO7 hown7 hgr7 hb7 hP7 zf yf hfc hk7 hk8
  go_wp2_with fail
  go_ret2
  refine ⟨.slice vg l2.length vc, l2, .slice (some ⟨g7, 0, none⟩) k7 c7, vo, rfl, HPb.out.2.2.2, H7.out.2.1, ?_, H7.out.2.2.1⟩
  have h := H7.out.1
  rw [HPt.out.2]
  exact h
end Go.Proofs.YthmidlmknkbdaaaDoor.Xm
namespace Go.Proofs.YthmidlmknkbdaaaDoor.Xm
open Go.RowKit

set_option maxRecDepth 100000 in
set_option maxHeartbeats 4000000 in
theorem rfOne_a4 (base p bt : Nat) (st : PS) (vw vo : Value) (c : UInt8) (w : World) (hP : IsF base p st vw vo w) (_hbt : bt ≤ w.heap.size) (hc : c ≠ 60) (hin : inTagL (st.wait ++ [c]) = true) (hlen : st.wait.length = 2048) :
    Calls Tryd.prog 26 #[.pointer (some ⟨p, 0, none⟩), .int .u8 c.toNat] w fun e w' => OneErr base p w e w' := by
  have hpl := hP.lt
  have hb0 := hP.1
  obtain ⟨c0, c1, c2, c3, c4, c5, cf⟩ := hP.cells
  have cf0 := cf 0 (by omega)
  have cf4 := cf 4 (by omega)
  have n60 : ((c.toNat : Int) == 60) = false := by
    rw [beq_eq_false_iff_ne]
    exact fun e => hc (UInt8.toNat_inj.1 (by show _ = 60; omega))
  obtain ⟨wa, wc, hvw⟩ := own_shape hP.2.2.1
  subst hvw
  obtain ⟨m, hm⟩ : ∃ m, st.wait.length = m := ⟨_, rfl⟩
  rw [hm] at c0
  have u0 : (w.alloc (.cells #[] 5)).cell? ⟨p, 0, none⟩ = some (.slice wa m wc) := by
    rw [((Below.refl w.heap.size w).alloc (Nat.le_refl _) (.cells #[] 5)).cell (p := ⟨p, 0, none⟩) hpl]
    exact c0
  have HPb := hide (And.intro hP (And.intro (Only.refl p w) (And.intro (nil_row bt w) (show ([] : List TokV).map (·.1) = [] from rfl))))
  have hzb : base ≤ w.heap.size := by omega
  have HM := hide hm
  have HLE := hide hlen
  have hle2 : st.wait.length ≤ 2048 := by omega
  clear hP hm c1 c2 c3 c4 c5 cf cf4 hlen hc
  go_enter Tryd.func26, Tryd.ntmps26
  go_wp2_with (at_builtin; refine stopHere ?_)
  unfold Hid
  have hE0 : (w.alloc (.cells #[] 5)).ownsRow w.heap.size 5 1 (.slice (some ⟨w.heap.size, 0, none⟩) 0 0) ([] : List UInt8).length (Lib.byteCells []) := by
    have h := empty_own (w := w) (e := 5) (Nat.le_refl w.heap.size)
    skip
    exact h
  have hlm : st.wait.length = m := HM.out
  have hE2 : (w.alloc (.cells #[] 5)).ownsRow base 5 1 (.slice wa m wc) st.wait.length (Lib.byteCells st.wait) := by
    have h := own_same (B := w.alloc (.cells #[] 5)) HPb.out.1.2.2.1 (fun g hg => Below.heap_alloc _ _ _ (own_lt HPb.out.1.2.2.1 g hg))
    rw [hlm] at h ⊢
    exact h
  have hl2 : st.wait.length ≤ 2048 := by omega
  refine append_bys _ rfl _ _ rfl w.heap.size base _ _ [] st.wait rfl rfl hE0 hE2 (by simp) (by omega) (by simp) ?_
  intro v5 w5 hown5 hgr5
  simp only [List.nil_append] at hown5
  have hb5 : Below w.heap.size w w5 := ((Below.refl w.heap.size w).alloc (Nat.le_refl _) _).grown hgr5 (by simp) (fun g hg => own_base hE0 g hg)
  obtain ⟨g5, c5', hv5⟩ := own_shape hown5
  rw [hv5] at hown5 ⊢
  clear hv5 v5
  have hz5 := hb5.size
  have H5 := hide (And.intro hown5 hb5)
  have HLM := hide hlm
  clear hown5 hb5 hgr5 hE2 hE0 hlm
  go_wp2_with (at_builtin; refine stopHere ?_)
  unfold Hid
  refine append_bys _ rfl _ _ rfl w.heap.size w5.heap.size _ _ st.wait [c] rfl rfl (own_same H5.out.1 (fun g hg => Below.heap_alloc _ _ _ (own_lt H5.out.1 g hg))) (one_own (Nat.le_refl _)) (by have := hl2; omega) (by simp) (by simp; omega) ?_
  intro v7 w7 hown7 hgr7
  have hb7 : Below w.heap.size w w7 := (H5.out.2.alloc hz5 _).grown hgr7 (by simp; omega) (fun g hg => own_base H5.out.1 g hg)
  have hP7 := HPb.out.1.below hb7
  obtain ⟨z0, z1, z2, z3, z4, z5, zf⟩ := hP7.cells
  clear z1 z2 z3 z4 z5
  have zf0 := zf 0 (by omega)
  have hpb := HPb.out.1.lt
  have hF7 := hP7.set (st' := { (st : PS) with wait := st.wait ++ [c] }) (vw' := v7) (vo' := vo) (v := v7) 0 (by omega) (own_lower hown7 hzb) hP7.2.2.2 rfl
  have hE8 := (HPb.out.2.2.1.below hb7).setF (i := 0) (x := v7) hP7.2.1
  have hO7 := (HPb.out.2.1.trans (Only.of_below hb7 (Nat.le_of_lt hpb))).set (i := 0) v7
  obtain ⟨ft, hfe⟩ := (inTag_first (l := st.wait) c).1 hin
  have hfc : (Lib.byteCells (st.wait ++ [c]))[0]? = some (.int .u8 60) := by rw [hfe]; rfl
  obtain ⟨g7, c7, hv7, hgc7, hcell7⟩ := own_at hF7.2.2.1 hfc
  subst hv7
  obtain ⟨k7, hk7⟩ : ∃ k7, ({ (st : PS) with wait := st.wait ++ [c] } : PS).wait.length = k7 := ⟨_, rfl⟩
  have hk8 : k7 = m + 1 := by
    rw [← hk7, ← HLM.out]
    simp
  rw [hk7] at hF7 hE8 hO7 hcell7 ⊢
  obtain ⟨y0, y1, y2, y3, y4, y5, yf⟩ := hF7.cells
  have yf0 := yf 0 (by omega)
  have yf1 := yf 1 (by omega)
  have l0 : (0 : Int) < k7 := by omega
  have l0' : 0 < k7 := by omega
  have H7 := hide (And.intro hF7 (And.intro hE8 (And.intro hO7 hown7)))
  have hgl7 : g7 ≠ p := own_ne0 hF7.2.2.1 hF7.2.1 (by decide) g7 rfl
  have l1 : (2048 : Int) < k7 := by have := HLE.out; have := HLM.out; omega
  clear hF7 hE8 hO7 hown7 hgr7 hb7 hP7 zf yf hfc hk7 hk8 hfe hin
  go_wp2_with fail
  go_ret2
  exact ⟨_, _, _, rfl, H7.out.1, H7.out.2.2.1⟩
end Go.Proofs.YthmidlmknkbdaaaDoor.Xm
namespace Go.Proofs.YthmidlmknkbdaaaDoor.Xm
open Go.RowKit

set_option maxRecDepth 100000 in
set_option maxHeartbeats 4000000 in
theorem rfOne_a5 (base p bt : Nat) (st : PS) (vw vo : Value) (w : World) (hP : IsF base p st vw vo w) (_hbt : bt ≤ w.heap.size) (hin : inTagL (st.wait ++ [60]) = true) (hin0 : inTagL st.wait = true) (hlen : st.wait.length = 2048) :
    Calls Tryd.prog 26 #[.pointer (some ⟨p, 0, none⟩), .int .u8 60] w fun e w' => OneErr base p w e w' := by
  have hpl := hP.lt
  have hb0 := hP.1
  obtain ⟨c0, c1, c2, c3, c4, c5, cf⟩ := hP.cells
  have cf0 := cf 0 (by omega)
  have cf4 := cf 4 (by omega)
  obtain ⟨a0, wt, hwt⟩ : ∃ a0 wt, st.wait = a0 :: wt := by
    cases hw' : st.wait with
    | nil => exact absurd hw' (by intro e; rw [e] at hin0; cases hin0)
    | cons a t => exact ⟨a, t, rfl⟩
  have hc00 : (Lib.byteCells st.wait)[0]? = some (.int .u8 a0.toNat) := by rw [hwt]; rfl
  obtain ⟨g0, wc, hvw, hgc0, hcell0⟩ := own_at hP.2.2.1 hc00
  subst hvw
  have ha0 : a0 = 60 := by rw [hwt] at hin0; exact eq_of_beq hin0
  rw [ha0, show (((60 : UInt8).toNat : Nat) : Int) = 60 from rfl] at hcell0
  have hm0 : 0 < st.wait.length := by rw [hwt]; simp
  obtain ⟨m, hm⟩ : ∃ m, st.wait.length = m := ⟨_, rfl⟩
  rw [hm] at c0
  have hm1 : (0 : Int) < m := by omega
  have u0 : (w.alloc (.cells #[] 5)).cell? ⟨p, 0, none⟩ = some (.slice (some ⟨g0, 0, none⟩) m wc) := by
    rw [((Below.refl w.heap.size w).alloc (Nat.le_refl _) (.cells #[] 5)).cell (p := ⟨p, 0, none⟩) hpl]
    exact c0
  have HPb := hide (And.intro hP (And.intro (Only.refl p w) (And.intro (nil_row bt w) (show ([] : List TokV).map (·.1) = [] from rfl))))
  have hzb : base ≤ w.heap.size := by omega
  have HM := hide hm
  have HLE := hide hlen
  have hle2 : st.wait.length ≤ 2048 := by omega
  clear hP hm c1 c2 c3 c4 c5 cf cf4 hwt hc00 ha0 hlen
  go_enter Tryd.func26, Tryd.ntmps26
  go_wp2_with (at_builtin; refine stopHere ?_)
  unfold Hid
  have hE0 : (w.alloc (.cells #[] 5)).ownsRow w.heap.size 5 1 (.slice (some ⟨w.heap.size, 0, none⟩) 0 0) ([] : List UInt8).length (Lib.byteCells []) := by
    have h := empty_own (w := w) (e := 5) (Nat.le_refl w.heap.size)
    skip
    exact h
  have hlm : st.wait.length = m := HM.out
  have hE2 : (w.alloc (.cells #[] 5)).ownsRow base 5 1 (.slice (some ⟨g0, 0, none⟩) m wc) st.wait.length (Lib.byteCells st.wait) := by
    have h := own_same (B := w.alloc (.cells #[] 5)) HPb.out.1.2.2.1 (fun g hg => Below.heap_alloc _ _ _ (own_lt HPb.out.1.2.2.1 g hg))
    rw [hlm] at h ⊢
    exact h
  have hl2 : st.wait.length ≤ 2048 := by omega
  refine append_bys _ rfl _ _ rfl w.heap.size base _ _ [] st.wait rfl rfl hE0 hE2 (by simp) (by omega) (by simp) ?_
  intro v5 w5 hown5 hgr5
  simp only [List.nil_append] at hown5
  have hb5 : Below w.heap.size w w5 := ((Below.refl w.heap.size w).alloc (Nat.le_refl _) _).grown hgr5 (by simp) (fun g hg => own_base hE0 g hg)
  obtain ⟨g5, c5', hv5⟩ := own_shape hown5
  rw [hv5] at hown5 ⊢
  clear hv5 v5
  have hz5 := hb5.size
  have H5 := hide (And.intro hown5 hb5)
  have HLM := hide hlm
  clear hown5 hb5 hgr5 hE2 hE0 hlm
  go_wp2_with (at_builtin; refine stopHere ?_)
  unfold Hid
  refine append_bys _ rfl _ _ rfl w.heap.size w5.heap.size _ _ st.wait [60] rfl rfl (own_same H5.out.1 (fun g hg => Below.heap_alloc _ _ _ (own_lt H5.out.1 g hg))) (one_own (Nat.le_refl _)) (by have := hl2; omega) (by simp) (by simp; omega) ?_
  intro v7 w7 hown7 hgr7
  have hb7 : Below w.heap.size w w7 := (H5.out.2.alloc hz5 _).grown hgr7 (by simp; omega) (fun g hg => own_base H5.out.1 g hg)
  have hP7 := HPb.out.1.below hb7
  obtain ⟨z0, z1, z2, z3, z4, z5, zf⟩ := hP7.cells
  clear z1 z2 z3 z4 z5
  have zf0 := zf 0 (by omega)
  have hpb := HPb.out.1.lt
  have hF7 := hP7.set (st' := { (st : PS) with wait := st.wait ++ [60] }) (vw' := v7) (vo' := vo) (v := v7) 0 (by omega) (own_lower hown7 hzb) hP7.2.2.2 rfl
  have hE8 := (HPb.out.2.2.1.below hb7).setF (i := 0) (x := v7) hP7.2.1
  have hO7 := (HPb.out.2.1.trans (Only.of_below hb7 (Nat.le_of_lt hpb))).set (i := 0) v7
  obtain ⟨ft, hfe⟩ := (inTag_first (l := st.wait) (60 : UInt8)).1 hin
  have hfc : (Lib.byteCells (st.wait ++ [60]))[0]? = some (.int .u8 60) := by rw [hfe]; rfl
  obtain ⟨g7, c7, hv7, hgc7, hcell7⟩ := own_at hF7.2.2.1 hfc
  subst hv7
  obtain ⟨k7, hk7⟩ : ∃ k7, ({ (st : PS) with wait := st.wait ++ [60] } : PS).wait.length = k7 := ⟨_, rfl⟩
  have hk8 : k7 = m + 1 := by
    rw [← hk7, ← HLM.out]
    simp
  rw [hk7] at hF7 hE8 hO7 hcell7 ⊢
  obtain ⟨y0, y1, y2, y3, y4, y5, yf⟩ := hF7.cells
  have yf0 := yf 0 (by omega)
  have yf1 := yf 1 (by omega)
  have l0 : (0 : Int) < k7 := by omega
  have l0' : 0 < k7 := by omega
  have H7 := hide (And.intro hF7 (And.intro hE8 (And.intro hO7 hown7)))
  have hgl7 : g7 ≠ p := own_ne0 hF7.2.2.1 hF7.2.1 (by decide) g7 rfl
  have l1 : (2048 : Int) < k7 := by have := HLE.out; have := HLM.out; omega
  clear hF7 hE8 hO7 hown7 hgr7 hb7 hP7 zf yf hfc hk7 hk8 hfe hin
  go_wp2_with fail
  go_ret2
  exact ⟨_, _, _, rfl, H7.out.1, H7.out.2.2.1⟩
end Go.Proofs.YthmidlmknkbdaaaDoor.Xm
