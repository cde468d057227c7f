/- Which requests are right: Right. -/
import Derived.Test.YtimhkgpjfppkmaaDoorRq4a
namespace Go.Proofs.YtimhkgpjfppkmaaDoor
open Go.RowKit Go.Shelf

set_option maxRecDepth 100000 in
set_option maxHeartbeats 4000000 in
theorem rT10 (r : Rq) (w : World) (nb : Nat) (P : Prop) (HNo : ¬ RightRq r → ¬ P) (HYes : RightRq r → P) (HF : Hid (RqFits r)) (V0 : World) (fr0 : V0.heap[w.heap.size]? = some (.cells (rqA r) 26)) (fn0 : V0.heap[nb]? = some (.cells (thA r.verb) 57)) (B0 : Below w.heap.size w V0) (G0 : GlbR V0) (HC0 : Hid (nodeB r.verb = true)) (HC1 : Hid (rnB r = true)) (HC2 : Hid (fitB (itemB r.verb) (Jd.nameOk r.item) (decide (r.item = ⟨#[]⟩)) = true)) (HC3 : Hid (fitB (jidB r.verb) (Jd.addrOk r.jid) (decide (r.jid = ⟨#[]⟩)) = true)) (HC4 : Hid (fitB (roleB r.verb) (decide (1 ≤ r.role) && decide (r.role ≤ 5)) (decide (r.role = 0)) = true)) (HC5 : Hid (fitB (accB r.verb) (decide (r.acc ≤ 2)) (decide (r.acc = 0)) = true)) (HC6 : Hid (fitB (maxB r.verb) (decide (0 ≤ r.max) && decide (r.max ≤ 8)) (decide (r.max = 0)) = true)) (HC7 : Hid (fitB (depthB r.verb) (decide (0 ≤ r.depth) && decide (r.depth ≤ 255)) (decide (r.depth = 0)) = true)) (HC8 : Hid (fitB (parB r.verb) (Jd.nameOk r.parent) (decide (r.parent = ⟨#[]⟩)) = true)) (HC9 : Hid (fitB (kindB r.verb) true (decide (r.coll = false)) = true)) (x : Nat → Value) (listed : Array Bool) (hl : listed = #[true, true, true, true, true, true, true, true, true, true, true, true, true, true, true, true, true, true, true, true, true, true, true, true, true, true, true, true, true, true, true, true, true, true, true, true, true, true, true, true, true, true, true, true, true, true, true, true, true, true, true, true, true, true, true, true, true, true, true, true, true, true, true, true, true, true, true, true, true, true, true, true, true, true, true, true, true, true, true, true, true, true, true, true, true, true, true, true, true, true, true, true, true, true, true, true, true, true, true, false, false, false, false, false, false, false, false, false, false, false, false, false, false, false, false]) : wpAnyH Tryd.prog .any rightOps (RightQ P w) (RightS r w nb) 16 listed { tmps := #[x 0, .pointer (some ⟨w.heap.size, 0, none⟩), x 2, .pointer (some ⟨nb, 0, none⟩), x 4, x 5, x 6, x 7, x 8, x 9, x 10, x 11, x 12, x 13, x 14, x 15, x 16, x 17, x 18, x 19, x 20, x 21, x 22, x 23, x 24, x 25, x 26, x 27, x 28, x 29, x 30, x 31, x 32, x 33, x 34, x 35, x 36, x 37, x 38, x 39, x 40, x 41, x 42, x 43, x 44, x 45, x 46, x 47, x 48, x 49, x 50, x 51, x 52, x 53, x 54, x 55, x 56, x 57, x 58, x 59, x 60, x 61, x 62, x 63, x 64, x 65, x 66, x 67, x 68, x 69, x 70, x 71, x 72, x 73, x 74, x 75, x 76, x 77, x 78, x 79, x 80, x 81, x 82, x 83, x 84, x 85, x 86, x 87, x 88, x 89, x 90, x 91, x 92, x 93, x 94, x 95, x 96, x 97, x 98, x 99, x 100, x 101, x 102, x 103, x 104, .bool true, x 106, x 107, x 108, x 109, x 110, x 111, x 112, x 113, x 114, x 115, x 116, x 117, x 118, x 119, x 120], defers := [] } V0 := by
  subst hl
  obtain ⟨qh, hqh⟩ : ∃ q, decide ((r.text.size : Int) ≤ 512) = q := ⟨_, rfl⟩
  refine anyH_take (i := 99) (v := .pointer (some ⟨nb, 9, none⟩)) rfl (some 106) rfl rNS (by kernel_rfl) (by kernel_rfl) (fun _ _ _ h => by cases h.1) (by kernel_rfl) (fun w0 hw0 => by first | rfl | kernel_rfl) ⟨fr0, fn0⟩ ?_
  simp only [Act.put, List.setIfInBounds_toArray, List.set_cons_zero, List.set_cons_succ]
  refine anyH_take (i := 100) (v := .bool (textB r.verb)) rfl (some 107) rfl rNS (by kernel_rfl) (by kernel_rfl) (fun _ _ _ h => by cases h.1) (by kernel_rfl) (fun w0 hw0 => ex_load rfl rfl (ld4 (th_box hw0.2).2.2.2.2.2.2.2.2.2)) ⟨fr0, fn0⟩ ?_
  simp only [Act.put, List.setIfInBounds_toArray, List.set_cons_zero, List.set_cons_succ]
  refine anyH_take (i := 101) (v := .pointer (some ⟨w.heap.size, 10, none⟩)) rfl (some 108) rfl rNS (by kernel_rfl) (by kernel_rfl) (fun _ _ _ h => by cases h.1) (by kernel_rfl) (fun w0 hw0 => by first | rfl | kernel_rfl) ⟨fr0, fn0⟩ ?_
  simp only [Act.put, List.setIfInBounds_toArray, List.set_cons_zero, List.set_cons_succ]
  refine anyH_take (i := 102) (v := .string r.text) rfl (some 109) rfl rNS (by kernel_rfl) (by kernel_rfl) (fun _ _ _ h => by cases h.1) (by kernel_rfl) (fun w0 hw0 => ex_load rfl rfl (ld9 (rq_box hw0.1).2.2.2.2.2.2.2.2.2.2)) ⟨fr0, fn0⟩ ?_
  simp only [Act.put, List.setIfInBounds_toArray, List.set_cons_zero, List.set_cons_succ]
  refine anyH_take (i := 103) (v := .pointer (some ⟨w.heap.size, 10, none⟩)) rfl (some 110) rfl rNS (by kernel_rfl) (by kernel_rfl) (fun _ _ _ h => by cases h.1) (by kernel_rfl) (fun w0 hw0 => by first | rfl | kernel_rfl) ⟨fr0, fn0⟩ ?_
  simp only [Act.put, List.setIfInBounds_toArray, List.set_cons_zero, List.set_cons_succ]
  refine anyH_take (i := 104) (v := .string r.text) rfl (some 111) rfl rNS (by kernel_rfl) (by kernel_rfl) (fun _ _ _ h => by cases h.1) (by kernel_rfl) (fun w0 hw0 => ex_load rfl rfl (ld9 (rq_box hw0.1).2.2.2.2.2.2.2.2.2.2)) ⟨fr0, fn0⟩ ?_
  simp only [Act.put, List.setIfInBounds_toArray, List.set_cons_zero, List.set_cons_succ]
  refine anyH_take (i := 105) (v := .int .i64 r.text.size) rfl (some 112) rfl rNS (by kernel_rfl) (by kernel_rfl) (fun _ _ _ h => by cases h.1) (by kernel_rfl) (fun w0 hw0 => by first | rfl | kernel_rfl) ⟨fr0, fn0⟩ ?_
  simp only [Act.put, List.setIfInBounds_toArray, List.set_cons_zero, List.set_cons_succ]
  refine anyH_take (i := 106) (v := .bool qh) rfl (some 113) rfl rNS (by kernel_rfl) (by kernel_rfl) (fun _ _ _ h => by cases h.1) (by kernel_rfl) (fun w0 hw0 => ex_leqI rfl rfl rfl hqh) ⟨fr0, fn0⟩ ?_
  simp only [Act.put, List.setIfInBounds_toArray, List.set_cons_zero, List.set_cons_succ]
  refine anyH_take (i := 107) (v := .bool qh) rfl (some 114) rfl rNS (by kernel_rfl) (by kernel_rfl) (fun _ _ _ h => by cases h.1) (by kernel_rfl) (fun w0 hw0 => by first | rfl | kernel_rfl) ⟨fr0, fn0⟩ ?_
  simp only [Act.put, List.setIfInBounds_toArray, List.set_cons_zero, List.set_cons_succ]
  cases qh with
  | false =>
    have hAh := of_decide_eq_false hqh
    refine anyH_off (i := 108) rfl (some 115) rfl rNS (by kernel_rfl) (by kernel_rfl) (fun _ _ _ h => by cases h.1) (by kernel_rfl) ⟨fr0, fn0⟩ ?_
    simp only [Act.put, List.setIfInBounds_toArray, List.set_cons_zero, List.set_cons_succ]
    refine anyH_off (i := 109) rfl (some 116) rfl rNS (by kernel_rfl) (by kernel_rfl) (fun _ _ _ h => by cases h.1) (by kernel_rfl) ⟨fr0, fn0⟩ ?_
    simp only [Act.put, List.setIfInBounds_toArray, List.set_cons_zero, List.set_cons_succ]
    refine anyH_off (i := 110) rfl (some 117) rfl rNS (by kernel_rfl) (by kernel_rfl) (fun _ _ _ h => by cases h.1) (by kernel_rfl) ⟨fr0, fn0⟩ ?_
    simp only [Act.put, List.setIfInBounds_toArray, List.set_cons_zero, List.set_cons_succ]
    refine anyH_take (i := 111) (v := .bool false) rfl (some 118) rfl rNS (by kernel_rfl) (by kernel_rfl) (fun _ _ _ h => by cases h.1) (by kernel_rfl) (fun w0 hw0 => Jd.ex_pkF rfl rfl rfl) ⟨fr0, fn0⟩ ?_
    simp only [Act.put, List.setIfInBounds_toArray, List.set_cons_zero, List.set_cons_succ]
    obtain ⟨p10, hp10⟩ : ∃ p, fitB (textB r.verb) (decide (r.text.size ≤ 512) && charsD r.text) (decide (r.text = ⟨#[]⟩)) = p := ⟨_, rfl⟩
    have HC10 := hide hp10
    have hmid : (decide (r.text.size ≤ 512) && charsD r.text) = false := by
      rw [decide_eq_false (show ¬ r.text.size ≤ 512 by omega), Bool.false_and]
    have hp10b : fitB (textB r.verb) false (decide (r.text = ⟨#[]⟩)) = p10 := by rw [← hp10, hmid]
    have hc := fits_string (textB r.verb) false r.text V0
    rw [hp10b] at hc
    clear hp10 hp10b hmid
    refine anyH_one (i := 112) (by kernel_rfl) ?_
    refine op_call rfl (some 119) rfl (by kernel_rfl) #[.bool (textB r.verb), .string r.text, .bool false] rfl (by simp [Act.eval]) (fun _ _ => rfl) (hc) ?_
    rintro e Vx ⟨rfl, hV⟩
    obtain rfl : V0 = Vx := hV.symm
    refine ⟨_, rfl, ⟨fr0, fn0⟩, ?_⟩
    simp only [Act.put, List.setIfInBounds_toArray, List.set_cons_zero, List.set_cons_succ]
    clear hc
    cases p10 with
    | false =>
      refine anyH_take (i := 113) (v := .bool false) rfl (some 120) rfl rNS (by kernel_rfl) (by kernel_rfl) (fun _ _ _ h => by cases h.1) (by kernel_rfl) (fun w0 hw0 => Jd.ex_pkT rfl rfl rfl) ⟨fr0, fn0⟩ ?_
      simp only [Act.put, List.setIfInBounds_toArray, List.set_cons_zero, List.set_cons_succ]
      refine anyH_val (i := 114) (by kernel_rfl) rfl (some 2) rfl (by kernel_rfl) (Jd.ex_anyv rfl rfl) ⟨fr0, fn0⟩ ?_
      simp only [Act.put, List.setIfInBounds_toArray, List.set_cons_zero, List.set_cons_succ]
      exact wpAnyH_done (by kernel_rfl) ⟨rfl, false, fill ⟨⟨fun e => (by cases e), fun h => absurd h (HNo fun h => by have := h.2.2.2.2.2.2.2.2.2.2; rw [HC10.out] at this; cases this)⟩, B0⟩ (by kernel_rfl)⟩ _
    | true =>
      exfalso
      have hx := HC10.out
      rw [show (decide (r.text.size ≤ 512) && charsD r.text) = false by rw [decide_eq_false (show ¬ r.text.size ≤ 512 by omega), Bool.false_and]] at hx
      unfold fitB at hx
      split at hx
      · cases hx
      · have hy := of_decide_eq_true hx
        rw [hy] at hAh
        exact hAh (by decide)
  | true =>
    have hAh := of_decide_eq_true hqh
    refine anyH_take (i := 108) (v := .pointer (some ⟨w.heap.size, 10, none⟩)) rfl (some 115) rfl rNS (by kernel_rfl) (by kernel_rfl) (fun _ _ _ h => by cases h.1) (by kernel_rfl) (fun w0 hw0 => by first | rfl | kernel_rfl) ⟨fr0, fn0⟩ ?_
    simp only [Act.put, List.setIfInBounds_toArray, List.set_cons_zero, List.set_cons_succ]
    refine anyH_take (i := 109) (v := .string r.text) rfl (some 116) rfl rNS (by kernel_rfl) (by kernel_rfl) (fun _ _ _ h => by cases h.1) (by kernel_rfl) (fun w0 hw0 => ex_load rfl rfl (ld9 (rq_box hw0.1).2.2.2.2.2.2.2.2.2.2)) ⟨fr0, fn0⟩ ?_
    simp only [Act.put, List.setIfInBounds_toArray, List.set_cons_zero, List.set_cons_succ]
    refine anyH_one (i := 110) (by kernel_rfl) ?_
    refine op_call rfl (some 117) rfl (by kernel_rfl) #[.string r.text] rfl (by simp [Act.eval]) (fun _ _ => rfl) (chars_bool r.text V0 HF.out.text G0) ?_
    rintro e V1 ⟨rfl, b1⟩
    have fr1 := (b1.block _ (Array.getElem?_eq_some_iff.1 fr0).1).trans fr0
    have fn1 := (b1.block _ (Array.getElem?_eq_some_iff.1 fn0).1).trans fn0
    have B1 := B0.trans (b1.mono B0.size)
    have G1 := G0.below b1
    refine ⟨_, rfl, ⟨fr1, fn1⟩, ?_⟩
    simp only [Act.put, List.setIfInBounds_toArray, List.set_cons_zero, List.set_cons_succ]
    refine anyH_take (i := 111) (v := .bool (charsD r.text)) rfl (some 118) rfl rNS (by kernel_rfl) (by kernel_rfl) (fun _ _ _ h => by cases h.1) (by kernel_rfl) (fun w0 hw0 => Jd.ex_pkT rfl rfl rfl) ⟨fr1, fn1⟩ ?_
    simp only [Act.put, List.setIfInBounds_toArray, List.set_cons_zero, List.set_cons_succ]
    obtain ⟨p10, hp10⟩ : ∃ p, fitB (textB r.verb) (decide (r.text.size ≤ 512) && charsD r.text) (decide (r.text = ⟨#[]⟩)) = p := ⟨_, rfl⟩
    have HC10 := hide hp10
    have hmid : (decide (r.text.size ≤ 512) && charsD r.text) = (charsD r.text) := by
      rw [decide_eq_true (show r.text.size ≤ 512 by omega), Bool.true_and]
    have hp10b : fitB (textB r.verb) (charsD r.text) (decide (r.text = ⟨#[]⟩)) = p10 := by rw [← hp10, hmid]
    have hc := fits_string (textB r.verb) (charsD r.text) r.text V1
    rw [hp10b] at hc
    clear hp10 hp10b hmid
    refine anyH_one (i := 112) (by kernel_rfl) ?_
    refine op_call rfl (some 119) rfl (by kernel_rfl) #[.bool (textB r.verb), .string r.text, .bool (charsD r.text)] rfl (by simp [Act.eval]) (fun _ _ => rfl) (hc) ?_
    rintro e Vx ⟨rfl, hV⟩
    obtain rfl : V1 = Vx := hV.symm
    refine ⟨_, rfl, ⟨fr1, fn1⟩, ?_⟩
    simp only [Act.put, List.setIfInBounds_toArray, List.set_cons_zero, List.set_cons_succ]
    clear hc
    cases p10 with
    | false =>
      refine anyH_take (i := 113) (v := .bool false) rfl (some 120) rfl rNS (by kernel_rfl) (by kernel_rfl) (fun _ _ _ h => by cases h.1) (by kernel_rfl) (fun w0 hw0 => Jd.ex_pkT rfl rfl rfl) ⟨fr1, fn1⟩ ?_
      simp only [Act.put, List.setIfInBounds_toArray, List.set_cons_zero, List.set_cons_succ]
      refine anyH_val (i := 114) (by kernel_rfl) rfl (some 2) rfl (by kernel_rfl) (Jd.ex_anyv rfl rfl) ⟨fr1, fn1⟩ ?_
      simp only [Act.put, List.setIfInBounds_toArray, List.set_cons_zero, List.set_cons_succ]
      exact wpAnyH_done (by kernel_rfl) ⟨rfl, false, fill ⟨⟨fun e => (by cases e), fun h => absurd h (HNo fun h => by have := h.2.2.2.2.2.2.2.2.2.2; rw [HC10.out] at this; cases this)⟩, B1⟩ (by kernel_rfl)⟩ _
    | true =>
      refine anyH_take (i := 113) (v := .bool true) rfl (some 120) rfl rNS (by kernel_rfl) (by kernel_rfl) (fun _ _ _ h => by cases h.1) (by kernel_rfl) (fun w0 hw0 => Jd.ex_pkT rfl rfl rfl) ⟨fr1, fn1⟩ ?_
      simp only [Act.put, List.setIfInBounds_toArray, List.set_cons_zero, List.set_cons_succ]
      refine anyH_val (i := 114) (by kernel_rfl) rfl (some 2) rfl (by kernel_rfl) (Jd.ex_anyv rfl rfl) ⟨fr1, fn1⟩ ?_
      simp only [Act.put, List.setIfInBounds_toArray, List.set_cons_zero, List.set_cons_succ]
      exact wpAnyH_done (by kernel_rfl) ⟨rfl, true, fill ⟨⟨fun _ => HYes ⟨HC0.out, HC1.out, HC2.out, HC3.out, HC4.out, HC5.out, HC6.out, HC7.out, HC8.out, HC9.out, HC10.out⟩, fun _ => rfl⟩, B1⟩ (by kernel_rfl)⟩ _
set_option maxRecDepth 100000 in
set_option maxHeartbeats 4000000 in
theorem rT9 (r : Rq) (w : World) (nb : Nat) (P : Prop) (HNo : ¬ RightRq r → ¬ P) (HYes : RightRq r → P) (HF : Hid (RqFits r)) (V0 : World) (fr0 : V0.heap[w.heap.size]? = some (.cells (rqA r) 26)) (fn0 : V0.heap[nb]? = some (.cells (thA r.verb) 57)) (B0 : Below w.heap.size w V0) (G0 : GlbR V0) (HC0 : Hid (nodeB r.verb = true)) (HC1 : Hid (rnB r = true)) (HC2 : Hid (fitB (itemB r.verb) (Jd.nameOk r.item) (decide (r.item = ⟨#[]⟩)) = true)) (HC3 : Hid (fitB (jidB r.verb) (Jd.addrOk r.jid) (decide (r.jid = ⟨#[]⟩)) = true)) (HC4 : Hid (fitB (roleB r.verb) (decide (1 ≤ r.role) && decide (r.role ≤ 5)) (decide (r.role = 0)) = true)) (HC5 : Hid (fitB (accB r.verb) (decide (r.acc ≤ 2)) (decide (r.acc = 0)) = true)) (HC6 : Hid (fitB (maxB r.verb) (decide (0 ≤ r.max) && decide (r.max ≤ 8)) (decide (r.max = 0)) = true)) (HC7 : Hid (fitB (depthB r.verb) (decide (0 ≤ r.depth) && decide (r.depth ≤ 255)) (decide (r.depth = 0)) = true)) (HC8 : Hid (fitB (parB r.verb) (Jd.nameOk r.parent) (decide (r.parent = ⟨#[]⟩)) = true)) (x : Nat → Value) (listed : Array Bool) (hl : listed = #[true, true, true, true, true, true, true, true, true, true, true, true, true, true, true, true, true, true, true, true, true, true, true, true, true, true, true, true, true, true, true, true, true, true, true, true, true, true, true, true, true, true, true, true, true, true, true, true, true, true, true, true, true, true, true, true, true, true, true, true, true, true, true, true, true, true, true, true, true, true, true, true, true, true, true, true, true, true, true, true, true, true, true, true, true, true, true, true, true, true, true, true, false, false, false, false, false, false, false, false, false, false, false, false, false, false, false, false, false, false, false, false, false, false, false]) : wpAnyH Tryd.prog .any rightOps (RightQ P w) (RightS r w nb) 23 listed { tmps := #[x 0, .pointer (some ⟨w.heap.size, 0, none⟩), x 2, .pointer (some ⟨nb, 0, none⟩), x 4, x 5, x 6, x 7, x 8, x 9, x 10, x 11, x 12, x 13, x 14, x 15, x 16, x 17, x 18, x 19, x 20, x 21, x 22, x 23, x 24, x 25, x 26, x 27, x 28, x 29, x 30, x 31, x 32, x 33, x 34, x 35, x 36, x 37, x 38, x 39, x 40, x 41, x 42, x 43, x 44, x 45, x 46, x 47, x 48, x 49, x 50, x 51, x 52, x 53, x 54, x 55, x 56, x 57, x 58, x 59, x 60, x 61, x 62, x 63, x 64, x 65, x 66, x 67, x 68, x 69, x 70, x 71, x 72, x 73, x 74, x 75, x 76, x 77, x 78, x 79, x 80, x 81, x 82, x 83, x 84, x 85, x 86, x 87, x 88, x 89, x 90, x 91, x 92, x 93, x 94, x 95, x 96, x 97, .bool true, x 99, x 100, x 101, x 102, x 103, x 104, x 105, x 106, x 107, x 108, x 109, x 110, x 111, x 112, x 113, x 114, x 115, x 116, x 117, x 118, x 119, x 120], defers := [] } V0 := by
  subst hl
  refine anyH_take (i := 92) (v := .pointer (some ⟨nb, 8, none⟩)) rfl (some 99) rfl rNS (by kernel_rfl) (by kernel_rfl) (fun _ _ _ h => by cases h.1) (by kernel_rfl) (fun w0 hw0 => by first | rfl | kernel_rfl) ⟨fr0, fn0⟩ ?_
  simp only [Act.put, List.setIfInBounds_toArray, List.set_cons_zero, List.set_cons_succ]
  refine anyH_take (i := 93) (v := .bool (kindB r.verb)) rfl (some 100) rfl rNS (by kernel_rfl) (by kernel_rfl) (fun _ _ _ h => by cases h.1) (by kernel_rfl) (fun w0 hw0 => ex_load rfl rfl (ld4 (th_box hw0.2).2.2.2.2.2.2.2.2.1)) ⟨fr0, fn0⟩ ?_
  simp only [Act.put, List.setIfInBounds_toArray, List.set_cons_zero, List.set_cons_succ]
  refine anyH_take (i := 94) (v := .pointer (some ⟨w.heap.size, 9, none⟩)) rfl (some 101) rfl rNS (by kernel_rfl) (by kernel_rfl) (fun _ _ _ h => by cases h.1) (by kernel_rfl) (fun w0 hw0 => by first | rfl | kernel_rfl) ⟨fr0, fn0⟩ ?_
  simp only [Act.put, List.setIfInBounds_toArray, List.set_cons_zero, List.set_cons_succ]
  refine anyH_take (i := 95) (v := .bool r.coll) rfl (some 102) rfl rNS (by kernel_rfl) (by kernel_rfl) (fun _ _ _ h => by cases h.1) (by kernel_rfl) (fun w0 hw0 => ex_load rfl rfl (ld4 (rq_box hw0.1).2.2.2.2.2.2.2.2.2.1)) ⟨fr0, fn0⟩ ?_
  simp only [Act.put, List.setIfInBounds_toArray, List.set_cons_zero, List.set_cons_succ]
  obtain ⟨p9, hp9⟩ : ∃ p, fitB (kindB r.verb) true (decide (r.coll = false)) = p := ⟨_, rfl⟩
  have HC9 := hide hp9
  have hc := fits_bool (kindB r.verb) true r.coll V0
  rw [hp9] at hc
  clear hp9
  refine anyH_one (i := 96) (by kernel_rfl) ?_
  refine op_call rfl (some 103) rfl (by kernel_rfl) #[.bool (kindB r.verb), .bool r.coll, .bool true] rfl (by simp [Act.eval]) (fun _ _ => rfl) (hc) ?_
  rintro e Vx ⟨rfl, hV⟩
  obtain rfl : V0 = Vx := hV.symm
  refine ⟨_, rfl, ⟨fr0, fn0⟩, ?_⟩
  simp only [Act.put, List.setIfInBounds_toArray, List.set_cons_zero, List.set_cons_succ]
  clear hc
  cases p9 with
  | false =>
    refine anyH_take (i := 97) (v := .bool false) rfl (some 104) rfl rNS (by kernel_rfl) (by kernel_rfl) (fun _ _ _ h => by cases h.1) (by kernel_rfl) (fun w0 hw0 => Jd.ex_pkT rfl rfl rfl) ⟨fr0, fn0⟩ ?_
    simp only [Act.put, List.setIfInBounds_toArray, List.set_cons_zero, List.set_cons_succ]
    refine anyH_take (i := 98) (v := .bool false) rfl (some 105) rfl rNS (by kernel_rfl) (by kernel_rfl) (fun _ _ _ h => by cases h.1) (by kernel_rfl) (fun w0 hw0 => by first | rfl | kernel_rfl) ⟨fr0, fn0⟩ ?_
    simp only [Act.put, List.setIfInBounds_toArray, List.set_cons_zero, List.set_cons_succ]
    exact rF10 r w nb P (HNo fun h => by have := h.2.2.2.2.2.2.2.2.2.1; rw [HC9.out] at this; cases this) V0 fr0 fn0 B0 (fun k => (#[x 0, .pointer (some ⟨w.heap.size, 0, none⟩), x 2, .pointer (some ⟨nb, 0, none⟩), x 4, x 5, x 6, x 7, x 8, x 9, x 10, x 11, x 12, x 13, x 14, x 15, x 16, x 17, x 18, x 19, x 20, x 21, x 22, x 23, x 24, x 25, x 26, x 27, x 28, x 29, x 30, x 31, x 32, x 33, x 34, x 35, x 36, x 37, x 38, x 39, x 40, x 41, x 42, x 43, x 44, x 45, x 46, x 47, x 48, x 49, x 50, x 51, x 52, x 53, x 54, x 55, x 56, x 57, x 58, x 59, x 60, x 61, x 62, x 63, x 64, x 65, x 66, x 67, x 68, x 69, x 70, x 71, x 72, x 73, x 74, x 75, x 76, x 77, x 78, x 79, x 80, x 81, x 82, x 83, x 84, x 85, x 86, x 87, x 88, x 89, x 90, x 91, x 92, x 93, x 94, x 95, x 96, x 97, .bool true, .pointer (some ⟨nb, 8, none⟩), .bool (kindB r.verb), .pointer (some ⟨w.heap.size, 9, none⟩), .bool r.coll, .bool false, .bool false, .bool false, x 106, x 107, x 108, x 109, x 110, x 111, x 112, x 113, x 114, x 115, x 116, x 117, x 118, x 119, x 120] : Array Value)[k]?.getD undef) _ (by kernel_rfl)
  | true =>
    refine anyH_take (i := 97) (v := .bool true) rfl (some 104) rfl rNS (by kernel_rfl) (by kernel_rfl) (fun _ _ _ h => by cases h.1) (by kernel_rfl) (fun w0 hw0 => Jd.ex_pkT rfl rfl rfl) ⟨fr0, fn0⟩ ?_
    simp only [Act.put, List.setIfInBounds_toArray, List.set_cons_zero, List.set_cons_succ]
    refine anyH_take (i := 98) (v := .bool true) rfl (some 105) rfl rNS (by kernel_rfl) (by kernel_rfl) (fun _ _ _ h => by cases h.1) (by kernel_rfl) (fun w0 hw0 => by first | rfl | kernel_rfl) ⟨fr0, fn0⟩ ?_
    simp only [Act.put, List.setIfInBounds_toArray, List.set_cons_zero, List.set_cons_succ]
    exact rT10 r w nb P HNo HYes HF V0 fr0 fn0 B0 G0 HC0 HC1 HC2 HC3 HC4 HC5 HC6 HC7 HC8 HC9 (fun k => (#[x 0, .pointer (some ⟨w.heap.size, 0, none⟩), x 2, .pointer (some ⟨nb, 0, none⟩), x 4, x 5, x 6, x 7, x 8, x 9, x 10, x 11, x 12, x 13, x 14, x 15, x 16, x 17, x 18, x 19, x 20, x 21, x 22, x 23, x 24, x 25, x 26, x 27, x 28, x 29, x 30, x 31, x 32, x 33, x 34, x 35, x 36, x 37, x 38, x 39, x 40, x 41, x 42, x 43, x 44, x 45, x 46, x 47, x 48, x 49, x 50, x 51, x 52, x 53, x 54, x 55, x 56, x 57, x 58, x 59, x 60, x 61, x 62, x 63, x 64, x 65, x 66, x 67, x 68, x 69, x 70, x 71, x 72, x 73, x 74, x 75, x 76, x 77, x 78, x 79, x 80, x 81, x 82, x 83, x 84, x 85, x 86, x 87, x 88, x 89, x 90, x 91, x 92, x 93, x 94, x 95, x 96, x 97, .bool true, .pointer (some ⟨nb, 8, none⟩), .bool (kindB r.verb), .pointer (some ⟨w.heap.size, 9, none⟩), .bool r.coll, .bool true, .bool true, .bool true, x 106, x 107, x 108, x 109, x 110, x 111, x 112, x 113, x 114, x 115, x 116, x 117, x 118, x 119, x 120] : Array Value)[k]?.getD undef) _ (by kernel_rfl)
set_option maxRecDepth 100000 in
set_option maxHeartbeats 4000000 in
theorem rT8 (r : Rq) (w : World) (nb : Nat) (P : Prop) (HNo : ¬ RightRq r → ¬ P) (HYes : RightRq r → P) (HF : Hid (RqFits r)) (V0 : World) (fr0 : V0.heap[w.heap.size]? = some (.cells (rqA r) 26)) (fn0 : V0.heap[nb]? = some (.cells (thA r.verb) 57)) (B0 : Below w.heap.size w V0) (G0 : GlbR V0) (HC0 : Hid (nodeB r.verb = true)) (HC1 : Hid (rnB r = true)) (HC2 : Hid (fitB (itemB r.verb) (Jd.nameOk r.item) (decide (r.item = ⟨#[]⟩)) = true)) (HC3 : Hid (fitB (jidB r.verb) (Jd.addrOk r.jid) (decide (r.jid = ⟨#[]⟩)) = true)) (HC4 : Hid (fitB (roleB r.verb) (decide (1 ≤ r.role) && decide (r.role ≤ 5)) (decide (r.role = 0)) = true)) (HC5 : Hid (fitB (accB r.verb) (decide (r.acc ≤ 2)) (decide (r.acc = 0)) = true)) (HC6 : Hid (fitB (maxB r.verb) (decide (0 ≤ r.max) && decide (r.max ≤ 8)) (decide (r.max = 0)) = true)) (HC7 : Hid (fitB (depthB r.verb) (decide (0 ≤ r.depth) && decide (r.depth ≤ 255)) (decide (r.depth = 0)) = true)) (x : Nat → Value) (listed : Array Bool) (hl : listed = #[true, true, true, true, true, true, true, true, true, true, true, true, true, true, true, true, true, true, true, true, true, true, true, true, true, true, true, true, true, true, true, true, true, true, true, true, true, true, true, true, true, true, true, true, true, true, true, true, true, true, true, true, true, true, true, true, true, true, true, true, true, true, true, true, true, true, true, true, true, true, true, true, true, true, true, true, true, true, true, true, true, true, false, false, false, false, false, false, false, false, false, false, false, false, false, false, false, false, false, false, false, false, false, false, false, false, false, false, false, false, false, false, false, false, false]) : wpAnyH Tryd.prog .any rightOps (RightQ P w) (RightS r w nb) 33 listed { tmps := #[x 0, .pointer (some ⟨w.heap.size, 0, none⟩), x 2, .pointer (some ⟨nb, 0, none⟩), x 4, x 5, x 6, x 7, x 8, x 9, x 10, x 11, x 12, x 13, x 14, x 15, x 16, x 17, x 18, x 19, x 20, x 21, x 22, x 23, x 24, x 25, x 26, x 27, x 28, x 29, x 30, x 31, x 32, x 33, x 34, x 35, x 36, x 37, x 38, x 39, x 40, x 41, x 42, x 43, x 44, x 45, x 46, x 47, x 48, x 49, x 50, x 51, x 52, x 53, x 54, x 55, x 56, x 57, x 58, x 59, x 60, x 61, x 62, x 63, x 64, x 65, x 66, x 67, x 68, x 69, x 70, x 71, x 72, x 73, x 74, x 75, x 76, x 77, x 78, x 79, x 80, x 81, x 82, x 83, x 84, x 85, x 86, x 87, .bool true, x 89, x 90, x 91, x 92, x 93, x 94, x 95, x 96, x 97, x 98, x 99, x 100, x 101, x 102, x 103, x 104, x 105, x 106, x 107, x 108, x 109, x 110, x 111, x 112, x 113, x 114, x 115, x 116, x 117, x 118, x 119, x 120], defers := [] } V0 := by
  subst hl
  refine anyH_take (i := 82) (v := .pointer (some ⟨nb, 7, none⟩)) rfl (some 89) rfl rNS (by kernel_rfl) (by kernel_rfl) (fun _ _ _ h => by cases h.1) (by kernel_rfl) (fun w0 hw0 => by first | rfl | kernel_rfl) ⟨fr0, fn0⟩ ?_
  simp only [Act.put, List.setIfInBounds_toArray, List.set_cons_zero, List.set_cons_succ]
  refine anyH_take (i := 83) (v := .bool (parB r.verb)) rfl (some 90) rfl rNS (by kernel_rfl) (by kernel_rfl) (fun _ _ _ h => by cases h.1) (by kernel_rfl) (fun w0 hw0 => ex_load rfl rfl (ld4 (th_box hw0.2).2.2.2.2.2.2.2.1)) ⟨fr0, fn0⟩ ?_
  simp only [Act.put, List.setIfInBounds_toArray, List.set_cons_zero, List.set_cons_succ]
  refine anyH_take (i := 84) (v := .pointer (some ⟨w.heap.size, 8, none⟩)) rfl (some 91) rfl rNS (by kernel_rfl) (by kernel_rfl) (fun _ _ _ h => by cases h.1) (by kernel_rfl) (fun w0 hw0 => by first | rfl | kernel_rfl) ⟨fr0, fn0⟩ ?_
  simp only [Act.put, List.setIfInBounds_toArray, List.set_cons_zero, List.set_cons_succ]
  refine anyH_take (i := 85) (v := .string r.parent) rfl (some 92) rfl rNS (by kernel_rfl) (by kernel_rfl) (fun _ _ _ h => by cases h.1) (by kernel_rfl) (fun w0 hw0 => ex_load rfl rfl (ld9 (rq_box hw0.1).2.2.2.2.2.2.2.2.1)) ⟨fr0, fn0⟩ ?_
  simp only [Act.put, List.setIfInBounds_toArray, List.set_cons_zero, List.set_cons_succ]
  refine anyH_take (i := 86) (v := .pointer (some ⟨w.heap.size, 8, none⟩)) rfl (some 93) rfl rNS (by kernel_rfl) (by kernel_rfl) (fun _ _ _ h => by cases h.1) (by kernel_rfl) (fun w0 hw0 => by first | rfl | kernel_rfl) ⟨fr0, fn0⟩ ?_
  simp only [Act.put, List.setIfInBounds_toArray, List.set_cons_zero, List.set_cons_succ]
  refine anyH_take (i := 87) (v := .string r.parent) rfl (some 94) rfl rNS (by kernel_rfl) (by kernel_rfl) (fun _ _ _ h => by cases h.1) (by kernel_rfl) (fun w0 hw0 => ex_load rfl rfl (ld9 (rq_box hw0.1).2.2.2.2.2.2.2.2.1)) ⟨fr0, fn0⟩ ?_
  simp only [Act.put, List.setIfInBounds_toArray, List.set_cons_zero, List.set_cons_succ]
  refine anyH_one (i := 88) (by kernel_rfl) ?_
  refine op_call rfl (some 95) rfl (by kernel_rfl) #[.string r.parent] rfl (by simp [Act.eval]) (fun _ _ => rfl) (Jd.name_any r.parent V0 HF.out.parent) ?_
  rintro e Vx ⟨rfl, hV⟩
  obtain rfl : V0 = Vx := hV.symm
  refine ⟨_, rfl, ⟨fr0, fn0⟩, ?_⟩
  simp only [Act.put, List.setIfInBounds_toArray, List.set_cons_zero, List.set_cons_succ]
  obtain ⟨p8, hp8⟩ : ∃ p, fitB (parB r.verb) (Jd.nameOk r.parent) (decide (r.parent = ⟨#[]⟩)) = p := ⟨_, rfl⟩
  have HC8 := hide hp8
  have hc := fits_string (parB r.verb) (Jd.nameOk r.parent) r.parent V0
  rw [hp8] at hc
  clear hp8
  refine anyH_one (i := 89) (by kernel_rfl) ?_
  refine op_call rfl (some 96) rfl (by kernel_rfl) #[.bool (parB r.verb), .string r.parent, .bool (Jd.nameOk r.parent)] rfl (by simp [Act.eval]) (fun _ _ => rfl) (hc) ?_
  rintro e Vx ⟨rfl, hV⟩
  obtain rfl : V0 = Vx := hV.symm
  refine ⟨_, rfl, ⟨fr0, fn0⟩, ?_⟩
  simp only [Act.put, List.setIfInBounds_toArray, List.set_cons_zero, List.set_cons_succ]
  clear hc
  cases p8 with
  | false =>
    refine anyH_take (i := 90) (v := .bool false) rfl (some 97) rfl rNS (by kernel_rfl) (by kernel_rfl) (fun _ _ _ h => by cases h.1) (by kernel_rfl) (fun w0 hw0 => Jd.ex_pkT rfl rfl rfl) ⟨fr0, fn0⟩ ?_
    simp only [Act.put, List.setIfInBounds_toArray, List.set_cons_zero, List.set_cons_succ]
    refine anyH_take (i := 91) (v := .bool false) rfl (some 98) rfl rNS (by kernel_rfl) (by kernel_rfl) (fun _ _ _ h => by cases h.1) (by kernel_rfl) (fun w0 hw0 => by first | rfl | kernel_rfl) ⟨fr0, fn0⟩ ?_
    simp only [Act.put, List.setIfInBounds_toArray, List.set_cons_zero, List.set_cons_succ]
    exact rF9 r w nb P (HNo fun h => by have := h.2.2.2.2.2.2.2.2.1; rw [HC8.out] at this; cases this) V0 fr0 fn0 B0 (fun k => (#[x 0, .pointer (some ⟨w.heap.size, 0, none⟩), x 2, .pointer (some ⟨nb, 0, none⟩), x 4, x 5, x 6, x 7, x 8, x 9, x 10, x 11, x 12, x 13, x 14, x 15, x 16, x 17, x 18, x 19, x 20, x 21, x 22, x 23, x 24, x 25, x 26, x 27, x 28, x 29, x 30, x 31, x 32, x 33, x 34, x 35, x 36, x 37, x 38, x 39, x 40, x 41, x 42, x 43, x 44, x 45, x 46, x 47, x 48, x 49, x 50, x 51, x 52, x 53, x 54, x 55, x 56, x 57, x 58, x 59, x 60, x 61, x 62, x 63, x 64, x 65, x 66, x 67, x 68, x 69, x 70, x 71, x 72, x 73, x 74, x 75, x 76, x 77, x 78, x 79, x 80, x 81, x 82, x 83, x 84, x 85, x 86, x 87, .bool true, .pointer (some ⟨nb, 7, none⟩), .bool (parB r.verb), .pointer (some ⟨w.heap.size, 8, none⟩), .string r.parent, .pointer (some ⟨w.heap.size, 8, none⟩), .string r.parent, .bool (Jd.nameOk r.parent), .bool false, .bool false, .bool false, x 99, x 100, x 101, x 102, x 103, x 104, x 105, x 106, x 107, x 108, x 109, x 110, x 111, x 112, x 113, x 114, x 115, x 116, x 117, x 118, x 119, x 120] : Array Value)[k]?.getD undef) _ (by kernel_rfl)
  | true =>
    refine anyH_take (i := 90) (v := .bool true) rfl (some 97) rfl rNS (by kernel_rfl) (by kernel_rfl) (fun _ _ _ h => by cases h.1) (by kernel_rfl) (fun w0 hw0 => Jd.ex_pkT rfl rfl rfl) ⟨fr0, fn0⟩ ?_
    simp only [Act.put, List.setIfInBounds_toArray, List.set_cons_zero, List.set_cons_succ]
    refine anyH_take (i := 91) (v := .bool true) rfl (some 98) rfl rNS (by kernel_rfl) (by kernel_rfl) (fun _ _ _ h => by cases h.1) (by kernel_rfl) (fun w0 hw0 => by first | rfl | kernel_rfl) ⟨fr0, fn0⟩ ?_
    simp only [Act.put, List.setIfInBounds_toArray, List.set_cons_zero, List.set_cons_succ]
    exact rT9 r w nb P HNo HYes HF V0 fr0 fn0 B0 G0 HC0 HC1 HC2 HC3 HC4 HC5 HC6 HC7 HC8 (fun k => (#[x 0, .pointer (some ⟨w.heap.size, 0, none⟩), x 2, .pointer (some ⟨nb, 0, none⟩), x 4, x 5, x 6, x 7, x 8, x 9, x 10, x 11, x 12, x 13, x 14, x 15, x 16, x 17, x 18, x 19, x 20, x 21, x 22, x 23, x 24, x 25, x 26, x 27, x 28, x 29, x 30, x 31, x 32, x 33, x 34, x 35, x 36, x 37, x 38, x 39, x 40, x 41, x 42, x 43, x 44, x 45, x 46, x 47, x 48, x 49, x 50, x 51, x 52, x 53, x 54, x 55, x 56, x 57, x 58, x 59, x 60, x 61, x 62, x 63, x 64, x 65, x 66, x 67, x 68, x 69, x 70, x 71, x 72, x 73, x 74, x 75, x 76, x 77, x 78, x 79, x 80, x 81, x 82, x 83, x 84, x 85, x 86, x 87, .bool true, .pointer (some ⟨nb, 7, none⟩), .bool (parB r.verb), .pointer (some ⟨w.heap.size, 8, none⟩), .string r.parent, .pointer (some ⟨w.heap.size, 8, none⟩), .string r.parent, .bool (Jd.nameOk r.parent), .bool true, .bool true, .bool true, x 99, x 100, x 101, x 102, x 103, x 104, x 105, x 106, x 107, x 108, x 109, x 110, x 111, x 112, x 113, x 114, x 115, x 116, x 117, x 118, x 119, x 120] : Array Value)[k]?.getD undef) _ (by kernel_rfl)
set_option maxRecDepth 100000 in
set_option maxHeartbeats 4000000 in
theorem rT7 (r : Rq) (w : World) (nb : Nat) (P : Prop) (HNo : ¬ RightRq r → ¬ P) (HYes : RightRq r → P) (HF : Hid (RqFits r)) (V0 : World) (fr0 : V0.heap[w.heap.size]? = some (.cells (rqA r) 26)) (fn0 : V0.heap[nb]? = some (.cells (thA r.verb) 57)) (B0 : Below w.heap.size w V0) (G0 : GlbR V0) (HC0 : Hid (nodeB r.verb = true)) (HC1 : Hid (rnB r = true)) (HC2 : Hid (fitB (itemB r.verb) (Jd.nameOk r.item) (decide (r.item = ⟨#[]⟩)) = true)) (HC3 : Hid (fitB (jidB r.verb) (Jd.addrOk r.jid) (decide (r.jid = ⟨#[]⟩)) = true)) (HC4 : Hid (fitB (roleB r.verb) (decide (1 ≤ r.role) && decide (r.role ≤ 5)) (decide (r.role = 0)) = true)) (HC5 : Hid (fitB (accB r.verb) (decide (r.acc ≤ 2)) (decide (r.acc = 0)) = true)) (HC6 : Hid (fitB (maxB r.verb) (decide (0 ≤ r.max) && decide (r.max ≤ 8)) (decide (r.max = 0)) = true)) (x : Nat → Value) (listed : Array Bool) (hl : listed = #[true, true, true, true, true, true, true, true, true, true, true, true, true, true, true, true, true, true, true, true, true, true, true, true, true, true, true, true, true, true, true, true, true, true, true, true, true, true, true, true, true, true, true, true, true, true, true, true, true, true, true, true, true, true, true, true, true, true, true, true, true, true, true, true, true, true, true, false, false, false, false, false, false, false, false, false, false, false, false, false, false, false, false, false, false, false, false, false, false, false, false, false, false, false, false, false, false, false, false, false, false, false, false, false, false, false, false, false, false, false, false, false, false, false, false]) : wpAnyH Tryd.prog .any rightOps (RightQ P w) (RightS r w nb) 48 listed { tmps := #[x 0, .pointer (some ⟨w.heap.size, 0, none⟩), x 2, .pointer (some ⟨nb, 0, none⟩), x 4, x 5, x 6, x 7, x 8, x 9, x 10, x 11, x 12, x 13, x 14, x 15, x 16, x 17, x 18, x 19, x 20, x 21, x 22, x 23, x 24, x 25, x 26, x 27, x 28, x 29, x 30, x 31, x 32, x 33, x 34, x 35, x 36, x 37, x 38, x 39, x 40, x 41, x 42, x 43, x 44, x 45, x 46, x 47, x 48, x 49, x 50, x 51, x 52, x 53, x 54, x 55, x 56, x 57, x 58, x 59, x 60, x 61, x 62, x 63, x 64, x 65, x 66, x 67, x 68, x 69, x 70, x 71, x 72, .bool true, x 74, x 75, x 76, x 77, x 78, x 79, x 80, x 81, x 82, x 83, x 84, x 85, x 86, x 87, x 88, x 89, x 90, x 91, x 92, x 93, x 94, x 95, x 96, x 97, x 98, x 99, x 100, x 101, x 102, x 103, x 104, x 105, x 106, x 107, x 108, x 109, x 110, x 111, x 112, x 113, x 114, x 115, x 116, x 117, x 118, x 119, x 120], defers := [] } V0 := by
  subst hl
  obtain ⟨qf, hqf⟩ : ∃ q, decide (0 ≤ r.depth) = q := ⟨_, rfl⟩
  obtain ⟨qg, hqg⟩ : ∃ q, decide (r.depth ≤ 255) = q := ⟨_, rfl⟩
  refine anyH_take (i := 67) (v := .pointer (some ⟨nb, 6, none⟩)) rfl (some 74) rfl rNS (by kernel_rfl) (by kernel_rfl) (fun _ _ _ h => by cases h.1) (by kernel_rfl) (fun w0 hw0 => by first | rfl | kernel_rfl) ⟨fr0, fn0⟩ ?_
  simp only [Act.put, List.setIfInBounds_toArray, List.set_cons_zero, List.set_cons_succ]
  refine anyH_take (i := 68) (v := .bool (depthB r.verb)) rfl (some 75) rfl rNS (by kernel_rfl) (by kernel_rfl) (fun _ _ _ h => by cases h.1) (by kernel_rfl) (fun w0 hw0 => ex_load rfl rfl (ld4 (th_box hw0.2).2.2.2.2.2.2.1)) ⟨fr0, fn0⟩ ?_
  simp only [Act.put, List.setIfInBounds_toArray, List.set_cons_zero, List.set_cons_succ]
  refine anyH_take (i := 69) (v := .pointer (some ⟨w.heap.size, 7, none⟩)) rfl (some 76) rfl rNS (by kernel_rfl) (by kernel_rfl) (fun _ _ _ h => by cases h.1) (by kernel_rfl) (fun w0 hw0 => by first | rfl | kernel_rfl) ⟨fr0, fn0⟩ ?_
  simp only [Act.put, List.setIfInBounds_toArray, List.set_cons_zero, List.set_cons_succ]
  refine anyH_take (i := 70) (v := .int .i64 r.depth) rfl (some 77) rfl rNS (by kernel_rfl) (by kernel_rfl) (fun _ _ _ h => by cases h.1) (by kernel_rfl) (fun w0 hw0 => ex_load rfl rfl (ld3 (rq_box hw0.1).2.2.2.2.2.2.2.1)) ⟨fr0, fn0⟩ ?_
  simp only [Act.put, List.setIfInBounds_toArray, List.set_cons_zero, List.set_cons_succ]
  refine anyH_take (i := 71) (v := .pointer (some ⟨w.heap.size, 7, none⟩)) rfl (some 78) rfl rNS (by kernel_rfl) (by kernel_rfl) (fun _ _ _ h => by cases h.1) (by kernel_rfl) (fun w0 hw0 => by first | rfl | kernel_rfl) ⟨fr0, fn0⟩ ?_
  simp only [Act.put, List.setIfInBounds_toArray, List.set_cons_zero, List.set_cons_succ]
  refine anyH_take (i := 72) (v := .int .i64 r.depth) rfl (some 79) rfl rNS (by kernel_rfl) (by kernel_rfl) (fun _ _ _ h => by cases h.1) (by kernel_rfl) (fun w0 hw0 => ex_load rfl rfl (ld3 (rq_box hw0.1).2.2.2.2.2.2.2.1)) ⟨fr0, fn0⟩ ?_
  simp only [Act.put, List.setIfInBounds_toArray, List.set_cons_zero, List.set_cons_succ]
  refine anyH_take (i := 73) (v := .bool qf) rfl (some 80) rfl rNS (by kernel_rfl) (by kernel_rfl) (fun _ _ _ h => by cases h.1) (by kernel_rfl) (fun w0 hw0 => ex_leqI rfl rfl rfl hqf) ⟨fr0, fn0⟩ ?_
  simp only [Act.put, List.setIfInBounds_toArray, List.set_cons_zero, List.set_cons_succ]
  refine anyH_take (i := 74) (v := .bool qf) rfl (some 81) rfl rNS (by kernel_rfl) (by kernel_rfl) (fun _ _ _ h => by cases h.1) (by kernel_rfl) (fun w0 hw0 => by first | rfl | kernel_rfl) ⟨fr0, fn0⟩ ?_
  simp only [Act.put, List.setIfInBounds_toArray, List.set_cons_zero, List.set_cons_succ]
  cases qf with
  | false =>
    have hAf := of_decide_eq_false hqf
    refine anyH_off (i := 75) rfl (some 82) rfl rNS (by kernel_rfl) (by kernel_rfl) (fun _ _ _ h => by cases h.1) (by kernel_rfl) ⟨fr0, fn0⟩ ?_
    simp only [Act.put, List.setIfInBounds_toArray, List.set_cons_zero, List.set_cons_succ]
    refine anyH_off (i := 76) rfl (some 83) rfl rNS (by kernel_rfl) (by kernel_rfl) (fun _ _ _ h => by cases h.1) (by kernel_rfl) ⟨fr0, fn0⟩ ?_
    simp only [Act.put, List.setIfInBounds_toArray, List.set_cons_zero, List.set_cons_succ]
    refine anyH_off (i := 77) rfl (some 84) rfl rNS (by kernel_rfl) (by kernel_rfl) (fun _ _ _ h => by cases h.1) (by kernel_rfl) ⟨fr0, fn0⟩ ?_
    simp only [Act.put, List.setIfInBounds_toArray, List.set_cons_zero, List.set_cons_succ]
    refine anyH_take (i := 78) (v := .bool false) rfl (some 85) rfl rNS (by kernel_rfl) (by kernel_rfl) (fun _ _ _ h => by cases h.1) (by kernel_rfl) (fun w0 hw0 => Jd.ex_pkF rfl rfl rfl) ⟨fr0, fn0⟩ ?_
    simp only [Act.put, List.setIfInBounds_toArray, List.set_cons_zero, List.set_cons_succ]
    obtain ⟨p7, hp7⟩ : ∃ p, fitB (depthB r.verb) (decide (0 ≤ r.depth) && decide (r.depth ≤ 255)) (decide (r.depth = 0)) = p := ⟨_, rfl⟩
    have HC7 := hide hp7
    have hmid : (decide (0 ≤ r.depth) && decide (r.depth ≤ 255)) = false := by
      rw [decide_eq_false (show ¬ (0 ≤ r.depth) by omega), Bool.false_and]
    have hp7b : fitB (depthB r.verb) false (decide (r.depth = 0)) = p7 := by rw [← hp7, hmid]
    have hc := fits_int (depthB r.verb) false r.depth V0
    rw [hp7b] at hc
    clear hp7 hp7b hmid
    refine anyH_one (i := 79) (by kernel_rfl) ?_
    refine op_call rfl (some 86) rfl (by kernel_rfl) #[.bool (depthB r.verb), .int .i64 r.depth, .bool false] rfl (by simp [Act.eval]) (fun _ _ => rfl) (hc) ?_
    rintro e Vx ⟨rfl, hV⟩
    obtain rfl : V0 = Vx := hV.symm
    refine ⟨_, rfl, ⟨fr0, fn0⟩, ?_⟩
    simp only [Act.put, List.setIfInBounds_toArray, List.set_cons_zero, List.set_cons_succ]
    clear hc
    cases p7 with
    | false =>
      refine anyH_take (i := 80) (v := .bool false) rfl (some 87) rfl rNS (by kernel_rfl) (by kernel_rfl) (fun _ _ _ h => by cases h.1) (by kernel_rfl) (fun w0 hw0 => Jd.ex_pkT rfl rfl rfl) ⟨fr0, fn0⟩ ?_
      simp only [Act.put, List.setIfInBounds_toArray, List.set_cons_zero, List.set_cons_succ]
      refine anyH_take (i := 81) (v := .bool false) rfl (some 88) rfl rNS (by kernel_rfl) (by kernel_rfl) (fun _ _ _ h => by cases h.1) (by kernel_rfl) (fun w0 hw0 => by first | rfl | kernel_rfl) ⟨fr0, fn0⟩ ?_
      simp only [Act.put, List.setIfInBounds_toArray, List.set_cons_zero, List.set_cons_succ]
      exact rF8 r w nb P (HNo fun h => by have := h.2.2.2.2.2.2.2.1; rw [HC7.out] at this; cases this) V0 fr0 fn0 B0 (fun k => (#[x 0, .pointer (some ⟨w.heap.size, 0, none⟩), x 2, .pointer (some ⟨nb, 0, none⟩), x 4, x 5, x 6, x 7, x 8, x 9, x 10, x 11, x 12, x 13, x 14, x 15, x 16, x 17, x 18, x 19, x 20, x 21, x 22, x 23, x 24, x 25, x 26, x 27, x 28, x 29, x 30, x 31, x 32, x 33, x 34, x 35, x 36, x 37, x 38, x 39, x 40, x 41, x 42, x 43, x 44, x 45, x 46, x 47, x 48, x 49, x 50, x 51, x 52, x 53, x 54, x 55, x 56, x 57, x 58, x 59, x 60, x 61, x 62, x 63, x 64, x 65, x 66, x 67, x 68, x 69, x 70, x 71, x 72, .bool true, .pointer (some ⟨nb, 6, none⟩), .bool (depthB r.verb), .pointer (some ⟨w.heap.size, 7, none⟩), .int .i64 r.depth, .pointer (some ⟨w.heap.size, 7, none⟩), .int .i64 r.depth, .bool false, .bool false, undef, undef, undef, .bool false, .bool false, .bool false, .bool false, x 89, x 90, x 91, x 92, x 93, x 94, x 95, x 96, x 97, x 98, x 99, x 100, x 101, x 102, x 103, x 104, x 105, x 106, x 107, x 108, x 109, x 110, x 111, x 112, x 113, x 114, x 115, x 116, x 117, x 118, x 119, x 120] : Array Value)[k]?.getD undef) _ (by kernel_rfl)
    | true =>
      exfalso
      have hx := HC7.out
      rw [show (decide (0 ≤ r.depth) && decide (r.depth ≤ 255)) = false by rw [decide_eq_false (show ¬ (0 ≤ r.depth) by omega), Bool.false_and]] at hx
      unfold fitB at hx
      split at hx
      · cases hx
      · have hy := of_decide_eq_true hx
        omega
  | true =>
    have hAf := of_decide_eq_true hqf
    refine anyH_take (i := 75) (v := .pointer (some ⟨w.heap.size, 7, none⟩)) rfl (some 82) rfl rNS (by kernel_rfl) (by kernel_rfl) (fun _ _ _ h => by cases h.1) (by kernel_rfl) (fun w0 hw0 => by first | rfl | kernel_rfl) ⟨fr0, fn0⟩ ?_
    simp only [Act.put, List.setIfInBounds_toArray, List.set_cons_zero, List.set_cons_succ]
    refine anyH_take (i := 76) (v := .int .i64 r.depth) rfl (some 83) rfl rNS (by kernel_rfl) (by kernel_rfl) (fun _ _ _ h => by cases h.1) (by kernel_rfl) (fun w0 hw0 => ex_load rfl rfl (ld3 (rq_box hw0.1).2.2.2.2.2.2.2.1)) ⟨fr0, fn0⟩ ?_
    simp only [Act.put, List.setIfInBounds_toArray, List.set_cons_zero, List.set_cons_succ]
    refine anyH_take (i := 77) (v := .bool qg) rfl (some 84) rfl rNS (by kernel_rfl) (by kernel_rfl) (fun _ _ _ h => by cases h.1) (by kernel_rfl) (fun w0 hw0 => ex_leqI rfl rfl rfl hqg) ⟨fr0, fn0⟩ ?_
    simp only [Act.put, List.setIfInBounds_toArray, List.set_cons_zero, List.set_cons_succ]
    cases qg with
    | false =>
      have hAg := of_decide_eq_false hqg
      refine anyH_take (i := 78) (v := .bool false) rfl (some 85) rfl rNS (by kernel_rfl) (by kernel_rfl) (fun _ _ _ h => by cases h.1) (by kernel_rfl) (fun w0 hw0 => Jd.ex_pkT rfl rfl rfl) ⟨fr0, fn0⟩ ?_
      simp only [Act.put, List.setIfInBounds_toArray, List.set_cons_zero, List.set_cons_succ]
      obtain ⟨p7, hp7⟩ : ∃ p, fitB (depthB r.verb) (decide (0 ≤ r.depth) && decide (r.depth ≤ 255)) (decide (r.depth = 0)) = p := ⟨_, rfl⟩
      have HC7 := hide hp7
      have hmid : (decide (0 ≤ r.depth) && decide (r.depth ≤ 255)) = false := by
        rw [decide_eq_false (show ¬ (r.depth ≤ 255) by omega), Bool.and_false]
      have hp7b : fitB (depthB r.verb) false (decide (r.depth = 0)) = p7 := by rw [← hp7, hmid]
      have hc := fits_int (depthB r.verb) false r.depth V0
      rw [hp7b] at hc
      clear hp7 hp7b hmid
      refine anyH_one (i := 79) (by kernel_rfl) ?_
      refine op_call rfl (some 86) rfl (by kernel_rfl) #[.bool (depthB r.verb), .int .i64 r.depth, .bool false] rfl (by simp [Act.eval]) (fun _ _ => rfl) (hc) ?_
      rintro e Vx ⟨rfl, hV⟩
      obtain rfl : V0 = Vx := hV.symm
      refine ⟨_, rfl, ⟨fr0, fn0⟩, ?_⟩
      simp only [Act.put, List.setIfInBounds_toArray, List.set_cons_zero, List.set_cons_succ]
      clear hc
      cases p7 with
      | false =>
        refine anyH_take (i := 80) (v := .bool false) rfl (some 87) rfl rNS (by kernel_rfl) (by kernel_rfl) (fun _ _ _ h => by cases h.1) (by kernel_rfl) (fun w0 hw0 => Jd.ex_pkT rfl rfl rfl) ⟨fr0, fn0⟩ ?_
        simp only [Act.put, List.setIfInBounds_toArray, List.set_cons_zero, List.set_cons_succ]
        refine anyH_take (i := 81) (v := .bool false) rfl (some 88) rfl rNS (by kernel_rfl) (by kernel_rfl) (fun _ _ _ h => by cases h.1) (by kernel_rfl) (fun w0 hw0 => by first | rfl | kernel_rfl) ⟨fr0, fn0⟩ ?_
        simp only [Act.put, List.setIfInBounds_toArray, List.set_cons_zero, List.set_cons_succ]
        exact rF8 r w nb P (HNo fun h => by have := h.2.2.2.2.2.2.2.1; rw [HC7.out] at this; cases this) V0 fr0 fn0 B0 (fun k => (#[x 0, .pointer (some ⟨w.heap.size, 0, none⟩), x 2, .pointer (some ⟨nb, 0, none⟩), x 4, x 5, x 6, x 7, x 8, x 9, x 10, x 11, x 12, x 13, x 14, x 15, x 16, x 17, x 18, x 19, x 20, x 21, x 22, x 23, x 24, x 25, x 26, x 27, x 28, x 29, x 30, x 31, x 32, x 33, x 34, x 35, x 36, x 37, x 38, x 39, x 40, x 41, x 42, x 43, x 44, x 45, x 46, x 47, x 48, x 49, x 50, x 51, x 52, x 53, x 54, x 55, x 56, x 57, x 58, x 59, x 60, x 61, x 62, x 63, x 64, x 65, x 66, x 67, x 68, x 69, x 70, x 71, x 72, .bool true, .pointer (some ⟨nb, 6, none⟩), .bool (depthB r.verb), .pointer (some ⟨w.heap.size, 7, none⟩), .int .i64 r.depth, .pointer (some ⟨w.heap.size, 7, none⟩), .int .i64 r.depth, .bool true, .bool true, .pointer (some ⟨w.heap.size, 7, none⟩), .int .i64 r.depth, .bool false, .bool false, .bool false, .bool false, .bool false, x 89, x 90, x 91, x 92, x 93, x 94, x 95, x 96, x 97, x 98, x 99, x 100, x 101, x 102, x 103, x 104, x 105, x 106, x 107, x 108, x 109, x 110, x 111, x 112, x 113, x 114, x 115, x 116, x 117, x 118, x 119, x 120] : Array Value)[k]?.getD undef) _ (by kernel_rfl)
      | true =>
        exfalso
        have hx := HC7.out
        rw [show (decide (0 ≤ r.depth) && decide (r.depth ≤ 255)) = false by rw [decide_eq_false (show ¬ (r.depth ≤ 255) by omega), Bool.and_false]] at hx
        unfold fitB at hx
        split at hx
        · cases hx
        · have hy := of_decide_eq_true hx
          omega
    | true =>
      have hAg := of_decide_eq_true hqg
      refine anyH_take (i := 78) (v := .bool true) rfl (some 85) rfl rNS (by kernel_rfl) (by kernel_rfl) (fun _ _ _ h => by cases h.1) (by kernel_rfl) (fun w0 hw0 => Jd.ex_pkT rfl rfl rfl) ⟨fr0, fn0⟩ ?_
      simp only [Act.put, List.setIfInBounds_toArray, List.set_cons_zero, List.set_cons_succ]
      obtain ⟨p7, hp7⟩ : ∃ p, fitB (depthB r.verb) (decide (0 ≤ r.depth) && decide (r.depth ≤ 255)) (decide (r.depth = 0)) = p := ⟨_, rfl⟩
      have HC7 := hide hp7
      have hmid : (decide (0 ≤ r.depth) && decide (r.depth ≤ 255)) = true := by
        rw [decide_eq_true (show (0 ≤ r.depth) by omega), decide_eq_true (show (r.depth ≤ 255) by omega)]; rfl
      have hp7b : fitB (depthB r.verb) true (decide (r.depth = 0)) = p7 := by rw [← hp7, hmid]
      have hc := fits_int (depthB r.verb) true r.depth V0
      rw [hp7b] at hc
      clear hp7 hp7b hmid
      refine anyH_one (i := 79) (by kernel_rfl) ?_
      refine op_call rfl (some 86) rfl (by kernel_rfl) #[.bool (depthB r.verb), .int .i64 r.depth, .bool true] rfl (by simp [Act.eval]) (fun _ _ => rfl) (hc) ?_
      rintro e Vx ⟨rfl, hV⟩
      obtain rfl : V0 = Vx := hV.symm
      refine ⟨_, rfl, ⟨fr0, fn0⟩, ?_⟩
      simp only [Act.put, List.setIfInBounds_toArray, List.set_cons_zero, List.set_cons_succ]
      clear hc
      cases p7 with
      | false =>
        refine anyH_take (i := 80) (v := .bool false) rfl (some 87) rfl rNS (by kernel_rfl) (by kernel_rfl) (fun _ _ _ h => by cases h.1) (by kernel_rfl) (fun w0 hw0 => Jd.ex_pkT rfl rfl rfl) ⟨fr0, fn0⟩ ?_
        simp only [Act.put, List.setIfInBounds_toArray, List.set_cons_zero, List.set_cons_succ]
        refine anyH_take (i := 81) (v := .bool false) rfl (some 88) rfl rNS (by kernel_rfl) (by kernel_rfl) (fun _ _ _ h => by cases h.1) (by kernel_rfl) (fun w0 hw0 => by first | rfl | kernel_rfl) ⟨fr0, fn0⟩ ?_
        simp only [Act.put, List.setIfInBounds_toArray, List.set_cons_zero, List.set_cons_succ]
        exact rF8 r w nb P (HNo fun h => by have := h.2.2.2.2.2.2.2.1; rw [HC7.out] at this; cases this) V0 fr0 fn0 B0 (fun k => (#[x 0, .pointer (some ⟨w.heap.size, 0, none⟩), x 2, .pointer (some ⟨nb, 0, none⟩), x 4, x 5, x 6, x 7, x 8, x 9, x 10, x 11, x 12, x 13, x 14, x 15, x 16, x 17, x 18, x 19, x 20, x 21, x 22, x 23, x 24, x 25, x 26, x 27, x 28, x 29, x 30, x 31, x 32, x 33, x 34, x 35, x 36, x 37, x 38, x 39, x 40, x 41, x 42, x 43, x 44, x 45, x 46, x 47, x 48, x 49, x 50, x 51, x 52, x 53, x 54, x 55, x 56, x 57, x 58, x 59, x 60, x 61, x 62, x 63, x 64, x 65, x 66, x 67, x 68, x 69, x 70, x 71, x 72, .bool true, .pointer (some ⟨nb, 6, none⟩), .bool (depthB r.verb), .pointer (some ⟨w.heap.size, 7, none⟩), .int .i64 r.depth, .pointer (some ⟨w.heap.size, 7, none⟩), .int .i64 r.depth, .bool true, .bool true, .pointer (some ⟨w.heap.size, 7, none⟩), .int .i64 r.depth, .bool true, .bool true, .bool false, .bool false, .bool false, x 89, x 90, x 91, x 92, x 93, x 94, x 95, x 96, x 97, x 98, x 99, x 100, x 101, x 102, x 103, x 104, x 105, x 106, x 107, x 108, x 109, x 110, x 111, x 112, x 113, x 114, x 115, x 116, x 117, x 118, x 119, x 120] : Array Value)[k]?.getD undef) _ (by kernel_rfl)
      | true =>
        refine anyH_take (i := 80) (v := .bool true) rfl (some 87) rfl rNS (by kernel_rfl) (by kernel_rfl) (fun _ _ _ h => by cases h.1) (by kernel_rfl) (fun w0 hw0 => Jd.ex_pkT rfl rfl rfl) ⟨fr0, fn0⟩ ?_
        simp only [Act.put, List.setIfInBounds_toArray, List.set_cons_zero, List.set_cons_succ]
        refine anyH_take (i := 81) (v := .bool true) rfl (some 88) rfl rNS (by kernel_rfl) (by kernel_rfl) (fun _ _ _ h => by cases h.1) (by kernel_rfl) (fun w0 hw0 => by first | rfl | kernel_rfl) ⟨fr0, fn0⟩ ?_
        simp only [Act.put, List.setIfInBounds_toArray, List.set_cons_zero, List.set_cons_succ]
        exact rT8 r w nb P HNo HYes HF V0 fr0 fn0 B0 G0 HC0 HC1 HC2 HC3 HC4 HC5 HC6 HC7 (fun k => (#[x 0, .pointer (some ⟨w.heap.size, 0, none⟩), x 2, .pointer (some ⟨nb, 0, none⟩), x 4, x 5, x 6, x 7, x 8, x 9, x 10, x 11, x 12, x 13, x 14, x 15, x 16, x 17, x 18, x 19, x 20, x 21, x 22, x 23, x 24, x 25, x 26, x 27, x 28, x 29, x 30, x 31, x 32, x 33, x 34, x 35, x 36, x 37, x 38, x 39, x 40, x 41, x 42, x 43, x 44, x 45, x 46, x 47, x 48, x 49, x 50, x 51, x 52, x 53, x 54, x 55, x 56, x 57, x 58, x 59, x 60, x 61, x 62, x 63, x 64, x 65, x 66, x 67, x 68, x 69, x 70, x 71, x 72, .bool true, .pointer (some ⟨nb, 6, none⟩), .bool (depthB r.verb), .pointer (some ⟨w.heap.size, 7, none⟩), .int .i64 r.depth, .pointer (some ⟨w.heap.size, 7, none⟩), .int .i64 r.depth, .bool true, .bool true, .pointer (some ⟨w.heap.size, 7, none⟩), .int .i64 r.depth, .bool true, .bool true, .bool true, .bool true, .bool true, x 89, x 90, x 91, x 92, x 93, x 94, x 95, x 96, x 97, x 98, x 99, x 100, x 101, x 102, x 103, x 104, x 105, x 106, x 107, x 108, x 109, x 110, x 111, x 112, x 113, x 114, x 115, x 116, x 117, x 118, x 119, x 120] : Array Value)[k]?.getD undef) _ (by kernel_rfl)
set_option maxRecDepth 100000 in
set_option maxHeartbeats 4000000 in
theorem rT6 (r : Rq) (w : World) (nb : Nat) (P : Prop) (HNo : ¬ RightRq r → ¬ P) (HYes : RightRq r → P) (HF : Hid (RqFits r)) (V0 : World) (fr0 : V0.heap[w.heap.size]? = some (.cells (rqA r) 26)) (fn0 : V0.heap[nb]? = some (.cells (thA r.verb) 57)) (B0 : Below w.heap.size w V0) (G0 : GlbR V0) (HC0 : Hid (nodeB r.verb = true)) (HC1 : Hid (rnB r = true)) (HC2 : Hid (fitB (itemB r.verb) (Jd.nameOk r.item) (decide (r.item = ⟨#[]⟩)) = true)) (HC3 : Hid (fitB (jidB r.verb) (Jd.addrOk r.jid) (decide (r.jid = ⟨#[]⟩)) = true)) (HC4 : Hid (fitB (roleB r.verb) (decide (1 ≤ r.role) && decide (r.role ≤ 5)) (decide (r.role = 0)) = true)) (HC5 : Hid (fitB (accB r.verb) (decide (r.acc ≤ 2)) (decide (r.acc = 0)) = true)) (x : Nat → Value) (listed : Array Bool) (hl : listed = #[true, true, true, true, true, true, true, true, true, true, true, true, true, true, true, true, true, true, true, true, true, true, true, true, true, true, true, true, true, true, true, true, true, true, true, true, true, true, true, true, true, true, true, true, true, true, true, true, true, true, true, true, false, false, false, false, false, false, false, false, false, false, false, false, false, false, false, false, false, false, false, false, false, false, false, false, false, false, false, false, false, false, false, false, false, false, false, false, false, false, false, false, false, false, false, false, false, false, false, false, false, false, false, false, false, false, false, false, false, false, false, false, false, false, false]) : wpAnyH Tryd.prog .any rightOps (RightQ P w) (RightS r w nb) 63 listed { tmps := #[x 0, .pointer (some ⟨w.heap.size, 0, none⟩), x 2, .pointer (some ⟨nb, 0, none⟩), x 4, x 5, x 6, x 7, x 8, x 9, x 10, x 11, x 12, x 13, x 14, x 15, x 16, x 17, x 18, x 19, x 20, x 21, x 22, x 23, x 24, x 25, x 26, x 27, x 28, x 29, x 30, x 31, x 32, x 33, x 34, x 35, x 36, x 37, x 38, x 39, x 40, x 41, x 42, x 43, x 44, x 45, x 46, x 47, x 48, x 49, x 50, x 51, x 52, x 53, x 54, x 55, x 56, x 57, .bool true, x 59, x 60, x 61, x 62, x 63, x 64, x 65, x 66, x 67, x 68, x 69, x 70, x 71, x 72, x 73, x 74, x 75, x 76, x 77, x 78, x 79, x 80, x 81, x 82, x 83, x 84, x 85, x 86, x 87, x 88, x 89, x 90, x 91, x 92, x 93, x 94, x 95, x 96, x 97, x 98, x 99, x 100, x 101, x 102, x 103, x 104, x 105, x 106, x 107, x 108, x 109, x 110, x 111, x 112, x 113, x 114, x 115, x 116, x 117, x 118, x 119, x 120], defers := [] } V0 := by
  subst hl
  obtain ⟨qd, hqd⟩ : ∃ q, decide (0 ≤ r.max) = q := ⟨_, rfl⟩
  obtain ⟨qe, hqe⟩ : ∃ q, decide (r.max ≤ 8) = q := ⟨_, rfl⟩
  refine anyH_take (i := 52) (v := .pointer (some ⟨nb, 5, none⟩)) rfl (some 59) rfl rNS (by kernel_rfl) (by kernel_rfl) (fun _ _ _ h => by cases h.1) (by kernel_rfl) (fun w0 hw0 => by first | rfl | kernel_rfl) ⟨fr0, fn0⟩ ?_
  simp only [Act.put, List.setIfInBounds_toArray, List.set_cons_zero, List.set_cons_succ]
  refine anyH_take (i := 53) (v := .bool (maxB r.verb)) rfl (some 60) rfl rNS (by kernel_rfl) (by kernel_rfl) (fun _ _ _ h => by cases h.1) (by kernel_rfl) (fun w0 hw0 => ex_load rfl rfl (ld4 (th_box hw0.2).2.2.2.2.2.1)) ⟨fr0, fn0⟩ ?_
  simp only [Act.put, List.setIfInBounds_toArray, List.set_cons_zero, List.set_cons_succ]
  refine anyH_take (i := 54) (v := .pointer (some ⟨w.heap.size, 6, none⟩)) rfl (some 61) rfl rNS (by kernel_rfl) (by kernel_rfl) (fun _ _ _ h => by cases h.1) (by kernel_rfl) (fun w0 hw0 => by first | rfl | kernel_rfl) ⟨fr0, fn0⟩ ?_
  simp only [Act.put, List.setIfInBounds_toArray, List.set_cons_zero, List.set_cons_succ]
  refine anyH_take (i := 55) (v := .int .i64 r.max) rfl (some 62) rfl rNS (by kernel_rfl) (by kernel_rfl) (fun _ _ _ h => by cases h.1) (by kernel_rfl) (fun w0 hw0 => ex_load rfl rfl (ld3 (rq_box hw0.1).2.2.2.2.2.2.1)) ⟨fr0, fn0⟩ ?_
  simp only [Act.put, List.setIfInBounds_toArray, List.set_cons_zero, List.set_cons_succ]
  refine anyH_take (i := 56) (v := .pointer (some ⟨w.heap.size, 6, none⟩)) rfl (some 63) rfl rNS (by kernel_rfl) (by kernel_rfl) (fun _ _ _ h => by cases h.1) (by kernel_rfl) (fun w0 hw0 => by first | rfl | kernel_rfl) ⟨fr0, fn0⟩ ?_
  simp only [Act.put, List.setIfInBounds_toArray, List.set_cons_zero, List.set_cons_succ]
  refine anyH_take (i := 57) (v := .int .i64 r.max) rfl (some 64) rfl rNS (by kernel_rfl) (by kernel_rfl) (fun _ _ _ h => by cases h.1) (by kernel_rfl) (fun w0 hw0 => ex_load rfl rfl (ld3 (rq_box hw0.1).2.2.2.2.2.2.1)) ⟨fr0, fn0⟩ ?_
  simp only [Act.put, List.setIfInBounds_toArray, List.set_cons_zero, List.set_cons_succ]
  refine anyH_take (i := 58) (v := .bool qd) rfl (some 65) rfl rNS (by kernel_rfl) (by kernel_rfl) (fun _ _ _ h => by cases h.1) (by kernel_rfl) (fun w0 hw0 => ex_leqI rfl rfl rfl hqd) ⟨fr0, fn0⟩ ?_
  simp only [Act.put, List.setIfInBounds_toArray, List.set_cons_zero, List.set_cons_succ]
  refine anyH_take (i := 59) (v := .bool qd) rfl (some 66) rfl rNS (by kernel_rfl) (by kernel_rfl) (fun _ _ _ h => by cases h.1) (by kernel_rfl) (fun w0 hw0 => by first | rfl | kernel_rfl) ⟨fr0, fn0⟩ ?_
  simp only [Act.put, List.setIfInBounds_toArray, List.set_cons_zero, List.set_cons_succ]
  cases qd with
  | false =>
    have hAd := of_decide_eq_false hqd
    refine anyH_off (i := 60) rfl (some 67) rfl rNS (by kernel_rfl) (by kernel_rfl) (fun _ _ _ h => by cases h.1) (by kernel_rfl) ⟨fr0, fn0⟩ ?_
    simp only [Act.put, List.setIfInBounds_toArray, List.set_cons_zero, List.set_cons_succ]
    refine anyH_off (i := 61) rfl (some 68) rfl rNS (by kernel_rfl) (by kernel_rfl) (fun _ _ _ h => by cases h.1) (by kernel_rfl) ⟨fr0, fn0⟩ ?_
    simp only [Act.put, List.setIfInBounds_toArray, List.set_cons_zero, List.set_cons_succ]
    refine anyH_off (i := 62) rfl (some 69) rfl rNS (by kernel_rfl) (by kernel_rfl) (fun _ _ _ h => by cases h.1) (by kernel_rfl) ⟨fr0, fn0⟩ ?_
    simp only [Act.put, List.setIfInBounds_toArray, List.set_cons_zero, List.set_cons_succ]
    refine anyH_take (i := 63) (v := .bool false) rfl (some 70) rfl rNS (by kernel_rfl) (by kernel_rfl) (fun _ _ _ h => by cases h.1) (by kernel_rfl) (fun w0 hw0 => Jd.ex_pkF rfl rfl rfl) ⟨fr0, fn0⟩ ?_
    simp only [Act.put, List.setIfInBounds_toArray, List.set_cons_zero, List.set_cons_succ]
    obtain ⟨p6, hp6⟩ : ∃ p, fitB (maxB r.verb) (decide (0 ≤ r.max) && decide (r.max ≤ 8)) (decide (r.max = 0)) = p := ⟨_, rfl⟩
    have HC6 := hide hp6
    have hmid : (decide (0 ≤ r.max) && decide (r.max ≤ 8)) = false := by
      rw [decide_eq_false (show ¬ (0 ≤ r.max) by omega), Bool.false_and]
    have hp6b : fitB (maxB r.verb) false (decide (r.max = 0)) = p6 := by rw [← hp6, hmid]
    have hc := fits_int (maxB r.verb) false r.max V0
    rw [hp6b] at hc
    clear hp6 hp6b hmid
    refine anyH_one (i := 64) (by kernel_rfl) ?_
    refine op_call rfl (some 71) rfl (by kernel_rfl) #[.bool (maxB r.verb), .int .i64 r.max, .bool false] rfl (by simp [Act.eval]) (fun _ _ => rfl) (hc) ?_
    rintro e Vx ⟨rfl, hV⟩
    obtain rfl : V0 = Vx := hV.symm
    refine ⟨_, rfl, ⟨fr0, fn0⟩, ?_⟩
    simp only [Act.put, List.setIfInBounds_toArray, List.set_cons_zero, List.set_cons_succ]
    clear hc
    cases p6 with
    | false =>
      refine anyH_take (i := 65) (v := .bool false) rfl (some 72) rfl rNS (by kernel_rfl) (by kernel_rfl) (fun _ _ _ h => by cases h.1) (by kernel_rfl) (fun w0 hw0 => Jd.ex_pkT rfl rfl rfl) ⟨fr0, fn0⟩ ?_
      simp only [Act.put, List.setIfInBounds_toArray, List.set_cons_zero, List.set_cons_succ]
      refine anyH_take (i := 66) (v := .bool false) rfl (some 73) rfl rNS (by kernel_rfl) (by kernel_rfl) (fun _ _ _ h => by cases h.1) (by kernel_rfl) (fun w0 hw0 => by first | rfl | kernel_rfl) ⟨fr0, fn0⟩ ?_
      simp only [Act.put, List.setIfInBounds_toArray, List.set_cons_zero, List.set_cons_succ]
      exact rF7 r w nb P (HNo fun h => by have := h.2.2.2.2.2.2.1; rw [HC6.out] at this; cases this) V0 fr0 fn0 B0 (fun k => (#[x 0, .pointer (some ⟨w.heap.size, 0, none⟩), x 2, .pointer (some ⟨nb, 0, none⟩), x 4, x 5, x 6, x 7, x 8, x 9, x 10, x 11, x 12, x 13, x 14, x 15, x 16, x 17, x 18, x 19, x 20, x 21, x 22, x 23, x 24, x 25, x 26, x 27, x 28, x 29, x 30, x 31, x 32, x 33, x 34, x 35, x 36, x 37, x 38, x 39, x 40, x 41, x 42, x 43, x 44, x 45, x 46, x 47, x 48, x 49, x 50, x 51, x 52, x 53, x 54, x 55, x 56, x 57, .bool true, .pointer (some ⟨nb, 5, none⟩), .bool (maxB r.verb), .pointer (some ⟨w.heap.size, 6, none⟩), .int .i64 r.max, .pointer (some ⟨w.heap.size, 6, none⟩), .int .i64 r.max, .bool false, .bool false, undef, undef, undef, .bool false, .bool false, .bool false, .bool false, x 74, x 75, x 76, x 77, x 78, x 79, x 80, x 81, x 82, x 83, x 84, x 85, x 86, x 87, x 88, x 89, x 90, x 91, x 92, x 93, x 94, x 95, x 96, x 97, x 98, x 99, x 100, x 101, x 102, x 103, x 104, x 105, x 106, x 107, x 108, x 109, x 110, x 111, x 112, x 113, x 114, x 115, x 116, x 117, x 118, x 119, x 120] : Array Value)[k]?.getD undef) _ (by kernel_rfl)
    | true =>
      exfalso
      have hx := HC6.out
      rw [show (decide (0 ≤ r.max) && decide (r.max ≤ 8)) = false by rw [decide_eq_false (show ¬ (0 ≤ r.max) by omega), Bool.false_and]] at hx
      unfold fitB at hx
      split at hx
      · cases hx
      · have hy := of_decide_eq_true hx
        omega
  | true =>
    have hAd := of_decide_eq_true hqd
    refine anyH_take (i := 60) (v := .pointer (some ⟨w.heap.size, 6, none⟩)) rfl (some 67) rfl rNS (by kernel_rfl) (by kernel_rfl) (fun _ _ _ h => by cases h.1) (by kernel_rfl) (fun w0 hw0 => by first | rfl | kernel_rfl) ⟨fr0, fn0⟩ ?_
    simp only [Act.put, List.setIfInBounds_toArray, List.set_cons_zero, List.set_cons_succ]
    refine anyH_take (i := 61) (v := .int .i64 r.max) rfl (some 68) rfl rNS (by kernel_rfl) (by kernel_rfl) (fun _ _ _ h => by cases h.1) (by kernel_rfl) (fun w0 hw0 => ex_load rfl rfl (ld3 (rq_box hw0.1).2.2.2.2.2.2.1)) ⟨fr0, fn0⟩ ?_
    simp only [Act.put, List.setIfInBounds_toArray, List.set_cons_zero, List.set_cons_succ]
    refine anyH_take (i := 62) (v := .bool qe) rfl (some 69) rfl rNS (by kernel_rfl) (by kernel_rfl) (fun _ _ _ h => by cases h.1) (by kernel_rfl) (fun w0 hw0 => ex_leqI rfl rfl rfl hqe) ⟨fr0, fn0⟩ ?_
    simp only [Act.put, List.setIfInBounds_toArray, List.set_cons_zero, List.set_cons_succ]
    cases qe with
    | false =>
      have hAe := of_decide_eq_false hqe
      refine anyH_take (i := 63) (v := .bool false) rfl (some 70) rfl rNS (by kernel_rfl) (by kernel_rfl) (fun _ _ _ h => by cases h.1) (by kernel_rfl) (fun w0 hw0 => Jd.ex_pkT rfl rfl rfl) ⟨fr0, fn0⟩ ?_
      simp only [Act.put, List.setIfInBounds_toArray, List.set_cons_zero, List.set_cons_succ]
      obtain ⟨p6, hp6⟩ : ∃ p, fitB (maxB r.verb) (decide (0 ≤ r.max) && decide (r.max ≤ 8)) (decide (r.max = 0)) = p := ⟨_, rfl⟩
      have HC6 := hide hp6
      have hmid : (decide (0 ≤ r.max) && decide (r.max ≤ 8)) = false := by
        rw [decide_eq_false (show ¬ (r.max ≤ 8) by omega), Bool.and_false]
      have hp6b : fitB (maxB r.verb) false (decide (r.max = 0)) = p6 := by rw [← hp6, hmid]
      have hc := fits_int (maxB r.verb) false r.max V0
      rw [hp6b] at hc
      clear hp6 hp6b hmid
      refine anyH_one (i := 64) (by kernel_rfl) ?_
      refine op_call rfl (some 71) rfl (by kernel_rfl) #[.bool (maxB r.verb), .int .i64 r.max, .bool false] rfl (by simp [Act.eval]) (fun _ _ => rfl) (hc) ?_
      rintro e Vx ⟨rfl, hV⟩
      obtain rfl : V0 = Vx := hV.symm
      refine ⟨_, rfl, ⟨fr0, fn0⟩, ?_⟩
      simp only [Act.put, List.setIfInBounds_toArray, List.set_cons_zero, List.set_cons_succ]
      clear hc
      cases p6 with
      | false =>
        refine anyH_take (i := 65) (v := .bool false) rfl (some 72) rfl rNS (by kernel_rfl) (by kernel_rfl) (fun _ _ _ h => by cases h.1) (by kernel_rfl) (fun w0 hw0 => Jd.ex_pkT rfl rfl rfl) ⟨fr0, fn0⟩ ?_
        simp only [Act.put, List.setIfInBounds_toArray, List.set_cons_zero, List.set_cons_succ]
        refine anyH_take (i := 66) (v := .bool false) rfl (some 73) rfl rNS (by kernel_rfl) (by kernel_rfl) (fun _ _ _ h => by cases h.1) (by kernel_rfl) (fun w0 hw0 => by first | rfl | kernel_rfl) ⟨fr0, fn0⟩ ?_
        simp only [Act.put, List.setIfInBounds_toArray, List.set_cons_zero, List.set_cons_succ]
        exact rF7 r w nb P (HNo fun h => by have := h.2.2.2.2.2.2.1; rw [HC6.out] at this; cases this) V0 fr0 fn0 B0 (fun k => (#[x 0, .pointer (some ⟨w.heap.size, 0, none⟩), x 2, .pointer (some ⟨nb, 0, none⟩), x 4, x 5, x 6, x 7, x 8, x 9, x 10, x 11, x 12, x 13, x 14, x 15, x 16, x 17, x 18, x 19, x 20, x 21, x 22, x 23, x 24, x 25, x 26, x 27, x 28, x 29, x 30, x 31, x 32, x 33, x 34, x 35, x 36, x 37, x 38, x 39, x 40, x 41, x 42, x 43, x 44, x 45, x 46, x 47, x 48, x 49, x 50, x 51, x 52, x 53, x 54, x 55, x 56, x 57, .bool true, .pointer (some ⟨nb, 5, none⟩), .bool (maxB r.verb), .pointer (some ⟨w.heap.size, 6, none⟩), .int .i64 r.max, .pointer (some ⟨w.heap.size, 6, none⟩), .int .i64 r.max, .bool true, .bool true, .pointer (some ⟨w.heap.size, 6, none⟩), .int .i64 r.max, .bool false, .bool false, .bool false, .bool false, .bool false, x 74, x 75, x 76, x 77, x 78, x 79, x 80, x 81, x 82, x 83, x 84, x 85, x 86, x 87, x 88, x 89, x 90, x 91, x 92, x 93, x 94, x 95, x 96, x 97, x 98, x 99, x 100, x 101, x 102, x 103, x 104, x 105, x 106, x 107, x 108, x 109, x 110, x 111, x 112, x 113, x 114, x 115, x 116, x 117, x 118, x 119, x 120] : Array Value)[k]?.getD undef) _ (by kernel_rfl)
      | true =>
        exfalso
        have hx := HC6.out
        rw [show (decide (0 ≤ r.max) && decide (r.max ≤ 8)) = false by rw [decide_eq_false (show ¬ (r.max ≤ 8) by omega), Bool.and_false]] at hx
        unfold fitB at hx
        split at hx
        · cases hx
        · have hy := of_decide_eq_true hx
          omega
    | true =>
      have hAe := of_decide_eq_true hqe
      refine anyH_take (i := 63) (v := .bool true) rfl (some 70) rfl rNS (by kernel_rfl) (by kernel_rfl) (fun _ _ _ h => by cases h.1) (by kernel_rfl) (fun w0 hw0 => Jd.ex_pkT rfl rfl rfl) ⟨fr0, fn0⟩ ?_
      simp only [Act.put, List.setIfInBounds_toArray, List.set_cons_zero, List.set_cons_succ]
      obtain ⟨p6, hp6⟩ : ∃ p, fitB (maxB r.verb) (decide (0 ≤ r.max) && decide (r.max ≤ 8)) (decide (r.max = 0)) = p := ⟨_, rfl⟩
      have HC6 := hide hp6
      have hmid : (decide (0 ≤ r.max) && decide (r.max ≤ 8)) = true := by
        rw [decide_eq_true (show (0 ≤ r.max) by omega), decide_eq_true (show (r.max ≤ 8) by omega)]; rfl
      have hp6b : fitB (maxB r.verb) true (decide (r.max = 0)) = p6 := by rw [← hp6, hmid]
      have hc := fits_int (maxB r.verb) true r.max V0
      rw [hp6b] at hc
      clear hp6 hp6b hmid
      refine anyH_one (i := 64) (by kernel_rfl) ?_
      refine op_call rfl (some 71) rfl (by kernel_rfl) #[.bool (maxB r.verb), .int .i64 r.max, .bool true] rfl (by simp [Act.eval]) (fun _ _ => rfl) (hc) ?_
      rintro e Vx ⟨rfl, hV⟩
      obtain rfl : V0 = Vx := hV.symm
      refine ⟨_, rfl, ⟨fr0, fn0⟩, ?_⟩
      simp only [Act.put, List.setIfInBounds_toArray, List.set_cons_zero, List.set_cons_succ]
      clear hc
      cases p6 with
      | false =>
        refine anyH_take (i := 65) (v := .bool false) rfl (some 72) rfl rNS (by kernel_rfl) (by kernel_rfl) (fun _ _ _ h => by cases h.1) (by kernel_rfl) (fun w0 hw0 => Jd.ex_pkT rfl rfl rfl) ⟨fr0, fn0⟩ ?_
        simp only [Act.put, List.setIfInBounds_toArray, List.set_cons_zero, List.set_cons_succ]
        refine anyH_take (i := 66) (v := .bool false) rfl (some 73) rfl rNS (by kernel_rfl) (by kernel_rfl) (fun _ _ _ h => by cases h.1) (by kernel_rfl) (fun w0 hw0 => by first | rfl | kernel_rfl) ⟨fr0, fn0⟩ ?_
        simp only [Act.put, List.setIfInBounds_toArray, List.set_cons_zero, List.set_cons_succ]
        exact rF7 r w nb P (HNo fun h => by have := h.2.2.2.2.2.2.1; rw [HC6.out] at this; cases this) V0 fr0 fn0 B0 (fun k => (#[x 0, .pointer (some ⟨w.heap.size, 0, none⟩), x 2, .pointer (some ⟨nb, 0, none⟩), x 4, x 5, x 6, x 7, x 8, x 9, x 10, x 11, x 12, x 13, x 14, x 15, x 16, x 17, x 18, x 19, x 20, x 21, x 22, x 23, x 24, x 25, x 26, x 27, x 28, x 29, x 30, x 31, x 32, x 33, x 34, x 35, x 36, x 37, x 38, x 39, x 40, x 41, x 42, x 43, x 44, x 45, x 46, x 47, x 48, x 49, x 50, x 51, x 52, x 53, x 54, x 55, x 56, x 57, .bool true, .pointer (some ⟨nb, 5, none⟩), .bool (maxB r.verb), .pointer (some ⟨w.heap.size, 6, none⟩), .int .i64 r.max, .pointer (some ⟨w.heap.size, 6, none⟩), .int .i64 r.max, .bool true, .bool true, .pointer (some ⟨w.heap.size, 6, none⟩), .int .i64 r.max, .bool true, .bool true, .bool false, .bool false, .bool false, x 74, x 75, x 76, x 77, x 78, x 79, x 80, x 81, x 82, x 83, x 84, x 85, x 86, x 87, x 88, x 89, x 90, x 91, x 92, x 93, x 94, x 95, x 96, x 97, x 98, x 99, x 100, x 101, x 102, x 103, x 104, x 105, x 106, x 107, x 108, x 109, x 110, x 111, x 112, x 113, x 114, x 115, x 116, x 117, x 118, x 119, x 120] : Array Value)[k]?.getD undef) _ (by kernel_rfl)
      | true =>
        refine anyH_take (i := 65) (v := .bool true) rfl (some 72) rfl rNS (by kernel_rfl) (by kernel_rfl) (fun _ _ _ h => by cases h.1) (by kernel_rfl) (fun w0 hw0 => Jd.ex_pkT rfl rfl rfl) ⟨fr0, fn0⟩ ?_
        simp only [Act.put, List.setIfInBounds_toArray, List.set_cons_zero, List.set_cons_succ]
        refine anyH_take (i := 66) (v := .bool true) rfl (some 73) rfl rNS (by kernel_rfl) (by kernel_rfl) (fun _ _ _ h => by cases h.1) (by kernel_rfl) (fun w0 hw0 => by first | rfl | kernel_rfl) ⟨fr0, fn0⟩ ?_
        simp only [Act.put, List.setIfInBounds_toArray, List.set_cons_zero, List.set_cons_succ]
        exact rT7 r w nb P HNo HYes HF V0 fr0 fn0 B0 G0 HC0 HC1 HC2 HC3 HC4 HC5 HC6 (fun k => (#[x 0, .pointer (some ⟨w.heap.size, 0, none⟩), x 2, .pointer (some ⟨nb, 0, none⟩), x 4, x 5, x 6, x 7, x 8, x 9, x 10, x 11, x 12, x 13, x 14, x 15, x 16, x 17, x 18, x 19, x 20, x 21, x 22, x 23, x 24, x 25, x 26, x 27, x 28, x 29, x 30, x 31, x 32, x 33, x 34, x 35, x 36, x 37, x 38, x 39, x 40, x 41, x 42, x 43, x 44, x 45, x 46, x 47, x 48, x 49, x 50, x 51, x 52, x 53, x 54, x 55, x 56, x 57, .bool true, .pointer (some ⟨nb, 5, none⟩), .bool (maxB r.verb), .pointer (some ⟨w.heap.size, 6, none⟩), .int .i64 r.max, .pointer (some ⟨w.heap.size, 6, none⟩), .int .i64 r.max, .bool true, .bool true, .pointer (some ⟨w.heap.size, 6, none⟩), .int .i64 r.max, .bool true, .bool true, .bool true, .bool true, .bool true, x 74, x 75, x 76, x 77, x 78, x 79, x 80, x 81, x 82, x 83, x 84, x 85, x 86, x 87, x 88, x 89, x 90, x 91, x 92, x 93, x 94, x 95, x 96, x 97, x 98, x 99, x 100, x 101, x 102, x 103, x 104, x 105, x 106, x 107, x 108, x 109, x 110, x 111, x 112, x 113, x 114, x 115, x 116, x 117, x 118, x 119, x 120] : Array Value)[k]?.getD undef) _ (by kernel_rfl)
set_option maxRecDepth 100000 in
set_option maxHeartbeats 4000000 in
theorem rT5 (r : Rq) (w : World) (nb : Nat) (P : Prop) (HNo : ¬ RightRq r → ¬ P) (HYes : RightRq r → P) (HF : Hid (RqFits r)) (V0 : World) (fr0 : V0.heap[w.heap.size]? = some (.cells (rqA r) 26)) (fn0 : V0.heap[nb]? = some (.cells (thA r.verb) 57)) (B0 : Below w.heap.size w V0) (G0 : GlbR V0) (HC0 : Hid (nodeB r.verb = true)) (HC1 : Hid (rnB r = true)) (HC2 : Hid (fitB (itemB r.verb) (Jd.nameOk r.item) (decide (r.item = ⟨#[]⟩)) = true)) (HC3 : Hid (fitB (jidB r.verb) (Jd.addrOk r.jid) (decide (r.jid = ⟨#[]⟩)) = true)) (HC4 : Hid (fitB (roleB r.verb) (decide (1 ≤ r.role) && decide (r.role ≤ 5)) (decide (r.role = 0)) = true)) (x : Nat → Value) (listed : Array Bool) (hl : listed = #[true, true, true, true, true, true, true, true, true, true, true, true, true, true, true, true, true, true, true, true, true, true, true, true, true, true, true, true, true, true, true, true, true, true, true, true, true, true, true, true, true, true, false, false, false, false, false, false, false, false, false, false, false, false, false, false, false, false, false, false, false, false, false, false, false, false, false, false, false, false, false, false, false, false, false, false, false, false, false, false, false, false, false, false, false, false, false, false, false, false, false, false, false, false, false, false, false, false, false, false, false, false, false, false, false, false, false, false, false, false, false, false, false, false, false]) : wpAnyH Tryd.prog .any rightOps (RightQ P w) (RightS r w nb) 73 listed { tmps := #[x 0, .pointer (some ⟨w.heap.size, 0, none⟩), x 2, .pointer (some ⟨nb, 0, none⟩), x 4, x 5, x 6, x 7, x 8, x 9, x 10, x 11, x 12, x 13, x 14, x 15, x 16, x 17, x 18, x 19, x 20, x 21, x 22, x 23, x 24, x 25, x 26, x 27, x 28, x 29, x 30, x 31, x 32, x 33, x 34, x 35, x 36, x 37, x 38, x 39, x 40, x 41, x 42, x 43, x 44, x 45, x 46, x 47, .bool true, x 49, x 50, x 51, x 52, x 53, x 54, x 55, x 56, x 57, x 58, x 59, x 60, x 61, x 62, x 63, x 64, x 65, x 66, x 67, x 68, x 69, x 70, x 71, x 72, x 73, x 74, x 75, x 76, x 77, x 78, x 79, x 80, x 81, x 82, x 83, x 84, x 85, x 86, x 87, x 88, x 89, x 90, x 91, x 92, x 93, x 94, x 95, x 96, x 97, x 98, x 99, x 100, x 101, x 102, x 103, x 104, x 105, x 106, x 107, x 108, x 109, x 110, x 111, x 112, x 113, x 114, x 115, x 116, x 117, x 118, x 119, x 120], defers := [] } V0 := by
  subst hl
  obtain ⟨qc, hqc⟩ : ∃ q, decide ((r.acc : Int) ≤ 2) = q := ⟨_, rfl⟩
  refine anyH_take (i := 42) (v := .pointer (some ⟨nb, 4, none⟩)) rfl (some 49) rfl rNS (by kernel_rfl) (by kernel_rfl) (fun _ _ _ h => by cases h.1) (by kernel_rfl) (fun w0 hw0 => by first | rfl | kernel_rfl) ⟨fr0, fn0⟩ ?_
  simp only [Act.put, List.setIfInBounds_toArray, List.set_cons_zero, List.set_cons_succ]
  refine anyH_take (i := 43) (v := .bool (accB r.verb)) rfl (some 50) rfl rNS (by kernel_rfl) (by kernel_rfl) (fun _ _ _ h => by cases h.1) (by kernel_rfl) (fun w0 hw0 => ex_load rfl rfl (ld4 (th_box hw0.2).2.2.2.2.1)) ⟨fr0, fn0⟩ ?_
  simp only [Act.put, List.setIfInBounds_toArray, List.set_cons_zero, List.set_cons_succ]
  refine anyH_take (i := 44) (v := .pointer (some ⟨w.heap.size, 5, none⟩)) rfl (some 51) rfl rNS (by kernel_rfl) (by kernel_rfl) (fun _ _ _ h => by cases h.1) (by kernel_rfl) (fun w0 hw0 => by first | rfl | kernel_rfl) ⟨fr0, fn0⟩ ?_
  simp only [Act.put, List.setIfInBounds_toArray, List.set_cons_zero, List.set_cons_succ]
  refine anyH_take (i := 45) (v := .int .u8 r.acc) rfl (some 52) rfl rNS (by kernel_rfl) (by kernel_rfl) (fun _ _ _ h => by cases h.1) (by kernel_rfl) (fun w0 hw0 => ex_load rfl rfl (ldAcc (rq_box hw0.1).2.2.2.2.2.1)) ⟨fr0, fn0⟩ ?_
  simp only [Act.put, List.setIfInBounds_toArray, List.set_cons_zero, List.set_cons_succ]
  refine anyH_take (i := 46) (v := .pointer (some ⟨w.heap.size, 5, none⟩)) rfl (some 53) rfl rNS (by kernel_rfl) (by kernel_rfl) (fun _ _ _ h => by cases h.1) (by kernel_rfl) (fun w0 hw0 => by first | rfl | kernel_rfl) ⟨fr0, fn0⟩ ?_
  simp only [Act.put, List.setIfInBounds_toArray, List.set_cons_zero, List.set_cons_succ]
  refine anyH_take (i := 47) (v := .int .u8 r.acc) rfl (some 54) rfl rNS (by kernel_rfl) (by kernel_rfl) (fun _ _ _ h => by cases h.1) (by kernel_rfl) (fun w0 hw0 => ex_load rfl rfl (ldAcc (rq_box hw0.1).2.2.2.2.2.1)) ⟨fr0, fn0⟩ ?_
  simp only [Act.put, List.setIfInBounds_toArray, List.set_cons_zero, List.set_cons_succ]
  refine anyH_take (i := 48) (v := .bool qc) rfl (some 55) rfl rNS (by kernel_rfl) (by kernel_rfl) (fun _ _ _ h => by cases h.1) (by kernel_rfl) (fun w0 hw0 => ex_leqA rfl rfl rfl hqc) ⟨fr0, fn0⟩ ?_
  simp only [Act.put, List.setIfInBounds_toArray, List.set_cons_zero, List.set_cons_succ]
  obtain ⟨p5, hp5⟩ : ∃ p, fitB (accB r.verb) (decide (r.acc ≤ 2)) (decide (r.acc = 0)) = p := ⟨_, rfl⟩
  have HC5 := hide hp5
  have hmid : (decide (r.acc ≤ 2)) = qc := by
    rw [← hqc]; simp only [decide_eq_decide]; omega
  have hp5b : fitB (accB r.verb) qc (decide (r.acc = 0)) = p5 := by rw [← hp5, hmid]
  have hc := fits_acc (accB r.verb) qc r.acc V0
  rw [hp5b] at hc
  clear hp5 hp5b hmid
  refine anyH_one (i := 49) (by kernel_rfl) ?_
  refine op_call rfl (some 56) rfl (by kernel_rfl) #[.bool (accB r.verb), .int .u8 r.acc, .bool qc] rfl (by simp [Act.eval]) (fun _ _ => rfl) (hc) ?_
  rintro e Vx ⟨rfl, hV⟩
  obtain rfl : V0 = Vx := hV.symm
  refine ⟨_, rfl, ⟨fr0, fn0⟩, ?_⟩
  simp only [Act.put, List.setIfInBounds_toArray, List.set_cons_zero, List.set_cons_succ]
  clear hc
  cases p5 with
  | false =>
    refine anyH_take (i := 50) (v := .bool false) rfl (some 57) rfl rNS (by kernel_rfl) (by kernel_rfl) (fun _ _ _ h => by cases h.1) (by kernel_rfl) (fun w0 hw0 => Jd.ex_pkT rfl rfl rfl) ⟨fr0, fn0⟩ ?_
    simp only [Act.put, List.setIfInBounds_toArray, List.set_cons_zero, List.set_cons_succ]
    refine anyH_take (i := 51) (v := .bool false) rfl (some 58) rfl rNS (by kernel_rfl) (by kernel_rfl) (fun _ _ _ h => by cases h.1) (by kernel_rfl) (fun w0 hw0 => by first | rfl | kernel_rfl) ⟨fr0, fn0⟩ ?_
    simp only [Act.put, List.setIfInBounds_toArray, List.set_cons_zero, List.set_cons_succ]
    exact rF6 r w nb P (HNo fun h => by have := h.2.2.2.2.2.1; rw [HC5.out] at this; cases this) V0 fr0 fn0 B0 (fun k => (#[x 0, .pointer (some ⟨w.heap.size, 0, none⟩), x 2, .pointer (some ⟨nb, 0, none⟩), x 4, x 5, x 6, x 7, x 8, x 9, x 10, x 11, x 12, x 13, x 14, x 15, x 16, x 17, x 18, x 19, x 20, x 21, x 22, x 23, x 24, x 25, x 26, x 27, x 28, x 29, x 30, x 31, x 32, x 33, x 34, x 35, x 36, x 37, x 38, x 39, x 40, x 41, x 42, x 43, x 44, x 45, x 46, x 47, .bool true, .pointer (some ⟨nb, 4, none⟩), .bool (accB r.verb), .pointer (some ⟨w.heap.size, 5, none⟩), .int .u8 r.acc, .pointer (some ⟨w.heap.size, 5, none⟩), .int .u8 r.acc, .bool qc, .bool false, .bool false, .bool false, x 59, x 60, x 61, x 62, x 63, x 64, x 65, x 66, x 67, x 68, x 69, x 70, x 71, x 72, x 73, x 74, x 75, x 76, x 77, x 78, x 79, x 80, x 81, x 82, x 83, x 84, x 85, x 86, x 87, x 88, x 89, x 90, x 91, x 92, x 93, x 94, x 95, x 96, x 97, x 98, x 99, x 100, x 101, x 102, x 103, x 104, x 105, x 106, x 107, x 108, x 109, x 110, x 111, x 112, x 113, x 114, x 115, x 116, x 117, x 118, x 119, x 120] : Array Value)[k]?.getD undef) _ (by kernel_rfl)
  | true =>
    refine anyH_take (i := 50) (v := .bool true) rfl (some 57) rfl rNS (by kernel_rfl) (by kernel_rfl) (fun _ _ _ h => by cases h.1) (by kernel_rfl) (fun w0 hw0 => Jd.ex_pkT rfl rfl rfl) ⟨fr0, fn0⟩ ?_
    simp only [Act.put, List.setIfInBounds_toArray, List.set_cons_zero, List.set_cons_succ]
    refine anyH_take (i := 51) (v := .bool true) rfl (some 58) rfl rNS (by kernel_rfl) (by kernel_rfl) (fun _ _ _ h => by cases h.1) (by kernel_rfl) (fun w0 hw0 => by first | rfl | kernel_rfl) ⟨fr0, fn0⟩ ?_
    simp only [Act.put, List.setIfInBounds_toArray, List.set_cons_zero, List.set_cons_succ]
    exact rT6 r w nb P HNo HYes HF V0 fr0 fn0 B0 G0 HC0 HC1 HC2 HC3 HC4 HC5 (fun k => (#[x 0, .pointer (some ⟨w.heap.size, 0, none⟩), x 2, .pointer (some ⟨nb, 0, none⟩), x 4, x 5, x 6, x 7, x 8, x 9, x 10, x 11, x 12, x 13, x 14, x 15, x 16, x 17, x 18, x 19, x 20, x 21, x 22, x 23, x 24, x 25, x 26, x 27, x 28, x 29, x 30, x 31, x 32, x 33, x 34, x 35, x 36, x 37, x 38, x 39, x 40, x 41, x 42, x 43, x 44, x 45, x 46, x 47, .bool true, .pointer (some ⟨nb, 4, none⟩), .bool (accB r.verb), .pointer (some ⟨w.heap.size, 5, none⟩), .int .u8 r.acc, .pointer (some ⟨w.heap.size, 5, none⟩), .int .u8 r.acc, .bool qc, .bool true, .bool true, .bool true, x 59, x 60, x 61, x 62, x 63, x 64, x 65, x 66, x 67, x 68, x 69, x 70, x 71, x 72, x 73, x 74, x 75, x 76, x 77, x 78, x 79, x 80, x 81, x 82, x 83, x 84, x 85, x 86, x 87, x 88, x 89, x 90, x 91, x 92, x 93, x 94, x 95, x 96, x 97, x 98, x 99, x 100, x 101, x 102, x 103, x 104, x 105, x 106, x 107, x 108, x 109, x 110, x 111, x 112, x 113, x 114, x 115, x 116, x 117, x 118, x 119, x 120] : Array Value)[k]?.getD undef) _ (by kernel_rfl)
set_option maxRecDepth 100000 in
set_option maxHeartbeats 4000000 in
theorem rT4 (r : Rq) (w : World) (nb : Nat) (P : Prop) (HNo : ¬ RightRq r → ¬ P) (HYes : RightRq r → P) (HF : Hid (RqFits r)) (V0 : World) (fr0 : V0.heap[w.heap.size]? = some (.cells (rqA r) 26)) (fn0 : V0.heap[nb]? = some (.cells (thA r.verb) 57)) (B0 : Below w.heap.size w V0) (G0 : GlbR V0) (HC0 : Hid (nodeB r.verb = true)) (HC1 : Hid (rnB r = true)) (HC2 : Hid (fitB (itemB r.verb) (Jd.nameOk r.item) (decide (r.item = ⟨#[]⟩)) = true)) (HC3 : Hid (fitB (jidB r.verb) (Jd.addrOk r.jid) (decide (r.jid = ⟨#[]⟩)) = true)) (x : Nat → Value) (listed : Array Bool) (hl : listed = #[true, true, true, true, true, true, true, true, true, true, true, true, true, true, true, true, true, true, true, true, true, true, true, true, true, true, true, false, false, false, false, false, false, false, false, false, false, false, false, false, false, false, false, false, false, false, false, false, false, false, false, false, false, false, false, false, false, false, false, false, false, false, false, false, false, false, false, false, false, false, false, false, false, false, false, false, false, false, false, false, false, false, false, false, false, false, false, false, false, false, false, false, false, false, false, false, false, false, false, false, false, false, false, false, false, false, false, false, false, false, false, false, false, false, false]) : wpAnyH Tryd.prog .any rightOps (RightQ P w) (RightS r w nb) 88 listed { tmps := #[x 0, .pointer (some ⟨w.heap.size, 0, none⟩), x 2, .pointer (some ⟨nb, 0, none⟩), x 4, x 5, x 6, x 7, x 8, x 9, x 10, x 11, x 12, x 13, x 14, x 15, x 16, x 17, x 18, x 19, x 20, x 21, x 22, x 23, x 24, x 25, x 26, x 27, x 28, x 29, x 30, x 31, x 32, .bool true, x 34, x 35, x 36, x 37, x 38, x 39, x 40, x 41, x 42, x 43, x 44, x 45, x 46, x 47, x 48, x 49, x 50, x 51, x 52, x 53, x 54, x 55, x 56, x 57, x 58, x 59, x 60, x 61, x 62, x 63, x 64, x 65, x 66, x 67, x 68, x 69, x 70, x 71, x 72, x 73, x 74, x 75, x 76, x 77, x 78, x 79, x 80, x 81, x 82, x 83, x 84, x 85, x 86, x 87, x 88, x 89, x 90, x 91, x 92, x 93, x 94, x 95, x 96, x 97, x 98, x 99, x 100, x 101, x 102, x 103, x 104, x 105, x 106, x 107, x 108, x 109, x 110, x 111, x 112, x 113, x 114, x 115, x 116, x 117, x 118, x 119, x 120], defers := [] } V0 := by
  subst hl
  obtain ⟨qa, hqa⟩ : ∃ q, decide ((1 : Int) ≤ (r.role : Int)) = q := ⟨_, rfl⟩
  obtain ⟨qb, hqb⟩ : ∃ q, decide ((r.role : Int) ≤ 5) = q := ⟨_, rfl⟩
  refine anyH_take (i := 27) (v := .pointer (some ⟨nb, 3, none⟩)) rfl (some 34) rfl rNS (by kernel_rfl) (by kernel_rfl) (fun _ _ _ h => by cases h.1) (by kernel_rfl) (fun w0 hw0 => by first | rfl | kernel_rfl) ⟨fr0, fn0⟩ ?_
  simp only [Act.put, List.setIfInBounds_toArray, List.set_cons_zero, List.set_cons_succ]
  refine anyH_take (i := 28) (v := .bool (roleB r.verb)) rfl (some 35) rfl rNS (by kernel_rfl) (by kernel_rfl) (fun _ _ _ h => by cases h.1) (by kernel_rfl) (fun w0 hw0 => ex_load rfl rfl (ld4 (th_box hw0.2).2.2.2.1)) ⟨fr0, fn0⟩ ?_
  simp only [Act.put, List.setIfInBounds_toArray, List.set_cons_zero, List.set_cons_succ]
  refine anyH_take (i := 29) (v := .pointer (some ⟨w.heap.size, 4, none⟩)) rfl (some 36) rfl rNS (by kernel_rfl) (by kernel_rfl) (fun _ _ _ h => by cases h.1) (by kernel_rfl) (fun w0 hw0 => by first | rfl | kernel_rfl) ⟨fr0, fn0⟩ ?_
  simp only [Act.put, List.setIfInBounds_toArray, List.set_cons_zero, List.set_cons_succ]
  refine anyH_take (i := 30) (v := .int .u8 r.role) rfl (some 37) rfl rNS (by kernel_rfl) (by kernel_rfl) (fun _ _ _ h => by cases h.1) (by kernel_rfl) (fun w0 hw0 => ex_load rfl rfl (ldRole (rq_box hw0.1).2.2.2.2.1)) ⟨fr0, fn0⟩ ?_
  simp only [Act.put, List.setIfInBounds_toArray, List.set_cons_zero, List.set_cons_succ]
  refine anyH_take (i := 31) (v := .pointer (some ⟨w.heap.size, 4, none⟩)) rfl (some 38) rfl rNS (by kernel_rfl) (by kernel_rfl) (fun _ _ _ h => by cases h.1) (by kernel_rfl) (fun w0 hw0 => by first | rfl | kernel_rfl) ⟨fr0, fn0⟩ ?_
  simp only [Act.put, List.setIfInBounds_toArray, List.set_cons_zero, List.set_cons_succ]
  refine anyH_take (i := 32) (v := .int .u8 r.role) rfl (some 39) rfl rNS (by kernel_rfl) (by kernel_rfl) (fun _ _ _ h => by cases h.1) (by kernel_rfl) (fun w0 hw0 => ex_load rfl rfl (ldRole (rq_box hw0.1).2.2.2.2.1)) ⟨fr0, fn0⟩ ?_
  simp only [Act.put, List.setIfInBounds_toArray, List.set_cons_zero, List.set_cons_succ]
  refine anyH_take (i := 33) (v := .bool qa) rfl (some 40) rfl rNS (by kernel_rfl) (by kernel_rfl) (fun _ _ _ h => by cases h.1) (by kernel_rfl) (fun w0 hw0 => ex_leqR rfl rfl rfl hqa) ⟨fr0, fn0⟩ ?_
  simp only [Act.put, List.setIfInBounds_toArray, List.set_cons_zero, List.set_cons_succ]
  refine anyH_take (i := 34) (v := .bool qa) rfl (some 41) rfl rNS (by kernel_rfl) (by kernel_rfl) (fun _ _ _ h => by cases h.1) (by kernel_rfl) (fun w0 hw0 => by first | rfl | kernel_rfl) ⟨fr0, fn0⟩ ?_
  simp only [Act.put, List.setIfInBounds_toArray, List.set_cons_zero, List.set_cons_succ]
  cases qa with
  | false =>
    have hAa := of_decide_eq_false hqa
    refine anyH_off (i := 35) rfl (some 42) rfl rNS (by kernel_rfl) (by kernel_rfl) (fun _ _ _ h => by cases h.1) (by kernel_rfl) ⟨fr0, fn0⟩ ?_
    simp only [Act.put, List.setIfInBounds_toArray, List.set_cons_zero, List.set_cons_succ]
    refine anyH_off (i := 36) rfl (some 43) rfl rNS (by kernel_rfl) (by kernel_rfl) (fun _ _ _ h => by cases h.1) (by kernel_rfl) ⟨fr0, fn0⟩ ?_
    simp only [Act.put, List.setIfInBounds_toArray, List.set_cons_zero, List.set_cons_succ]
    refine anyH_off (i := 37) rfl (some 44) rfl rNS (by kernel_rfl) (by kernel_rfl) (fun _ _ _ h => by cases h.1) (by kernel_rfl) ⟨fr0, fn0⟩ ?_
    simp only [Act.put, List.setIfInBounds_toArray, List.set_cons_zero, List.set_cons_succ]
    refine anyH_take (i := 38) (v := .bool false) rfl (some 45) rfl rNS (by kernel_rfl) (by kernel_rfl) (fun _ _ _ h => by cases h.1) (by kernel_rfl) (fun w0 hw0 => Jd.ex_pkF rfl rfl rfl) ⟨fr0, fn0⟩ ?_
    simp only [Act.put, List.setIfInBounds_toArray, List.set_cons_zero, List.set_cons_succ]
    obtain ⟨p4, hp4⟩ : ∃ p, fitB (roleB r.verb) (decide (1 ≤ r.role) && decide (r.role ≤ 5)) (decide (r.role = 0)) = p := ⟨_, rfl⟩
    have HC4 := hide hp4
    have hmid : (decide (1 ≤ r.role) && decide (r.role ≤ 5)) = false := by
      rw [decide_eq_false (show ¬ (1 ≤ r.role) by omega), Bool.false_and]
    have hp4b : fitB (roleB r.verb) false (decide (r.role = 0)) = p4 := by rw [← hp4, hmid]
    have hc := fits_role (roleB r.verb) false r.role V0
    rw [hp4b] at hc
    clear hp4 hp4b hmid
    refine anyH_one (i := 39) (by kernel_rfl) ?_
    refine op_call rfl (some 46) rfl (by kernel_rfl) #[.bool (roleB r.verb), .int .u8 r.role, .bool false] rfl (by simp [Act.eval]) (fun _ _ => rfl) (hc) ?_
    rintro e Vx ⟨rfl, hV⟩
    obtain rfl : V0 = Vx := hV.symm
    refine ⟨_, rfl, ⟨fr0, fn0⟩, ?_⟩
    simp only [Act.put, List.setIfInBounds_toArray, List.set_cons_zero, List.set_cons_succ]
    clear hc
    cases p4 with
    | false =>
      refine anyH_take (i := 40) (v := .bool false) rfl (some 47) rfl rNS (by kernel_rfl) (by kernel_rfl) (fun _ _ _ h => by cases h.1) (by kernel_rfl) (fun w0 hw0 => Jd.ex_pkT rfl rfl rfl) ⟨fr0, fn0⟩ ?_
      simp only [Act.put, List.setIfInBounds_toArray, List.set_cons_zero, List.set_cons_succ]
      refine anyH_take (i := 41) (v := .bool false) rfl (some 48) rfl rNS (by kernel_rfl) (by kernel_rfl) (fun _ _ _ h => by cases h.1) (by kernel_rfl) (fun w0 hw0 => by first | rfl | kernel_rfl) ⟨fr0, fn0⟩ ?_
      simp only [Act.put, List.setIfInBounds_toArray, List.set_cons_zero, List.set_cons_succ]
      exact rF5 r w nb P (HNo fun h => by have := h.2.2.2.2.1; rw [HC4.out] at this; cases this) V0 fr0 fn0 B0 (fun k => (#[x 0, .pointer (some ⟨w.heap.size, 0, none⟩), x 2, .pointer (some ⟨nb, 0, none⟩), x 4, x 5, x 6, x 7, x 8, x 9, x 10, x 11, x 12, x 13, x 14, x 15, x 16, x 17, x 18, x 19, x 20, x 21, x 22, x 23, x 24, x 25, x 26, x 27, x 28, x 29, x 30, x 31, x 32, .bool true, .pointer (some ⟨nb, 3, none⟩), .bool (roleB r.verb), .pointer (some ⟨w.heap.size, 4, none⟩), .int .u8 r.role, .pointer (some ⟨w.heap.size, 4, none⟩), .int .u8 r.role, .bool false, .bool false, undef, undef, undef, .bool false, .bool false, .bool false, .bool false, x 49, x 50, x 51, x 52, x 53, x 54, x 55, x 56, x 57, x 58, x 59, x 60, x 61, x 62, x 63, x 64, x 65, x 66, x 67, x 68, x 69, x 70, x 71, x 72, x 73, x 74, x 75, x 76, x 77, x 78, x 79, x 80, x 81, x 82, x 83, x 84, x 85, x 86, x 87, x 88, x 89, x 90, x 91, x 92, x 93, x 94, x 95, x 96, x 97, x 98, x 99, x 100, x 101, x 102, x 103, x 104, x 105, x 106, x 107, x 108, x 109, x 110, x 111, x 112, x 113, x 114, x 115, x 116, x 117, x 118, x 119, x 120] : Array Value)[k]?.getD undef) _ (by kernel_rfl)
    | true =>
      refine anyH_take (i := 40) (v := .bool true) rfl (some 47) rfl rNS (by kernel_rfl) (by kernel_rfl) (fun _ _ _ h => by cases h.1) (by kernel_rfl) (fun w0 hw0 => Jd.ex_pkT rfl rfl rfl) ⟨fr0, fn0⟩ ?_
      simp only [Act.put, List.setIfInBounds_toArray, List.set_cons_zero, List.set_cons_succ]
      refine anyH_take (i := 41) (v := .bool true) rfl (some 48) rfl rNS (by kernel_rfl) (by kernel_rfl) (fun _ _ _ h => by cases h.1) (by kernel_rfl) (fun w0 hw0 => by first | rfl | kernel_rfl) ⟨fr0, fn0⟩ ?_
      simp only [Act.put, List.setIfInBounds_toArray, List.set_cons_zero, List.set_cons_succ]
      exact rT5 r w nb P HNo HYes HF V0 fr0 fn0 B0 G0 HC0 HC1 HC2 HC3 HC4 (fun k => (#[x 0, .pointer (some ⟨w.heap.size, 0, none⟩), x 2, .pointer (some ⟨nb, 0, none⟩), x 4, x 5, x 6, x 7, x 8, x 9, x 10, x 11, x 12, x 13, x 14, x 15, x 16, x 17, x 18, x 19, x 20, x 21, x 22, x 23, x 24, x 25, x 26, x 27, x 28, x 29, x 30, x 31, x 32, .bool true, .pointer (some ⟨nb, 3, none⟩), .bool (roleB r.verb), .pointer (some ⟨w.heap.size, 4, none⟩), .int .u8 r.role, .pointer (some ⟨w.heap.size, 4, none⟩), .int .u8 r.role, .bool false, .bool false, undef, undef, undef, .bool false, .bool true, .bool true, .bool true, x 49, x 50, x 51, x 52, x 53, x 54, x 55, x 56, x 57, x 58, x 59, x 60, x 61, x 62, x 63, x 64, x 65, x 66, x 67, x 68, x 69, x 70, x 71, x 72, x 73, x 74, x 75, x 76, x 77, x 78, x 79, x 80, x 81, x 82, x 83, x 84, x 85, x 86, x 87, x 88, x 89, x 90, x 91, x 92, x 93, x 94, x 95, x 96, x 97, x 98, x 99, x 100, x 101, x 102, x 103, x 104, x 105, x 106, x 107, x 108, x 109, x 110, x 111, x 112, x 113, x 114, x 115, x 116, x 117, x 118, x 119, x 120] : Array Value)[k]?.getD undef) _ (by kernel_rfl)
  | true =>
    have hAa := of_decide_eq_true hqa
    refine anyH_take (i := 35) (v := .pointer (some ⟨w.heap.size, 4, none⟩)) rfl (some 42) rfl rNS (by kernel_rfl) (by kernel_rfl) (fun _ _ _ h => by cases h.1) (by kernel_rfl) (fun w0 hw0 => by first | rfl | kernel_rfl) ⟨fr0, fn0⟩ ?_
    simp only [Act.put, List.setIfInBounds_toArray, List.set_cons_zero, List.set_cons_succ]
    refine anyH_take (i := 36) (v := .int .u8 r.role) rfl (some 43) rfl rNS (by kernel_rfl) (by kernel_rfl) (fun _ _ _ h => by cases h.1) (by kernel_rfl) (fun w0 hw0 => ex_load rfl rfl (ldRole (rq_box hw0.1).2.2.2.2.1)) ⟨fr0, fn0⟩ ?_
    simp only [Act.put, List.setIfInBounds_toArray, List.set_cons_zero, List.set_cons_succ]
    refine anyH_take (i := 37) (v := .bool qb) rfl (some 44) rfl rNS (by kernel_rfl) (by kernel_rfl) (fun _ _ _ h => by cases h.1) (by kernel_rfl) (fun w0 hw0 => ex_leqR rfl rfl rfl hqb) ⟨fr0, fn0⟩ ?_
    simp only [Act.put, List.setIfInBounds_toArray, List.set_cons_zero, List.set_cons_succ]
    cases qb with
    | false =>
      have hAb := of_decide_eq_false hqb
      refine anyH_take (i := 38) (v := .bool false) rfl (some 45) rfl rNS (by kernel_rfl) (by kernel_rfl) (fun _ _ _ h => by cases h.1) (by kernel_rfl) (fun w0 hw0 => Jd.ex_pkT rfl rfl rfl) ⟨fr0, fn0⟩ ?_
      simp only [Act.put, List.setIfInBounds_toArray, List.set_cons_zero, List.set_cons_succ]
      obtain ⟨p4, hp4⟩ : ∃ p, fitB (roleB r.verb) (decide (1 ≤ r.role) && decide (r.role ≤ 5)) (decide (r.role = 0)) = p := ⟨_, rfl⟩
      have HC4 := hide hp4
      have hmid : (decide (1 ≤ r.role) && decide (r.role ≤ 5)) = false := by
        rw [decide_eq_false (show ¬ (r.role ≤ 5) by omega), Bool.and_false]
      have hp4b : fitB (roleB r.verb) false (decide (r.role = 0)) = p4 := by rw [← hp4, hmid]
      have hc := fits_role (roleB r.verb) false r.role V0
      rw [hp4b] at hc
      clear hp4 hp4b hmid
      refine anyH_one (i := 39) (by kernel_rfl) ?_
      refine op_call rfl (some 46) rfl (by kernel_rfl) #[.bool (roleB r.verb), .int .u8 r.role, .bool false] rfl (by simp [Act.eval]) (fun _ _ => rfl) (hc) ?_
      rintro e Vx ⟨rfl, hV⟩
      obtain rfl : V0 = Vx := hV.symm
      refine ⟨_, rfl, ⟨fr0, fn0⟩, ?_⟩
      simp only [Act.put, List.setIfInBounds_toArray, List.set_cons_zero, List.set_cons_succ]
      clear hc
      cases p4 with
      | false =>
        refine anyH_take (i := 40) (v := .bool false) rfl (some 47) rfl rNS (by kernel_rfl) (by kernel_rfl) (fun _ _ _ h => by cases h.1) (by kernel_rfl) (fun w0 hw0 => Jd.ex_pkT rfl rfl rfl) ⟨fr0, fn0⟩ ?_
        simp only [Act.put, List.setIfInBounds_toArray, List.set_cons_zero, List.set_cons_succ]
        refine anyH_take (i := 41) (v := .bool false) rfl (some 48) rfl rNS (by kernel_rfl) (by kernel_rfl) (fun _ _ _ h => by cases h.1) (by kernel_rfl) (fun w0 hw0 => by first | rfl | kernel_rfl) ⟨fr0, fn0⟩ ?_
        simp only [Act.put, List.setIfInBounds_toArray, List.set_cons_zero, List.set_cons_succ]
        exact rF5 r w nb P (HNo fun h => by have := h.2.2.2.2.1; rw [HC4.out] at this; cases this) V0 fr0 fn0 B0 (fun k => (#[x 0, .pointer (some ⟨w.heap.size, 0, none⟩), x 2, .pointer (some ⟨nb, 0, none⟩), x 4, x 5, x 6, x 7, x 8, x 9, x 10, x 11, x 12, x 13, x 14, x 15, x 16, x 17, x 18, x 19, x 20, x 21, x 22, x 23, x 24, x 25, x 26, x 27, x 28, x 29, x 30, x 31, x 32, .bool true, .pointer (some ⟨nb, 3, none⟩), .bool (roleB r.verb), .pointer (some ⟨w.heap.size, 4, none⟩), .int .u8 r.role, .pointer (some ⟨w.heap.size, 4, none⟩), .int .u8 r.role, .bool true, .bool true, .pointer (some ⟨w.heap.size, 4, none⟩), .int .u8 r.role, .bool false, .bool false, .bool false, .bool false, .bool false, x 49, x 50, x 51, x 52, x 53, x 54, x 55, x 56, x 57, x 58, x 59, x 60, x 61, x 62, x 63, x 64, x 65, x 66, x 67, x 68, x 69, x 70, x 71, x 72, x 73, x 74, x 75, x 76, x 77, x 78, x 79, x 80, x 81, x 82, x 83, x 84, x 85, x 86, x 87, x 88, x 89, x 90, x 91, x 92, x 93, x 94, x 95, x 96, x 97, x 98, x 99, x 100, x 101, x 102, x 103, x 104, x 105, x 106, x 107, x 108, x 109, x 110, x 111, x 112, x 113, x 114, x 115, x 116, x 117, x 118, x 119, x 120] : Array Value)[k]?.getD undef) _ (by kernel_rfl)
      | true =>
        exfalso
        have hx := HC4.out
        rw [show (decide (1 ≤ r.role) && decide (r.role ≤ 5)) = false by rw [decide_eq_false (show ¬ (r.role ≤ 5) by omega), Bool.and_false]] at hx
        unfold fitB at hx
        split at hx
        · cases hx
        · have hy := of_decide_eq_true hx
          omega
    | true =>
      have hAb := of_decide_eq_true hqb
      refine anyH_take (i := 38) (v := .bool true) rfl (some 45) rfl rNS (by kernel_rfl) (by kernel_rfl) (fun _ _ _ h => by cases h.1) (by kernel_rfl) (fun w0 hw0 => Jd.ex_pkT rfl rfl rfl) ⟨fr0, fn0⟩ ?_
      simp only [Act.put, List.setIfInBounds_toArray, List.set_cons_zero, List.set_cons_succ]
      obtain ⟨p4, hp4⟩ : ∃ p, fitB (roleB r.verb) (decide (1 ≤ r.role) && decide (r.role ≤ 5)) (decide (r.role = 0)) = p := ⟨_, rfl⟩
      have HC4 := hide hp4
      have hmid : (decide (1 ≤ r.role) && decide (r.role ≤ 5)) = true := by
        rw [decide_eq_true (show (1 ≤ r.role) by omega), decide_eq_true (show (r.role ≤ 5) by omega)]; rfl
      have hp4b : fitB (roleB r.verb) true (decide (r.role = 0)) = p4 := by rw [← hp4, hmid]
      have hc := fits_role (roleB r.verb) true r.role V0
      rw [hp4b] at hc
      clear hp4 hp4b hmid
      refine anyH_one (i := 39) (by kernel_rfl) ?_
      refine op_call rfl (some 46) rfl (by kernel_rfl) #[.bool (roleB r.verb), .int .u8 r.role, .bool true] rfl (by simp [Act.eval]) (fun _ _ => rfl) (hc) ?_
      rintro e Vx ⟨rfl, hV⟩
      obtain rfl : V0 = Vx := hV.symm
      refine ⟨_, rfl, ⟨fr0, fn0⟩, ?_⟩
      simp only [Act.put, List.setIfInBounds_toArray, List.set_cons_zero, List.set_cons_succ]
      clear hc
      cases p4 with
      | false =>
        refine anyH_take (i := 40) (v := .bool false) rfl (some 47) rfl rNS (by kernel_rfl) (by kernel_rfl) (fun _ _ _ h => by cases h.1) (by kernel_rfl) (fun w0 hw0 => Jd.ex_pkT rfl rfl rfl) ⟨fr0, fn0⟩ ?_
        simp only [Act.put, List.setIfInBounds_toArray, List.set_cons_zero, List.set_cons_succ]
        refine anyH_take (i := 41) (v := .bool false) rfl (some 48) rfl rNS (by kernel_rfl) (by kernel_rfl) (fun _ _ _ h => by cases h.1) (by kernel_rfl) (fun w0 hw0 => by first | rfl | kernel_rfl) ⟨fr0, fn0⟩ ?_
        simp only [Act.put, List.setIfInBounds_toArray, List.set_cons_zero, List.set_cons_succ]
        exact rF5 r w nb P (HNo fun h => by have := h.2.2.2.2.1; rw [HC4.out] at this; cases this) V0 fr0 fn0 B0 (fun k => (#[x 0, .pointer (some ⟨w.heap.size, 0, none⟩), x 2, .pointer (some ⟨nb, 0, none⟩), x 4, x 5, x 6, x 7, x 8, x 9, x 10, x 11, x 12, x 13, x 14, x 15, x 16, x 17, x 18, x 19, x 20, x 21, x 22, x 23, x 24, x 25, x 26, x 27, x 28, x 29, x 30, x 31, x 32, .bool true, .pointer (some ⟨nb, 3, none⟩), .bool (roleB r.verb), .pointer (some ⟨w.heap.size, 4, none⟩), .int .u8 r.role, .pointer (some ⟨w.heap.size, 4, none⟩), .int .u8 r.role, .bool true, .bool true, .pointer (some ⟨w.heap.size, 4, none⟩), .int .u8 r.role, .bool true, .bool true, .bool false, .bool false, .bool false, x 49, x 50, x 51, x 52, x 53, x 54, x 55, x 56, x 57, x 58, x 59, x 60, x 61, x 62, x 63, x 64, x 65, x 66, x 67, x 68, x 69, x 70, x 71, x 72, x 73, x 74, x 75, x 76, x 77, x 78, x 79, x 80, x 81, x 82, x 83, x 84, x 85, x 86, x 87, x 88, x 89, x 90, x 91, x 92, x 93, x 94, x 95, x 96, x 97, x 98, x 99, x 100, x 101, x 102, x 103, x 104, x 105, x 106, x 107, x 108, x 109, x 110, x 111, x 112, x 113, x 114, x 115, x 116, x 117, x 118, x 119, x 120] : Array Value)[k]?.getD undef) _ (by kernel_rfl)
      | true =>
        refine anyH_take (i := 40) (v := .bool true) rfl (some 47) rfl rNS (by kernel_rfl) (by kernel_rfl) (fun _ _ _ h => by cases h.1) (by kernel_rfl) (fun w0 hw0 => Jd.ex_pkT rfl rfl rfl) ⟨fr0, fn0⟩ ?_
        simp only [Act.put, List.setIfInBounds_toArray, List.set_cons_zero, List.set_cons_succ]
        refine anyH_take (i := 41) (v := .bool true) rfl (some 48) rfl rNS (by kernel_rfl) (by kernel_rfl) (fun _ _ _ h => by cases h.1) (by kernel_rfl) (fun w0 hw0 => by first | rfl | kernel_rfl) ⟨fr0, fn0⟩ ?_
        simp only [Act.put, List.setIfInBounds_toArray, List.set_cons_zero, List.set_cons_succ]
        exact rT5 r w nb P HNo HYes HF V0 fr0 fn0 B0 G0 HC0 HC1 HC2 HC3 HC4 (fun k => (#[x 0, .pointer (some ⟨w.heap.size, 0, none⟩), x 2, .pointer (some ⟨nb, 0, none⟩), x 4, x 5, x 6, x 7, x 8, x 9, x 10, x 11, x 12, x 13, x 14, x 15, x 16, x 17, x 18, x 19, x 20, x 21, x 22, x 23, x 24, x 25, x 26, x 27, x 28, x 29, x 30, x 31, x 32, .bool true, .pointer (some ⟨nb, 3, none⟩), .bool (roleB r.verb), .pointer (some ⟨w.heap.size, 4, none⟩), .int .u8 r.role, .pointer (some ⟨w.heap.size, 4, none⟩), .int .u8 r.role, .bool true, .bool true, .pointer (some ⟨w.heap.size, 4, none⟩), .int .u8 r.role, .bool true, .bool true, .bool true, .bool true, .bool true, x 49, x 50, x 51, x 52, x 53, x 54, x 55, x 56, x 57, x 58, x 59, x 60, x 61, x 62, x 63, x 64, x 65, x 66, x 67, x 68, x 69, x 70, x 71, x 72, x 73, x 74, x 75, x 76, x 77, x 78, x 79, x 80, x 81, x 82, x 83, x 84, x 85, x 86, x 87, x 88, x 89, x 90, x 91, x 92, x 93, x 94, x 95, x 96, x 97, x 98, x 99, x 100, x 101, x 102, x 103, x 104, x 105, x 106, x 107, x 108, x 109, x 110, x 111, x 112, x 113, x 114, x 115, x 116, x 117, x 118, x 119, x 120] : Array Value)[k]?.getD undef) _ (by kernel_rfl)
set_option maxRecDepth 100000 in
set_option maxHeartbeats 4000000 in
theorem rT3 (r : Rq) (w : World) (nb : Nat) (P : Prop) (HNo : ¬ RightRq r → ¬ P) (HYes : RightRq r → P) (HF : Hid (RqFits r)) (V0 : World) (fr0 : V0.heap[w.heap.size]? = some (.cells (rqA r) 26)) (fn0 : V0.heap[nb]? = some (.cells (thA r.verb) 57)) (B0 : Below w.heap.size w V0) (G0 : GlbR V0) (HC0 : Hid (nodeB r.verb = true)) (HC1 : Hid (rnB r = true)) (HC2 : Hid (fitB (itemB r.verb) (Jd.nameOk r.item) (decide (r.item = ⟨#[]⟩)) = true)) (x : Nat → Value) (listed : Array Bool) (hl : listed = #[true, true, true, true, true, true, true, true, true, true, true, true, true, true, true, true, true, false, false, false, false, false, false, false, false, false, false, false, false, false, false, false, false, false, false, false, false, false, false, false, false, false, false, false, false, false, false, false, false, false, false, false, false, false, false, false, false, false, false, false, false, false, false, false, false, false, false, false, false, false, false, false, false, false, false, false, false, false, false, false, false, false, false, false, false, false, false, false, false, false, false, false, false, false, false, false, false, false, false, false, false, false, false, false, false, false, false, false, false, false, false, false, false, false, false]) : wpAnyH Tryd.prog .any rightOps (RightQ P w) (RightS r w nb) 98 listed { tmps := #[x 0, .pointer (some ⟨w.heap.size, 0, none⟩), x 2, .pointer (some ⟨nb, 0, none⟩), x 4, x 5, x 6, x 7, x 8, x 9, x 10, x 11, x 12, x 13, x 14, x 15, x 16, x 17, x 18, x 19, x 20, x 21, x 22, .bool true, x 24, x 25, x 26, x 27, x 28, x 29, x 30, x 31, x 32, x 33, x 34, x 35, x 36, x 37, x 38, x 39, x 40, x 41, x 42, x 43, x 44, x 45, x 46, x 47, x 48, x 49, x 50, x 51, x 52, x 53, x 54, x 55, x 56, x 57, x 58, x 59, x 60, x 61, x 62, x 63, x 64, x 65, x 66, x 67, x 68, x 69, x 70, x 71, x 72, x 73, x 74, x 75, x 76, x 77, x 78, x 79, x 80, x 81, x 82, x 83, x 84, x 85, x 86, x 87, x 88, x 89, x 90, x 91, x 92, x 93, x 94, x 95, x 96, x 97, x 98, x 99, x 100, x 101, x 102, x 103, x 104, x 105, x 106, x 107, x 108, x 109, x 110, x 111, x 112, x 113, x 114, x 115, x 116, x 117, x 118, x 119, x 120], defers := [] } V0 := by
  subst hl
  refine anyH_take (i := 17) (v := .pointer (some ⟨nb, 2, none⟩)) rfl (some 24) rfl rNS (by kernel_rfl) (by kernel_rfl) (fun _ _ _ h => by cases h.1) (by kernel_rfl) (fun w0 hw0 => by first | rfl | kernel_rfl) ⟨fr0, fn0⟩ ?_
  simp only [Act.put, List.setIfInBounds_toArray, List.set_cons_zero, List.set_cons_succ]
  refine anyH_take (i := 18) (v := .bool (jidB r.verb)) rfl (some 25) rfl rNS (by kernel_rfl) (by kernel_rfl) (fun _ _ _ h => by cases h.1) (by kernel_rfl) (fun w0 hw0 => ex_load rfl rfl (ld4 (th_box hw0.2).2.2.1)) ⟨fr0, fn0⟩ ?_
  simp only [Act.put, List.setIfInBounds_toArray, List.set_cons_zero, List.set_cons_succ]
  refine anyH_take (i := 19) (v := .pointer (some ⟨w.heap.size, 3, none⟩)) rfl (some 26) rfl rNS (by kernel_rfl) (by kernel_rfl) (fun _ _ _ h => by cases h.1) (by kernel_rfl) (fun w0 hw0 => by first | rfl | kernel_rfl) ⟨fr0, fn0⟩ ?_
  simp only [Act.put, List.setIfInBounds_toArray, List.set_cons_zero, List.set_cons_succ]
  refine anyH_take (i := 20) (v := .string r.jid) rfl (some 27) rfl rNS (by kernel_rfl) (by kernel_rfl) (fun _ _ _ h => by cases h.1) (by kernel_rfl) (fun w0 hw0 => ex_load rfl rfl (ld9 (rq_box hw0.1).2.2.2.1)) ⟨fr0, fn0⟩ ?_
  simp only [Act.put, List.setIfInBounds_toArray, List.set_cons_zero, List.set_cons_succ]
  refine anyH_take (i := 21) (v := .pointer (some ⟨w.heap.size, 3, none⟩)) rfl (some 28) rfl rNS (by kernel_rfl) (by kernel_rfl) (fun _ _ _ h => by cases h.1) (by kernel_rfl) (fun w0 hw0 => by first | rfl | kernel_rfl) ⟨fr0, fn0⟩ ?_
  simp only [Act.put, List.setIfInBounds_toArray, List.set_cons_zero, List.set_cons_succ]
  refine anyH_take (i := 22) (v := .string r.jid) rfl (some 29) rfl rNS (by kernel_rfl) (by kernel_rfl) (fun _ _ _ h => by cases h.1) (by kernel_rfl) (fun w0 hw0 => ex_load rfl rfl (ld9 (rq_box hw0.1).2.2.2.1)) ⟨fr0, fn0⟩ ?_
  simp only [Act.put, List.setIfInBounds_toArray, List.set_cons_zero, List.set_cons_succ]
  refine anyH_one (i := 23) (by kernel_rfl) ?_
  refine op_call rfl (some 30) rfl (by kernel_rfl) #[.string r.jid] rfl (by simp [Act.eval]) (fun _ _ => rfl) (Jd.addr_any r.jid V0 HF.out.jid G0.max G0.lt) ?_
  rintro e V1 ⟨rfl, b1⟩
  have fr1 := (b1.block _ (Array.getElem?_eq_some_iff.1 fr0).1).trans fr0
  have fn1 := (b1.block _ (Array.getElem?_eq_some_iff.1 fn0).1).trans fn0
  have B1 := B0.trans (b1.mono B0.size)
  have G1 := G0.below b1
  refine ⟨_, rfl, ⟨fr1, fn1⟩, ?_⟩
  simp only [Act.put, List.setIfInBounds_toArray, List.set_cons_zero, List.set_cons_succ]
  obtain ⟨p3, hp3⟩ : ∃ p, fitB (jidB r.verb) (Jd.addrOk r.jid) (decide (r.jid = ⟨#[]⟩)) = p := ⟨_, rfl⟩
  have HC3 := hide hp3
  have hc := fits_string (jidB r.verb) (Jd.addrOk r.jid) r.jid V1
  rw [hp3] at hc
  clear hp3
  refine anyH_one (i := 24) (by kernel_rfl) ?_
  refine op_call rfl (some 31) rfl (by kernel_rfl) #[.bool (jidB r.verb), .string r.jid, .bool (Jd.addrOk r.jid)] rfl (by simp [Act.eval]) (fun _ _ => rfl) (hc) ?_
  rintro e Vx ⟨rfl, hV⟩
  obtain rfl : V1 = Vx := hV.symm
  refine ⟨_, rfl, ⟨fr1, fn1⟩, ?_⟩
  simp only [Act.put, List.setIfInBounds_toArray, List.set_cons_zero, List.set_cons_succ]
  clear hc
  cases p3 with
  | false =>
    refine anyH_take (i := 25) (v := .bool false) rfl (some 32) rfl rNS (by kernel_rfl) (by kernel_rfl) (fun _ _ _ h => by cases h.1) (by kernel_rfl) (fun w0 hw0 => Jd.ex_pkT rfl rfl rfl) ⟨fr1, fn1⟩ ?_
    simp only [Act.put, List.setIfInBounds_toArray, List.set_cons_zero, List.set_cons_succ]
    refine anyH_take (i := 26) (v := .bool false) rfl (some 33) rfl rNS (by kernel_rfl) (by kernel_rfl) (fun _ _ _ h => by cases h.1) (by kernel_rfl) (fun w0 hw0 => by first | rfl | kernel_rfl) ⟨fr1, fn1⟩ ?_
    simp only [Act.put, List.setIfInBounds_toArray, List.set_cons_zero, List.set_cons_succ]
    exact rF4 r w nb P (HNo fun h => by have := h.2.2.2.1; rw [HC3.out] at this; cases this) V1 fr1 fn1 B1 (fun k => (#[x 0, .pointer (some ⟨w.heap.size, 0, none⟩), x 2, .pointer (some ⟨nb, 0, none⟩), x 4, x 5, x 6, x 7, x 8, x 9, x 10, x 11, x 12, x 13, x 14, x 15, x 16, x 17, x 18, x 19, x 20, x 21, x 22, .bool true, .pointer (some ⟨nb, 2, none⟩), .bool (jidB r.verb), .pointer (some ⟨w.heap.size, 3, none⟩), .string r.jid, .pointer (some ⟨w.heap.size, 3, none⟩), .string r.jid, .bool (Jd.addrOk r.jid), .bool false, .bool false, .bool false, x 34, x 35, x 36, x 37, x 38, x 39, x 40, x 41, x 42, x 43, x 44, x 45, x 46, x 47, x 48, x 49, x 50, x 51, x 52, x 53, x 54, x 55, x 56, x 57, x 58, x 59, x 60, x 61, x 62, x 63, x 64, x 65, x 66, x 67, x 68, x 69, x 70, x 71, x 72, x 73, x 74, x 75, x 76, x 77, x 78, x 79, x 80, x 81, x 82, x 83, x 84, x 85, x 86, x 87, x 88, x 89, x 90, x 91, x 92, x 93, x 94, x 95, x 96, x 97, x 98, x 99, x 100, x 101, x 102, x 103, x 104, x 105, x 106, x 107, x 108, x 109, x 110, x 111, x 112, x 113, x 114, x 115, x 116, x 117, x 118, x 119, x 120] : Array Value)[k]?.getD undef) _ (by kernel_rfl)
  | true =>
    refine anyH_take (i := 25) (v := .bool true) rfl (some 32) rfl rNS (by kernel_rfl) (by kernel_rfl) (fun _ _ _ h => by cases h.1) (by kernel_rfl) (fun w0 hw0 => Jd.ex_pkT rfl rfl rfl) ⟨fr1, fn1⟩ ?_
    simp only [Act.put, List.setIfInBounds_toArray, List.set_cons_zero, List.set_cons_succ]
    refine anyH_take (i := 26) (v := .bool true) rfl (some 33) rfl rNS (by kernel_rfl) (by kernel_rfl) (fun _ _ _ h => by cases h.1) (by kernel_rfl) (fun w0 hw0 => by first | rfl | kernel_rfl) ⟨fr1, fn1⟩ ?_
    simp only [Act.put, List.setIfInBounds_toArray, List.set_cons_zero, List.set_cons_succ]
    exact rT4 r w nb P HNo HYes HF V1 fr1 fn1 B1 G1 HC0 HC1 HC2 HC3 (fun k => (#[x 0, .pointer (some ⟨w.heap.size, 0, none⟩), x 2, .pointer (some ⟨nb, 0, none⟩), x 4, x 5, x 6, x 7, x 8, x 9, x 10, x 11, x 12, x 13, x 14, x 15, x 16, x 17, x 18, x 19, x 20, x 21, x 22, .bool true, .pointer (some ⟨nb, 2, none⟩), .bool (jidB r.verb), .pointer (some ⟨w.heap.size, 3, none⟩), .string r.jid, .pointer (some ⟨w.heap.size, 3, none⟩), .string r.jid, .bool (Jd.addrOk r.jid), .bool true, .bool true, .bool true, x 34, x 35, x 36, x 37, x 38, x 39, x 40, x 41, x 42, x 43, x 44, x 45, x 46, x 47, x 48, x 49, x 50, x 51, x 52, x 53, x 54, x 55, x 56, x 57, x 58, x 59, x 60, x 61, x 62, x 63, x 64, x 65, x 66, x 67, x 68, x 69, x 70, x 71, x 72, x 73, x 74, x 75, x 76, x 77, x 78, x 79, x 80, x 81, x 82, x 83, x 84, x 85, x 86, x 87, x 88, x 89, x 90, x 91, x 92, x 93, x 94, x 95, x 96, x 97, x 98, x 99, x 100, x 101, x 102, x 103, x 104, x 105, x 106, x 107, x 108, x 109, x 110, x 111, x 112, x 113, x 114, x 115, x 116, x 117, x 118, x 119, x 120] : Array Value)[k]?.getD undef) _ (by kernel_rfl)
set_option maxRecDepth 100000 in
set_option maxHeartbeats 4000000 in
theorem rT2 (r : Rq) (w : World) (nb : Nat) (P : Prop) (HNo : ¬ RightRq r → ¬ P) (HYes : RightRq r → P) (HF : Hid (RqFits r)) (V0 : World) (fr0 : V0.heap[w.heap.size]? = some (.cells (rqA r) 26)) (fn0 : V0.heap[nb]? = some (.cells (thA r.verb) 57)) (B0 : Below w.heap.size w V0) (G0 : GlbR V0) (HC0 : Hid (nodeB r.verb = true)) (HC1 : Hid (rnB r = true)) (x : Nat → Value) (listed : Array Bool) (hl : listed = #[true, true, true, true, true, true, true, false, false, false, false, false, false, false, false, false, false, false, false, false, false, false, false, false, false, false, false, false, false, false, false, false, false, false, false, false, false, false, false, false, false, false, false, false, false, false, false, false, false, false, false, false, false, false, false, false, false, false, false, false, false, false, false, false, false, false, false, false, false, false, false, false, false, false, false, false, false, false, false, false, false, false, false, false, false, false, false, false, false, false, false, false, false, false, false, false, false, false, false, false, false, false, false, false, false, false, false, false, false, false, false, false, false, false, false]) : wpAnyH Tryd.prog .any rightOps (RightQ P w) (RightS r w nb) 108 listed { tmps := #[x 0, .pointer (some ⟨w.heap.size, 0, none⟩), x 2, .pointer (some ⟨nb, 0, none⟩), x 4, x 5, x 6, x 7, x 8, x 9, x 10, x 11, x 12, .bool true, x 14, x 15, x 16, x 17, x 18, x 19, x 20, x 21, x 22, x 23, x 24, x 25, x 26, x 27, x 28, x 29, x 30, x 31, x 32, x 33, x 34, x 35, x 36, x 37, x 38, x 39, x 40, x 41, x 42, x 43, x 44, x 45, x 46, x 47, x 48, x 49, x 50, x 51, x 52, x 53, x 54, x 55, x 56, x 57, x 58, x 59, x 60, x 61, x 62, x 63, x 64, x 65, x 66, x 67, x 68, x 69, x 70, x 71, x 72, x 73, x 74, x 75, x 76, x 77, x 78, x 79, x 80, x 81, x 82, x 83, x 84, x 85, x 86, x 87, x 88, x 89, x 90, x 91, x 92, x 93, x 94, x 95, x 96, x 97, x 98, x 99, x 100, x 101, x 102, x 103, x 104, x 105, x 106, x 107, x 108, x 109, x 110, x 111, x 112, x 113, x 114, x 115, x 116, x 117, x 118, x 119, x 120], defers := [] } V0 := by
  subst hl
  refine anyH_take (i := 7) (v := .pointer (some ⟨nb, 1, none⟩)) rfl (some 14) rfl rNS (by kernel_rfl) (by kernel_rfl) (fun _ _ _ h => by cases h.1) (by kernel_rfl) (fun w0 hw0 => by first | rfl | kernel_rfl) ⟨fr0, fn0⟩ ?_
  simp only [Act.put, List.setIfInBounds_toArray, List.set_cons_zero, List.set_cons_succ]
  refine anyH_take (i := 8) (v := .bool (itemB r.verb)) rfl (some 15) rfl rNS (by kernel_rfl) (by kernel_rfl) (fun _ _ _ h => by cases h.1) (by kernel_rfl) (fun w0 hw0 => ex_load rfl rfl (ld4 (th_box hw0.2).2.1)) ⟨fr0, fn0⟩ ?_
  simp only [Act.put, List.setIfInBounds_toArray, List.set_cons_zero, List.set_cons_succ]
  refine anyH_take (i := 9) (v := .pointer (some ⟨w.heap.size, 2, none⟩)) rfl (some 16) rfl rNS (by kernel_rfl) (by kernel_rfl) (fun _ _ _ h => by cases h.1) (by kernel_rfl) (fun w0 hw0 => by first | rfl | kernel_rfl) ⟨fr0, fn0⟩ ?_
  simp only [Act.put, List.setIfInBounds_toArray, List.set_cons_zero, List.set_cons_succ]
  refine anyH_take (i := 10) (v := .string r.item) rfl (some 17) rfl rNS (by kernel_rfl) (by kernel_rfl) (fun _ _ _ h => by cases h.1) (by kernel_rfl) (fun w0 hw0 => ex_load rfl rfl (ld9 (rq_box hw0.1).2.2.1)) ⟨fr0, fn0⟩ ?_
  simp only [Act.put, List.setIfInBounds_toArray, List.set_cons_zero, List.set_cons_succ]
  refine anyH_take (i := 11) (v := .pointer (some ⟨w.heap.size, 2, none⟩)) rfl (some 18) rfl rNS (by kernel_rfl) (by kernel_rfl) (fun _ _ _ h => by cases h.1) (by kernel_rfl) (fun w0 hw0 => by first | rfl | kernel_rfl) ⟨fr0, fn0⟩ ?_
  simp only [Act.put, List.setIfInBounds_toArray, List.set_cons_zero, List.set_cons_succ]
  refine anyH_take (i := 12) (v := .string r.item) rfl (some 19) rfl rNS (by kernel_rfl) (by kernel_rfl) (fun _ _ _ h => by cases h.1) (by kernel_rfl) (fun w0 hw0 => ex_load rfl rfl (ld9 (rq_box hw0.1).2.2.1)) ⟨fr0, fn0⟩ ?_
  simp only [Act.put, List.setIfInBounds_toArray, List.set_cons_zero, List.set_cons_succ]
  refine anyH_one (i := 13) (by kernel_rfl) ?_
  refine op_call rfl (some 20) rfl (by kernel_rfl) #[.string r.item] rfl (by simp [Act.eval]) (fun _ _ => rfl) (Jd.name_any r.item V0 HF.out.item) ?_
  rintro e Vx ⟨rfl, hV⟩
  obtain rfl : V0 = Vx := hV.symm
  refine ⟨_, rfl, ⟨fr0, fn0⟩, ?_⟩
  simp only [Act.put, List.setIfInBounds_toArray, List.set_cons_zero, List.set_cons_succ]
  obtain ⟨p2, hp2⟩ : ∃ p, fitB (itemB r.verb) (Jd.nameOk r.item) (decide (r.item = ⟨#[]⟩)) = p := ⟨_, rfl⟩
  have HC2 := hide hp2
  have hc := fits_string (itemB r.verb) (Jd.nameOk r.item) r.item V0
  rw [hp2] at hc
  clear hp2
  refine anyH_one (i := 14) (by kernel_rfl) ?_
  refine op_call rfl (some 21) rfl (by kernel_rfl) #[.bool (itemB r.verb), .string r.item, .bool (Jd.nameOk r.item)] rfl (by simp [Act.eval]) (fun _ _ => rfl) (hc) ?_
  rintro e Vx ⟨rfl, hV⟩
  obtain rfl : V0 = Vx := hV.symm
  refine ⟨_, rfl, ⟨fr0, fn0⟩, ?_⟩
  simp only [Act.put, List.setIfInBounds_toArray, List.set_cons_zero, List.set_cons_succ]
  clear hc
  cases p2 with
  | false =>
    refine anyH_take (i := 15) (v := .bool false) rfl (some 22) rfl rNS (by kernel_rfl) (by kernel_rfl) (fun _ _ _ h => by cases h.1) (by kernel_rfl) (fun w0 hw0 => Jd.ex_pkT rfl rfl rfl) ⟨fr0, fn0⟩ ?_
    simp only [Act.put, List.setIfInBounds_toArray, List.set_cons_zero, List.set_cons_succ]
    refine anyH_take (i := 16) (v := .bool false) rfl (some 23) rfl rNS (by kernel_rfl) (by kernel_rfl) (fun _ _ _ h => by cases h.1) (by kernel_rfl) (fun w0 hw0 => by first | rfl | kernel_rfl) ⟨fr0, fn0⟩ ?_
    simp only [Act.put, List.setIfInBounds_toArray, List.set_cons_zero, List.set_cons_succ]
    exact rF3 r w nb P (HNo fun h => by have := h.2.2.1; rw [HC2.out] at this; cases this) V0 fr0 fn0 B0 (fun k => (#[x 0, .pointer (some ⟨w.heap.size, 0, none⟩), x 2, .pointer (some ⟨nb, 0, none⟩), x 4, x 5, x 6, x 7, x 8, x 9, x 10, x 11, x 12, .bool true, .pointer (some ⟨nb, 1, none⟩), .bool (itemB r.verb), .pointer (some ⟨w.heap.size, 2, none⟩), .string r.item, .pointer (some ⟨w.heap.size, 2, none⟩), .string r.item, .bool (Jd.nameOk r.item), .bool false, .bool false, .bool false, x 24, x 25, x 26, x 27, x 28, x 29, x 30, x 31, x 32, x 33, x 34, x 35, x 36, x 37, x 38, x 39, x 40, x 41, x 42, x 43, x 44, x 45, x 46, x 47, x 48, x 49, x 50, x 51, x 52, x 53, x 54, x 55, x 56, x 57, x 58, x 59, x 60, x 61, x 62, x 63, x 64, x 65, x 66, x 67, x 68, x 69, x 70, x 71, x 72, x 73, x 74, x 75, x 76, x 77, x 78, x 79, x 80, x 81, x 82, x 83, x 84, x 85, x 86, x 87, x 88, x 89, x 90, x 91, x 92, x 93, x 94, x 95, x 96, x 97, x 98, x 99, x 100, x 101, x 102, x 103, x 104, x 105, x 106, x 107, x 108, x 109, x 110, x 111, x 112, x 113, x 114, x 115, x 116, x 117, x 118, x 119, x 120] : Array Value)[k]?.getD undef) _ (by kernel_rfl)
  | true =>
    refine anyH_take (i := 15) (v := .bool true) rfl (some 22) rfl rNS (by kernel_rfl) (by kernel_rfl) (fun _ _ _ h => by cases h.1) (by kernel_rfl) (fun w0 hw0 => Jd.ex_pkT rfl rfl rfl) ⟨fr0, fn0⟩ ?_
    simp only [Act.put, List.setIfInBounds_toArray, List.set_cons_zero, List.set_cons_succ]
    refine anyH_take (i := 16) (v := .bool true) rfl (some 23) rfl rNS (by kernel_rfl) (by kernel_rfl) (fun _ _ _ h => by cases h.1) (by kernel_rfl) (fun w0 hw0 => by first | rfl | kernel_rfl) ⟨fr0, fn0⟩ ?_
    simp only [Act.put, List.setIfInBounds_toArray, List.set_cons_zero, List.set_cons_succ]
    exact rT3 r w nb P HNo HYes HF V0 fr0 fn0 B0 G0 HC0 HC1 HC2 (fun k => (#[x 0, .pointer (some ⟨w.heap.size, 0, none⟩), x 2, .pointer (some ⟨nb, 0, none⟩), x 4, x 5, x 6, x 7, x 8, x 9, x 10, x 11, x 12, .bool true, .pointer (some ⟨nb, 1, none⟩), .bool (itemB r.verb), .pointer (some ⟨w.heap.size, 2, none⟩), .string r.item, .pointer (some ⟨w.heap.size, 2, none⟩), .string r.item, .bool (Jd.nameOk r.item), .bool true, .bool true, .bool true, x 24, x 25, x 26, x 27, x 28, x 29, x 30, x 31, x 32, x 33, x 34, x 35, x 36, x 37, x 38, x 39, x 40, x 41, x 42, x 43, x 44, x 45, x 46, x 47, x 48, x 49, x 50, x 51, x 52, x 53, x 54, x 55, x 56, x 57, x 58, x 59, x 60, x 61, x 62, x 63, x 64, x 65, x 66, x 67, x 68, x 69, x 70, x 71, x 72, x 73, x 74, x 75, x 76, x 77, x 78, x 79, x 80, x 81, x 82, x 83, x 84, x 85, x 86, x 87, x 88, x 89, x 90, x 91, x 92, x 93, x 94, x 95, x 96, x 97, x 98, x 99, x 100, x 101, x 102, x 103, x 104, x 105, x 106, x 107, x 108, x 109, x 110, x 111, x 112, x 113, x 114, x 115, x 116, x 117, x 118, x 119, x 120] : Array Value)[k]?.getD undef) _ (by kernel_rfl)
set_option maxRecDepth 100000 in
set_option maxHeartbeats 4000000 in
theorem rT1 (r : Rq) (w : World) (nb : Nat) (P : Prop) (HNo : ¬ RightRq r → ¬ P) (HYes : RightRq r → P) (HF : Hid (RqFits r)) (V0 : World) (fr0 : V0.heap[w.heap.size]? = some (.cells (rqA r) 26)) (fn0 : V0.heap[nb]? = some (.cells (thA r.verb) 57)) (B0 : Below w.heap.size w V0) (G0 : GlbR V0) (HC0 : Hid (nodeB r.verb = true)) (x : Nat → Value) (listed : Array Bool) (hl : listed = #[true, true, true, false, false, false, false, false, false, false, false, false, false, false, false, false, false, false, false, false, false, false, false, false, false, false, false, false, false, false, false, false, false, false, false, false, false, false, false, false, false, false, false, false, false, false, false, false, false, false, false, false, false, false, false, false, false, false, false, false, false, false, false, false, false, false, false, false, false, false, false, false, false, false, false, false, false, false, false, false, false, false, false, false, false, false, false, false, false, false, false, false, false, false, false, false, false, false, false, false, false, false, false, false, false, false, false, false, false, false, false, false, false, false, false]) : wpAnyH Tryd.prog .any rightOps (RightQ P w) (RightS r w nb) 112 listed { tmps := #[x 0, .pointer (some ⟨w.heap.size, 0, none⟩), x 2, .pointer (some ⟨nb, 0, none⟩), x 4, x 5, x 6, x 7, x 8, .bool true, x 10, x 11, x 12, x 13, x 14, x 15, x 16, x 17, x 18, x 19, x 20, x 21, x 22, x 23, x 24, x 25, x 26, x 27, x 28, x 29, x 30, x 31, x 32, x 33, x 34, x 35, x 36, x 37, x 38, x 39, x 40, x 41, x 42, x 43, x 44, x 45, x 46, x 47, x 48, x 49, x 50, x 51, x 52, x 53, x 54, x 55, x 56, x 57, x 58, x 59, x 60, x 61, x 62, x 63, x 64, x 65, x 66, x 67, x 68, x 69, x 70, x 71, x 72, x 73, x 74, x 75, x 76, x 77, x 78, x 79, x 80, x 81, x 82, x 83, x 84, x 85, x 86, x 87, x 88, x 89, x 90, x 91, x 92, x 93, x 94, x 95, x 96, x 97, x 98, x 99, x 100, x 101, x 102, x 103, x 104, x 105, x 106, x 107, x 108, x 109, x 110, x 111, x 112, x 113, x 114, x 115, x 116, x 117, x 118, x 119, x 120], defers := [] } V0 := by
  subst hl
  refine anyH_take (i := 3) (v := .agg (rqA r)) rfl (some 10) rfl rNS (by kernel_rfl) (by kernel_rfl) (fun _ _ _ h => by cases h.1) (by kernel_rfl) (fun w0 hw0 => ex_load rfl rfl (load_rq hw0.1)) ⟨fr0, fn0⟩ ?_
  simp only [Act.put, List.setIfInBounds_toArray, List.set_cons_zero, List.set_cons_succ]
  obtain ⟨p1, hp1⟩ : ∃ p, rnB r = p := ⟨_, rfl⟩
  have hc := rightNode_any r V0 HF.out
  rw [hp1] at hc
  have HC1 := hide hp1
  clear hp1
  refine anyH_one (i := 4) (by kernel_rfl) ?_
  refine op_call rfl (some 11) rfl (by kernel_rfl) #[.agg (rqA r)] rfl (by simp [Act.eval]) (fun _ _ => rfl) (hc) ?_
  rintro e V1 ⟨rfl, b1⟩
  have fr1 := (b1.block _ (Array.getElem?_eq_some_iff.1 fr0).1).trans fr0
  have fn1 := (b1.block _ (Array.getElem?_eq_some_iff.1 fn0).1).trans fn0
  have B1 := B0.trans (b1.mono B0.size)
  have G1 := G0.below b1
  refine ⟨_, rfl, ⟨fr1, fn1⟩, ?_⟩
  simp only [Act.put, List.setIfInBounds_toArray, List.set_cons_zero, List.set_cons_succ]
  clear hc
  cases p1 with
  | false =>
    refine anyH_take (i := 5) (v := .bool false) rfl (some 12) rfl rNS (by kernel_rfl) (by kernel_rfl) (fun _ _ _ h => by cases h.1) (by kernel_rfl) (fun w0 hw0 => Jd.ex_pkT rfl rfl rfl) ⟨fr1, fn1⟩ ?_
    simp only [Act.put, List.setIfInBounds_toArray, List.set_cons_zero, List.set_cons_succ]
    refine anyH_take (i := 6) (v := .bool false) rfl (some 13) rfl rNS (by kernel_rfl) (by kernel_rfl) (fun _ _ _ h => by cases h.1) (by kernel_rfl) (fun w0 hw0 => by first | rfl | kernel_rfl) ⟨fr1, fn1⟩ ?_
    simp only [Act.put, List.setIfInBounds_toArray, List.set_cons_zero, List.set_cons_succ]
    exact rF2 r w nb P (HNo fun h => by have := h.2.1; rw [HC1.out] at this; cases this) V1 fr1 fn1 B1 (fun k => (#[x 0, .pointer (some ⟨w.heap.size, 0, none⟩), x 2, .pointer (some ⟨nb, 0, none⟩), x 4, x 5, x 6, x 7, x 8, .bool true, .agg (rqA r), .bool false, .bool false, .bool false, x 14, x 15, x 16, x 17, x 18, x 19, x 20, x 21, x 22, x 23, x 24, x 25, x 26, x 27, x 28, x 29, x 30, x 31, x 32, x 33, x 34, x 35, x 36, x 37, x 38, x 39, x 40, x 41, x 42, x 43, x 44, x 45, x 46, x 47, x 48, x 49, x 50, x 51, x 52, x 53, x 54, x 55, x 56, x 57, x 58, x 59, x 60, x 61, x 62, x 63, x 64, x 65, x 66, x 67, x 68, x 69, x 70, x 71, x 72, x 73, x 74, x 75, x 76, x 77, x 78, x 79, x 80, x 81, x 82, x 83, x 84, x 85, x 86, x 87, x 88, x 89, x 90, x 91, x 92, x 93, x 94, x 95, x 96, x 97, x 98, x 99, x 100, x 101, x 102, x 103, x 104, x 105, x 106, x 107, x 108, x 109, x 110, x 111, x 112, x 113, x 114, x 115, x 116, x 117, x 118, x 119, x 120] : Array Value)[k]?.getD undef) _ (by kernel_rfl)
  | true =>
    refine anyH_take (i := 5) (v := .bool true) rfl (some 12) rfl rNS (by kernel_rfl) (by kernel_rfl) (fun _ _ _ h => by cases h.1) (by kernel_rfl) (fun w0 hw0 => Jd.ex_pkT rfl rfl rfl) ⟨fr1, fn1⟩ ?_
    simp only [Act.put, List.setIfInBounds_toArray, List.set_cons_zero, List.set_cons_succ]
    refine anyH_take (i := 6) (v := .bool true) rfl (some 13) rfl rNS (by kernel_rfl) (by kernel_rfl) (fun _ _ _ h => by cases h.1) (by kernel_rfl) (fun w0 hw0 => by first | rfl | kernel_rfl) ⟨fr1, fn1⟩ ?_
    simp only [Act.put, List.setIfInBounds_toArray, List.set_cons_zero, List.set_cons_succ]
    exact rT2 r w nb P HNo HYes HF V1 fr1 fn1 B1 G1 HC0 HC1 (fun k => (#[x 0, .pointer (some ⟨w.heap.size, 0, none⟩), x 2, .pointer (some ⟨nb, 0, none⟩), x 4, x 5, x 6, x 7, x 8, .bool true, .agg (rqA r), .bool true, .bool true, .bool true, x 14, x 15, x 16, x 17, x 18, x 19, x 20, x 21, x 22, x 23, x 24, x 25, x 26, x 27, x 28, x 29, x 30, x 31, x 32, x 33, x 34, x 35, x 36, x 37, x 38, x 39, x 40, x 41, x 42, x 43, x 44, x 45, x 46, x 47, x 48, x 49, x 50, x 51, x 52, x 53, x 54, x 55, x 56, x 57, x 58, x 59, x 60, x 61, x 62, x 63, x 64, x 65, x 66, x 67, x 68, x 69, x 70, x 71, x 72, x 73, x 74, x 75, x 76, x 77, x 78, x 79, x 80, x 81, x 82, x 83, x 84, x 85, x 86, x 87, x 88, x 89, x 90, x 91, x 92, x 93, x 94, x 95, x 96, x 97, x 98, x 99, x 100, x 101, x 102, x 103, x 104, x 105, x 106, x 107, x 108, x 109, x 110, x 111, x 112, x 113, x 114, x 115, x 116, x 117, x 118, x 119, x 120] : Array Value)[k]?.getD undef) _ (by kernel_rfl)
set_option maxRecDepth 100000 in
set_option maxHeartbeats 4000000 in
theorem rT0 (r : Rq) (w : World) (nb : Nat) (P : Prop) (HNo : ¬ RightRq r → ¬ P) (HYes : RightRq r → P) (HF : Hid (RqFits r)) (V0 : World) (fr0 : V0.heap[w.heap.size]? = some (.cells (rqA r) 26)) (fn0 : V0.heap[nb]? = some (.cells (thA r.verb) 57)) (B0 : Below w.heap.size w V0) (G0 : GlbR V0) (x : Nat → Value) (listed : Array Bool) (hl : listed = #[false, false, false, false, false, false, false, false, false, false, false, false, false, false, false, false, false, false, false, false, false, false, false, false, false, false, false, false, false, false, false, false, false, false, false, false, false, false, false, false, false, false, false, false, false, false, false, false, false, false, false, false, false, false, false, false, false, false, false, false, false, false, false, false, false, false, false, false, false, false, false, false, false, false, false, false, false, false, false, false, false, false, false, false, false, false, false, false, false, false, false, false, false, false, false, false, false, false, false, false, false, false, false, false, false, false, false, false, false, false, false, false, false, false, false]) : wpAnyH Tryd.prog .any rightOps (RightQ P w) (RightS r w nb) 115 listed { tmps := #[x 0, .pointer (some ⟨w.heap.size, 0, none⟩), x 2, .pointer (some ⟨nb, 0, none⟩), x 4, x 5, x 6, x 7, x 8, x 9, x 10, x 11, x 12, x 13, x 14, x 15, x 16, x 17, x 18, x 19, x 20, x 21, x 22, x 23, x 24, x 25, x 26, x 27, x 28, x 29, x 30, x 31, x 32, x 33, x 34, x 35, x 36, x 37, x 38, x 39, x 40, x 41, x 42, x 43, x 44, x 45, x 46, x 47, x 48, x 49, x 50, x 51, x 52, x 53, x 54, x 55, x 56, x 57, x 58, x 59, x 60, x 61, x 62, x 63, x 64, x 65, x 66, x 67, x 68, x 69, x 70, x 71, x 72, x 73, x 74, x 75, x 76, x 77, x 78, x 79, x 80, x 81, x 82, x 83, x 84, x 85, x 86, x 87, x 88, x 89, x 90, x 91, x 92, x 93, x 94, x 95, x 96, x 97, x 98, x 99, x 100, x 101, x 102, x 103, x 104, x 105, x 106, x 107, x 108, x 109, x 110, x 111, x 112, x 113, x 114, x 115, x 116, x 117, x 118, x 119, x 120], defers := [] } V0 := by
  subst hl
  obtain ⟨p0, hp0⟩ : ∃ p, nodeB r.verb = p := ⟨_, rfl⟩
  have HC0 := hide hp0
  clear hp0
  cases p0 with
  | false =>
    refine anyH_take (i := 0) (v := .pointer (some ⟨nb, 0, none⟩)) rfl (some 7) rfl rNS (by kernel_rfl) (by kernel_rfl) (fun _ _ _ h => by cases h.1) (by kernel_rfl) (fun w0 hw0 => by first | rfl | kernel_rfl) ⟨fr0, fn0⟩ ?_
    simp only [Act.put, List.setIfInBounds_toArray, List.set_cons_zero, List.set_cons_succ]
    refine anyH_take (i := 1) (v := .bool false) rfl (some 8) rfl rNS (by kernel_rfl) (by kernel_rfl) (fun _ _ _ h => by cases h.1) (by kernel_rfl) (fun w0 hw0 => ex_load rfl rfl (ld4 ((th_box hw0.2).1.trans (by rw [HC0.out])))) ⟨fr0, fn0⟩ ?_
    simp only [Act.put, List.setIfInBounds_toArray, List.set_cons_zero, List.set_cons_succ]
    refine anyH_take (i := 2) (v := .bool false) rfl (some 9) rfl rNS (by kernel_rfl) (by kernel_rfl) (fun _ _ _ h => by cases h.1) (by kernel_rfl) (fun w0 hw0 => by first | rfl | kernel_rfl) ⟨fr0, fn0⟩ ?_
    simp only [Act.put, List.setIfInBounds_toArray, List.set_cons_zero, List.set_cons_succ]
    exact rF1 r w nb P (HNo fun h => by have := h.1; rw [HC0.out] at this; cases this) V0 fr0 fn0 B0 (fun k => (#[x 0, .pointer (some ⟨w.heap.size, 0, none⟩), x 2, .pointer (some ⟨nb, 0, none⟩), x 4, x 5, x 6, .pointer (some ⟨nb, 0, none⟩), .bool false, .bool false, x 10, x 11, x 12, x 13, x 14, x 15, x 16, x 17, x 18, x 19, x 20, x 21, x 22, x 23, x 24, x 25, x 26, x 27, x 28, x 29, x 30, x 31, x 32, x 33, x 34, x 35, x 36, x 37, x 38, x 39, x 40, x 41, x 42, x 43, x 44, x 45, x 46, x 47, x 48, x 49, x 50, x 51, x 52, x 53, x 54, x 55, x 56, x 57, x 58, x 59, x 60, x 61, x 62, x 63, x 64, x 65, x 66, x 67, x 68, x 69, x 70, x 71, x 72, x 73, x 74, x 75, x 76, x 77, x 78, x 79, x 80, x 81, x 82, x 83, x 84, x 85, x 86, x 87, x 88, x 89, x 90, x 91, x 92, x 93, x 94, x 95, x 96, x 97, x 98, x 99, x 100, x 101, x 102, x 103, x 104, x 105, x 106, x 107, x 108, x 109, x 110, x 111, x 112, x 113, x 114, x 115, x 116, x 117, x 118, x 119, x 120] : Array Value)[k]?.getD undef) _ (by kernel_rfl)
  | true =>
    refine anyH_take (i := 0) (v := .pointer (some ⟨nb, 0, none⟩)) rfl (some 7) rfl rNS (by kernel_rfl) (by kernel_rfl) (fun _ _ _ h => by cases h.1) (by kernel_rfl) (fun w0 hw0 => by first | rfl | kernel_rfl) ⟨fr0, fn0⟩ ?_
    simp only [Act.put, List.setIfInBounds_toArray, List.set_cons_zero, List.set_cons_succ]
    refine anyH_take (i := 1) (v := .bool true) rfl (some 8) rfl rNS (by kernel_rfl) (by kernel_rfl) (fun _ _ _ h => by cases h.1) (by kernel_rfl) (fun w0 hw0 => ex_load rfl rfl (ld4 ((th_box hw0.2).1.trans (by rw [HC0.out])))) ⟨fr0, fn0⟩ ?_
    simp only [Act.put, List.setIfInBounds_toArray, List.set_cons_zero, List.set_cons_succ]
    refine anyH_take (i := 2) (v := .bool true) rfl (some 9) rfl rNS (by kernel_rfl) (by kernel_rfl) (fun _ _ _ h => by cases h.1) (by kernel_rfl) (fun w0 hw0 => by first | rfl | kernel_rfl) ⟨fr0, fn0⟩ ?_
    simp only [Act.put, List.setIfInBounds_toArray, List.set_cons_zero, List.set_cons_succ]
    exact rT1 r w nb P HNo HYes HF V0 fr0 fn0 B0 G0 HC0 (fun k => (#[x 0, .pointer (some ⟨w.heap.size, 0, none⟩), x 2, .pointer (some ⟨nb, 0, none⟩), x 4, x 5, x 6, .pointer (some ⟨nb, 0, none⟩), .bool true, .bool true, x 10, x 11, x 12, x 13, x 14, x 15, x 16, x 17, x 18, x 19, x 20, x 21, x 22, x 23, x 24, x 25, x 26, x 27, x 28, x 29, x 30, x 31, x 32, x 33, x 34, x 35, x 36, x 37, x 38, x 39, x 40, x 41, x 42, x 43, x 44, x 45, x 46, x 47, x 48, x 49, x 50, x 51, x 52, x 53, x 54, x 55, x 56, x 57, x 58, x 59, x 60, x 61, x 62, x 63, x 64, x 65, x 66, x 67, x 68, x 69, x 70, x 71, x 72, x 73, x 74, x 75, x 76, x 77, x 78, x 79, x 80, x 81, x 82, x 83, x 84, x 85, x 86, x 87, x 88, x 89, x 90, x 91, x 92, x 93, x 94, x 95, x 96, x 97, x 98, x 99, x 100, x 101, x 102, x 103, x 104, x 105, x 106, x 107, x 108, x 109, x 110, x 111, x 112, x 113, x 114, x 115, x 116, x 117, x 118, x 119, x 120] : Array Value)[k]?.getD undef) _ (by kernel_rfl)
end Go.Proofs.YtimhkgpjfppkmaaDoor
