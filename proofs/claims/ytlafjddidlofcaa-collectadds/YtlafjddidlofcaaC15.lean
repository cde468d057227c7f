/- The document's Right. -/
import Derived.Test.YtlafjddidlofcaaCE
namespace Go.Proofs.Ytlafjddidlofcaa
open Go.RowKit Go.Shelf

theorem named_take {l : List Pr} {k : Nat} {x : Pr} (h : Named (l.take k)) (hx : l[k]? = some x) (h1 : x.1.toList.isEmpty = false) (h2 : x.2.toList.isEmpty = false) : Named (l.take (k + 1)) := take_step (p := fun y => y.1.toList.isEmpty = false ∧ y.2.toList.isEmpty = false) h hx ⟨h1, h2⟩
theorem rising_one (l : List Pr) : Rising (l.take 1) := by
  cases l with
  | nil => exact List.Pairwise.nil
  | cons x l => exact List.pairwise_singleton _ _
theorem not_named {l : List Pr} {k : Nat} {x : Pr} (hx : l[k]? = some x) (h : x.1.toList.isEmpty = true ∨ x.2.toList.isEmpty = true) : ¬ RightE l := fun hr => by
  have := hr.2.1 x (List.mem_of_getElem? hx)
  rcases h with h | h
  · rw [h] at this
    cases this.1
  · rw [h] at this
    cases this.2
/-- The first loop of Right: what it has seen so far. -/
theorem rise_no {l : List Pr} {k : Nat} {x y : Pr} (hx : l[k]? = some x) (hy : l[k + 1]? = some y) (h : ¬ x.1.toList < y.1.toList) : ¬ RightE l := fun hr => h (rising_at hr.2.2.1 hx hy (by omega))
set_option maxRecDepth 100000 in
set_option maxHeartbeats 8000000 in
theorem rright_any (ao : Option Addr) (cap : Nat) (l : List Pr) (w : World) (hm : EdMem w.heap.size w ao l) :
    Calls Try.prog 16 #[.slice ao l.length cap] w fun e w' => ((RightE l ∧ e = .returned (.bool true)) ∨ (¬ RightE l ∧ e = .returned (.bool false))) ∧ Below w.heap.size w w' := by
  have hlen := hm.1
  obtain ⟨m, hml⟩ : ∃ m, l.length = m := ⟨_, rfl⟩
  have HM := hide (And.intro hm hml)
  rw [hml] at hlen ⊢
  clear hm hml
  by_cases h64 : 64 < m
  · have h64i : (64 : Int) < m := by omega
    have hno : ¬ RightE l := fun h => (by have := h.1; have := HM.out.2; omega)
    have HN := hide hno
    clear hno
    go_enter Try.func16, Try.ntmps16
    go_wp2_with fail
    go_ret
    exact ⟨.inr ⟨HN.out, rfl⟩, Below.refl _ _⟩
  · have h64i : ¬ ((64 : Int) < m) := by omega
    go_enter Try.func16, Try.ntmps16
    go_wp2_with fail
    go_loopw [3] (fun j wr => ∃ k : Nat, k ≤ m ∧ j = .int .i64 k ∧ Named (l.take k) ∧ Rising (l.take k) ∧ Below w.heap.size w wr) (fun j _ => m - (intOf j).toNat)
    case atStart => exact ⟨0, Nat.zero_le _, rfl, fun x hx => by simp at hx, List.Pairwise.nil, Below.refl _ _⟩
    case round =>
      obtain ⟨k, hk, rfl, hN, hR, hbw⟩ := hrel
      have hw1 : IntKind.i64.wrap ((k : Int) + 1) = k + 1 := by rw [IntKind.wrap_i64]; omega
      by_cases hlt : k < m
      · have hlti : (k : Int) < m := by omega
        obtain ⟨x, hx⟩ : ∃ x, l[k]? = some x := ⟨l[k]'(by have := HM.out.2; omega), by simp⟩
        obtain ⟨b, off, rfl, hbl, c0, c1⟩ := (HM.out.1.below hbw).2 k x hx
        cases he1 : x.1.toList.isEmpty with
        | true =>
          have HI := hide (And.intro (not_named hx (.inl he1)) hbw)
          clear hN hR hbw hx
          go_wp2_with fail
          go_quiet (fail)
          go_wp2_with fail
          go_ret
          exact ⟨.inr ⟨HI.out.1, rfl⟩, below_drewN HI.out.2 _⟩
        | false =>
          cases he2 : x.2.toList.isEmpty with
          | true =>
            have HI := hide (And.intro (not_named hx (.inr he2)) hbw)
            clear hN hR hbw hx
            go_wp2_with fail
            go_quiet (fail)
            go_wp2_with fail
            go_ret
            exact ⟨.inr ⟨HI.out.1, rfl⟩, below_drewN HI.out.2 _⟩
          | false =>
            have hN2 := named_take hN hx he1 he2
            by_cases hk0 : k = 0
            · have hkp : ¬ (0 < k) := by omega
              have hR1 : Rising (l.take (k + 1)) := by rw [hk0]; exact rising_one l
              have HI := hide (And.intro hN2 (And.intro hR1 hbw))
              clear hN hN2 hR hR1 hbw hx hk0
              go_wp2_with fail
              go_quiet (fail)
              go_wp2_with fail
              exact ⟨⟨k + 1, by omega, by simp, HI.out.1, HI.out.2.1, below_drewN HI.out.2.2 _⟩, by simp [intOf]; omega⟩
            · have hkp : 0 < k := by omega
              obtain ⟨j, hj⟩ : ∃ j, k = j + 1 := ⟨k - 1, by omega⟩
              obtain ⟨y, hy⟩ : ∃ y, l[j]? = some y := ⟨l[j]'(by have := HM.out.2; omega), by simp⟩
              obtain ⟨b', off', e', _, d0, _⟩ := (HM.out.1.below hbw).2 j y hy
              cases e'
              have hw0 : IntKind.i64.wrap ((k : Int) - 1) = j := by rw [IntKind.wrap_i64]; omega
              have hjm : (j : Int) < m := by omega
              by_cases hlt2 : y.1.toList < x.1.toList
              · have hq := less_no (str_asymm hlt2)
                have hq2 : (x.1.toList == y.1.toList) = false := txt_ne (fun e => str_irrefl _ (by rw [e] at hlt2; exact hlt2))
                have hR1 : Rising (l.take (k + 1)) := by
                  rw [hj] at hR hx ⊢
                  exact rising_take hR hy hx hlt2
                have HI := hide (And.intro hN2 (And.intro hR1 hbw))
                clear hN hN2 hR hR1 hbw hx hy hlt2 hj hk0
                go_wp2_with fail
                go_quiet (fail)
                go_wp2_with fail
                exact ⟨⟨k + 1, by omega, by simp, HI.out.1, HI.out.2.1, below_drewN HI.out.2.2 _⟩, by simp [intOf]; omega⟩
              · have HI := hide (And.intro (rise_no hy (by rw [← hj]; exact hx) hlt2) hbw)
                by_cases hxy : x.1 = y.1
                · have hq2 := txt_eq hxy
                  have hq := less_no (a := x.1.toList) (b := y.1.toList) (fun h => str_irrefl _ (by rw [hxy] at h; exact h))
                  clear hN hN2 hR hbw hx hy hlt2 hj hk0 hxy
                  go_wp2_with fail
                  go_quiet (fail)
                  go_wp2_with fail
                  go_ret
                  exact ⟨.inr ⟨HI.out.1, rfl⟩, below_drewN HI.out.2 _⟩
                · have hq := less_yes (str_total hlt2 (fun e => hxy (ba_ext e.symm)))
                  clear hN hN2 hR hbw hx hy hlt2 hj hk0 hxy
                  go_wp2_with fail
                  go_quiet (fail)
                  go_wp2_with fail
                  go_ret
                  exact ⟨.inr ⟨HI.out.1, rfl⟩, below_drewN HI.out.2 _⟩
      · obtain rfl : k = m := by omega
        have hlti : ¬ ((k : Int) < k) := by omega
        rw [List.take_of_length_le (by have := HM.out.2; omega)] at hN hR
        have HI := hide (And.intro hN (And.intro hR hbw))
        clear hN hR hbw
        go_wp2_with fail
        go_loopw [4] (fun j wx => ∃ i : Nat, i ≤ k ∧ j = .int .i64 i ∧ (∀ y ∈ l.take i, y.1 ∉ chain l k y.1) ∧ Below w.heap.size w wx) (fun j _ => k - (intOf j).toNat)
        case atStart => exact ⟨0, Nat.zero_le _, rfl, fun x hx => by simp at hx, HI.out.2.2⟩
        case round =>
          obtain ⟨i, hi, rfl, hno, hbw⟩ := hrel
          have hw2 : IntKind.i64.wrap ((i : Int) + 1) = i + 1 := by rw [IntKind.wrap_i64]; omega
          by_cases hlt : i < k
          · have hlti2 : (i : Int) < k := by omega
            obtain ⟨x, hx⟩ : ∃ x, l[i]? = some x := ⟨l[i]'(by have := HM.out.2; omega), by simp⟩
            have HJ := hide (And.intro hno (And.intro hbw hx))
            obtain ⟨b, off, rfl, hbl, _, _⟩ := HM.out.1.2 i x hx
            clear hno hbw hx
            go_wp2_with fail
            obtain ⟨V0, hV0⟩ : ∃ V0, wr.drew = V0 := ⟨_, rfl⟩
            have B0 : Below w.heap.size w V0 := by rw [← hV0]; exact HJ.out.2.1.drew
            obtain ⟨b', off', e', _, c0, _⟩ := (HM.out.1.below B0).2 i x HJ.out.2.2
            cases e'
            have hbl0 : b < V0.heap.size := Nat.lt_of_lt_of_le hbl B0.size
            have HA := hide (rabove_any (some ⟨b, off, none⟩) cap l x.1 V0 ((HM.out.1.below B0).more B0.size))
            rw [HM.out.2] at HA
            refine region_rel (S := fun W => Below V0.heap.size V0 W) (fun a W => ∃ x52 x53 x54 x55 x56 x57 x58 x59 x60 x61 x62 x63 : Value, Below w.heap.size w W ∧ a = { tmps := #[.slice (some ⟨b, off, none⟩) k cap, undef, u2, .int .i64 k, .int .i64 i, .slice (some ⟨b, off, none⟩) k cap, .int .i64 k, .bool false, .int .i64 k, .slice (some ⟨b, off, none⟩) k cap, .int .i64 k, .bool false, u12, u13, u14, u15, u16, u17, u18, u19, u20, u21, u22, u23, u24, u25, u26, u27, u28, u29, u30, u31, u32, u33, u34, u35, u36, u37, u38, u39, u40, u41, u42, u43, u44, u45, .int .i64 i, .slice (some ⟨b, off, none⟩) k cap, .int .i64 k, .bool true, u50, u51, x52, x53, x54, x55, x56, x57, x58, x59, x60, x61, x62, x63, .bool (anyB (aboveL l x.1) x.1)], defers := [] }) (by kernel_rfl) ?reg ?beh
            case reg =>
              rw [hV0]
              have S0 : Below V0.heap.size V0 V0 := Below.refl _ _
              refine anyH_take (i := 0) (v := .slice (some ⟨b, off, none⟩) k cap) rfl (some 52) rfl (by kernel_rfl) (by kernel_rfl) (by kernel_rfl) (fun _ _ _ h => by cases h.1) rfl (fun w0 hw0 => by first | rfl | kernel_rfl) S0 ?_
              simp only [Act.put, List.setIfInBounds_toArray, List.set_cons_zero, List.set_cons_succ]
              refine anyH_take (i := 1) (v := .slice (some ⟨b, off, none⟩) k cap) rfl (some 53) rfl (by kernel_rfl) (by kernel_rfl) (by kernel_rfl) (fun _ _ _ h => by cases h.1) rfl (fun w0 hw0 => by first | rfl | kernel_rfl) S0 ?_
              simp only [Act.put, List.setIfInBounds_toArray, List.set_cons_zero, List.set_cons_succ]
              refine anyH_take (i := 2) (v := .int .i64 i) rfl (some 54) rfl (by kernel_rfl) (by kernel_rfl) (by kernel_rfl) (fun _ _ _ h => by cases h.1) rfl (fun w0 hw0 => by first | rfl | kernel_rfl) S0 ?_
              simp only [Act.put, List.setIfInBounds_toArray, List.set_cons_zero, List.set_cons_succ]
              refine anyH_take (i := 3) (v := .pointer (some ⟨b, off + i * 2, none⟩)) rfl (some 55) rfl (by kernel_rfl) (by kernel_rfl) (by kernel_rfl) (fun _ _ _ h => by cases h.1) rfl (fun w0 hw0 => ex_index rfl rfl rfl hlt) S0 ?_
              simp only [Act.put, List.setIfInBounds_toArray, List.set_cons_zero, List.set_cons_succ]
              refine anyH_take (i := 4) (v := .pointer (some ⟨b, off + i * 2, none⟩)) rfl (some 56) rfl (by kernel_rfl) (by kernel_rfl) (by kernel_rfl) (fun _ _ _ h => by cases h.1) rfl (fun w0 hw0 => ex_field rfl rfl) S0 ?_
              simp only [Act.put, List.setIfInBounds_toArray, List.set_cons_zero, List.set_cons_succ]
              refine anyH_take (i := 5) (v := .string x.1) rfl (some 57) rfl (by kernel_rfl) (by kernel_rfl) (by kernel_rfl) (fun _ _ _ h => by cases h.1) rfl (fun w0 hw0 => ex_load rfl rfl (run_load_cell Try.underlying9 rfl ((hw0.cell (p := ⟨b, _, none⟩) hbl0).trans c0))) S0 ?_
              simp only [Act.put, List.setIfInBounds_toArray, List.set_cons_zero, List.set_cons_succ]
              refine anyH_take (i := 7) (v := .slice (some ⟨b, off, none⟩) k cap) rfl (some 59) rfl (by kernel_rfl) (by kernel_rfl) (by kernel_rfl) (fun _ _ _ h => by cases h.1) rfl (fun w0 hw0 => by first | rfl | kernel_rfl) S0 ?_
              simp only [Act.put, List.setIfInBounds_toArray, List.set_cons_zero, List.set_cons_succ]
              refine anyH_take (i := 8) (v := .int .i64 i) rfl (some 60) rfl (by kernel_rfl) (by kernel_rfl) (by kernel_rfl) (fun _ _ _ h => by cases h.1) rfl (fun w0 hw0 => by first | rfl | kernel_rfl) S0 ?_
              simp only [Act.put, List.setIfInBounds_toArray, List.set_cons_zero, List.set_cons_succ]
              refine anyH_take (i := 9) (v := .pointer (some ⟨b, off + i * 2, none⟩)) rfl (some 61) rfl (by kernel_rfl) (by kernel_rfl) (by kernel_rfl) (fun _ _ _ h => by cases h.1) rfl (fun w0 hw0 => ex_index rfl rfl rfl hlt) S0 ?_
              simp only [Act.put, List.setIfInBounds_toArray, List.set_cons_zero, List.set_cons_succ]
              refine anyH_take (i := 10) (v := .pointer (some ⟨b, off + i * 2, none⟩)) rfl (some 62) rfl (by kernel_rfl) (by kernel_rfl) (by kernel_rfl) (fun _ _ _ h => by cases h.1) rfl (fun w0 hw0 => ex_field rfl rfl) S0 ?_
              simp only [Act.put, List.setIfInBounds_toArray, List.set_cons_zero, List.set_cons_succ]
              refine anyH_take (i := 11) (v := .string x.1) rfl (some 63) rfl (by kernel_rfl) (by kernel_rfl) (by kernel_rfl) (fun _ _ _ h => by cases h.1) rfl (fun w0 hw0 => ex_load rfl rfl (run_load_cell Try.underlying9 rfl ((hw0.cell (p := ⟨b, _, none⟩) hbl0).trans c0))) S0 ?_
              simp only [Act.put, List.setIfInBounds_toArray, List.set_cons_zero, List.set_cons_succ]
              refine anyH_one (i := 6) (by kernel_rfl) ?_
              refine op_call rfl (some 58) rfl rfl #[.slice (some ⟨b, off, none⟩) k cap, .string x.1] rfl (by simp [Act.eval]) (fun _ _ => rfl) HA.out ?_
              rintro e V1 ⟨v, rfl, y1, b1⟩
              refine ⟨_, rfl, b1, ?_⟩
              simp only [Act.put, List.setIfInBounds_toArray, List.set_cons_zero, List.set_cons_succ]
              refine anyH_one (i := 12) (by kernel_rfl) ?_
              refine op_call rfl (some 64) rfl rfl #[v, .string x.1] rfl (by simp [Act.eval]) (fun _ _ => rfl) (has_any V0.heap.size v _ x.1 V1 y1 (Nat.le_trans (chain_len _ _ _) HM.out.1.1)) ?_
              rintro e V2 ⟨rfl, rfl⟩
              refine ⟨_, rfl, b1, ?_⟩
              simp only [Act.put, List.setIfInBounds_toArray, List.set_cons_zero, List.set_cons_succ]
              exact wpAnyH_done (by kernel_rfl) ⟨rfl, _, _, _, _, _, _, _, _, _, _, _, _, B0.trans (b1.mono B0.size), rfl⟩ _
            case beh =>
              rintro a W ⟨x52, x53, x54, x55, x56, x57, x58, x59, x60, x61, x62, x63, y2, rfl⟩
              cases hq : anyB (aboveL l x.1) x.1 with
              | true =>
                have hc : ¬ RightE l := fun h => h.2.2.2 ⟨x, List.mem_of_getElem? HJ.out.2.2, any_mem.1 hq⟩
                have HY := hide (And.intro hc y2)
                clear hc y2
                go_wp2_with fail
                go_ret
                exact ⟨.inr ⟨HY.out.1, rfl⟩, HY.out.2⟩
              | false =>
                have hc : x.1 ∉ chain l k x.1 := fun h => by
                  have : anyB (aboveL l x.1) x.1 = true := any_mem.2 (by unfold aboveL; rw [HM.out.2]; exact h)
                  rw [hq] at this
                  cases this
                have HY := hide (And.intro (take_step (p := fun y => y.1 ∉ chain l k y.1) HJ.out.1 HJ.out.2.2 hc) y2)
                clear hc y2
                go_wp2_with fail
                go_roundw
                case rel => exact ⟨i + 1, by omega, by simp, HY.out.1, HY.out.2⟩
                case measure => simp [intOf]; omega
          · obtain rfl : i = k := by omega
            have hlti2 : ¬ ((i : Int) < i) := by omega
            rw [List.take_of_length_le (by have := HM.out.2; omega)] at hno
            have hr : RightE l := ⟨by have := HM.out.2; omega, HI.out.1, HI.out.2.1, fun ⟨x, hx, hc⟩ => hno x hx (by rw [HM.out.2] at hc; exact hc)⟩
            have HY := hide (And.intro hr hbw)
            clear hno hbw hr
            go_wp2_with fail
            go_ret
            exact ⟨.inl ⟨HY.out.1, rfl⟩, HY.out.2⟩
end Go.Proofs.Ytlafjddidlofcaa
