/- Addresses: which bytes are parts. -/
import Derived.Test.YtpknifioflagaaaDoorChecked
import Derived.Test.YtpknifioflagaaaDoorJidM
import Derived.Test.YtpknifioflagaaaDoorJBase
import Derived.WalkKit
import Derived.WalkLawsBesides
import Derived.LaidEql
import Derived.Outline
import Derived.Lib.OthersKept
import Derived.Laws.RangeAny
import Derived.LoopTactic
namespace Go.Proofs.YtpknifioflagaaaDoor.Jd
open Go.RowKit

set_option maxRecDepth 100000 in
theorem capital_any (c : UInt8) (w : World) : Calls Tryd.prog 84 #[.int .u8 c.toNat] w fun e w' => e = .returned (.bool (capB c)) ∧ w' = w := by
  unfold capB
  obtain ⟨n, hn⟩ : ∃ n : Nat, c.toNat = n := ⟨_, rfl⟩
  rw [hn]
  clear hn
  by_cases h1 : (65 : Int) ≤ n
  · by_cases h2 : (n : Int) ≤ 90
    · rw [decide_eq_true (show 65 ≤ n by omega), decide_eq_true (show n ≤ 90 by omega)]
      go_enter Tryd.func84, Tryd.ntmps84
      go_wp2
      go_ret
      simp
    · rw [decide_eq_true (show 65 ≤ n by omega), decide_eq_false (show ¬ n ≤ 90 by omega)]
      go_enter Tryd.func84, Tryd.ntmps84
      go_wp2
      go_ret
      simp
  · rw [decide_eq_false (show ¬ 65 ≤ n by omega)]
    go_enter Tryd.func84, Tryd.ntmps84
    go_wp2
    go_ret
    simp

theorem ptB_of (c : UInt8) {n : Nat} (hn : c.toNat = n) : ptB c = (decide (65 ≤ n) && decide (n ≤ 90) || (decide (97 ≤ n) && decide (n ≤ 122)) || (decide (48 ≤ n) && decide (n ≤ 57)) || (decide (n = 45) || decide (n = 95) || decide (n = 46))) := by
  subst hn
  unfold ptB capB
  have e : ∀ k : UInt8, (c == k) = decide (c.toNat = k.toNat) := fun k => by
    rw [Bool.eq_iff_iff, beq_iff_eq, decide_eq_true_eq]
    exact ⟨fun h => by rw [h], fun h => UInt8.toNat_inj.1 h⟩
  rw [e, e, e]
  rfl
set_option maxRecDepth 100000 in
theorem partByte_any (c : UInt8) (w : World) : Calls Tryd.prog 76 #[.int .u8 c.toNat] w fun e w' => e = .returned (.bool (ptB c)) ∧ w' = w := by
  have hcap := hide (capital_any c w)
  obtain ⟨n, hn⟩ : ∃ n : Nat, c.toNat = n := ⟨_, rfl⟩
  rw [ptB_of c hn]
  have hc : capB c = (decide (65 ≤ n) && decide (n ≤ 90)) := by unfold capB; rw [hn]
  have hcap2 := hide (hc ▸ hn ▸ hcap.out)
  rw [hn]
  clear hn hc hcap
  rcases (show (65 ≤ n ∧ n ≤ 90) ∨ (97 ≤ n ∧ n ≤ 122) ∨ (48 ≤ n ∧ n ≤ 57) ∨ (¬ (65 ≤ n ∧ n ≤ 90) ∧ ¬ (97 ≤ n ∧ n ≤ 122) ∧ ¬ (48 ≤ n ∧ n ≤ 57)) by omega) with h | h | h | h
  · have h1 : (decide (65 ≤ n) && decide (n ≤ 90)) = true := by simp [h]
    rw [h1] at hcap2 ⊢
    clear h1
    go_enter Tryd.func76, Tryd.ntmps76
    go_wp2_with fail
    refine hcap2.out.mono ?_
    rintro e w2 ⟨rfl, hw⟩
    subst hw
    go_wp2_with fail
    go_ret
    simp
  · have h1 : (decide (65 ≤ n) && decide (n ≤ 90)) = false := by simp; omega
    rw [h1] at hcap2 ⊢
    have h2 : (97 : Int) ≤ n := by omega
    have h3 : (n : Int) ≤ 122 := by omega
    have h4 : decide ((n : Int) ≤ 122) = true := by simp; omega
    go_enter Tryd.func76, Tryd.ntmps76
    go_wp2_with fail
    refine hcap2.out.mono ?_
    rintro e w2 ⟨rfl, hw⟩
    subst hw
    go_wp2_with fail
    go_ret
    simp [h.1, h.2]
  · have h1 : (decide (65 ≤ n) && decide (n ≤ 90)) = false := by simp; omega
    rw [h1] at hcap2 ⊢
    have h2 : ¬ (97 : Int) ≤ n := by omega
    have h3 : (48 : Int) ≤ n := by omega
    have h4 : decide ((n : Int) ≤ 57) = true := by simp; omega
    go_enter Tryd.func76, Tryd.ntmps76
    go_wp2_with fail
    refine hcap2.out.mono ?_
    rintro e w2 ⟨rfl, hw⟩
    subst hw
    go_wp2_with fail
    go_ret
    simp
  · have h1 : (decide (65 ≤ n) && decide (n ≤ 90)) = false := by simp; omega
    have h2 : (decide (97 ≤ n) && decide (n ≤ 122)) = false := by simp; omega
    have h3 : (decide (48 ≤ n) && decide (n ≤ 57)) = false := by simp; omega
    rw [h1] at hcap2 ⊢
    rw [h2, h3]
    have h4 : (97 : Int) ≤ n → decide ((n : Int) ≤ 122) = false := fun _ => by simp; omega
    have h5 : (48 : Int) ≤ n → decide ((n : Int) ≤ 57) = false := fun _ => by simp; omega
    have e45 : decide (n = 45) = decide ((n : Int) = 45) := decide_eq_decide.2 (by omega)
    have e95 : decide (n = 95) = decide ((n : Int) = 95) := decide_eq_decide.2 (by omega)
    have e46 : decide (n = 46) = decide ((n : Int) = 46) := decide_eq_decide.2 (by omega)
    rw [e45, e95, e46]
    clear h1 h2 h3 e45 e95 e46
    by_cases g1 : (n : Int) = 45
    · rw [g1] at hcap2 ⊢
      go_enter Tryd.func76, Tryd.ntmps76
      go_wp2_with fail
      refine hcap2.out.mono ?_
      rintro e w2 ⟨rfl, hw⟩
      subst hw
      go_wp2_with fail
      go_ret
      simp
    · by_cases g2 : (n : Int) = 95
      · rw [g2] at hcap2 ⊢
        go_enter Tryd.func76, Tryd.ntmps76
        go_wp2_with fail
        refine hcap2.out.mono ?_
        rintro e w2 ⟨rfl, hw⟩
        subst hw
        go_wp2_with fail
        go_ret
        simp
      · by_cases g3 : (n : Int) = 46
        · rw [g3] at hcap2 ⊢
          go_enter Tryd.func76, Tryd.ntmps76
          go_wp2_with fail
          refine hcap2.out.mono ?_
          rintro e w2 ⟨rfl, hw⟩
          subst hw
          go_wp2_with fail
          go_ret
          simp
        · rw [decide_eq_false g1, decide_eq_false g2, decide_eq_false g3]
          clear h
          by_cases k1 : (97 : Int) ≤ n
          · have k4 := h4 k1
            have k2 : (48 : Int) ≤ n := by omega
            have k5 := h5 k2
            clear h4 h5
            go_enter Tryd.func76, Tryd.ntmps76
            go_wp2_with fail
            refine hcap2.out.mono ?_
            rintro e w2 ⟨rfl, hw⟩
            subst hw
            go_wp2_with fail
            go_ret
            simp [g1, g2, g3]
          · by_cases k2 : (48 : Int) ≤ n
            · have k5 := h5 k2
              clear h4 h5
              go_enter Tryd.func76, Tryd.ntmps76
              go_wp2_with fail
              refine hcap2.out.mono ?_
              rintro e w2 ⟨rfl, hw⟩
              subst hw
              go_wp2_with fail
              go_ret
              simp [g1, g2, g3]
            · clear h4 h5
              go_enter Tryd.func76, Tryd.ntmps76
              go_wp2_with fail
              refine hcap2.out.mono ?_
              rintro e w2 ⟨rfl, hw⟩
              subst hw
              go_wp2_with fail
              go_ret
              simp [g1, g2, g3]
end Go.Proofs.YtpknifioflagaaaDoor.Jd
