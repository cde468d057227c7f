/- The first tokens of many. -/
import Derived.Test.YtaglbikjnaahnabDoorToks
namespace Go.Proofs.YtaglbikjnaahnabDoor
open Go.RowKit

theorem TokMem.take {n₀ : Nat} {w : World} {ao : Option Addr} {ts : List Tok} {av : Nat → Option Addr × Nat} (h : TokMem n₀ w ao ts av) (n : Nat) : TokMem n₀ w ao (ts.take n) av := by
  refine ⟨by have := h.1; simp; omega, fun k t hk => ?_⟩
  have hlt := (List.getElem?_eq_some_iff.1 hk).1
  simp at hlt
  rw [List.getElem?_take_of_lt (by omega)] at hk
  exact h.2 k t hk
theorem few_any (ao : Option Addr) (cap : Nat) (ts : List Tok) (w : World) (hc : ts.length ≤ cap) (hl : ts.length ≤ 2199023255488) :
    Calls Tryd.prog 22 #[.slice ao ts.length cap] w fun e w' => e = .returned (.slice ao (ts.take 70).length cap) ∧ w' = w := by
  by_cases h : ts.length ≤ 70
  · have h' : ¬ (70 < (ts.length : Int)) := by omega
    rw [List.take_of_length_le h]
    go_enter Tryd.func22, Tryd.ntmps22
    go_wp2_with fail
    go_ret
    exact ⟨rfl, rfl⟩
  · have h' : 70 < (ts.length : Int) := by omega
    have hm : (ts.take 70).length = 70 := by simp; omega
    rw [hm]
    go_enter Tryd.func22, Tryd.ntmps22
    go_wp2_with fail
    go_ret
    exact ⟨rfl, rfl⟩
end Go.Proofs.YtaglbikjnaahnabDoor
