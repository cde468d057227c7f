/- Contracts of the document's own Name and Type, and of both Parse. -/
import Derived.Test.YtnlmohegkmegcaaDoorSmall
namespace Go.Proofs.YtnlmohegkmegcaaDoor
open Go.RowKit

theorem cases10 {c : Int} (h1 : 1 ≤ c) (h2 : c ≤ 10) : c = 1 ∨ c = 2 ∨ c = 3 ∨ c = 4 ∨ c = 5 ∨ c = 6 ∨ c = 7 ∨ c = 8 ∨ c = 9 ∨ c = 10 := by omega
theorem refName_yes (c : Int) (w : World) (h1 : 1 ≤ c) (h2 : c ≤ 10) : Calls Tryd.prog 13 #[.int .i64 c] w fun e w' => e = .returned (.string (tabN c.toNat)) ∧ w' = w := by
  rcases cases10 h1 h2 with rfl | rfl | rfl | rfl | rfl | rfl | rfl | rfl | rfl | rfl <;>
  · clear h1 h2
    go_enter Tryd.func13, Tryd.ntmps13
    go_wp2
    go_ret
    exact ⟨rfl, rfl⟩
theorem refType_yes (c : Int) (w : World) (h1 : 1 ≤ c) (h2 : c ≤ 10) : Calls Tryd.prog 15 #[.int .i64 c] w fun e w' => e = .returned (.string (tabT c.toNat)) ∧ w' = w := by
  rcases cases10 h1 h2 with rfl | rfl | rfl | rfl | rfl | rfl | rfl | rfl | rfl | rfl <;>
  · clear h1 h2
    go_enter Tryd.func15, Tryd.ntmps15
    go_wp2
    go_ret
    exact ⟨rfl, rfl⟩
theorem no_of {c : Int} (h : c < 1 ∨ 10 < c) (k : Int) (h1 : 1 ≤ k) (h2 : k ≤ 10) : (c == k) = false := by
  rw [beq_eq_false_iff_ne]; omega
theorem refName_no (c : Int) (w : World) (h : c < 1 ∨ 10 < c) : Calls Tryd.prog 13 #[.int .i64 c] w fun e w' => e = .returned (.string ⟨#[]⟩) ∧ w' = w := by
  have n1 := no_of h 1 (by omega) (by omega)
  have n2 := no_of h 2 (by omega) (by omega)
  have n3 := no_of h 3 (by omega) (by omega)
  have n4 := no_of h 4 (by omega) (by omega)
  have n5 := no_of h 5 (by omega) (by omega)
  have n6 := no_of h 6 (by omega) (by omega)
  have n7 := no_of h 7 (by omega) (by omega)
  have n8 := no_of h 8 (by omega) (by omega)
  have n9 := no_of h 9 (by omega) (by omega)
  have n10 := no_of h 10 (by omega) (by omega)
  clear h
  go_enter Tryd.func13, Tryd.ntmps13
  go_wp2
  go_ret
  exact ⟨rfl, rfl⟩
theorem refType_no (c : Int) (w : World) (h : c < 1 ∨ 10 < c) : Calls Tryd.prog 15 #[.int .i64 c] w fun e w' => e = .returned (.string ⟨#[]⟩) ∧ w' = w := by
  have n1 := no_of h 1 (by omega) (by omega)
  have n2 := no_of h 2 (by omega) (by omega)
  have n3 := no_of h 3 (by omega) (by omega)
  have n4 := no_of h 4 (by omega) (by omega)
  have n5 := no_of h 5 (by omega) (by omega)
  have n6 := no_of h 6 (by omega) (by omega)
  have n7 := no_of h 7 (by omega) (by omega)
  have n8 := no_of h 8 (by omega) (by omega)
  have n9 := no_of h 9 (by omega) (by omega)
  have n10 := no_of h 10 (by omega) (by omega)
  clear h
  go_enter Tryd.func15, Tryd.ntmps15
  go_wp2
  go_ret
  exact ⟨rfl, rfl⟩
end Go.Proofs.YtnlmohegkmegcaaDoor
