/- Contracts of the small functions of package text; no loop. -/
import Derived.Test.YtpknifioflagaaaDoorChecked
import Derived.WalkKit
import Derived.WalkLawsBesides
import Derived.LaidEql
import Derived.Outline
namespace Go.Proofs.YtpknifioflagaaaDoor
open Go.RowKit

theorem hide {p : Prop} (h : p) : Hid p := h
theorem lt_of_cell {w : World} {a : Addr} {v : Value} (h : w.cell? a = some v) : a.block < w.heap.size := by
  rcases Nat.lt_or_ge a.block w.heap.size with h1 | h1
  · exact h1
  · simp [World.cell?, Array.getElem?_eq_none h1] at h

/-- A letter or a low line. -/
def IsB (r : Int) : Prop := (65 ≤ r ∧ r ≤ 90) ∨ (97 ≤ r ∧ r ≤ 122) ∨ r = 95
/-- What else may stand in a name behind its first sign. -/
def IsG (r : Int) : Prop := (48 ≤ r ∧ r ≤ 57) ∨ r = 45 ∨ r = 46 ∨ r = 58

theorem begins_yes (r : Int) (w : World) (h : IsB r) : Calls Tryd.prog 85 #[.int .i32 r] w fun e w' => e = .returned (.bool true) ∧ w' = w := by
  rcases h with ⟨h1, h2⟩ | ⟨h1, h2⟩ | h
  · have h3 : decide (r ≤ 90) = true := by simp; omega
    go_enter Tryd.func85, Tryd.ntmps85
    go_wp2
    go_ret
    exact ⟨rfl, rfl⟩
  · have h4 : 65 ≤ r := by omega
    have h5 : decide (r ≤ 90) = false := by simp; omega
    have h3 : decide (r ≤ 122) = true := by simp; omega
    go_enter Tryd.func85, Tryd.ntmps85
    go_wp2
    go_ret
    exact ⟨rfl, rfl⟩
  · subst h
    go_enter Tryd.func85, Tryd.ntmps85
    go_wp2
    go_ret
    exact ⟨rfl, rfl⟩
theorem begins_no (r : Int) (w : World) (h : ¬ IsB r) : Calls Tryd.prog 85 #[.int .i32 r] w fun e w' => e = .returned (.bool false) ∧ w' = w := by
  have hc : r < 65 ∨ (90 < r ∧ r < 97) ∨ 122 < r := by unfold IsB at h; omega
  have h95 : (r == 95) = false := by rw [beq_eq_false_iff_ne]; unfold IsB at h; omega
  clear h
  rcases hc with h | ⟨h1, h2⟩ | h
  · have h1 : ¬ 65 ≤ r := by omega
    have h2 : ¬ 97 ≤ r := by omega
    go_enter Tryd.func85, Tryd.ntmps85
    go_wp2
    go_ret
    exact ⟨rfl, rfl⟩
  · have h3 : 65 ≤ r := by omega
    have h4 : decide (r ≤ 90) = false := by simp; omega
    have h5 : ¬ 97 ≤ r := by omega
    go_enter Tryd.func85, Tryd.ntmps85
    go_wp2
    go_ret
    exact ⟨rfl, rfl⟩
  · have h3 : 65 ≤ r := by omega
    have h4 : decide (r ≤ 90) = false := by simp; omega
    have h5 : 97 ≤ r := by omega
    have h6 : decide (r ≤ 122) = false := by simp; omega
    go_enter Tryd.func85, Tryd.ntmps85
    go_wp2
    go_ret
    exact ⟨rfl, rfl⟩
theorem goesOn_yes (r : Int) (w : World) (h : IsG r) : Calls Tryd.prog 86 #[.int .i32 r] w fun e w' => e = .returned (.bool true) ∧ w' = w := by
  rcases h with ⟨h1, h2⟩ | h | h | h
  · have h3 : decide (r ≤ 57) = true := by simp; omega
    go_enter Tryd.func86, Tryd.ntmps86
    go_wp2
    go_ret
    exact ⟨rfl, rfl⟩
  all_goals
    subst h
    go_enter Tryd.func86, Tryd.ntmps86
    go_wp2
    go_ret
    exact ⟨rfl, rfl⟩
theorem goesOn_no (r : Int) (w : World) (h : ¬ IsG r) : Calls Tryd.prog 86 #[.int .i32 r] w fun e w' => e = .returned (.bool false) ∧ w' = w := by
  have hc : r < 48 ∨ 57 < r := by unfold IsG at h; omega
  have h1 : (r == 45) = false := by rw [beq_eq_false_iff_ne]; unfold IsG at h; omega
  have h2 : (r == 46) = false := by rw [beq_eq_false_iff_ne]; unfold IsG at h; omega
  have h3 : (r == 58) = false := by rw [beq_eq_false_iff_ne]; unfold IsG at h; omega
  clear h
  rcases hc with h | h
  · have h4 : ¬ 48 ≤ r := by omega
    go_enter Tryd.func86, Tryd.ntmps86
    go_wp2
    go_ret
    exact ⟨rfl, rfl⟩
  · have h4 : 48 ≤ r := by omega
    have h5 : decide (r ≤ 57) = false := by simp; omega
    go_enter Tryd.func86, Tryd.ntmps86
    go_wp2
    go_ret
    exact ⟨rfl, rfl⟩
end Go.Proofs.YtpknifioflagaaaDoor
