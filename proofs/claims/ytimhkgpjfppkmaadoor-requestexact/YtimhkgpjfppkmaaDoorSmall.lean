/- Contracts of the small functions of package text; no loop. -/
import Derived.Test.YtimhkgpjfppkmaaDoorChecked
import Derived.WalkKit
import Derived.WalkLawsBesides
import Derived.LaidEql
import Derived.Outline
namespace Go.Proofs.YtimhkgpjfppkmaaDoor
open Go.RowKit

theorem hide {p : Prop} (h : p) : Hid p := h
theorem lt_of_cell {w : World} {a : Addr} {v : Value} (h : w.cell? a = some v) : a.block < w.heap.size := by
  rcases Nat.lt_or_ge a.block w.heap.size with h1 | h1
  · exact h1
  · simp [World.cell?, Array.getElem?_eq_none h1] at h

/-- A letter or a low line. -/
def IsB (r : Int) : Prop := (65 ≤ r ∧ r ≤ 90) ∨ (97 ≤ r ∧ r ≤ 122) ∨ r = 95
/-- What else may stand in a name behind its first sign. -/
def IsG (r : Int) : Prop := (48 ≤ r ∧ r ≤ 57) ∨ r = 45 ∨ r = 46 ∨ r = 58

end Go.Proofs.YtimhkgpjfppkmaaDoor
