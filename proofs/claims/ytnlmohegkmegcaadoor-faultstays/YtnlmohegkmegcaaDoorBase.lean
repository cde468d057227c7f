/- Plain notions for the walks of package fault: what the table of conditions holds, what a chain of wrapped errors is. No Go text is walked here. -/
import Derived.Test.YtnlmohegkmegcaaDoorChecked
import Derived.WalkKit
import Derived.WalkLawsBesides
import Derived.LaidEql
namespace Go.Proofs.YtnlmohegkmegcaaDoor
open Go.RowKit

/-- The names in the table, by the condition's number. -/
def tabN : Nat → ByteArray
  | 1 => ⟨#[98, 97, 100, 45, 114, 101, 113, 117, 101, 115, 116]⟩
  | 2 => ⟨#[99, 111, 110, 102, 108, 105, 99, 116]⟩
  | 3 => ⟨#[102, 111, 114, 98, 105, 100, 100, 101, 110]⟩
  | 4 => ⟨#[105, 116, 101, 109, 45, 110, 111, 116, 45, 102, 111, 117, 110, 100]⟩
  | 5 => ⟨#[106, 105, 100, 45, 109, 97, 108, 102, 111, 114, 109, 101, 100]⟩
  | 6 => ⟨#[110, 111, 116, 45, 97, 108, 108, 111, 119, 101, 100]⟩
  | 7 => ⟨#[110, 111, 116, 45, 97, 117, 116, 104, 111, 114, 105, 122, 101, 100]⟩
  | 8 => ⟨#[114, 101, 115, 111, 117, 114, 99, 101, 45, 99, 111, 110, 115, 116, 114, 97, 105, 110, 116]⟩
  | 9 => ⟨#[115, 101, 114, 118, 105, 99, 101, 45, 117, 110, 97, 118, 97, 105, 108, 97, 98, 108, 101]⟩
  | 10 => ⟨#[117, 110, 101, 120, 112, 101, 99, 116, 101, 100, 45, 114, 101, 113, 117, 101, 115, 116]⟩
  | _ => ⟨#[]⟩
/-- The types in the table. -/
def tabT : Nat → ByteArray
  | 1 => ⟨#[109, 111, 100, 105, 102, 121]⟩
  | 2 => ⟨#[99, 97, 110, 99, 101, 108]⟩
  | 3 => ⟨#[97, 117, 116, 104]⟩
  | 4 => ⟨#[99, 97, 110, 99, 101, 108]⟩
  | 5 => ⟨#[109, 111, 100, 105, 102, 121]⟩
  | 6 => ⟨#[99, 97, 110, 99, 101, 108]⟩
  | 7 => ⟨#[97, 117, 116, 104]⟩
  | 8 => ⟨#[119, 97, 105, 116]⟩
  | 9 => ⟨#[99, 97, 110, 99, 101, 108]⟩
  | 10 => ⟨#[119, 97, 105, 116]⟩
  | _ => ⟨#[]⟩

/-- The table's cells. -/
def tabCs : Array Value := #[.string (tabN 0), .string (tabT 0), .string (tabN 1), .string (tabT 1), .string (tabN 2), .string (tabT 2), .string (tabN 3), .string (tabT 3), .string (tabN 4), .string (tabT 4), .string (tabN 5), .string (tabT 5), .string (tabN 6), .string (tabT 6), .string (tabN 7), .string (tabT 7), .string (tabN 8), .string (tabT 8), .string (tabN 9), .string (tabT 9), .string (tabN 10), .string (tabT 10)]
/-- The two package-level variables hold what the program's text lays. -/
structure Laid (w : World) : Prop where
  tab : ∃ t fr, w.heap[0]? = some (.cells tabCs t fr)
  eh : w.cell? ⟨1, 0, none⟩ = some (.iface 78 (.agg #[.pointer (some ⟨2, 29, none⟩)]))

theorem lt_of_cell {w : World} {a : Addr} {v : Value} (h : w.cell? a = some v) : a.block < w.heap.size := by
  rcases Nat.lt_or_ge a.block w.heap.size with h1 | h1
  · exact h1
  · simp [World.cell?, Array.getElem?_eq_none h1] at h

theorem tab_at (k : Nat) (h : k < 11) : tabCs[k * 2]? = some (.string (tabN k)) ∧ tabCs[k * 2 + 1]? = some (.string (tabT k)) := by
  match k, h with
  | 0, _ => exact ⟨rfl, rfl⟩
  | 1, _ => exact ⟨rfl, rfl⟩
  | 2, _ => exact ⟨rfl, rfl⟩
  | 3, _ => exact ⟨rfl, rfl⟩
  | 4, _ => exact ⟨rfl, rfl⟩
  | 5, _ => exact ⟨rfl, rfl⟩
  | 6, _ => exact ⟨rfl, rfl⟩
  | 7, _ => exact ⟨rfl, rfl⟩
  | 8, _ => exact ⟨rfl, rfl⟩
  | 9, _ => exact ⟨rfl, rfl⟩
  | 10, _ => exact ⟨rfl, rfl⟩
theorem Laid.nm {w : World} (h : Laid w) (k : Nat) (hk : k < 11) : w.cell? ⟨0, k * 2, none⟩ = some (.string (tabN k)) := by
  obtain ⟨t, fr, h1⟩ := h.tab
  simp [World.cell?, h1, (tab_at k hk).1]
theorem Laid.ty {w : World} (h : Laid w) (k : Nat) (hk : k < 11) : w.cell? ⟨0, k * 2 + 1, none⟩ = some (.string (tabT k)) := by
  obtain ⟨t, fr, h1⟩ := h.tab
  simp [World.cell?, h1, (tab_at k hk).2]
theorem Laid.size {w : World} (h : Laid w) : 1 < w.heap.size := lt_of_cell h.eh

/-- What is laid stays laid where old memory stays. -/
theorem Laid.below {w w' : World} {B : Nat} (h : Laid w) (b : Below B w w') (hB : 1 < B) : Laid w' := by
  refine ⟨?_, ?_⟩
  · obtain ⟨t, fr, h1⟩ := h.tab
    exact ⟨t, fr, by rw [b.block 0 (by omega)]; exact h1⟩
  · rw [b.cell (p := ⟨1, 0, none⟩) (by show 1 < _; omega)]; exact h.eh

/-- An error of condition c, wrapped at the places ps, the outermost first. -/
def Chain (w : World) (c : Int) : List Int → Value → Prop
  | [], v => v = .iface 48 (.agg #[.int .i64 c])
  | p :: ps, v => ∃ b v', v = .iface 52 (.pointer (some ⟨b, 0, none⟩)) ∧ w.cell? ⟨b, 0, none⟩ = some v' ∧ w.cell? ⟨b, 1, none⟩ = some (.int .i64 p) ∧ Chain w c ps v'

theorem Chain.below {w w' : World} {c : Int} (b : Below w.heap.size w w') : ∀ {ps : List Int} {v : Value}, Chain w c ps v → Chain w' c ps v
  | [], _, h => h
  | _ :: _, _, ⟨k, v', h1, h2, h3, h4⟩ =>
    ⟨k, v', h1, by rw [b.cell (p := ⟨k, 0, none⟩) (lt_of_cell h2)]; exact h2, by rw [b.cell (p := ⟨k, 1, none⟩) (lt_of_cell h3)]; exact h3, Chain.below b h4⟩
end Go.Proofs.YtnlmohegkmegcaaDoor
