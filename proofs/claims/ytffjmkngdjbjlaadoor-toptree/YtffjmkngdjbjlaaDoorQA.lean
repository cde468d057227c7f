/- strings.Compare; the search for a child's edge. slices.BinarySearchFunc over edges; find. -/
import Derived.Test.YtffjmkngdjbjlaaDoorC0
import Derived.Lib.Bytealg
namespace Go.Proofs.YtffjmkngdjbjlaaDoor
open Go.RowKit

theorem cmp_lt : ∀ (a b : List UInt8), Lib.compareBytes a b < 0 ↔ a < b
  | [], [] => by simp [Lib.compareBytes]
  | [], _ :: _ => by simp [Lib.compareBytes]
  | _ :: _, [] => by simp [Lib.compareBytes]
  | a :: l, b :: m => by
    unfold Lib.compareBytes
    rw [List.cons_lt_cons_iff]
    by_cases h : a < b
    · simp [h]
    · by_cases h2 : b < a
      · have hne : a ≠ b := fun e => h (e ▸ h2)
        simp [h, h2, hne]
      · have he : a = b := UInt8.le_antisymm (UInt8.not_lt.1 h2) (UInt8.not_lt.1 h)
        simp [he, cmp_lt l m]
theorem cmp_eq0 : ∀ (a b : List UInt8), Lib.compareBytes a b = 0 ↔ a = b
  | [], [] => by simp [Lib.compareBytes]
  | [], _ :: _ => by simp [Lib.compareBytes]
  | _ :: _, [] => by simp [Lib.compareBytes]
  | a :: l, b :: m => by
    unfold Lib.compareBytes
    by_cases h : a < b
    · have hne : a ≠ b := fun e => UInt8.lt_irrefl b (e ▸ h)
      simp [h, hne]
    · by_cases h2 : b < a
      · have hne : a ≠ b := fun e => h (e ▸ h2)
        simp [h, h2, hne]
      · have he : a = b := UInt8.le_antisymm (UInt8.not_lt.1 h2) (UInt8.not_lt.1 h)
        simp [he, cmp_eq0 l m]
end Go.Proofs.YtffjmkngdjbjlaaDoor
namespace Go.Proofs.YtffjmkngdjbjlaaDoor
open Go.RowKit

/-- Where the edge of a child stands, or would stand. -/
structure At (l : List Pr) (s : ByteArray) (k : Nat) : Prop where
  le : k ≤ l.length
  lo : ∀ i x, i < k → l[i]? = some x → x.1.toList < s.toList
  hi : ∀ i x, k ≤ i → l[i]? = some x → ¬ x.1.toList < s.toList
/-- What the search answers. -/
def FoundP (l : List Pr) (s : ByteArray) (e : Ending) : Prop := ∃ k, At l s k ∧ ((∃ x, l[k]? = some x ∧ x.1 = s ∧ e = .returned (.tuple #[.int .i64 k, .bool true])) ∨ ((∀ x, l[k]? = some x → x.1 ≠ s) ∧ e = .returned (.tuple #[.int .i64 k, .bool false])))
theorem rising_at {l : List Pr} (h : Rising l) {i j : Nat} {x y : Pr} (hx : l[i]? = some x) (hy : l[j]? = some y) (hij : i < j) : x.1.toList < y.1.toList := by
  have h1 := List.getElem?_eq_some_iff.1 hx
  have h2 := List.getElem?_eq_some_iff.1 hy
  have := List.pairwise_iff_getElem.1 h i j h1.1 h2.1 hij
  rw [h1.2, h2.2] at this
  exact this
end Go.Proofs.YtffjmkngdjbjlaaDoor
