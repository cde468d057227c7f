/- Of the five characters that have entities. -/
import Derived.Test.YthmidlmknkbdaaaDoorEnt
import Derived.Test.YthmidlmknkbdaaaDoorMath
import Derived.Test.YthmidlmknkbdaaaDoorName
import Derived.Test.YthmidlmknkbdaaaDoorShelf
import Derived.BigCall
namespace Go.Proofs.YthmidlmknkbdaaaDoor
open Go.RowKit

def NotEnt (r : Int) : Prop := r ≠ 38 ∧ r ≠ 60 ∧ r ≠ 62 ∧ r ≠ 39 ∧ r ≠ 34
theorem plain_of {b : UInt8} (h : ¬ (b.toNat : Int) = 38 ∧ ¬ (b.toNat : Int) = 60 ∧ ¬ (b.toNat : Int) = 62 ∧ ¬ (b.toNat : Int) = 39 ∧ ¬ (b.toNat : Int) = 34) : Plain b := by
  obtain ⟨h1, h2, h3, h4, h5⟩ := h
  refine ⟨?_, ?_, ?_, ?_, ?_⟩
  · rintro rfl; exact h1 rfl
  · rintro rfl; exact h2 rfl
  · rintro rfl; exact h3 rfl
  · rintro rfl; exact h4 rfl
  · rintro rfl; exact h5 rfl
theorem byte_of {b : UInt8} {n : Nat} (h : b.toNat = n) (hn : n < 256) : b = UInt8.ofNat n := by
  subst h
  simp
theorem cat_le {n c pos size m : Nat} (h1 : n ≤ 6 * c) (h2 : c ≤ pos) (h3 : pos ≤ size) (h4 : size ≤ 1000000) (h5 : m ≤ 4) : n + (min (pos - c) (size - c) + (⟨#[38]⟩ : ByteArray).size + m + (⟨#[59]⟩ : ByteArray).size) ≤ 140737488355328 := by
  have e1 : (⟨#[38]⟩ : ByteArray).size = 1 := rfl
  have e2 : (⟨#[59]⟩ : ByteArray).size = 1 := rfl
  rw [e1, e2]
  omega
/-- A character that has an entity is one byte, and this is what stands in its stead. -/
theorem special (s : ByteArray) (pos : Nat) (hp : pos < s.size) (h : ¬ NotEnt (Utf8.decode s pos).1) :
    Utf8.decode s pos = ((s[pos]'hp).toNat, 1) ∧ ∃ nm : ByteArray, entName (Utf8.decode s pos).1 = nm ∧ 1 ≤ nm.size ∧ nm.size ≤ 4 ∧ [38] ++ nm.data.toList ++ [59] = escB (s[pos]'hp) := by
  have ha : (s[pos]'hp).toNat < 128 := by
    rcases Nat.lt_or_ge (s[pos]'hp).toNat 128 with h1 | h1
    · exact h1
    · have := (decode_high s pos hp h1).1
      exact absurd (show NotEnt (Utf8.decode s pos).1 from ⟨by omega, by omega, by omega, by omega, by omega⟩) h
  have hd := decode_ascii s pos hp ha
  refine ⟨hd, ?_⟩
  rw [hd] at h ⊢
  have hc : (s[pos]'hp).toNat = 38 ∨ (s[pos]'hp).toNat = 60 ∨ (s[pos]'hp).toNat = 62 ∨ (s[pos]'hp).toNat = 39 ∨ (s[pos]'hp).toNat = 34 := by
    unfold NotEnt at h
    simp only at h
    omega
  rcases hc with h1 | h1 | h1 | h1 | h1
  all_goals
    have h2 := byte_of h1 (by omega)
    rw [h1, h2]
    exact ⟨_, rfl, by decide, by decide, by decide⟩
end Go.Proofs.YthmidlmknkbdaaaDoor
