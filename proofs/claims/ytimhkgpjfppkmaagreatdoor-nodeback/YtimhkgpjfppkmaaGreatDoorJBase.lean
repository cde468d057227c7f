/- What all lean on. -/
import Derived.Test.YtimhkgpjfppkmaaGreatDoorChecked
import Derived.WalkKit
import Derived.WalkLawsBesides
namespace Go.Proofs.YtimhkgpjfppkmaaGreatDoor
open Go.RowKit

theorem hide {p : Prop} (h : p) : Hid p := h
theorem str_ne {a b : ByteArray} (h : a ≠ b) : (a.toList == b.toList) = false := by
  rw [beq_eq_false_iff_ne]
  intro e
  rw [ByteArray.toList_eq, ByteArray.toList_eq] at e
  obtain ⟨⟨x⟩⟩ := a
  obtain ⟨⟨y⟩⟩ := b
  exact h (congrArg (fun l => (⟨⟨l⟩⟩ : ByteArray)) (by simpa using e))
end Go.Proofs.YtimhkgpjfppkmaaGreatDoor
