/- A node's text: of right nodes. -/
import Derived.Test.YtimhkgpjfppkmaaGreatDoorRF
import Derived.Test.YtimhkgpjfppkmaaGreatDoorQS
namespace Go.Proofs.YtimhkgpjfppkmaaGreatDoor

theorem addr_size {s : ByteArray} (h : addrOk s = true) : s.size ≤ 64 := by
  unfold addrOk at h
  cases hp : parseL s.data.toList with
  | none => rw [hp] at h; cases h
  | some j =>
    unfold parseL at hp
    by_cases hl : 64 < s.data.toList.length
    · rw [if_pos hl] at hp
      cases hp
    · show s.data.size ≤ 64
      simpa using hl
theorem name_size {s : ByteArray} (h : nameOk s = true) : s.size ≤ 24 := by
  unfold nameOk at h
  simp only [Bool.and_eq_true, decide_eq_true_eq] at h
  exact h.2.2
theorem right_small {n : Nd} (h : RightN n) : Small n := by
  obtain ⟨h1, h2, h3, h4, ⟨a1, _, a3, _⟩, ⟨s1, _, s3⟩, ⟨i1, i2, _⟩⟩ := h
  have hm : 0 ≤ n.max ∧ n.max ≤ 8 := by
    unfold maxOk at h3
    split at h3
    · have := of_decide_eq_true h3
      omega
    · exact of_decide_eq_true h3
  refine ⟨by have := name_size h1; omega, ?_, h2, hm.1, hm.2, a1, s1, by omega, fun x hx => ⟨by have := addr_size (a3 x hx).1; omega, (a3 x hx).2.2.1⟩, fun x hx => ⟨by have := addr_size (s3 x hx).1; omega, (s3 x hx).2⟩, fun x hx => ?_⟩
  · rcases h4 with h4 | h4
    · rw [h4]
      decide
    · have := name_size h4
      omega
  · obtain ⟨e1, e2, e3⟩ := i2 x hx
    exact ⟨by have := name_size e1; omega, by have := addr_size e2; omega, by have := e3.1; omega⟩
/-- Decode of Encode. -/
theorem back_enc {n : Nd} (h : RightN n) : nodeF (encN n) = some (n, []) := by
  have := nodeF_enc [] (right_small h)
  rwa [List.append_nil] at this
/-- Encode of Decode. -/
theorem back_dec {s : List UInt8} {n : Nd} (h : nodeF s = some (n, [])) : encN n = s := by
  have := nodeF_some h
  rw [List.append_nil] at this
  exact this.symm
end Go.Proofs.YtimhkgpjfppkmaaGreatDoor
