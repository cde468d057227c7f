/- What base 64 is made of; texts of plain signs. -/
import Derived.Test.YtnlmohegkmegcabDoorLive
namespace Go.Proofs.YtnlmohegkmegcabDoor
open Go.RowKit

theorem dg_fin : ∀ k : Fin 64, (dg k.val).toNat < 128 ∧ 32 ≤ (dg k.val).toNat ∧ dg k.val ≠ 38 ∧ dg k.val ≠ 60 ∧ dg k.val ≠ 62 ∧ dg k.val ≠ 39 ∧ dg k.val ≠ 34 := by decide
theorem b64_bytes (l : List UInt8) : ∀ b ∈ b64 l, b.toNat < 128 ∧ 32 ≤ b.toNat ∧ Plain b := by
  intro b hb
  rw [b64_vals, List.mem_append] at hb
  rcases hb with hb | hb
  · obtain ⟨v, hv, rfl⟩ := List.mem_map.1 hb
    have := dg_fin ⟨v, vals_lt l v hv⟩
    exact ⟨this.1, this.2.1, this.2.2⟩
  · have := pad_all l b hb
    subst this
    exact ⟨by decide, by decide, by decide, by decide, by decide, by decide, by decide⟩
theorem chars_ascii : ∀ l : List UInt8, (∀ b ∈ l, b.toNat < 128 ∧ 32 ≤ b.toNat) → CharsOk l
  | [], _ => ⟨rfl, runes_nil⟩
  | b :: t, h => by
    have hb := h b (by simp)
    have ih := chars_ascii t (fun c hc => h c (by simp [hc]))
    refine ⟨by rw [Lib.validD_cons b t hb.1]; exact ih.1, ?_⟩
    rw [runes_step _ (by simp), Lib.decodeL_ascii b t hb.1]
    exact ⟨Or.inr (Or.inr (Or.inr ⟨hb.2, by omega, by omega⟩)), ih.2⟩
theorem b64_length : ∀ l : List UInt8, (b64 l).length % 4 = 0 ∧ (b64 l).length ≤ 2 * l.length + 4
  | [] => by simp [b64]
  | [x] => by simp [b64, sx]
  | [x, y] => by simp [b64, sx]
  | x :: y :: z :: r => by
    have := b64_length r
    obtain ⟨a, b, c, d, h⟩ := sx_four x.toNat y.toNat z.toNat
    simp only [b64, h, List.length_append, List.length_cons, List.length_nil]
    omega
theorem b64_len_ge : ∀ l : List UInt8, l.length ≤ (b64 l).length
  | [] => by simp
  | [x] => by simp [b64, sx]
  | [x, y] => by simp [b64, sx]
  | x :: y :: z :: r => by
    have := b64_len_ge r
    obtain ⟨a, b, c, d, h⟩ := sx_four x.toNat y.toNat z.toNat
    simp only [b64, h, List.length_append, List.length_cons, List.length_nil]
    omega
theorem to_list (l : List UInt8) : (⟨l.toArray⟩ : ByteArray).data.toList = l := rfl
theorem of_list (s : ByteArray) : (⟨s.data.toList.toArray⟩ : ByteArray) = s := rfl
theorem sz_list (l : List UInt8) : (⟨l.toArray⟩ : ByteArray).size = l.length := rfl
end Go.Proofs.YtnlmohegkmegcabDoor
