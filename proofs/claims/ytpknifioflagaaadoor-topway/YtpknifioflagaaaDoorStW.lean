/- The payload of an answer with a condition is right, by hand. -/
import Derived.Test.YtpknifioflagaaaDoorStL
namespace Go.Proofs.YtpknifioflagaaaDoor
open Go.RowKit Go.Shelf

theorem name_stroke (s : ByteArray) (h1 : 1 ≤ s.size) (h2 : s.size ≤ 32) (h : ∀ b ∈ s.data.toList, (97 ≤ b.toNat ∧ b.toNat ≤ 122) ∨ b.toNat = 45) (h0 : ∀ b, s.data.toList[0]? = some b → 97 ≤ b.toNat ∧ b.toNat ≤ 122) : NameOk s := by
  refine ⟨h1, h2, fun j hj => ?_⟩
  have hm : s[j] ∈ s.data.toList := by
    rw [Array.mem_toList_iff]
    exact Array.getElem_mem hj
  rcases h _ hm with hx | hx
  · exact .inl (.inr (.inl ⟨by omega, by omega⟩))
  · by_cases hj0 : j = 0
    · subst hj0
      have := h0 s[0] (by
        rw [Array.getElem?_toList]
        exact Array.getElem?_eq_getElem hj)
      omega
    · exact .inr ⟨by omega, .inr (.inl (by omega))⟩
theorem cond_name {c : Int} (h1 : 1 ≤ c) (h2 : c ≤ 10) : NameOk (condN c) := by
  have hc : condN c = tabN c.toNat := if_pos ⟨h1, h2⟩
  rw [hc]
  obtain ⟨k, hk, hk1, hk2⟩ : ∃ k : Nat, c.toNat = k ∧ 1 ≤ k ∧ k ≤ 10 := ⟨_, rfl, by omega, by omega⟩
  rw [hk]
  match k, hk1, hk2 with
  | 1, _, _ => exact name_stroke _ (by decide) (by decide) (by decide) (fun b h => by cases h; decide)
  | 2, _, _ => exact name_stroke _ (by decide) (by decide) (by decide) (fun b h => by cases h; decide)
  | 3, _, _ => exact name_stroke _ (by decide) (by decide) (by decide) (fun b h => by cases h; decide)
  | 4, _, _ => exact name_stroke _ (by decide) (by decide) (by decide) (fun b h => by cases h; decide)
  | 5, _, _ => exact name_stroke _ (by decide) (by decide) (by decide) (fun b h => by cases h; decide)
  | 6, _, _ => exact name_stroke _ (by decide) (by decide) (by decide) (fun b h => by cases h; decide)
  | 7, _, _ => exact name_stroke _ (by decide) (by decide) (by decide) (fun b h => by cases h; decide)
  | 8, _, _ => exact name_stroke _ (by decide) (by decide) (by decide) (fun b h => by cases h; decide)
  | 9, _, _ => exact name_stroke _ (by decide) (by decide) (by decide) (fun b h => by cases h; decide)
  | 10, _, _ => exact name_stroke _ (by decide) (by decide) (by decide) (fun b h => by cases h; decide)
theorem cond_type {c : Int} (h1 : 1 ≤ c) (h2 : c ≤ 10) : SmallT (condT c) := by
  have hc : condT c = tabT c.toNat := if_pos ⟨h1, h2⟩
  rw [hc]
  obtain ⟨k, hk, hk1, hk2⟩ : ∃ k : Nat, c.toNat = k ∧ 1 ≤ k ∧ k ≤ 10 := ⟨_, rfl, by omega, by omega⟩
  rw [hk]
  match k, hk1, hk2 with
  | 1, _, _ => exact ⟨by decide, chars_asc _ (by decide)⟩
  | 2, _, _ => exact ⟨by decide, chars_asc _ (by decide)⟩
  | 3, _, _ => exact ⟨by decide, chars_asc _ (by decide)⟩
  | 4, _, _ => exact ⟨by decide, chars_asc _ (by decide)⟩
  | 5, _, _ => exact ⟨by decide, chars_asc _ (by decide)⟩
  | 6, _, _ => exact ⟨by decide, chars_asc _ (by decide)⟩
  | 7, _, _ => exact ⟨by decide, chars_asc _ (by decide)⟩
  | 8, _, _ => exact ⟨by decide, chars_asc _ (by decide)⟩
  | 9, _, _ => exact ⟨by decide, chars_asc _ (by decide)⟩
  | 10, _, _ => exact ⟨by decide, chars_asc _ (by decide)⟩
theorem name_error : NameOk ty_error := name_lower _ (by decide) (by decide) (by decide)
theorem type_attrs {c : Int} (h1 : 1 ≤ c) (h2 : c ≤ 10) : AttrsOk [(⟨#[116, 121, 112, 101]⟩, condT c)] := by
  refine ⟨by simp, fun i a h => ?_⟩
  match i, h with
  | 0, h =>
    cases h
    exact ⟨rfl, name_type, cond_type h1 h2⟩
  | i + 1, h => simp at h
theorem no_attrs : AttrsOk [] := ⟨by decide, fun i a h => by simp at h⟩
/-- An element about the payload of an answer with a condition is whole. -/
theorem whole_err {nm : ByteArray} {al : List (ByteArray × ByteArray)} {c : Int} (hn : NameOk nm) (ha : AttrsOk al) (h1 : 1 ≤ c) (h2 : c ≤ 10) : WholeT (elemT nm al (errT c)) := by
  have hcn := cond_name h1 h2
  have hta := type_attrs h1 h2
  unfold errT
  obtain ⟨n, hn'⟩ : ∃ n, condN c = n := ⟨_, rfl⟩
  rw [hn'] at hcn ⊢
  refine ⟨⟨by simp [elemT], fun k t hk => ?_, by rfl⟩, by rfl⟩
  match k, hk with
  | 0, hk => cases hk; exact .inl ⟨rfl, by show ([] : List ByteArray).length + 1 ≤ 8; simp, hn, rfl, ha⟩
  | 1, hk => cases hk; exact .inl ⟨rfl, by show ([nm] : List ByteArray).length + 1 ≤ 8; simp, name_error, rfl, hta⟩
  | 2, hk => cases hk; exact .inl ⟨rfl, by show ([nm, ty_error] : List ByteArray).length + 1 ≤ 8; simp, hcn, rfl, no_attrs⟩
  | 3, hk => cases hk; exact .inr (.inl ⟨rfl, by show 0 < ([nm, ty_error, n] : List ByteArray).length; simp, rfl, rfl, rfl⟩)
  | 4, hk => cases hk; exact .inr (.inl ⟨rfl, by show 0 < ([nm, ty_error] : List ByteArray).length; simp, rfl, rfl, rfl⟩)
  | 5, hk => cases hk; exact .inr (.inl ⟨rfl, by show 0 < ([nm] : List ByteArray).length; simp, rfl, rfl, rfl⟩)
  | k + 6, hk => simp [elemT] at hk
end Go.Proofs.YtpknifioflagaaaDoor
