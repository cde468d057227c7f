/- What is encoded is decoded as it was, by hand. -/
import Derived.Test.YtpknifioflagaaaDoorStL
namespace Go.Proofs.YtpknifioflagaaaDoor
open Go.RowKit Go.Shelf

theorem mid_elem (nm : ByteArray) (al : List (ByteArray × ByteArray)) (ts : List Tok) : midT (elemT nm al ts) = ts := by
  unfold midT elemT
  have : ([(⟨1, nm, al, ⟨#[]⟩⟩ : Tok)] ++ ts ++ [(⟨2, nm, [], ⟨#[]⟩⟩ : Tok)]).length - 2 = ts.length := by simp
  rw [this]
  simp
theorem elem_first (nm : ByteArray) (al : List (ByteArray × ByteArray)) (ts : List Tok) : (elemT nm al ts)[0]? = some ⟨1, nm, al, ⟨#[]⟩⟩ := by simp [elemT]
theorem num_kind {k : Int} (h : k = 1 ∨ k = 2 ∨ k = 3) : kNum (kindB k) = k := by
  rcases h with rfl | rfl | rfl <;> rfl
theorem put_type (d : D4) (v : ByteArray) : putA d (⟨#[116, 121, 112, 101]⟩, v) = some { d with ty := v } := if_pos rfl
theorem put_from (d : D4) (v : ByteArray) : putA d (⟨#[102, 114, 111, 109]⟩, v) = some { d with fr := v } := by
  unfold putA
  rw [if_neg (show ¬ (⟨#[102, 114, 111, 109]⟩ : ByteArray) = ⟨#[116, 121, 112, 101]⟩ by decide), if_pos rfl]
theorem put_to (d : D4) (v : ByteArray) : putA d (⟨#[116, 111]⟩, v) = some { d with tt := v } := by
  unfold putA
  rw [if_neg (show ¬ (⟨#[116, 111]⟩ : ByteArray) = ⟨#[116, 121, 112, 101]⟩ by decide), if_neg (show ¬ (⟨#[116, 111]⟩ : ByteArray) = ⟨#[102, 114, 111, 109]⟩ by decide), if_pos rfl]
theorem put_id (d : D4) (v : ByteArray) : putA d (⟨#[105, 100]⟩, v) = some { d with id := v } := by
  unfold putA
  rw [if_neg (show ¬ (⟨#[105, 100]⟩ : ByteArray) = ⟨#[116, 121, 112, 101]⟩ by decide), if_neg (show ¬ (⟨#[105, 100]⟩ : ByteArray) = ⟨#[102, 114, 111, 109]⟩ by decide), if_neg (show ¬ (⟨#[105, 100]⟩ : ByteArray) = ⟨#[116, 111]⟩ by decide), if_pos rfl]
/-- The attributes that are told say what they were made of. -/
theorem dec_keep (ty fr tt id : ByteArray) : decA d0 (keepA (attr4 ty fr tt id)) = some ⟨ty, fr, tt, id⟩ := by
  have e : (⟨#[]⟩ : ByteArray) = ty_none := rfl
  unfold keepA attr4 d0
  by_cases h1 : ty = ty_none <;> by_cases h2 : fr = ty_none <;> by_cases h3 : tt = ty_none <;> by_cases h4 : id = ty_none <;> simp [h1, h2, h3, h4, decA, put_type, put_from, put_to, put_id, e]
theorem kind_of {k : Int} {ty fr tt id : ByteArray} (h : mayB k ty fr tt id = true) : k = 1 ∨ k = 2 ∨ k = 3 := by
  unfold mayB at h
  simp only [Bool.and_eq_true, Bool.or_eq_true, beq_iff_eq] at h
  rcases h.1 with h | h | h
  · exact .inl h.1
  · exact .inr (.inl h)
  · exact .inr (.inr h)
/-- A stanza's tokens are those of it. -/
theorem dec_enc {k : Int} {ty fr tt id : ByteArray} {ts : List Tok} (h : StOk k ty fr tt id ts) : DecOk (stT k ty fr tt id ts) ⟨1, kindB k, keepA (attr4 ty fr tt id), ⟨#[]⟩⟩ ⟨ty, fr, tt, id⟩ := by
  have hk := num_kind (kind_of h.1)
  refine ⟨h.2, elem_first _ _ _, dec_keep ty fr tt id, ?_⟩
  show StOk (kNum (kindB k)) ty fr tt id (midT (stT k ty fr tt id ts))
  unfold stT at *
  rw [hk, mid_elem]
  exact h
end Go.Proofs.YtpknifioflagaaaDoor
