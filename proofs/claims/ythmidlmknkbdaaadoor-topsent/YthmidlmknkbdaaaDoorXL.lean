/- What live asks of stanzas, by hand. What is encoded is decoded as it was, by hand. -/
import Derived.Test.YthmidlmknkbdaaaDoorXJ
namespace Go.Proofs.YthmidlmknkbdaaaDoor
open Go.RowKit Go.Shelf

theorem chars_asc : ∀ l : List UInt8, (∀ b ∈ l, 32 ≤ b.toNat ∧ b.toNat < 128) → CharsOk l
  | [], _ => ⟨rfl, runes_nil⟩
  | b :: t, h => by
    have hb := h b (by simp)
    have ih := chars_asc t (fun c hc => h c (by simp [hc]))
    refine ⟨by rw [Lib.validD_cons b t hb.2]; exact ih.1, ?_⟩
    rw [runes_step _ (by simp), Lib.decodeL_ascii b t hb.2]
    exact ⟨Or.inr (Or.inr (Or.inr ⟨hb.1, by have := hb.2; omega, by have := hb.2; omega⟩)), ih.2⟩
def sIq : ByteArray := ⟨#[105, 113]⟩
def sType : ByteArray := ⟨#[116, 121, 112, 101]⟩
def sId : ByteArray := ⟨#[105, 100]⟩
def sOne : ByteArray := ⟨#[49]⟩
theorem name_lower (s : ByteArray) (h1 : 1 ≤ s.size) (h2 : s.size ≤ 32) (h : ∀ b ∈ s.data.toList, 97 ≤ b.toNat ∧ b.toNat ≤ 122) : NameOk s := by
  refine ⟨h1, h2, fun j hj => ?_⟩
  have hm : s[j] ∈ s.data.toList := by
    rw [Array.mem_toList_iff]
    exact Array.getElem_mem hj
  have := h _ hm
  exact .inl (.inr (.inl ⟨by omega, by omega⟩))
theorem name_iq : NameOk sIq := name_lower _ (by decide) (by decide) (by decide)
theorem name_type : NameOk sType := name_lower _ (by decide) (by decide) (by decide)
theorem name_id : NameOk sId := name_lower _ (by decide) (by decide) (by decide)
/-- The tokens of the stanza that live asks of. -/
def liveT : List Tok := elemT sIq [(sType, ty_get), (sId, sOne)] []
theorem liveT_is : stT 1 ty_get ⟨#[]⟩ ⟨#[]⟩ sOne [] = liveT := by rfl
theorem small_get : SmallT ty_get := ⟨by decide, chars_asc _ (by decide)⟩
theorem small_1 : SmallT sOne := ⟨by decide, chars_asc _ (by decide)⟩
theorem live_attrs : AttrsOk [(sType, ty_get), (sId, sOne)] := by
  refine ⟨by decide, fun i a h => ?_⟩
  match i, h with
  | 0, h =>
    cases h
    exact ⟨rfl, name_type, small_get⟩
  | 1, h =>
    cases h
    exact ⟨by rfl, name_id, small_1⟩
  | i + 2, h => simp at h
theorem live_whole : WholeT liveT := by
  refine ⟨⟨by decide, fun k t hk => ?_, by rfl⟩, by rfl⟩
  match k, hk with
  | 0, hk => cases hk; exact .inl ⟨rfl, by decide, name_iq, rfl, live_attrs⟩
  | 1, hk => cases hk; exact .inr (.inl ⟨rfl, by decide, rfl, rfl, rfl⟩)
  | k + 2, hk => simp [liveT, elemT] at hk
theorem live_ok : StOk 1 ty_get ⟨#[]⟩ ⟨#[]⟩ sOne [] := ⟨by rfl, by rw [liveT_is]; exact live_whole⟩
def liveD : D4 := ⟨ty_get, ⟨#[]⟩, ⟨#[]⟩, sOne⟩
def liveB : Tok := ⟨1, sIq, [(sType, ty_get), (sId, sOne)], ⟨#[]⟩⟩
theorem live_dec : DecOk liveT liveB liveD := ⟨live_whole, rfl, by rfl, live_ok⟩
theorem dec_one {ts : List Tok} {t u : Tok} {d e : D4} (h : DecOk ts t d) (k : DecOk ts u e) : t = u ∧ d = e := by
  obtain ⟨_, h1, h2, _⟩ := h
  obtain ⟨_, k1, k2, _⟩ := k
  rw [h1] at k1
  cases k1
  rw [h2] at k2
  cases k2
  exact ⟨rfl, rfl⟩
end Go.Proofs.YthmidlmknkbdaaaDoor
namespace Go.Proofs.YthmidlmknkbdaaaDoor
open Go.RowKit Go.Shelf

theorem mid_elem (nm : ByteArray) (al : List (ByteArray × ByteArray)) (ts : List Tok) : midT (elemT nm al ts) = ts := by
  unfold midT elemT
  have : ([(⟨1, nm, al, ⟨#[]⟩⟩ : Tok)] ++ ts ++ [(⟨2, nm, [], ⟨#[]⟩⟩ : Tok)]).length - 2 = ts.length := by simp
  rw [this]
  simp
theorem elem_first (nm : ByteArray) (al : List (ByteArray × ByteArray)) (ts : List Tok) : (elemT nm al ts)[0]? = some ⟨1, nm, al, ⟨#[]⟩⟩ := by simp [elemT]
theorem num_kind {k : Int} (h : k = 1 ∨ k = 2 ∨ k = 3) : kNum (kindB k) = k := by
  rcases h with rfl | rfl | rfl <;> rfl
theorem put_type (d : D4) (v : ByteArray) : putA d (⟨#[116, 121, 112, 101]⟩, v) = some { d with ty := v } := if_pos rfl
theorem put_from (d : D4) (v : ByteArray) : putA d (⟨#[102, 114, 111, 109]⟩, v) = some { d with fr := v } := by
  unfold putA
  rw [if_neg (show ¬ (⟨#[102, 114, 111, 109]⟩ : ByteArray) = ⟨#[116, 121, 112, 101]⟩ by decide), if_pos rfl]
theorem put_to (d : D4) (v : ByteArray) : putA d (⟨#[116, 111]⟩, v) = some { d with tt := v } := by
  unfold putA
  rw [if_neg (show ¬ (⟨#[116, 111]⟩ : ByteArray) = ⟨#[116, 121, 112, 101]⟩ by decide), if_neg (show ¬ (⟨#[116, 111]⟩ : ByteArray) = ⟨#[102, 114, 111, 109]⟩ by decide), if_pos rfl]
theorem put_id (d : D4) (v : ByteArray) : putA d (⟨#[105, 100]⟩, v) = some { d with id := v } := by
  unfold putA
  rw [if_neg (show ¬ (⟨#[105, 100]⟩ : ByteArray) = ⟨#[116, 121, 112, 101]⟩ by decide), if_neg (show ¬ (⟨#[105, 100]⟩ : ByteArray) = ⟨#[102, 114, 111, 109]⟩ by decide), if_neg (show ¬ (⟨#[105, 100]⟩ : ByteArray) = ⟨#[116, 111]⟩ by decide), if_pos rfl]
/-- The attributes that are told say what they were made of. -/
theorem dec_keep (ty fr tt id : ByteArray) : decA d0 (keepA (attr4 ty fr tt id)) = some ⟨ty, fr, tt, id⟩ := by
  have e : (⟨#[]⟩ : ByteArray) = ty_none := rfl
  unfold keepA attr4 d0
  by_cases h1 : ty = ty_none <;> by_cases h2 : fr = ty_none <;> by_cases h3 : tt = ty_none <;> by_cases h4 : id = ty_none <;> simp [h1, h2, h3, h4, decA, put_type, put_from, put_to, put_id, e]
theorem kind_of {k : Int} {ty fr tt id : ByteArray} (h : mayB k ty fr tt id = true) : k = 1 ∨ k = 2 ∨ k = 3 := by
  unfold mayB at h
  simp only [Bool.and_eq_true, Bool.or_eq_true, beq_iff_eq] at h
  rcases h.1 with h | h | h
  · exact .inl h.1
  · exact .inr (.inl h)
  · exact .inr (.inr h)
/-- A stanza's tokens are those of it. -/
theorem dec_enc {k : Int} {ty fr tt id : ByteArray} {ts : List Tok} (h : StOk k ty fr tt id ts) : DecOk (stT k ty fr tt id ts) ⟨1, kindB k, keepA (attr4 ty fr tt id), ⟨#[]⟩⟩ ⟨ty, fr, tt, id⟩ := by
  have hk := num_kind (kind_of h.1)
  refine ⟨h.2, elem_first _ _ _, dec_keep ty fr tt id, ?_⟩
  show StOk (kNum (kindB k)) ty fr tt id (midT (stT k ty fr tt id ts))
  unfold stT at *
  rw [hk, mid_elem]
  exact h
end Go.Proofs.YthmidlmknkbdaaaDoor
