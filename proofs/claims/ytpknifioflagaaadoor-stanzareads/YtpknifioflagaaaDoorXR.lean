/- The payload of an answer with a condition is right, by hand. What is encoded is decoded as it was, by hand. The answer with a condition to a stanza that is right is right, by hand; the document's name of a condition. -/
import Derived.Test.YtpknifioflagaaaDoorXL
namespace Go.Proofs.YtpknifioflagaaaDoor
open Go.RowKit Go.Shelf

theorem name_stroke (s : ByteArray) (h1 : 1 ≤ s.size) (h2 : s.size ≤ 32) (h : ∀ b ∈ s.data.toList, (97 ≤ b.toNat ∧ b.toNat ≤ 122) ∨ b.toNat = 45) (h0 : ∀ b, s.data.toList[0]? = some b → 97 ≤ b.toNat ∧ b.toNat ≤ 122) : NameOk s := by
  refine ⟨h1, h2, fun j hj => ?_⟩
  have hm : s[j] ∈ s.data.toList := by
    rw [Array.mem_toList_iff]
    exact Array.getElem_mem hj
  rcases h _ hm with hx | hx
  · exact .inl (.inr (.inl ⟨by omega, by omega⟩))
  · by_cases hj0 : j = 0
    · subst hj0
      have := h0 s[0] (by
        rw [Array.getElem?_toList]
        exact Array.getElem?_eq_getElem hj)
      omega
    · exact .inr ⟨by omega, .inr (.inl (by omega))⟩
theorem cond_name {c : Int} (h1 : 1 ≤ c) (h2 : c ≤ 10) : NameOk (condN c) := by
  have hc : condN c = tabN c.toNat := if_pos ⟨h1, h2⟩
  rw [hc]
  obtain ⟨k, hk, hk1, hk2⟩ : ∃ k : Nat, c.toNat = k ∧ 1 ≤ k ∧ k ≤ 10 := ⟨_, rfl, by omega, by omega⟩
  rw [hk]
  match k, hk1, hk2 with
  | 1, _, _ => exact name_stroke _ (by decide) (by decide) (by decide) (fun b h => by cases h; decide)
  | 2, _, _ => exact name_stroke _ (by decide) (by decide) (by decide) (fun b h => by cases h; decide)
  | 3, _, _ => exact name_stroke _ (by decide) (by decide) (by decide) (fun b h => by cases h; decide)
  | 4, _, _ => exact name_stroke _ (by decide) (by decide) (by decide) (fun b h => by cases h; decide)
  | 5, _, _ => exact name_stroke _ (by decide) (by decide) (by decide) (fun b h => by cases h; decide)
  | 6, _, _ => exact name_stroke _ (by decide) (by decide) (by decide) (fun b h => by cases h; decide)
  | 7, _, _ => exact name_stroke _ (by decide) (by decide) (by decide) (fun b h => by cases h; decide)
  | 8, _, _ => exact name_stroke _ (by decide) (by decide) (by decide) (fun b h => by cases h; decide)
  | 9, _, _ => exact name_stroke _ (by decide) (by decide) (by decide) (fun b h => by cases h; decide)
  | 10, _, _ => exact name_stroke _ (by decide) (by decide) (by decide) (fun b h => by cases h; decide)
theorem cond_type {c : Int} (h1 : 1 ≤ c) (h2 : c ≤ 10) : SmallT (condT c) := by
  have hc : condT c = tabT c.toNat := if_pos ⟨h1, h2⟩
  rw [hc]
  obtain ⟨k, hk, hk1, hk2⟩ : ∃ k : Nat, c.toNat = k ∧ 1 ≤ k ∧ k ≤ 10 := ⟨_, rfl, by omega, by omega⟩
  rw [hk]
  match k, hk1, hk2 with
  | 1, _, _ => exact ⟨by decide, chars_asc _ (by decide)⟩
  | 2, _, _ => exact ⟨by decide, chars_asc _ (by decide)⟩
  | 3, _, _ => exact ⟨by decide, chars_asc _ (by decide)⟩
  | 4, _, _ => exact ⟨by decide, chars_asc _ (by decide)⟩
  | 5, _, _ => exact ⟨by decide, chars_asc _ (by decide)⟩
  | 6, _, _ => exact ⟨by decide, chars_asc _ (by decide)⟩
  | 7, _, _ => exact ⟨by decide, chars_asc _ (by decide)⟩
  | 8, _, _ => exact ⟨by decide, chars_asc _ (by decide)⟩
  | 9, _, _ => exact ⟨by decide, chars_asc _ (by decide)⟩
  | 10, _, _ => exact ⟨by decide, chars_asc _ (by decide)⟩
theorem name_error : NameOk ty_error := name_lower _ (by decide) (by decide) (by decide)
theorem type_attrs {c : Int} (h1 : 1 ≤ c) (h2 : c ≤ 10) : AttrsOk [(⟨#[116, 121, 112, 101]⟩, condT c)] := by
  refine ⟨by simp, fun i a h => ?_⟩
  match i, h with
  | 0, h =>
    cases h
    exact ⟨rfl, name_type, cond_type h1 h2⟩
  | i + 1, h => simp at h
theorem no_attrs : AttrsOk [] := ⟨by decide, fun i a h => by simp at h⟩
/-- An element about the payload of an answer with a condition is whole. -/
theorem whole_err {nm : ByteArray} {al : List (ByteArray × ByteArray)} {c : Int} (hn : NameOk nm) (ha : AttrsOk al) (h1 : 1 ≤ c) (h2 : c ≤ 10) : WholeT (elemT nm al (errT c)) := by
  have hcn := cond_name h1 h2
  have hta := type_attrs h1 h2
  unfold errT
  obtain ⟨n, hn'⟩ : ∃ n, condN c = n := ⟨_, rfl⟩
  rw [hn'] at hcn ⊢
  refine ⟨⟨by simp [elemT], fun k t hk => ?_, by rfl⟩, by rfl⟩
  match k, hk with
  | 0, hk => cases hk; exact .inl ⟨rfl, by show ([] : List ByteArray).length + 1 ≤ 8; simp, hn, rfl, ha⟩
  | 1, hk => cases hk; exact .inl ⟨rfl, by show ([nm] : List ByteArray).length + 1 ≤ 8; simp, name_error, rfl, hta⟩
  | 2, hk => cases hk; exact .inl ⟨rfl, by show ([nm, ty_error] : List ByteArray).length + 1 ≤ 8; simp, hcn, rfl, no_attrs⟩
  | 3, hk => cases hk; exact .inr (.inl ⟨rfl, by show 0 < ([nm, ty_error, n] : List ByteArray).length; simp, rfl, rfl, rfl⟩)
  | 4, hk => cases hk; exact .inr (.inl ⟨rfl, by show 0 < ([nm, ty_error] : List ByteArray).length; simp, rfl, rfl, rfl⟩)
  | 5, hk => cases hk; exact .inr (.inl ⟨rfl, by show 0 < ([nm] : List ByteArray).length; simp, rfl, rfl, rfl⟩)
  | k + 6, hk => simp [elemT] at hk
end Go.Proofs.YtpknifioflagaaaDoor
namespace Go.Proofs.YtpknifioflagaaaDoor
open Go.RowKit Go.Shelf

theorem mid_elem (nm : ByteArray) (al : List (ByteArray × ByteArray)) (ts : List Tok) : midT (elemT nm al ts) = ts := by
  unfold midT elemT
  have : ([(⟨1, nm, al, ⟨#[]⟩⟩ : Tok)] ++ ts ++ [(⟨2, nm, [], ⟨#[]⟩⟩ : Tok)]).length - 2 = ts.length := by simp
  rw [this]
  simp
theorem elem_first (nm : ByteArray) (al : List (ByteArray × ByteArray)) (ts : List Tok) : (elemT nm al ts)[0]? = some ⟨1, nm, al, ⟨#[]⟩⟩ := by simp [elemT]
theorem num_kind {k : Int} (h : k = 1 ∨ k = 2 ∨ k = 3) : kNum (kindB k) = k := by
  rcases h with rfl | rfl | rfl <;> rfl
theorem put_type (d : D4) (v : ByteArray) : putA d (⟨#[116, 121, 112, 101]⟩, v) = some { d with ty := v } := if_pos rfl
theorem put_from (d : D4) (v : ByteArray) : putA d (⟨#[102, 114, 111, 109]⟩, v) = some { d with fr := v } := by
  unfold putA
  rw [if_neg (show ¬ (⟨#[102, 114, 111, 109]⟩ : ByteArray) = ⟨#[116, 121, 112, 101]⟩ by decide), if_pos rfl]
theorem put_to (d : D4) (v : ByteArray) : putA d (⟨#[116, 111]⟩, v) = some { d with tt := v } := by
  unfold putA
  rw [if_neg (show ¬ (⟨#[116, 111]⟩ : ByteArray) = ⟨#[116, 121, 112, 101]⟩ by decide), if_neg (show ¬ (⟨#[116, 111]⟩ : ByteArray) = ⟨#[102, 114, 111, 109]⟩ by decide), if_pos rfl]
theorem put_id (d : D4) (v : ByteArray) : putA d (⟨#[105, 100]⟩, v) = some { d with id := v } := by
  unfold putA
  rw [if_neg (show ¬ (⟨#[105, 100]⟩ : ByteArray) = ⟨#[116, 121, 112, 101]⟩ by decide), if_neg (show ¬ (⟨#[105, 100]⟩ : ByteArray) = ⟨#[102, 114, 111, 109]⟩ by decide), if_neg (show ¬ (⟨#[105, 100]⟩ : ByteArray) = ⟨#[116, 111]⟩ by decide), if_pos rfl]
/-- The attributes that are told say what they were made of. -/
theorem dec_keep (ty fr tt id : ByteArray) : decA d0 (keepA (attr4 ty fr tt id)) = some ⟨ty, fr, tt, id⟩ := by
  have e : (⟨#[]⟩ : ByteArray) = ty_none := rfl
  unfold keepA attr4 d0
  by_cases h1 : ty = ty_none <;> by_cases h2 : fr = ty_none <;> by_cases h3 : tt = ty_none <;> by_cases h4 : id = ty_none <;> simp [h1, h2, h3, h4, decA, put_type, put_from, put_to, put_id, e]
theorem kind_of {k : Int} {ty fr tt id : ByteArray} (h : mayB k ty fr tt id = true) : k = 1 ∨ k = 2 ∨ k = 3 := by
  unfold mayB at h
  simp only [Bool.and_eq_true, Bool.or_eq_true, beq_iff_eq] at h
  rcases h.1 with h | h | h
  · exact .inl h.1
  · exact .inr (.inl h)
  · exact .inr (.inr h)
/-- A stanza's tokens are those of it. -/
theorem dec_enc {k : Int} {ty fr tt id : ByteArray} {ts : List Tok} (h : StOk k ty fr tt id ts) : DecOk (stT k ty fr tt id ts) ⟨1, kindB k, keepA (attr4 ty fr tt id), ⟨#[]⟩⟩ ⟨ty, fr, tt, id⟩ := by
  have hk := num_kind (kind_of h.1)
  refine ⟨h.2, elem_first _ _ _, dec_keep ty fr tt id, ?_⟩
  show StOk (kNum (kindB k)) ty fr tt id (midT (stT k ty fr tt id ts))
  unfold stT at *
  rw [hk, mid_elem]
  exact h
end Go.Proofs.YtpknifioflagaaaDoor
namespace Go.Proofs.YtpknifioflagaaaDoor
open Go.RowKit Go.Shelf

theorem name_from : NameOk ⟨#[102, 114, 111, 109]⟩ := name_lower _ (by decide) (by decide) (by decide)
theorem name_to : NameOk ⟨#[116, 111]⟩ := name_lower _ (by decide) (by decide) (by decide)
theorem name_kind {k : Int} (h : k = 1 ∨ k = 2 ∨ k = 3) : NameOk (kindB k) := by
  rcases h with rfl | rfl | rfl
  · exact name_lower _ (by decide) (by decide) (by decide)
  · exact name_lower _ (by decide) (by decide) (by decide)
  · exact name_lower _ (by decide) (by decide) (by decide)
theorem small_none : SmallT ty_none := ⟨by decide, chars_asc _ (by decide)⟩
theorem small_error : SmallT ty_error := ⟨by decide, chars_asc _ (by decide)⟩
/-- The first token of a stanza that is right. -/
theorem st_attrs {k : Int} {ty fr tt id : ByteArray} {ts : List Tok} (h : StOk k ty fr tt id ts) : AttrsOk (keepA (attr4 ty fr tt id)) := by
  have h0 := h.2.1.2.1 0 _ (elem_first (kindB k) (keepA (attr4 ty fr tt id)) ts)
  rcases h0 with ⟨_, _, _, _, ha⟩ | ⟨hk, _⟩ | ⟨hk, _⟩
  · exact ha
  · cases hk
  · cases hk
theorem kept_small {al : List (ByteArray × ByteArray)} (h : AttrsOk (keepA al)) {a : ByteArray × ByteArray} (ha : a ∈ al) : SmallT a.2 := by
  by_cases he : a.2 = ty_none
  · rw [he]
    exact small_none
  · have hm : a ∈ keepA al := by
      unfold keepA
      rw [List.mem_filter]
      exact ⟨ha, by simp [he]⟩
    obtain ⟨i, hi, e⟩ := List.getElem_of_mem hm
    have := (h.2 i a (by rw [List.getElem?_eq_getElem hi, e])).2.2
    exact this
/-- Attributes of small texts are right. -/
theorem attrs_small {ty fr tt id : ByteArray} (h1 : SmallT ty) (h2 : SmallT fr) (h3 : SmallT tt) (h4 : SmallT id) : AttrsOk (keepA (attr4 ty fr tt id)) := by
  have n1 := name_type
  have n2 := name_from
  have n3 := name_to
  have n4 := name_id
  unfold sType at n1
  unfold sId at n4
  have key : ∀ a b c d : Bool, AttrsOk ((if a then [((⟨#[116, 121, 112, 101]⟩ : ByteArray), ty)] else []) ++ ((if b then [((⟨#[102, 114, 111, 109]⟩ : ByteArray), fr)] else []) ++ ((if c then [((⟨#[116, 111]⟩ : ByteArray), tt)] else []) ++ (if d then [((⟨#[105, 100]⟩ : ByteArray), id)] else [])))) := by
    intro a b c d
    cases a <;> cases b <;> cases c <;> cases d <;> (refine ⟨by simp, fun i x hx => ?_⟩) <;> (match i, hx with
      | 0, hx => first | (simp at hx; done) | (cases hx; first | exact ⟨rfl, n1, h1⟩ | exact ⟨rfl, n2, h2⟩ | exact ⟨rfl, n3, h3⟩ | exact ⟨rfl, n4, h4⟩)
      | 1, hx => first | (simp at hx; done) | (cases hx; first | exact ⟨rfl, n2, h2⟩ | exact ⟨rfl, n3, h3⟩ | exact ⟨rfl, n4, h4⟩)
      | 2, hx => first | (simp at hx; done) | (cases hx; first | exact ⟨rfl, n3, h3⟩ | exact ⟨rfl, n4, h4⟩)
      | 3, hx => first | (simp at hx; done) | (cases hx; exact ⟨rfl, n4, h4⟩)
      | i + 4, hx => simp at hx)
  have e : keepA (attr4 ty fr tt id) = (if !decide (ty = ty_none) then [((⟨#[116, 121, 112, 101]⟩ : ByteArray), ty)] else []) ++ ((if !decide (fr = ty_none) then [((⟨#[102, 114, 111, 109]⟩ : ByteArray), fr)] else []) ++ ((if !decide (tt = ty_none) then [((⟨#[116, 111]⟩ : ByteArray), tt)] else []) ++ (if !decide (id = ty_none) then [((⟨#[105, 100]⟩ : ByteArray), id)] else []))) := by
    unfold keepA attr4
    clear key
    by_cases e1 : ty = ty_none <;> by_cases e2 : fr = ty_none <;> by_cases e3 : tt = ty_none <;> by_cases e4 : id = ty_none <;> simp [e1, e2, e3, e4]
  rw [e]
  exact key _ _ _ _
theorem ty_err {k : Int} (h : k = 1 ∨ k = 2 ∨ k = 3) : tyB k ty_error = true := by
  rcases h with rfl | rfl | rfl <;> rfl
/-- The answer with a condition to what is right is right. -/
theorem err_ok {k : Int} {ty fr tt id : ByteArray} {ts : List Tok} {c : Int} (h : StOk k ty fr tt id ts) (h1 : 1 ≤ c) (h2 : c ≤ 10) : StOk k ty_error tt fr id (errT c) := by
  have hk := kind_of h.1
  have ha := st_attrs h
  have f2 := kept_small ha (a := (⟨#[102, 114, 111, 109]⟩, fr)) (by simp [attr4])
  have f3 := kept_small ha (a := (⟨#[116, 111]⟩, tt)) (by simp [attr4])
  have f4 := kept_small ha (a := (⟨#[105, 100]⟩, id)) (by simp [attr4])
  refine ⟨?_, whole_err (name_kind hk) (attrs_small small_error f3 f2 f4) h1 h2⟩
  have hm := h.1
  unfold mayB at hm ⊢
  simp only [Bool.and_eq_true] at hm ⊢
  exact ⟨hm.1, ty_err hk, hm.2.2.2, hm.2.2.1⟩
theorem parse_empty {e : Ending} (h : ParseEnds ⟨#[]⟩ e) : e = .returned (.tuple #[.int .i64 0, .bool false]) := by
  rcases h with ⟨k, g1, g2, g3, rfl⟩ | ⟨_, rfl⟩
  · have : ∀ i : Fin 11, 1 ≤ i.val → tabN i.val ≠ ⟨#[]⟩ := by decide
    exact absurd g3 (this ⟨k, by omega⟩ g1)
  · rfl
theorem failed_none {k : Int} {fr tt id : ByteArray} {pa : Option Addr} {pc : Nat} {c : Int} {av : Nat → Option Addr × Nat} {w : World} (hT : TokMem w.heap.size w pa (errT c) av) (hl : RowsLaid w) (h : ¬ (1 ≤ c ∧ c ≤ 10)) :
    Calls Tryd.prog 20 #[.agg #[.int .u8 k, .string ty_error, .string fr, .string tt, .string id, .slice pa (errT c).length pc]] w fun e w' => e = .returned (.tuple #[.int .i64 0, .bool false]) ∧ Below w.heap.size w w' := by
  have hF : FailT ty_error (errT c) (condN c) := ⟨rfl, _, _, rfl, rfl, rfl, rfl, rfl, rfl⟩
  refine (failed_any k ty_error fr tt id pa pc (errT c) av w hT hl).mono ?_
  rintro e w' ⟨⟨s, hs, hp⟩ | ⟨hn, _⟩, b⟩
  · have : s = condN c := by
      obtain ⟨_, t0, t1, h0, h1', _, _, _, rfl⟩ := hs
      cases h1'
      rfl
    subst this
    have hcn : condN c = ⟨#[]⟩ := if_neg h
    rw [hcn] at hp
    exact ⟨parse_empty hp, b⟩
  · exact absurd ⟨_, hF⟩ hn
set_option maxRecDepth 100000 in
theorem rname_any (c : Int) (w : World) : Calls Tryd.prog 26 #[.int .i64 c] w fun e w' => e = .returned (.string (condN c)) ∧ w' = w := by
  by_cases h : 1 ≤ c ∧ c ≤ 10
  · have hcn : condN c = tabN c.toNat := if_pos h
    rw [hcn]
    obtain ⟨n, hn, hn1, hn2⟩ : ∃ n : Nat, c = n ∧ 1 ≤ n ∧ n ≤ 10 := ⟨c.toNat, by omega, by omega, by omega⟩
    subst hn
    rw [Int.toNat_natCast]
    match n, hn1, hn2 with
    | 1, _, _ => go_enter Tryd.func26, Tryd.ntmps26; go_wp2; go_ret; exact ⟨rfl, rfl⟩
    | 2, _, _ => go_enter Tryd.func26, Tryd.ntmps26; go_wp2; go_ret; exact ⟨rfl, rfl⟩
    | 3, _, _ => go_enter Tryd.func26, Tryd.ntmps26; go_wp2; go_ret; exact ⟨rfl, rfl⟩
    | 4, _, _ => go_enter Tryd.func26, Tryd.ntmps26; go_wp2; go_ret; exact ⟨rfl, rfl⟩
    | 5, _, _ => go_enter Tryd.func26, Tryd.ntmps26; go_wp2; go_ret; exact ⟨rfl, rfl⟩
    | 6, _, _ => go_enter Tryd.func26, Tryd.ntmps26; go_wp2; go_ret; exact ⟨rfl, rfl⟩
    | 7, _, _ => go_enter Tryd.func26, Tryd.ntmps26; go_wp2; go_ret; exact ⟨rfl, rfl⟩
    | 8, _, _ => go_enter Tryd.func26, Tryd.ntmps26; go_wp2; go_ret; exact ⟨rfl, rfl⟩
    | 9, _, _ => go_enter Tryd.func26, Tryd.ntmps26; go_wp2; go_ret; exact ⟨rfl, rfl⟩
    | 10, _, _ => go_enter Tryd.func26, Tryd.ntmps26; go_wp2; go_ret; exact ⟨rfl, rfl⟩
  · have hcn : condN c = ⟨#[]⟩ := if_neg h
    rw [hcn]
    have e1 : ¬ c = 1 := by omega
    have e2 : ¬ c = 2 := by omega
    have e3 : ¬ c = 3 := by omega
    have e4 : ¬ c = 4 := by omega
    have e5 : ¬ c = 5 := by omega
    have e6 : ¬ c = 6 := by omega
    have e7 : ¬ c = 7 := by omega
    have e8 : ¬ c = 8 := by omega
    have e9 : ¬ c = 9 := by omega
    have e10 : ¬ c = 10 := by omega
    go_enter Tryd.func26, Tryd.ntmps26
    go_wp2
    go_ret
    exact ⟨rfl, rfl⟩
theorem cond_some {c : Int} (h : 1 ≤ c ∧ c ≤ 10) : condN c ≠ ⟨#[]⟩ := by
  have hcn : condN c = tabN c.toNat := if_pos h
  rw [hcn]
  have : ∀ i : Fin 11, 1 ≤ i.val → tabN i.val ≠ ⟨#[]⟩ := by decide
  exact this ⟨c.toNat, by omega⟩ (by show 1 ≤ c.toNat; omega)
end Go.Proofs.YtpknifioflagaaaDoor
