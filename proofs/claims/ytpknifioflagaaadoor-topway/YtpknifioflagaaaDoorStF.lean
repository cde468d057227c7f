/- The answer with a condition to a stanza that is right is right, by hand; the document's name of a condition. -/
import Derived.Test.YtpknifioflagaaaDoorStW
import Derived.Test.YtpknifioflagaaaDoorStB
import Derived.Test.YtpknifioflagaaaDoorSt11
namespace Go.Proofs.YtpknifioflagaaaDoor
open Go.RowKit Go.Shelf

theorem name_from : NameOk ⟨#[102, 114, 111, 109]⟩ := name_lower _ (by decide) (by decide) (by decide)
theorem name_to : NameOk ⟨#[116, 111]⟩ := name_lower _ (by decide) (by decide) (by decide)
theorem name_kind {k : Int} (h : k = 1 ∨ k = 2 ∨ k = 3) : NameOk (kindB k) := by
  rcases h with rfl | rfl | rfl
  · exact name_lower _ (by decide) (by decide) (by decide)
  · exact name_lower _ (by decide) (by decide) (by decide)
  · exact name_lower _ (by decide) (by decide) (by decide)
theorem small_none : SmallT ty_none := ⟨by decide, chars_asc _ (by decide)⟩
theorem small_error : SmallT ty_error := ⟨by decide, chars_asc _ (by decide)⟩
/-- The first token of a stanza that is right. -/
theorem st_attrs {k : Int} {ty fr tt id : ByteArray} {ts : List Tok} (h : StOk k ty fr tt id ts) : AttrsOk (keepA (attr4 ty fr tt id)) := by
  have h0 := h.2.1.2.1 0 _ (elem_first (kindB k) (keepA (attr4 ty fr tt id)) ts)
  rcases h0 with ⟨_, _, _, _, ha⟩ | ⟨hk, _⟩ | ⟨hk, _⟩
  · exact ha
  · cases hk
  · cases hk
theorem kept_small {al : List (ByteArray × ByteArray)} (h : AttrsOk (keepA al)) {a : ByteArray × ByteArray} (ha : a ∈ al) : SmallT a.2 := by
  by_cases he : a.2 = ty_none
  · rw [he]
    exact small_none
  · have hm : a ∈ keepA al := by
      unfold keepA
      rw [List.mem_filter]
      exact ⟨ha, by simp [he]⟩
    obtain ⟨i, hi, e⟩ := List.getElem_of_mem hm
    have := (h.2 i a (by rw [List.getElem?_eq_getElem hi, e])).2.2
    exact this
/-- Attributes of small texts are right. -/
theorem attrs_small {ty fr tt id : ByteArray} (h1 : SmallT ty) (h2 : SmallT fr) (h3 : SmallT tt) (h4 : SmallT id) : AttrsOk (keepA (attr4 ty fr tt id)) := by
  have n1 := name_type
  have n2 := name_from
  have n3 := name_to
  have n4 := name_id
  unfold sType at n1
  unfold sId at n4
  have key : ∀ a b c d : Bool, AttrsOk ((if a then [((⟨#[116, 121, 112, 101]⟩ : ByteArray), ty)] else []) ++ ((if b then [((⟨#[102, 114, 111, 109]⟩ : ByteArray), fr)] else []) ++ ((if c then [((⟨#[116, 111]⟩ : ByteArray), tt)] else []) ++ (if d then [((⟨#[105, 100]⟩ : ByteArray), id)] else [])))) := by
    intro a b c d
    cases a <;> cases b <;> cases c <;> cases d <;> (refine ⟨by simp, fun i x hx => ?_⟩) <;> (match i, hx with
      | 0, hx => first | (simp at hx; done) | (cases hx; first | exact ⟨rfl, n1, h1⟩ | exact ⟨rfl, n2, h2⟩ | exact ⟨rfl, n3, h3⟩ | exact ⟨rfl, n4, h4⟩)
      | 1, hx => first | (simp at hx; done) | (cases hx; first | exact ⟨rfl, n2, h2⟩ | exact ⟨rfl, n3, h3⟩ | exact ⟨rfl, n4, h4⟩)
      | 2, hx => first | (simp at hx; done) | (cases hx; first | exact ⟨rfl, n3, h3⟩ | exact ⟨rfl, n4, h4⟩)
      | 3, hx => first | (simp at hx; done) | (cases hx; exact ⟨rfl, n4, h4⟩)
      | i + 4, hx => simp at hx)
  have e : keepA (attr4 ty fr tt id) = (if !decide (ty = ty_none) then [((⟨#[116, 121, 112, 101]⟩ : ByteArray), ty)] else []) ++ ((if !decide (fr = ty_none) then [((⟨#[102, 114, 111, 109]⟩ : ByteArray), fr)] else []) ++ ((if !decide (tt = ty_none) then [((⟨#[116, 111]⟩ : ByteArray), tt)] else []) ++ (if !decide (id = ty_none) then [((⟨#[105, 100]⟩ : ByteArray), id)] else []))) := by
    unfold keepA attr4
    clear key
    by_cases e1 : ty = ty_none <;> by_cases e2 : fr = ty_none <;> by_cases e3 : tt = ty_none <;> by_cases e4 : id = ty_none <;> simp [e1, e2, e3, e4]
  rw [e]
  exact key _ _ _ _
theorem ty_err {k : Int} (h : k = 1 ∨ k = 2 ∨ k = 3) : tyB k ty_error = true := by
  rcases h with rfl | rfl | rfl <;> rfl
/-- The answer with a condition to what is right is right. -/
theorem err_ok {k : Int} {ty fr tt id : ByteArray} {ts : List Tok} {c : Int} (h : StOk k ty fr tt id ts) (h1 : 1 ≤ c) (h2 : c ≤ 10) : StOk k ty_error tt fr id (errT c) := by
  have hk := kind_of h.1
  have ha := st_attrs h
  have f2 := kept_small ha (a := (⟨#[102, 114, 111, 109]⟩, fr)) (by simp [attr4])
  have f3 := kept_small ha (a := (⟨#[116, 111]⟩, tt)) (by simp [attr4])
  have f4 := kept_small ha (a := (⟨#[105, 100]⟩, id)) (by simp [attr4])
  refine ⟨?_, whole_err (name_kind hk) (attrs_small small_error f3 f2 f4) h1 h2⟩
  have hm := h.1
  unfold mayB at hm ⊢
  simp only [Bool.and_eq_true] at hm ⊢
  exact ⟨hm.1, ty_err hk, hm.2.2.2, hm.2.2.1⟩
theorem parse_empty {e : Ending} (h : ParseEnds ⟨#[]⟩ e) : e = .returned (.tuple #[.int .i64 0, .bool false]) := by
  rcases h with ⟨k, g1, g2, g3, rfl⟩ | ⟨_, rfl⟩
  · have : ∀ i : Fin 11, 1 ≤ i.val → tabN i.val ≠ ⟨#[]⟩ := by decide
    exact absurd g3 (this ⟨k, by omega⟩ g1)
  · rfl
theorem failed_none {k : Int} {fr tt id : ByteArray} {pa : Option Addr} {pc : Nat} {c : Int} {av : Nat → Option Addr × Nat} {w : World} (hT : TokMem w.heap.size w pa (errT c) av) (hl : RowsLaid w) (h : ¬ (1 ≤ c ∧ c ≤ 10)) :
    Calls Tryd.prog 20 #[.agg #[.int .u8 k, .string ty_error, .string fr, .string tt, .string id, .slice pa (errT c).length pc]] w fun e w' => e = .returned (.tuple #[.int .i64 0, .bool false]) ∧ Below w.heap.size w w' := by
  have hF : FailT ty_error (errT c) (condN c) := ⟨rfl, _, _, rfl, rfl, rfl, rfl, rfl, rfl⟩
  refine (failed_any k ty_error fr tt id pa pc (errT c) av w hT hl).mono ?_
  rintro e w' ⟨⟨s, hs, hp⟩ | ⟨hn, _⟩, b⟩
  · have : s = condN c := by
      obtain ⟨_, t0, t1, h0, h1', _, _, _, rfl⟩ := hs
      cases h1'
      rfl
    subst this
    have hcn : condN c = ⟨#[]⟩ := if_neg h
    rw [hcn] at hp
    exact ⟨parse_empty hp, b⟩
  · exact absurd ⟨_, hF⟩ hn
set_option maxRecDepth 100000 in
theorem rname_any (c : Int) (w : World) : Calls Tryd.prog 26 #[.int .i64 c] w fun e w' => e = .returned (.string (condN c)) ∧ w' = w := by
  by_cases h : 1 ≤ c ∧ c ≤ 10
  · have hcn : condN c = tabN c.toNat := if_pos h
    rw [hcn]
    obtain ⟨n, hn, hn1, hn2⟩ : ∃ n : Nat, c = n ∧ 1 ≤ n ∧ n ≤ 10 := ⟨c.toNat, by omega, by omega, by omega⟩
    subst hn
    rw [Int.toNat_natCast]
    match n, hn1, hn2 with
    | 1, _, _ => go_enter Tryd.func26, Tryd.ntmps26; go_wp2; go_ret; exact ⟨rfl, rfl⟩
    | 2, _, _ => go_enter Tryd.func26, Tryd.ntmps26; go_wp2; go_ret; exact ⟨rfl, rfl⟩
    | 3, _, _ => go_enter Tryd.func26, Tryd.ntmps26; go_wp2; go_ret; exact ⟨rfl, rfl⟩
    | 4, _, _ => go_enter Tryd.func26, Tryd.ntmps26; go_wp2; go_ret; exact ⟨rfl, rfl⟩
    | 5, _, _ => go_enter Tryd.func26, Tryd.ntmps26; go_wp2; go_ret; exact ⟨rfl, rfl⟩
    | 6, _, _ => go_enter Tryd.func26, Tryd.ntmps26; go_wp2; go_ret; exact ⟨rfl, rfl⟩
    | 7, _, _ => go_enter Tryd.func26, Tryd.ntmps26; go_wp2; go_ret; exact ⟨rfl, rfl⟩
    | 8, _, _ => go_enter Tryd.func26, Tryd.ntmps26; go_wp2; go_ret; exact ⟨rfl, rfl⟩
    | 9, _, _ => go_enter Tryd.func26, Tryd.ntmps26; go_wp2; go_ret; exact ⟨rfl, rfl⟩
    | 10, _, _ => go_enter Tryd.func26, Tryd.ntmps26; go_wp2; go_ret; exact ⟨rfl, rfl⟩
  · have hcn : condN c = ⟨#[]⟩ := if_neg h
    rw [hcn]
    have e1 : ¬ c = 1 := by omega
    have e2 : ¬ c = 2 := by omega
    have e3 : ¬ c = 3 := by omega
    have e4 : ¬ c = 4 := by omega
    have e5 : ¬ c = 5 := by omega
    have e6 : ¬ c = 6 := by omega
    have e7 : ¬ c = 7 := by omega
    have e8 : ¬ c = 8 := by omega
    have e9 : ¬ c = 9 := by omega
    have e10 : ¬ c = 10 := by omega
    go_enter Tryd.func26, Tryd.ntmps26
    go_wp2
    go_ret
    exact ⟨rfl, rfl⟩
theorem cond_some {c : Int} (h : 1 ≤ c ∧ c ≤ 10) : condN c ≠ ⟨#[]⟩ := by
  have hcn : condN c = tabN c.toNat := if_pos h
  rw [hcn]
  have : ∀ i : Fin 11, 1 ≤ i.val → tabN i.val ≠ ⟨#[]⟩ := by decide
  exact this ⟨c.toNat, by omega⟩ (by show 1 ≤ c.toNat; omega)
end Go.Proofs.YtpknifioflagaaaDoor
