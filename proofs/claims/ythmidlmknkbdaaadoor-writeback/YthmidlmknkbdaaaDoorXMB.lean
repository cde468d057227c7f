/- A text in an element: what its bytes do. What is printed of whole tokens is read back, unless a piece is too long. What is printed of whole tokens is read back: token by token. -/
import Derived.Test.YthmidlmknkbdaaaDoorXMA
import Derived.Test.YthmidlmknkbdaaaDoorCharsX
import Derived.Test.YthmidlmknkbdaaaDoorPrint
import Derived.Test.YthmidlmknkbdaaaDoorWhole
namespace Go.Proofs.YthmidlmknkbdaaaDoor.Xm
open Go.RowKit

theorem esc_safe (l : List UInt8) : ∀ b ∈ esc l, b ≠ 60 ∧ b ≠ 62 ∧ b ≠ 39 ∧ b ≠ 34 := by
  intro b hb
  simp only [esc, List.mem_flatMap] at hb
  obtain ⟨a, _, ha⟩ := hb
  unfold escB at ha
  split at ha
  · simp at ha; rcases ha with rfl | rfl | rfl | rfl | rfl <;> decide
  · split at ha
    · simp at ha; rcases ha with rfl | rfl | rfl | rfl <;> decide
    · split at ha
      · simp at ha; rcases ha with rfl | rfl | rfl | rfl <;> decide
      · split at ha
        · simp at ha; rcases ha with rfl | rfl | rfl | rfl | rfl | rfl <;> decide
        · split at ha
          · simp at ha; rcases ha with rfl | rfl | rfl | rfl | rfl | rfl <;> decide
          · simp at ha
            subst ha
            refine ⟨?_, ?_, ?_, ?_⟩ <;> assumption
theorem cut_q (q : UInt8) : ∀ l : List UInt8, ((Lib.cut l [q]).2.2 = true ∧ l = (Lib.cut l [q]).1 ++ q :: (Lib.cut l [q]).2.1 ∧ q ∉ (Lib.cut l [q]).1) ∨ (Lib.cut l [q] = (l, [], false) ∧ q ∉ l)
  | [] => by right; exact ⟨rfl, by simp⟩
  | b :: r => by
    by_cases hb : b = q
    · subst hb
      left
      have e : Lib.index (b :: r) [b] = 0 := by simp [Lib.index]
      simp [Lib.cut, e]
    · have e : Lib.index (b :: r) [q] = if Lib.index r [q] == -1 then -1 else Lib.index r [q] + 1 := by
        simp [Lib.index, Ne.symm hb]
      have hge := Lib.index_ge r [q]
      have ih := cut_q q r
      unfold Lib.cut at ih ⊢
      by_cases h1 : Lib.index r [q] = -1
      · rw [e, h1]
        rw [h1] at ih
        simp at ih
        right
        simp
        exact ⟨fun h => hb h.symm, ih⟩
      · have h2 : 0 ≤ Lib.index r [q] := by omega
        rw [if_pos h2] at ih
        have e2 : Lib.index (b :: r) [q] = Lib.index r [q] + 1 := by rw [e]; simp [h1]
        rw [e2, if_pos (by omega)]
        have e3 : (Lib.index r [q] + 1).toNat = (Lib.index r [q]).toNat + 1 := by omega
        rw [e3]
        rcases ih with ⟨_, h3, h4⟩ | ⟨h3, _⟩
        · left
          refine ⟨rfl, ?_, ?_⟩
          · simp only [List.take_succ_cons, List.cons_append]
            exact congrArg (b :: ·) h3
          · simp only [List.take_succ_cons, List.mem_cons, not_or]
            exact ⟨fun h => hb h.symm, h4⟩
        · exact absurd (congrArg (fun x => x.2.2) h3) (by simp)
theorem head_q {q : UInt8} {a a' b b' : List UInt8} (h : a ++ q :: b = a' ++ q :: b') (h1 : q ∉ a) (h2 : q ∉ a') : a = a' ∧ b = b' := by
  induction a generalizing a' with
  | nil =>
    cases a' with
    | nil => simpa using h
    | cons x r => simp at h; exact absurd h.1 (fun e => h2 (by simp [e]))
  | cons x r ih =>
    cases a' with
    | nil => simp at h; exact absurd h.1 (fun e => h1 (by simp [e]))
    | cons y r' =>
      simp only [List.cons_append, List.cons.injEq] at h
      simp only [List.mem_cons, not_or] at h1 h2
      have := ih h.2 h1.2 h2.2
      exact ⟨by rw [h.1, this.1], this.2⟩
theorem cut_has {q : UInt8} {a : List UInt8} (b : List UInt8) (h : q ∉ a) : Lib.cut (a ++ q :: b) [q] = (a, b, true) := by
  rcases cut_q q (a ++ q :: b) with ⟨h1, h2, h3⟩ | ⟨_, h1⟩
  · have := head_q h2.symm h3 h
    rw [Prod.ext_iff, Prod.ext_iff]
    exact ⟨this.1, this.2, h1⟩
  · exact absurd (by simp) h1
theorem runQ_app : ∀ (a : List UInt8) (q : Nat) (b : List UInt8), runQ q (a ++ b) = (runQ q a).bind (fun q' => runQ q' b)
  | [], _, _ => rfl
  | c :: a, q, b => by
    simp only [List.cons_append, runQ]
    split
    · rfl
    · exact runQ_app a _ b
theorem runQ_in : ∀ (l : List UInt8), (∀ b ∈ l, b ≠ 39) → runQ 39 l = some 39
  | [], _ => rfl
  | c :: l, h => by
    have hc : c.toNat ≠ 39 := fun e => h c List.mem_cons_self (UInt8.toNat_inj.1 (by rw [e]; rfl))
    have hq : quoteL 39 c = (39, false) := by
      unfold quoteL
      rw [if_neg hc, if_pos (by decide)]
    unfold runQ
    rw [hq]
    exact runQ_in l (fun b hb => h b (List.mem_cons_of_mem _ hb))
/-- The tag's inside. -/
def tagIn (s : List UInt8) : List UInt8 := [97, 32, 98, 61] ++ (39 :: (esc s ++ [39]))
theorem runQ_tag (s : List UInt8) : runQ 0 (tagIn s) = some 0 := by
  unfold tagIn
  rw [runQ_app]
  have h1 : runQ 0 [97, 32, 98, 61] = some 0 := rfl
  rw [h1]
  show runQ 0 (39 :: (esc s ++ [39])) = some 0
  have h2 : runQ 0 (39 :: (esc s ++ [39])) = runQ 39 (esc s ++ [39]) := rfl
  rw [h2, runQ_app, runQ_in _ (fun b hb => (esc_safe s b hb).2.2.1)]
  rfl
theorem chars_tag {s : List UInt8} (h : CharsOk s) : CharsOk (60 :: tagIn s ++ [62]) := by
  have e : 60 :: tagIn s ++ [62] = [60, 97, 32, 98, 61, 39] ++ (esc s ++ [39, 62]) := by simp [tagIn]
  rw [e, charsOk_asc _ _ (by decide)]
  refine charsOk_append _ _ _ (Nat.le_refl _) ((charsOk_esc _ s (Nat.le_refl _)).2 h) ?_
  have := (charsOk_asc [39, 62] [] (by decide)).2 charsOk_nil
  simpa using this
theorem value_tag (s : List UInt8) : valueL (39 :: (esc s ++ [39, 62])) = some (s, [62]) := by
  have hm : mayL [39] (39 :: (esc s ++ [39, 62])) = (esc s ++ [39, 62], true) := by simp [mayL, List.isPrefixOf]
  unfold valueL
  rw [hm]
  simp only [if_true]
  unfold valueIn
  have hc : Lib.cut (esc s ++ [39, 62]) [39] = (esc s, [62], true) := cut_has (a := esc s) [62] (fun hh => (esc_safe s 39 hh).2.2.1 rfl)
  rw [hc]
  simp only [unesc_esc, if_true]
theorem begin_in (s Y : List UInt8) (hv : valueL Y = some (s, [62])) (hd : Y.dropWhile isBl = Y) : beginL (60 :: ([97] ++ 32 :: ([98] ++ 61 :: Y))) = some ([97], [([98], s)], false) := by
  have sm1 : Small [97] := fun b hb => by rw [List.mem_singleton.1 hb]; decide
  have sm2 : Small [98] := fun b hb => by rw [List.mem_singleton.1 hb]; decide
  have h1 : mustL [60] (60 :: ([97] ++ 32 :: ([98] ++ 61 :: Y))) = some ([97] ++ 32 :: ([98] ++ 61 :: Y)) := by simp [mustL, mayL, List.isPrefixOf]
  have h2 : nameL ([97] ++ 32 :: ([98] ++ 61 :: Y)) = some ([97], 32 :: ([98] ++ 61 :: Y)) := nameL_small sm1 (by decide) (by decide) (by decide)
  have h3 : nameL ([98] ++ 61 :: Y) = some ([98], 61 :: Y) := nameL_small sm2 (by decide) (by decide) (by decide)
  have d61 : isBl 61 = false := by decide
  have h4 : (61 :: Y).dropWhile isBl = 61 :: Y := by rw [List.dropWhile_cons_of_neg (by rw [d61]; decide)]
  have h5 : mustL [61] (61 :: Y) = some Y := by simp [mustL, mayL, List.isPrefixOf]
  have ha : attrL ([98] ++ 61 :: Y) = some (([98], s), [62]) := by
    unfold attrL
    rw [h3, Option.bind_some, h4, h5, Option.bind_some, hd, hv, Option.map_some]
  have b32 : isBl 32 = true := by decide
  have b98 : isBl 98 = false := by decide
  have h6 : (32 :: ([98] ++ 61 :: Y)).dropWhile isBl = [98] ++ 61 :: Y := by
    rw [List.dropWhile_cons_of_pos b32]
    exact List.dropWhile_cons_of_neg (by rw [b98]; decide)
  have h7 : 0 < ((32 :: ([98] ++ 61 :: Y)).takeWhile isBl).length := by
    rw [List.takeWhile_cons_of_pos b32]
    simp
  have h8 : atEndL ([98] ++ 61 :: Y) = false := by simp [atEndL, List.isPrefixOf]
  have h9 : ∀ f al, attrsGo (f + 1) [62] al = some (al, [62]) := fun f al => by
    unfold attrsGo
    rw [if_neg (by decide)]
    rfl
  have hg : ∀ f, attrsGo (f + 2) (32 :: ([98] ++ 61 :: Y)) [] = some ([([98], s)], [62]) := fun f => by
    rw [attrsGo, h6, if_pos ⟨h7, h8⟩, ha, Option.bind_some, h9]
    rfl
  have hlen : (32 :: ([98] ++ 61 :: Y)).length + 1 = Y.length + 2 + 2 := by simp
  unfold beginL
  rw [h1, Option.bind_some, h2, Option.bind_some, hlen, hg, Option.bind_some]
  rfl
theorem begin_tag (s : List UInt8) : beginL (60 :: tagIn s ++ [62]) = some ([97], [([98], s)], false) := by
  have e : 60 :: tagIn s ++ [62] = 60 :: ([97] ++ 32 :: ([98] ++ 61 :: (39 :: (esc s ++ [39, 62])))) := by simp [tagIn]
  rw [e]
  exact begin_in s _ (value_tag s) (List.dropWhile_cons_of_neg (by decide))
theorem feed_run (r : List UInt8) : ∀ (t : List UInt8) (st : PS), inTagL st.wait = false → (∀ b ∈ t, b ≠ 60) → st.wait.length + t.length ≤ 512 → feedF st (t ++ r) = feedF { st with wait := st.wait ++ t } r
  | [], st, _, _, _ => by simp
  | c :: t, st, h1, h2, h3 => by
    have hc := h2 c List.mem_cons_self
    have hl : (c :: t).length = t.length + 1 := rfl
    rw [hl] at h3
    have hi2 : inTagL (st.wait ++ [c]) = false := by
      cases hw : st.wait with
      | nil =>
        show (c == 60) = false
        rw [beq_eq_false_iff_ne]
        exact hc
      | cons a l =>
        rw [hw] at h1
        exact h1
    rw [List.cons_append, feedF_ok _ (put_text hc h1 (by omega)), feed_run r t _ hi2 (fun b hb => h2 b (List.mem_cons_of_mem _ hb)) (by simp; omega)]
    simp [List.append_assoc]
def carT (s : List UInt8) : List Tok := [⟨1, ⟨#[97]⟩, [(⟨#[98]⟩, ⟨s.toArray⟩)], ⟨#[]⟩⟩, ⟨3, ⟨#[]⟩, [], ⟨s.toArray⟩⟩, ⟨2, ⟨#[97]⟩, [], ⟨#[]⟩⟩]
def carB (s : List UInt8) : List UInt8 := 60 :: (tagIn s ++ 62 :: (esc s ++ [60, 47, 97, 62]))
theorem feed_car {s : List UInt8} (h : CharsOk s) (hs : s ≠ []) (hl : s.length ≤ 80) : feedF st0 (carB s) = (sShut, carT s) := by
  have hel := esc_length s
  have hen : esc s ≠ [] := fun e => by
    have := unesc_esc s
    rw [e, unesc_nil] at this
    exact hs (Option.some.inj this).symm
  have htag : tagL { st0 with wait := [], quote := 0 } (60 :: tagIn s ++ [62]) = .ok (⟨[], 0, [⟨#[97]⟩], true, true, 0⟩, [⟨1, ⟨#[97]⟩, [(⟨#[98]⟩, ⟨s.toArray⟩)], ⟨#[]⟩⟩]) := by
    rw [tag_begin (st := { st0 with wait := [], quote := 0 }) (nm := [97]) (al := [([98], s)]) (ends := false) ((charsB_iff _).2 (chars_tag h)) (by simp [isDecl, tagIn, mayL, List.isPrefixOf]) (by simp [tagIn, List.isPrefixOf]) (by simp [tagIn, List.isPrefixOf]) (by simp [tagIn, List.isPrefixOf]) (begin_tag s)]
    exact begin_ok (by intro h; cases h.2) (by simp [toB]) (noRep_one _) (by decide)
  have h1 := feed_tag (st := st0) (tagIn s) (esc s ++ [60, 47, 97, 62]) rfl rfl (text_none _) (by simp [tagIn]; omega) (runQ_tag s) htag
  have h2 := feed_run [60, 47, 97, 62] (esc s) ⟨[], 0, [⟨#[97]⟩], true, true, 0⟩ rfl (fun b hb => (esc_safe s b hb).1) (by simp; omega)
  have htx : textL { (⟨[] ++ esc s, 0, [⟨#[97]⟩], true, true, 0⟩ : PS) with wait := [] } ([] ++ esc s) = .ok (⟨[], 0, [⟨#[97]⟩], true, true, 0⟩, [⟨3, ⟨#[]⟩, [], ⟨s.toArray⟩⟩]) := by
    unfold textL
    rw [if_neg (by simpa using hen), List.nil_append, unesc_esc]
    simp only
    rw [if_pos ((charsB_iff _).2 ((charsOk_esc _ s (Nat.le_refl _)).2 h)), if_pos (by decide)]
  have hin : inTagL ([] ++ esc s) = false := by
    rw [List.nil_append]
    cases hq : esc s with
    | nil => exact absurd hq hen
    | cons a l =>
      show (a == 60) = false
      rw [beq_eq_false_iff_ne]
      exact (esc_safe s a (by rw [hq]; exact List.mem_cons_self)).1
  have htag2 : tagL { (⟨[], 0, [⟨#[97]⟩], true, true, 0⟩ : PS) with wait := [], quote := 0 } (60 :: [47, 97] ++ [62]) = .ok (⟨[], 0, [], true, true, 0⟩, [⟨2, ⟨#[97]⟩, [], ⟨#[]⟩⟩]) := by
    rw [tag_end (nm := [97]) (charsB_plain (by decide)) (by decide) (by decide) (by decide) (by decide) (by decide)]
    exact end_ok rfl
  have h3 := feed_tag (st := ⟨[] ++ esc s, 0, [⟨#[97]⟩], true, true, 0⟩) [47, 97] [] hin rfl htx (by decide) (by decide) htag2
  have h3' : feedF ⟨[] ++ esc s, 0, [⟨#[97]⟩], true, true, 0⟩ [60, 47, 97, 62] = (sShut, [⟨3, ⟨#[]⟩, [], ⟨s.toArray⟩⟩, ⟨2, ⟨#[97]⟩, [], ⟨#[]⟩⟩]) := (show feedF ⟨[] ++ esc s, 0, [⟨#[97]⟩], true, true, 0⟩ [60, 47, 97, 62] = _ from h3).trans (by simp [feedF, sShut])
  unfold carB
  rw [h1]
  have h2' : feedF ⟨[], 0, [⟨#[97]⟩], true, true, 0⟩ (esc s ++ [60, 47, 97, 62]) = (sShut, [⟨3, ⟨#[]⟩, [], ⟨s.toArray⟩⟩, ⟨2, ⟨#[97]⟩, [], ⟨#[]⟩⟩]) := h2.trans h3'
  rw [h2']
  rfl
theorem carB_len {s : List UInt8} (hl : s.length ≤ 80) : (carB s).length ≤ 1000 := by
  have := esc_length s
  simp [carB, tagIn]
  omega
end Go.Proofs.YthmidlmknkbdaaaDoor.Xm
namespace Go.Proofs.YthmidlmknkbdaaaDoor.Xm
open Go.RowKit

theorem nmB_take {l : List UInt8} (h : nmB l = true) {k : Nat} (h1 : 1 ≤ k) : nmB (l.take k) = true := by
  unfold nmB at h ⊢
  simp only [Bool.and_eq_true, decide_eq_true_eq, List.all_eq_true] at h ⊢
  obtain ⟨⟨a, b⟩, c⟩ := h
  refine ⟨⟨by rw [List.length_take]; omega, by rw [List.length_take]; omega⟩, fun x hx => c x ?_⟩
  obtain ⟨y, j⟩ := x
  have hj := List.mem_zipIdx_iff_getElem?.1 hx
  refine List.mem_zipIdx_iff_getElem?.2 ?_
  have hj' : (l.take k)[j]? = some y := hj
  rw [List.getElem?_take] at hj'
  split at hj'
  · exact hj'
  · cases hj'
theorem nmB_byte {l : List UInt8} (h : nmB l = true) {b : UInt8} (hb : b ∈ l) : isBb b = true ∨ isGb b = true := by
  unfold nmB at h
  simp only [Bool.and_eq_true, decide_eq_true_eq, List.all_eq_true] at h
  obtain ⟨j, hj⟩ := List.mem_iff_getElem?.1 hb
  have := h.2 (b, j) (List.mem_zipIdx_iff_getElem?.2 hj)
  simp only [Bool.or_eq_true, Bool.and_eq_true] at this
  rcases this with h | h
  · exact .inl h
  · exact .inr h.2
theorem nm_byte {b : UInt8} (h : isBb b = true ∨ isGb b = true) : b.toNat < 128 ∧ 33 ≤ b.toNat ∧ b ≠ 39 ∧ b ≠ 34 ∧ b ≠ 62 ∧ b ≠ 60 ∧ b ≠ 61 ∧ b ≠ 47 ∧ b ≠ 33 ∧ b ≠ 63 ∧ isBl b = false := by
  have h' : (isBb b || isGb b) = true := by rw [Bool.or_eq_true]; exact h
  clear h
  have key : ∀ n : Fin 256, (isBb (UInt8.ofNat n.val) || isGb (UInt8.ofNat n.val)) = true → (UInt8.ofNat n.val).toNat < 128 ∧ 33 ≤ (UInt8.ofNat n.val).toNat ∧ UInt8.ofNat n.val ≠ 39 ∧ UInt8.ofNat n.val ≠ 34 ∧ UInt8.ofNat n.val ≠ 62 ∧ UInt8.ofNat n.val ≠ 60 ∧ UInt8.ofNat n.val ≠ 61 ∧ UInt8.ofNat n.val ≠ 47 ∧ UInt8.ofNat n.val ≠ 33 ∧ UInt8.ofNat n.val ≠ 63 ∧ isBl (UInt8.ofNat n.val) = false := by decide +kernel
  have := key ⟨b.toNat, b.toNat_lt⟩
  simp only [UInt8.ofNat_toNat] at this
  exact this h'
theorem nmB_len {l : List UInt8} (h : nmB l = true) : 1 ≤ l.length ∧ l.length ≤ 32 := by
  unfold nmB at h
  simp only [Bool.and_eq_true, decide_eq_true_eq] at h
  exact h.1
/-- The name ahead of what is no letter of one. -/
theorem nameL_ok {nm rest : List UInt8} {r : UInt8} (h : nmB nm = true) (hr : isBb r = false ∧ isGb r = false) : nameL (nm ++ r :: rest) = some (nm, r :: rest) := by
  obtain ⟨h1, h2⟩ := nmB_len h
  have hlen : nameLen (nm ++ r :: rest) = nm.length := by
    unfold nameLen
    refine nameGo_eq _ nm.length _ 0 (Nat.zero_le _) (by simp) (fun k _ hk => ⟨by simp; omega, ?_⟩) (fun hh => ?_)
    · rw [List.take_append_of_le_length (by omega)]
      exact nmB_take h (by omega)
    · have h3 := hh.2
      rw [List.take_append, List.take_of_length_le (by omega), show nm.length + 1 - nm.length = 1 by omega] at h3
      have h4 : nmB (nm ++ [r]) = true := h3
      rw [nmB_bad hr] at h4
      cases h4
  unfold nameL
  rw [hlen, if_neg (by omega)]
  simp
/-- An attribute's text, by lists. -/
def atB (a : AttrL) : List UInt8 := 32 :: (a.1 ++ (61 :: 39 :: (esc a.2 ++ [39])))
def atsB (al : List AttrL) : List UInt8 := al.flatMap atB
theorem nm_head {nm rest : List UInt8} (h : nmB nm = true) : ∃ b r, nm ++ rest = b :: r ∧ (isBb b = true ∨ isGb b = true) := by
  have h1 := (nmB_len h).1
  cases nm with
  | nil => simp at h1
  | cons b r => exact ⟨b, r ++ rest, rfl, nmB_byte h List.mem_cons_self⟩
theorem value_ok (s r : List UInt8) : valueL (39 :: (esc s ++ 39 :: r)) = some (s, r) := by
  have hm : mayL [39] (39 :: (esc s ++ 39 :: r)) = (esc s ++ 39 :: r, true) := by simp [mayL, List.isPrefixOf]
  unfold valueL
  rw [hm]
  simp only [if_true]
  unfold valueIn
  rw [cut_has r (fun hh => (esc_safe s 39 hh).2.2.1 rfl)]
  simp only [unesc_esc, if_true]
theorem attr_ok {nm v r : List UInt8} (h : nmB nm = true) : attrL (nm ++ (61 :: 39 :: (esc v ++ 39 :: r))) = some ((nm, v), r) := by
  have d61 : (61 :: 39 :: (esc v ++ 39 :: r)).dropWhile isBl = 61 :: 39 :: (esc v ++ 39 :: r) := List.dropWhile_cons_of_neg (by decide)
  have d39 : (39 :: (esc v ++ 39 :: r)).dropWhile isBl = 39 :: (esc v ++ 39 :: r) := List.dropWhile_cons_of_neg (by decide)
  have m61 : mustL [61] (61 :: 39 :: (esc v ++ 39 :: r)) = some (39 :: (esc v ++ 39 :: r)) := by simp [mustL, mayL, List.isPrefixOf]
  unfold attrL
  rw [nameL_ok h (by decide), Option.bind_some, d61, m61, Option.bind_some, d39, value_ok, Option.map_some]
theorem attrs_ok {r : UInt8} {rest : List UInt8} (hr : isBl r = false) (hat : atEndL (r :: rest) = true) : ∀ (al : List AttrL) (f : Nat) (acc : List AttrL), (∀ a ∈ al, nmB a.1 = true) → al.length + 1 ≤ f → attrsGo f (atsB al ++ r :: rest) acc = some (acc ++ al, r :: rest)
  | [], f + 1, acc, _, _ => by
    have hd : ([] ++ r :: rest : List UInt8).dropWhile isBl = r :: rest := List.dropWhile_cons_of_neg (by rw [hr]; decide)
    show attrsGo (f + 1) ([] ++ r :: rest) acc = _
    unfold attrsGo
    rw [hd, hat, if_neg (fun hh => by cases hh.2), List.append_nil]
  | a :: al, f + 1, acc, h, hf => by
    have ha := h a List.mem_cons_self
    obtain ⟨b, t, hbt, hbb⟩ := nm_head (rest := 61 :: 39 :: (esc a.2 ++ 39 :: (atsB al ++ r :: rest))) ha
    have hb := nm_byte hbb
    have e : atsB (a :: al) ++ r :: rest = 32 :: (a.1 ++ (61 :: 39 :: (esc a.2 ++ 39 :: (atsB al ++ r :: rest)))) := by simp [atsB, atB]
    have b32 : isBl 32 = true := by decide
    have hd : (32 :: (a.1 ++ (61 :: 39 :: (esc a.2 ++ 39 :: (atsB al ++ r :: rest))))).dropWhile isBl = a.1 ++ (61 :: 39 :: (esc a.2 ++ 39 :: (atsB al ++ r :: rest))) := by
      rw [List.dropWhile_cons_of_pos b32, hbt]
      exact List.dropWhile_cons_of_neg (by rw [hb.2.2.2.2.2.2.2.2.2.2]; decide)
    have h7 : 0 < ((32 :: (a.1 ++ (61 :: 39 :: (esc a.2 ++ 39 :: (atsB al ++ r :: rest))))).takeWhile isBl).length := by
      rw [List.takeWhile_cons_of_pos b32]
      simp
    have h8 : atEndL (a.1 ++ (61 :: 39 :: (esc a.2 ++ 39 :: (atsB al ++ r :: rest)))) = false := by
      rw [hbt]
      simp [atEndL, List.isPrefixOf, Ne.symm hb.2.2.2.2.2.2.2.1, Ne.symm hb.2.2.2.2.1]
    rw [e, attrsGo, hd, if_pos ⟨h7, h8⟩, attr_ok ha, Option.bind_some, attrs_ok hr hat al f _ (fun x hx => h x (List.mem_cons_of_mem _ hx)) (by simp at hf; omega)]
    simp
def endsB (ends : Bool) : List UInt8 := if ends then [47] else []
theorem atsB_len (al : List AttrL) : al.length ≤ (atsB al).length := by
  induction al with
  | nil => exact Nat.le_refl _
  | cons a l ih => simp only [atsB, List.flatMap_cons, atB, List.length_append, List.length_cons] at ih ⊢; omega
theorem begin_any {nm : List UInt8} {al : List AttrL} (ends : Bool) (h : nmB nm = true) (ha : ∀ a ∈ al, nmB a.1 = true) : beginL (60 :: (nm ++ (atsB al ++ (endsB ends ++ [62])))) = some (nm, al, ends) := by
  have m1 : ∀ t, mustL [60] (60 :: t) = some t := fun t => by simp [mustL, mayL, List.isPrefixOf]
  obtain ⟨r, rest, e, hr, hat, hnm, h1, h2⟩ : ∃ r rest, endsB ends ++ [62] = r :: rest ∧ isBl r = false ∧ atEndL (r :: rest) = true ∧ (isBb r = false ∧ isGb r = false) ∧ (mustL [62] (mayL [47] (r :: rest)).1).isSome = true ∧ (mayL [47] (r :: rest)).2 = ends := by
    cases ends
    · exact ⟨62, [], rfl, by decide, by decide, by decide, by decide, by decide⟩
    · exact ⟨47, [62], rfl, by decide, by decide, by decide, by decide, by decide⟩
  obtain ⟨u, hu⟩ := Option.isSome_iff_exists.1 h1
  rw [e]
  have hname : nameL (nm ++ (atsB al ++ r :: rest)) = some (nm, atsB al ++ r :: rest) := by
    cases al with
    | nil => exact nameL_ok h hnm
    | cons a l =>
      have e2 : atsB (a :: l) ++ r :: rest = 32 :: ((a.1 ++ (61 :: 39 :: (esc a.2 ++ [39]))) ++ (atsB l ++ r :: rest)) := by simp [atsB, atB]
      rw [e2]
      exact nameL_ok h (by decide)
  have hl := atsB_len al
  unfold beginL
  rw [m1, Option.bind_some, hname, Option.bind_some, attrs_ok hr hat al _ [] ha (by rw [List.length_append, List.length_cons]; omega), Option.bind_some]
  simp only [hu, h2, Option.map_some, List.nil_append]
theorem runQ_plain : ∀ (l : List UInt8), (∀ b ∈ l, b ≠ 39 ∧ b ≠ 34 ∧ b ≠ 62) → runQ 0 l = some 0
  | [], _ => rfl
  | c :: l, h => by
    have hc := h c List.mem_cons_self
    have hq : quoteL 0 c = (0, false) := by
      unfold quoteL
      split
      · rfl
      · rw [if_neg (by decide), if_neg (by rintro (e | e); exact hc.1 e; exact hc.2.1 e)]
        simp [hc.2.2]
    unfold runQ
    rw [hq]
    exact runQ_plain l (fun b hb => h b (List.mem_cons_of_mem _ hb))
theorem runQ_at {a : AttrL} (h : nmB a.1 = true) : runQ 0 (atB a) = some 0 := by
  have e : atB a = (32 :: (a.1 ++ [61])) ++ (39 :: (esc a.2 ++ [39])) := by simp [atB]
  rw [e, runQ_app, runQ_plain _ (fun b hb => ?_)]
  · show runQ 0 (39 :: (esc a.2 ++ [39])) = some 0
    have h2 : runQ 0 (39 :: (esc a.2 ++ [39])) = runQ 39 (esc a.2 ++ [39]) := rfl
    rw [h2, runQ_app, runQ_in _ (fun b hb => (esc_safe a.2 b hb).2.2.1)]
    rfl
  · simp at hb
    rcases hb with rfl | hb | rfl
    · decide
    · have := nm_byte (nmB_byte h hb)
      exact ⟨this.2.2.1, this.2.2.2.1, this.2.2.2.2.1⟩
    · decide
theorem runQ_ats : ∀ (al : List AttrL), (∀ a ∈ al, nmB a.1 = true) → runQ 0 (atsB al) = some 0
  | [], _ => rfl
  | a :: l, h => by
    have e : atsB (a :: l) = atB a ++ atsB l := by simp [atsB]
    rw [e, runQ_app, runQ_at (h a List.mem_cons_self)]
    exact runQ_ats l (fun x hx => h x (List.mem_cons_of_mem _ hx))
theorem runQ_name {nm : List UInt8} (h : nmB nm = true) : runQ 0 nm = some 0 := runQ_plain _ fun b hb => by
  have := nm_byte (nmB_byte h hb)
  exact ⟨this.2.2.1, this.2.2.2.1, this.2.2.2.2.1⟩
theorem runQ_inside {nm : List UInt8} {al : List AttrL} (ends : Bool) (h : nmB nm = true) (ha : ∀ a ∈ al, nmB a.1 = true) : runQ 0 (nm ++ (atsB al ++ endsB ends)) = some 0 := by
  rw [runQ_app, runQ_name h]
  show runQ 0 (atsB al ++ endsB ends) = some 0
  rw [runQ_app, runQ_ats al ha]
  cases ends <;> rfl
theorem chars_nm {nm t : List UInt8} (h : nmB nm = true) : CharsOk (nm ++ t) ↔ CharsOk t := charsOk_asc nm t fun b hb => by
  have := nm_byte (nmB_byte h hb)
  exact ⟨this.1, by omega⟩
theorem chars_ats : ∀ (al : List AttrL) (t : List UInt8), (∀ a ∈ al, nmB a.1 = true ∧ CharsOk a.2) → CharsOk t → CharsOk (atsB al ++ t)
  | [], t, _, ht => ht
  | a :: l, t, h, ht => by
    have ha := h a List.mem_cons_self
    have e : atsB (a :: l) ++ t = [32] ++ (a.1 ++ ([61, 39] ++ (esc a.2 ++ ([39] ++ (atsB l ++ t))))) := by simp [atsB, atB]
    rw [e, charsOk_asc _ _ (by decide), chars_nm ha.1, charsOk_asc _ _ (by decide)]
    refine charsOk_append _ _ _ (Nat.le_refl _) ((charsOk_esc _ _ (Nat.le_refl _)).2 ha.2) ?_
    rw [charsOk_asc _ _ (by decide)]
    exact chars_ats l t (fun x hx => h x (List.mem_cons_of_mem _ hx)) ht
theorem chars_begin {nm : List UInt8} {al : List AttrL} (ends : Bool) (h : nmB nm = true) (ha : ∀ a ∈ al, nmB a.1 = true ∧ CharsOk a.2) : CharsOk (60 :: (nm ++ (atsB al ++ (endsB ends ++ [62])))) := by
  have e : 60 :: (nm ++ (atsB al ++ (endsB ends ++ [62]))) = [60] ++ (nm ++ (atsB al ++ (endsB ends ++ [62]))) := rfl
  rw [e, charsOk_asc _ _ (by decide), chars_nm h]
  refine chars_ats al _ ha ?_
  cases ends
  · exact (charsOk_asc [62] [] (by decide)).2 charsOk_nil
  · exact (charsOk_asc [47, 62] [] (by decide)).2 charsOk_nil
/-- The tag that begins an element. -/
theorem tag_any {st : PS} {nm : List UInt8} {al : List AttrL} (ends : Bool) (h : nmB nm = true) (ha : ∀ a ∈ al, nmB a.1 = true ∧ CharsOk a.2) : tagL st (60 :: (nm ++ (atsB al ++ endsB ends)) ++ [62]) = beginP { st with begun := true } ⟨nm.toArray⟩ (toB al) ends := by
  have e : 60 :: (nm ++ (atsB al ++ endsB ends)) ++ [62] = 60 :: (nm ++ (atsB al ++ (endsB ends ++ [62]))) := by simp
  obtain ⟨b, t, hbt, hbb⟩ := nm_head (rest := atsB al ++ (endsB ends ++ [62])) h
  have hb := nm_byte hbb
  rw [e]
  refine tag_begin ((charsB_iff _).2 (chars_begin ends h ha)) ?_ ?_ ?_ ?_ (begin_any ends h fun a hx => (ha a hx).1)
  · rw [hbt]
    simp [isDecl, mayL, List.isPrefixOf, Ne.symm hb.2.2.2.2.2.2.2.2.2.1]
  · rw [hbt]
    simp [List.isPrefixOf, Ne.symm hb.2.2.2.2.2.2.2.2.1]
  · rw [hbt]
    simp [List.isPrefixOf, Ne.symm hb.2.2.2.2.2.2.2.2.2.1]
  · rw [hbt]
    simp [List.isPrefixOf, Ne.symm hb.2.2.2.2.2.2.2.1]
theorem tag_ending {st : PS} {nm : List UInt8} (h : nmB nm = true) : tagL st (60 :: (47 :: nm) ++ [62]) = endP { st with begun := true } ⟨nm.toArray⟩ := by
  have e : 60 :: (47 :: nm) ++ [62] = [60, 47] ++ (nm ++ [62]) := by simp
  have hend : endL ([60, 47] ++ (nm ++ [62])) = some nm := by
    unfold endL
    have m1 : mustL [60, 47] ([60, 47] ++ (nm ++ [62])) = some (nm ++ [62]) := by simp [mustL, mayL, List.isPrefixOf]
    have hn := nameL_ok (rest := []) (r := 62) h (by decide)
    have d62 : ([62] : List UInt8).dropWhile isBl = [62] := by decide
    have m2 : mustL [62] [62] = some [] := by decide
    rw [m1, Option.bind_some, hn, Option.bind_some]
    show Option.map _ (mustL [62] (([62] : List UInt8).dropWhile isBl)) = _
    rw [d62, m2]
    rfl
  rw [e]
  refine tag_end ((charsB_iff _).2 ?_) ?_ (by simp [List.isPrefixOf]) (by simp [List.isPrefixOf]) (by simp [List.isPrefixOf]) hend
  · rw [charsOk_asc _ _ (by decide), chars_nm h]
    exact (charsOk_asc [62] [] (by decide)).2 charsOk_nil
  · simp [isDecl, mayL, List.isPrefixOf]
end Go.Proofs.YthmidlmknkbdaaaDoor.Xm
namespace Go.Proofs.YthmidlmknkbdaaaDoor.Xm
open Go.RowKit

/-- The text of the tokens from k on. -/
def printFrom (ts : List Tok) : Nat → Nat → List UInt8
  | _, 0 => []
  | k, n + 1 => (match ts[k]? with | some t => tokT t (kindOf ts (k - 1 : Int)) (kindOf ts (k + 1 : Int)) | none => []) ++ printFrom ts (k + 1) n
theorem printTo_from (ts : List Tok) : ∀ (n k : Nat), printTo ts k ++ printFrom ts k n = printTo ts (k + n)
  | 0, k => by simp [printFrom]
  | n + 1, k => by
    have h := printTo_from ts n (k + 1)
    rw [printFrom, ← List.append_assoc]
    have e : printTo ts k ++ (match ts[k]? with | some t => tokT t (kindOf ts (k - 1 : Int)) (kindOf ts (k + 1 : Int)) | none => []) = printTo ts (k + 1) := rfl
    rw [e, h, show k + 1 + n = k + (n + 1) by omega]
theorem printT_from (ts : List Tok) : printT ts = printFrom ts 0 ts.length := by
  have h := printTo_from ts ts.length 0
  rw [Nat.zero_add] at h
  rw [printT, ← h]
  rfl
theorem from_some {ts : List Tok} {k n : Nat} {t : Tok} (h : ts[k]? = some t) : printFrom ts k (n + 1) = tokT t (kindOf ts (k - 1 : Int)) (kindOf ts (k + 1 : Int)) ++ printFrom ts (k + 1) n := by
  rw [printFrom, h]
theorem kind_at {ts : List Tok} {k : Nat} {t : Tok} (h : ts[k]? = some t) : kindOf ts (k : Int) = t.kind := by
  unfold kindOf
  rw [if_pos (by omega), Int.toNat_natCast, h]
  rfl
theorem kind_next {ts : List Tok} {k : Nat} {t : Tok} (h : ts[k + 1]? = some t) : kindOf ts ((k : Int) + 1) = t.kind := kind_at h
theorem kind_last {ts : List Tok} {k : Nat} {t : Tok} (h : ts[k]? = some t) : kindOf ts (((k + 1 : Nat) : Int) - 1) = t.kind := by
  rw [show (((k + 1 : Nat) : Int) - 1) = (k : Int) by omega]
  exact kind_at h
/-- A tag that is too long breaks the parser. -/
theorem runQ_pre : ∀ (a b : List UInt8) (q q' : Nat), runQ q (a ++ b) = some q' → ∃ q1, runQ q a = some q1
  | [], _, q, _, _ => ⟨q, rfl⟩
  | c :: a, b, q, q', h => by
    simp only [List.cons_append, runQ] at h ⊢
    split at h
    · cases h
    · rename_i hq
      rw [if_neg hq]
      exact runQ_pre a b _ q' h
theorem put_over {st : PS} {c : UInt8} (h1 : inTagL st.wait = true) (h2 : st.wait.length = 2048) : putF st c = .error 5 := by
  have h3 := inTagL_app h1 [c]
  unfold putF
  rw [if_neg (fun h => by rw [h1] at h; exact absurd h.2 (by decide))]
  unfold put2
  rw [if_pos]
  unfold mostL
  rw [if_pos h3, List.length_append, h2]
  show (2048 : Int) < ((2048 + 1 : Nat) : Int)
  decide
theorem tag_long {st st' : PS} {ts : List Tok} (t r : List UInt8) (h1 : inTagL st.wait = false) (hq : st.quote = 0) (h2 : textL { st with wait := [] } st.wait = .ok (st', ts)) (hl : 2047 ≤ t.length) (hr : runQ 0 t = some 0) : (feedF st (60 :: (t ++ 62 :: r))).1.broken = 5 := by
  obtain ⟨q1, hq1⟩ := runQ_pre (t.take 2047) (t.drop 2047) 0 0 (by rw [List.take_append_drop]; exact hr)
  have e : t ++ 62 :: r = t.take 2047 ++ (t.drop 2047 ++ 62 :: r) := by rw [← List.append_assoc, List.take_append_drop]
  have hlt : (t.take 2047).length = 2047 := by rw [List.length_take]; omega
  rw [feedF_ok _ (put_lt h1 hq h2), e, feed_in _ (t.take 2047) _ q1 rfl (by rw [hlt]; exact Nat.le_refl 2048) hq1]
  obtain ⟨c, l, hcl⟩ : ∃ c l, t.drop 2047 ++ 62 :: r = c :: l := by
    cases t.drop 2047 with
    | nil => exact ⟨62, r, rfl⟩
    | cons c l => exact ⟨c, l ++ 62 :: r, rfl⟩
  rw [hcl, feedF_err _ (put_over rfl (by show ([60] ++ t.take 2047).length = 2048; rw [List.length_append, hlt]; rfl))]
theorem tag_goes {st st' st2 : PS} {ts t2 : List Tok} (t r : List UInt8) (h1 : inTagL st.wait = false) (hq : st.quote = 0) (h2 : textL { st with wait := [] } st.wait = .ok (st', ts)) (hl : t.length ≤ 2046) (hr : runQ 0 t = some 0) (htag : tagL { st' with wait := [], quote := 0 } (60 :: t ++ [62]) = .ok (st2, t2)) :
    feedF st (60 :: (t ++ 62 :: r)) = ((feedF st2 r).1, ts ++ (t2 ++ (feedF st2 r).2)) := by
  rw [feedF_ok _ (put_lt h1 hq h2), feed_in (62 :: r) t _ 0 rfl (by simp; omega) hr]
  have hp := put_end (st := { st' with wait := [60] ++ t, quote := 0 }) (c := 62) rfl (by simp; omega) rfl
  have hp2 : putF { st' with wait := [60] ++ t, quote := 0 } 62 = .ok (st2, t2) := hp.trans htag
  rw [feedF_ok _ hp2]
theorem put_full {st : PS} {c : UInt8} (hc : c ≠ 60) (h1 : inTagL st.wait = false) (h2 : st.wait.length = 512) : putF st c = .error 5 := by
  have h3 : inTagL (st.wait ++ [c]) = false := by
    cases hw : st.wait with
    | nil => rw [hw] at h2; cases h2
    | cons a l => rw [hw] at h1; exact h1
  unfold putF
  rw [if_neg (fun h => hc h.1)]
  unfold put2
  rw [if_pos]
  unfold mostL
  rw [if_neg (by rw [h3]; decide), List.length_append, h2]
  show (512 : Int) < ((512 + 1 : Nat) : Int)
  decide
theorem text_long {st : PS} (t r : List UInt8) (hw : st.wait = []) (h2 : ∀ b ∈ t, b ≠ 60) (hl : 512 < t.length) : (feedF st (t ++ r)).1.broken = 5 := by
  have hlt : (t.take 512).length = 512 := by rw [List.length_take]; omega
  have e : t ++ r = t.take 512 ++ (t.drop 512 ++ r) := by rw [← List.append_assoc, List.take_append_drop]
  rw [e, feed_run _ (t.take 512) st (by rw [hw]; rfl) (fun b hb => h2 b (List.mem_of_mem_take hb)) (by rw [hw, hlt]; decide)]
  obtain ⟨c, l, hcl⟩ : ∃ c l, t.drop 512 = c :: l := by
    cases hd : t.drop 512 with
    | nil =>
      have := congrArg List.length hd
      rw [List.length_drop] at this
      simp at this
      omega
    | cons c l => exact ⟨c, l, rfl⟩
  have hc : c ≠ 60 := h2 c (List.mem_of_mem_drop (by rw [hcl]; exact List.mem_cons_self))
  have hin : inTagL (st.wait ++ t.take 512) = false := by
    rw [hw, List.nil_append]
    cases hq : t.take 512 with
    | nil => rfl
    | cons a l =>
      show (a == 60) = false
      rw [beq_eq_false_iff_ne]
      exact h2 a (List.mem_of_mem_take (by rw [hq]; exact List.mem_cons_self))
  rw [hcl, List.cons_append, feedF_err _ (put_full hc hin (by rw [hw, List.nil_append, hlt]))]
/-- A token's attributes, by lists. -/
def alOf (t : Tok) : List AttrL := t.attrs.map fun a => (a.1.data.toList, a.2.data.toList)
theorem mk_data (s : ByteArray) : (⟨s.data.toList.toArray⟩ : ByteArray) = s := by rw [Array.toArray_toList]
theorem toB_al (t : Tok) : toB (alOf t) = t.attrs := by
  unfold toB alOf
  rw [List.map_map]
  conv => rhs; rw [← List.map_id t.attrs]
  exact List.map_congr_left fun a _ => by simp
theorem ats_al (t : Tok) : atsB (alOf t) = attrsT t.attrs := by
  unfold atsB alOf attrsT
  rw [List.flatMap_map]
  congr 1
  funext a
  simp [atB, attrT]
theorem beginT_is (t : Tok) (ends : Bool) : beginT t ends = 60 :: ((t.name.data.toList ++ (atsB (alOf t) ++ endsB ends)) ++ [62]) := by
  unfold beginT endsB
  rw [ats_al]
  simp
theorem al_ok {t : Tok} (h : AttrsOk t.attrs) : ∀ a ∈ alOf t, nmB a.1 = true ∧ CharsOk a.2 := by
  intro a ha
  unfold alOf at ha
  obtain ⟨b, hb, rfl⟩ := List.mem_map.1 ha
  obtain ⟨i, hi⟩ := List.mem_iff_getElem?.1 hb
  obtain ⟨_, h2, h3⟩ := h.2 i b hi
  exact ⟨(nmB_iff b.1).1 h2, h3.2⟩
theorem norep_al {t : Tok} (h : AttrsOk t.attrs) : NoRep t.attrs := by
  intro i j a b hji hi hj e
  have h1 := (h.2 i a hi).1
  have hm : b ∈ t.attrs.take i := List.mem_iff_getElem?.2 ⟨j, by rw [List.getElem?_take_of_lt hji]; exact hj⟩
  unfold attrVal at h1
  rw [Option.map_eq_none_iff, List.find?_eq_none] at h1
  exact h1 b hm (by simp [e])
theorem tops_open {ts : List Tok} (h : WholeT ts) {k : Nat} (h0 : 0 < k) (hk : k < ts.length) : 0 < (openAt ts k).length := by
  rcases Nat.eq_zero_or_pos (openAt ts k).length with e | e
  · exfalso
    have hmono : ∀ m n, topsTo ts m ≤ topsTo ts (m + n) := fun m n => by
      induction n with
      | zero => exact Nat.le_refl _
      | succ n ih => rw [show m + (n + 1) = (m + n) + 1 by omega, topsTo]; omega
    have h1 : topsTo ts 1 = 1 := by simp [topsTo, openAt]
    have h2 := hmono 1 (k - 1)
    rw [show 1 + (k - 1) = k by omega] at h2
    have h3 : topsTo ts (k + 1) = topsTo ts k + 1 := by rw [topsTo, if_pos e]
    have h4 := hmono (k + 1) (ts.length - (k + 1))
    rw [show k + 1 + (ts.length - (k + 1)) = ts.length by omega, h.2] at h4
    omega
  · exact e
theorem empty_of_size {s : ByteArray} (h : s.size = 0) : s = ⟨#[]⟩ := by
  obtain ⟨d⟩ := s
  have : d = #[] := Array.eq_empty_of_size_eq_zero h
  rw [this]
theorem open_name {ts : List Tok} (hW : WholeT ts) : ∀ {k : Nat}, k ≤ ts.length → ∀ {x : ByteArray}, x ∈ openAt ts k → nmB x.data.toList = true
  | 0, _, x, hx => by cases hx
  | k + 1, hk, x, hx => by
    obtain ⟨t, ht⟩ : ∃ t, ts[k]? = some t := ⟨_, List.getElem?_eq_getElem (by omega)⟩
    rw [openAt_succ ht] at hx
    unfold opens at hx
    split at hx
    · rcases List.mem_append.1 hx with h | h
      · exact open_name hW (by omega) h
      · rw [List.mem_singleton.1 h]
        rcases hW.1.2.1 k t ht with ⟨_, _, h3, _⟩ | ⟨h1, _⟩ | ⟨h1, _⟩
        · exact (nmB_iff t.name).1 h3
        · omega
        · omega
    · split at hx
      · exact open_name hW (by omega) (List.dropLast_subset _ hx)
      · exact open_name hW (by omega) hx
theorem tok_end {t : Tok} (h0 : t.kind = 2) (h1 : t.text.size = 0) (h2 : t.attrs.length = 0) : t = ⟨2, t.name, [], ⟨#[]⟩⟩ := by
  obtain ⟨k, n, a, x⟩ := t
  simp only at h0 h1 h2
  rw [h0, List.eq_nil_of_length_eq_zero h2, empty_of_size h1]
theorem tok_begin {t : Tok} (h0 : t.kind = 1) (h1 : t.text.size = 0) : t = ⟨1, t.name, t.attrs, ⟨#[]⟩⟩ := by
  obtain ⟨k, n, a, x⟩ := t
  simp only at h0 h1
  rw [h0, empty_of_size h1]
theorem tok_chars {t : Tok} (h0 : t.kind = 3) (h1 : t.name.size = 0) (h2 : t.attrs.length = 0) : t = ⟨3, ⟨#[]⟩, [], t.text⟩ := by
  obtain ⟨k, n, a, x⟩ := t
  simp only at h0 h1 h2
  rw [h0, List.eq_nil_of_length_eq_zero h2, empty_of_size h1]
/-- How the parser stands ahead of the token k, with what it has not told yet. -/
structure At (ts : List Tok) (k : Nat) (st : PS) (pend : List Tok) : Prop where
  quote : st.quote = 0
  sound : st.broken = 0
  out : inTagL st.wait = false
  text : ∃ b, textL { st with wait := [] } st.wait = .ok ({ st with wait := [], begun := b }, pend)
  op : st.op = openAt ts k
  first : k = 0 → st.rooted = false
  bare : (k = 0 ∨ kindOf ts ((k : Int) - 1) ≠ 3) → st.wait = [] ∧ pend = []
  pair : ¬ (kindOf ts ((k : Int) - 1) = 1 ∧ kindOf ts (k : Int) = 2)
def shutOk (st : PS) : Prop := st.wait = [] ∧ st.quote = 0 ∧ st.op = [] ∧ st.broken = 0
theorem back_from {ts : List Tok} (hW : WholeT ts) : ∀ (n k : Nat) (st : PS) (pend : List Tok), k + n = ts.length → At ts k st pend → ((∃ st', feedF st (printFrom ts k n) = (st', pend ++ ts.drop k) ∧ shutOk st') ∨ ((feedF st (printFrom ts k n)).1.broken = 5 ∧ 512 < (printFrom ts k n).length))
  | 0, k, st, pend, hk, hA => by
    left
    have hkl : k = ts.length := by omega
    have hop : st.op = [] := by
      rw [hA.op, hkl]
      exact List.eq_nil_of_length_eq_zero hW.1.2.2
    have hb : k = 0 ∨ kindOf ts ((k : Int) - 1) ≠ 3 := by
      rcases Nat.eq_zero_or_pos k with h | h
      · exact .inl h
      · right
        intro e
        obtain ⟨t, ht⟩ : ∃ t, ts[k - 1]? = some t := ⟨_, List.getElem?_eq_getElem (by omega)⟩
        have h3 : t.kind = 3 := by
          have := kind_at ht
          rw [show ((k - 1 : Nat) : Int) = (k : Int) - 1 by omega] at this
          rw [← this]
          exact e
        have hf := hW.1.2.1 (k - 1) t ht
        rcases hf with ⟨h, _⟩ | ⟨h, _⟩ | ⟨_, h4, _⟩
        · omega
        · omega
        · have h5 := openAt_succ ht
          rw [show k - 1 + 1 = k by omega, hkl] at h5
          have h6 : opens (openAt ts (k - 1)) t = openAt ts (k - 1) := by
            unfold opens
            rw [if_neg (by omega), if_neg (by omega)]
          rw [hkl] at h6
          rw [hkl] at h4
          rw [h6] at h5
          have := hW.1.2.2
          rw [h5] at this
          omega
    obtain ⟨h1, h2⟩ := hA.bare hb
    refine ⟨st, ?_, h1, hA.quote, hop, hA.sound⟩
    rw [h2, List.drop_eq_nil_of_le (by omega)]
    rfl
  | n + 1, k, st, pend, hk, hA => by
    obtain ⟨t, ht⟩ : ∃ t, ts[k]? = some t := ⟨_, List.getElem?_eq_getElem (by omega)⟩
    have hdrop : ts.drop k = t :: ts.drop (k + 1) := by
      obtain ⟨h1, h2⟩ := List.getElem?_eq_some_iff.1 ht
      rw [List.drop_eq_getElem_cons h1, h2]
    have hfit := hW.1.2.1 k t ht
    obtain ⟨b, htx⟩ := hA.text
    rw [from_some ht]
    have hkt := kind_at ht
    have hroot : ¬ (st.op.length = 0 ∧ st.rooted = true) := fun ⟨h1, h2⟩ => by
      rcases Nat.eq_zero_or_pos k with h | h
      · rw [hA.first h] at h2
        cases h2
      · have := tops_open hW h (by omega)
        rw [hA.op] at h1
        omega
    have hlast : ∀ (m : Nat), kindOf ts (((k + 1 : Nat) : Int) - 1) = t.kind := fun _ => kind_last ht
    have hos := openAt_succ ht
    rcases hfit with ⟨h1, h2, h3, h4, h5⟩ | ⟨h1, h2, h3, h4, h5⟩ | ⟨h1, h2, h3, h4, h5, h6, h7⟩
    · -- a beginning
      have hnm := (nmB_iff t.name).1 h3
      have hal := al_ok h5
      have hop8 : st.op.length < 8 := by rw [hA.op]; omega
      have hal8 : t.attrs.length ≤ 8 := h5.1
      have hop1 : openAt ts (k + 1) = openAt ts k ++ [t.name] := by
        rw [hos]
        unfold opens
        rw [if_pos h1]
      have hk1 : k + 1 < ts.length := by
        rcases Nat.lt_or_ge (k + 1) ts.length with h | h
        · exact h
        · exfalso
          have : k + 1 = ts.length := by omega
          have h9 := hW.1.2.2
          rw [← this, hop1, List.length_append] at h9
          simp at h9
      obtain ⟨u, hu⟩ : ∃ u, ts[k + 1]? = some u := ⟨_, List.getElem?_eq_getElem hk1⟩
      have hnx := kind_next hu
      obtain ⟨ends, hends⟩ : ∃ e : Bool, (kindOf ts ((k : Int) + 1) == 2) = e := ⟨_, rfl⟩
      have htok : tokT t (kindOf ts ((k : Int) - 1)) (kindOf ts ((k : Int) + 1)) = 60 :: ((t.name.data.toList ++ (atsB (alOf t) ++ endsB ends)) ++ [62]) := by
        unfold tokT
        rw [if_pos h1, hends, beginT_is]
      obtain ⟨ins, hins⟩ : ∃ ins, t.name.data.toList ++ (atsB (alOf t) ++ endsB ends) = ins := ⟨_, rfl⟩
      have hrq : runQ 0 ins = some 0 := by
        rw [← hins]
        exact runQ_inside ends hnm fun a ha => (hal a ha).1
      rw [htok, hins]
      have eL : 60 :: (ins ++ [62]) ++ printFrom ts (k + 1) n = 60 :: (ins ++ 62 :: printFrom ts (k + 1) n) := by simp
      rw [eL]
      by_cases hlen : ins.length ≤ 2046
      · have htag0 := tag_any (st := ⟨[], 0, st.op, b, st.rooted, st.broken⟩) ends hnm hal
        rw [hins, mk_data, toB_al] at htag0
        cases ends with
        | false =>
          have hbo : beginP ⟨[], 0, st.op, true, st.rooted, st.broken⟩ t.name t.attrs false = .ok (⟨[], 0, st.op ++ [t.name], true, true, st.broken⟩, [⟨1, t.name, t.attrs, ⟨#[]⟩⟩]) := begin_ok hroot hal8 (norep_al h5) hop8
          have htag0 := htag0.trans hbo
          have hg := tag_goes (st := st) ins (printFrom ts (k + 1) n) hA.out hA.quote htx hlen hrq htag0
          rw [hg]
          have hA2 : At ts (k + 1) ⟨[], 0, st.op ++ [t.name], true, true, st.broken⟩ [] := by
            refine ⟨rfl, hA.sound, rfl, ⟨true, text_none _⟩, by rw [hA.op, hop1], fun h => by omega, fun _ => ⟨rfl, rfl⟩, fun hh => ?_⟩
            have h9 : kindOf ts ((k : Int) + 1) = 2 := hh.2
            rw [h9] at hends
            cases hends
          rcases back_from hW n (k + 1) _ [] (by omega) hA2 with ⟨st', e, hs⟩ | ⟨e1, e2⟩
          · left
            refine ⟨st', ?_, hs⟩
            rw [e, hdrop]
            have := tok_begin h1 h4
            rw [← this]
            simp
          · right
            exact ⟨e1, by simp; omega⟩
        | true =>
          have hu2 : u.kind = 2 := by
            have := eq_of_beq hends
            omega
          have hbb : beginP ⟨[], 0, st.op, true, st.rooted, st.broken⟩ t.name t.attrs true = .ok (⟨[], 0, st.op, true, true, st.broken⟩, [⟨1, t.name, t.attrs, ⟨#[]⟩⟩, ⟨2, t.name, [], ⟨#[]⟩⟩]) := by
            unfold beginP
            rw [if_neg hroot, if_neg (by omega), if_neg (fun h => (repB_iff _).2 h (norep_al h5)), if_neg (by show ¬ 8 ≤ st.op.length; omega), if_pos rfl]
          have htag0 := htag0.trans hbb
          have hg := tag_goes (st := st) ins (printFrom ts (k + 1) n) hA.out hA.quote htx hlen hrq htag0
          rw [hg]
          obtain ⟨n', rfl⟩ : ∃ n', n = n' + 1 := ⟨n - 1, by omega⟩
          have hfu := hW.1.2.1 (k + 1) u hu
          have hlk := hlast 0
          have hun : u = ⟨2, t.name, [], ⟨#[]⟩⟩ := by
            rcases hfu with ⟨g, _⟩ | ⟨_, g2, g3, g4, g5⟩ | ⟨g, _⟩
            · omega
            · have := tok_end hu2 g4 g5
              rw [hop1] at g3
              simp at g3
              rw [g3]
              exact this
            · omega
          have htu : tokT u (kindOf ts (((k + 1 : Nat) : Int) - 1)) (kindOf ts (((k + 1 : Nat) : Int) + 1)) = [] := by
            unfold tokT
            rw [if_neg (by omega), if_neg (by omega), if_pos (by rw [hlk]; exact h1)]
          rw [from_some hu, htu, List.nil_append]
          have hop2 : openAt ts (k + 2) = openAt ts k := by
            rw [openAt_succ hu]
            unfold opens
            rw [if_neg (by omega), if_pos hu2, hop1]
            simp
          have hA2 : At ts (k + 2) ⟨[], 0, st.op, true, true, st.broken⟩ [] := by
            refine ⟨rfl, hA.sound, rfl, ⟨true, text_none _⟩, by rw [hA.op, hop2], fun h => by omega, fun _ => ⟨rfl, rfl⟩, fun hh => ?_⟩
            have := hh.1
            rw [kind_last hu] at this
            omega
          rcases back_from hW n' (k + 2) _ [] (by omega) hA2 with ⟨st', e, hs⟩ | ⟨e1, e2⟩
          · left
            refine ⟨st', ?_, hs⟩
            have hd2 : ts.drop (k + 1) = u :: ts.drop (k + 2) := by
              obtain ⟨g1, g2⟩ := List.getElem?_eq_some_iff.1 hu
              rw [List.drop_eq_getElem_cons g1, g2]
            rw [show k + 1 + 1 = k + 2 from rfl, e, hdrop, hd2, hun]
            have := tok_begin h1 h4
            rw [← this]
            simp
          · right
            have e2' : 512 < (printFrom ts (k + 1 + 1) n').length := e2
            exact ⟨e1, by simp; omega⟩
      · right
        exact ⟨tag_long ins _ hA.out hA.quote htx (by omega) hrq, by simp; omega⟩
    · -- an ending
      have hne : ¬ kindOf ts ((k : Int) - 1) = 1 := fun e => hA.pair ⟨e, by rw [hkt]; exact h1⟩
      have htok : tokT t (kindOf ts ((k : Int) - 1)) (kindOf ts ((k : Int) + 1)) = 60 :: ((47 :: t.name.data.toList) ++ [62]) := by
        unfold tokT
        rw [if_neg (by omega), if_neg (by omega), if_neg hne]
        simp [endT]
      have hgl : (openAt ts k).getLast? = some t.name := by
        cases hq : (openAt ts k).getLast? with
        | none =>
          rw [List.getLast?_eq_none_iff] at hq
          rw [hq] at h2
          simp at h2
        | some x =>
          rw [hq] at h3
          exact congrArg some h3
      have hnm : nmB t.name.data.toList = true := open_name hW (by omega) (List.mem_of_getLast? hgl)
      have hrq : runQ 0 (47 :: t.name.data.toList) = some 0 := by
        have h9 : runQ 0 (47 :: t.name.data.toList) = runQ 0 t.name.data.toList := rfl
        rw [h9]
        exact runQ_name hnm
      have hlen : (47 :: t.name.data.toList).length ≤ 2046 := by
        have := (nmB_len hnm).2
        rw [List.length_cons]
        omega
      rw [htok]
      have eL : 60 :: ((47 :: t.name.data.toList) ++ [62]) ++ printFrom ts (k + 1) n = 60 :: ((47 :: t.name.data.toList) ++ 62 :: printFrom ts (k + 1) n) := by simp
      rw [eL]
      have htag0 := tag_ending (st := ⟨[], 0, st.op, b, st.rooted, st.broken⟩) hnm
      rw [mk_data] at htag0
      have heo : endP ⟨[], 0, st.op, true, st.rooted, st.broken⟩ t.name = .ok (⟨[], 0, st.op.dropLast, true, st.rooted, st.broken⟩, [⟨2, t.name, [], ⟨#[]⟩⟩]) := end_ok (by show st.op.getLast? = some t.name; rw [hA.op]; exact hgl)
      have htag0 := htag0.trans heo
      have hg := tag_goes (st := st) (47 :: t.name.data.toList) (printFrom ts (k + 1) n) hA.out hA.quote htx hlen hrq htag0
      rw [hg]
      have hop1 : openAt ts (k + 1) = (openAt ts k).dropLast := by
        rw [hos]
        unfold opens
        rw [if_neg (by omega), if_pos h1]
      have hA2 : At ts (k + 1) ⟨[], 0, st.op.dropLast, true, st.rooted, st.broken⟩ [] := by
        refine ⟨rfl, hA.sound, rfl, ⟨true, text_none _⟩, by rw [hA.op, hop1], fun h => by omega, fun _ => ⟨rfl, rfl⟩, fun hh => ?_⟩
        have := hh.1
        rw [kind_last ht] at this
        omega
      rcases back_from hW n (k + 1) _ [] (by omega) hA2 with ⟨st', e, hs⟩ | ⟨e1, e2⟩
      · left
        refine ⟨st', ?_, hs⟩
        rw [e, hdrop]
        have := tok_end h1 h4 h5
        rw [← this]
        simp
      · right
        exact ⟨e1, by simp; omega⟩
    · -- a text
      have htok : tokT t (kindOf ts ((k : Int) - 1)) (kindOf ts ((k : Int) + 1)) = esc t.text.data.toList := by
        unfold tokT
        rw [if_neg (by omega), if_pos h1]
      obtain ⟨hw0, hp0⟩ := hA.bare (.inr h3)
      have hsafe : ∀ b ∈ esc t.text.data.toList, b ≠ 60 := fun b hb => (esc_safe _ b hb).1
      have hne : esc t.text.data.toList ≠ [] := fun e => by
        have := unesc_esc t.text.data.toList
        rw [e, unesc_nil] at this
        have h9 := Option.some.inj this
        have h10 : t.text.data.toList.length = t.text.size := Array.length_toList
        rw [← h9] at h10
        simp at h10
        omega
      rw [htok]
      by_cases hlen : (esc t.text.data.toList).length ≤ 512
      · rw [feed_run _ _ st hA.out hsafe (by rw [hw0]; simpa using hlen)]
        have hin : inTagL (st.wait ++ esc t.text.data.toList) = false := by
          rw [hw0, List.nil_append]
          cases hq : esc t.text.data.toList with
          | nil => exact absurd hq hne
          | cons a l =>
            show (a == 60) = false
            rw [beq_eq_false_iff_ne]
            exact hsafe a (by rw [hq]; exact List.mem_cons_self)
        have hop1 : openAt ts (k + 1) = openAt ts k := by
          rw [hos]
          unfold opens
          rw [if_neg (by omega), if_neg (by omega)]
        have htx2 : textL { ({ st with wait := st.wait ++ esc t.text.data.toList } : PS) with wait := [] } (st.wait ++ esc t.text.data.toList) = .ok ({ ({ st with wait := st.wait ++ esc t.text.data.toList } : PS) with wait := [], begun := true }, [t]) := by
          unfold textL
          rw [hw0, List.nil_append, if_neg hne, unesc_esc]
          simp only
          rw [if_pos ((charsB_iff _).2 ((charsOk_esc _ _ (Nat.le_refl _)).2 h5.2)), if_pos (by show 0 < st.op.length; rw [hA.op]; exact h2)]
          have := tok_chars h1 h6 h7
          rw [mk_data, ← this]
        have hA2 : At ts (k + 1) { st with wait := st.wait ++ esc t.text.data.toList } [t] := by
          refine ⟨hA.quote, hA.sound, hin, ⟨true, htx2⟩, by rw [hop1]; exact hA.op, fun h => by omega, fun hh => ?_, fun hh => ?_⟩
          · rcases hh with hh | hh
            · omega
            · exact absurd (by rw [kind_last ht]; exact h1) hh
          · have := hh.1
            rw [kind_last ht] at this
            omega
        rcases back_from hW n (k + 1) _ [t] (by omega) hA2 with ⟨st', e, hs⟩ | ⟨e1, e2⟩
        · left
          exact ⟨st', by rw [e, hdrop, hp0]; rfl, hs⟩
        · right
          exact ⟨e1, by rw [List.length_append]; omega⟩
      · right
        exact ⟨text_long _ _ hw0 hsafe (by omega), by rw [List.length_append]; omega⟩
/-- What is printed of whole tokens is read back, or it is too long. -/
theorem feed_back {ts : List Tok} (hW : WholeT ts) : (∃ st', feedF st0 (printT ts) = (st', ts) ∧ shutOk st') ∨ ((feedF st0 (printT ts)).1.broken = 5 ∧ 512 < (printT ts).length) := by
  rw [printT_from]
  have hA : At ts 0 st0 [] := ⟨rfl, rfl, rfl, ⟨false, text_none _⟩, rfl, fun _ => rfl, fun _ => ⟨rfl, rfl⟩, fun hh => by
    have := hh.1
    unfold kindOf at this
    simp at this⟩
  rcases back_from hW ts.length 0 st0 [] (by omega) hA with ⟨st', e, hs⟩ | h
  · exact .inl ⟨st', by rw [e]; simp, hs⟩
  · exact .inr h
end Go.Proofs.YthmidlmknkbdaaaDoor.Xm
