/- A text in an element: what its bytes do. -/
import Derived.Test.YthflpcfpfdmaeaaDoorXM
import Derived.Test.YthflpcfpfdmaeaaDoorCutM
import Derived.Test.YthflpcfpfdmaeaaDoorCharsX
namespace Go.Proofs.YthflpcfpfdmaeaaDoor.Xm
open Go.RowKit

theorem esc_safe (l : List UInt8) : ∀ b ∈ esc l, b ≠ 60 ∧ b ≠ 62 ∧ b ≠ 39 ∧ b ≠ 34 := by
  intro b hb
  simp only [esc, List.mem_flatMap] at hb
  obtain ⟨a, _, ha⟩ := hb
  unfold escB at ha
  split at ha
  · simp at ha; rcases ha with rfl | rfl | rfl | rfl | rfl <;> decide
  · split at ha
    · simp at ha; rcases ha with rfl | rfl | rfl | rfl <;> decide
    · split at ha
      · simp at ha; rcases ha with rfl | rfl | rfl | rfl <;> decide
      · split at ha
        · simp at ha; rcases ha with rfl | rfl | rfl | rfl | rfl | rfl <;> decide
        · split at ha
          · simp at ha; rcases ha with rfl | rfl | rfl | rfl | rfl | rfl <;> decide
          · simp at ha
            subst ha
            refine ⟨?_, ?_, ?_, ?_⟩ <;> assumption
theorem cut_q (q : UInt8) : ∀ l : List UInt8, ((Lib.cut l [q]).2.2 = true ∧ l = (Lib.cut l [q]).1 ++ q :: (Lib.cut l [q]).2.1 ∧ q ∉ (Lib.cut l [q]).1) ∨ (Lib.cut l [q] = (l, [], false) ∧ q ∉ l)
  | [] => by right; exact ⟨rfl, by simp⟩
  | b :: r => by
    by_cases hb : b = q
    · subst hb
      left
      have e : Lib.index (b :: r) [b] = 0 := by simp [Lib.index]
      simp [Lib.cut, e]
    · have e : Lib.index (b :: r) [q] = if Lib.index r [q] == -1 then -1 else Lib.index r [q] + 1 := by
        simp [Lib.index, Ne.symm hb]
      have hge := Lib.index_ge r [q]
      have ih := cut_q q r
      unfold Lib.cut at ih ⊢
      by_cases h1 : Lib.index r [q] = -1
      · rw [e, h1]
        rw [h1] at ih
        simp at ih
        right
        simp
        exact ⟨fun h => hb h.symm, ih⟩
      · have h2 : 0 ≤ Lib.index r [q] := by omega
        rw [if_pos h2] at ih
        have e2 : Lib.index (b :: r) [q] = Lib.index r [q] + 1 := by rw [e]; simp [h1]
        rw [e2, if_pos (by omega)]
        have e3 : (Lib.index r [q] + 1).toNat = (Lib.index r [q]).toNat + 1 := by omega
        rw [e3]
        rcases ih with ⟨_, h3, h4⟩ | ⟨h3, _⟩
        · left
          refine ⟨rfl, ?_, ?_⟩
          · simp only [List.take_succ_cons, List.cons_append]
            exact congrArg (b :: ·) h3
          · simp only [List.take_succ_cons, List.mem_cons, not_or]
            exact ⟨fun h => hb h.symm, h4⟩
        · exact absurd (congrArg (fun x => x.2.2) h3) (by simp)
theorem head_q {q : UInt8} {a a' b b' : List UInt8} (h : a ++ q :: b = a' ++ q :: b') (h1 : q ∉ a) (h2 : q ∉ a') : a = a' ∧ b = b' := by
  induction a generalizing a' with
  | nil =>
    cases a' with
    | nil => simpa using h
    | cons x r => simp at h; exact absurd h.1 (fun e => h2 (by simp [e]))
  | cons x r ih =>
    cases a' with
    | nil => simp at h; exact absurd h.1 (fun e => h1 (by simp [e]))
    | cons y r' =>
      simp only [List.cons_append, List.cons.injEq] at h
      simp only [List.mem_cons, not_or] at h1 h2
      have := ih h.2 h1.2 h2.2
      exact ⟨by rw [h.1, this.1], this.2⟩
theorem cut_has {q : UInt8} {a : List UInt8} (b : List UInt8) (h : q ∉ a) : Lib.cut (a ++ q :: b) [q] = (a, b, true) := by
  rcases cut_q q (a ++ q :: b) with ⟨h1, h2, h3⟩ | ⟨_, h1⟩
  · have := head_q h2.symm h3 h
    rw [Prod.ext_iff, Prod.ext_iff]
    exact ⟨this.1, this.2, h1⟩
  · exact absurd (by simp) h1
theorem runQ_app : ∀ (a : List UInt8) (q : Nat) (b : List UInt8), runQ q (a ++ b) = (runQ q a).bind (fun q' => runQ q' b)
  | [], _, _ => rfl
  | c :: a, q, b => by
    simp only [List.cons_append, runQ]
    split
    · rfl
    · exact runQ_app a _ b
theorem runQ_in : ∀ (l : List UInt8), (∀ b ∈ l, b ≠ 39) → runQ 39 l = some 39
  | [], _ => rfl
  | c :: l, h => by
    have hc : c.toNat ≠ 39 := fun e => h c List.mem_cons_self (UInt8.toNat_inj.1 (by rw [e]; rfl))
    have hq : quoteL 39 c = (39, false) := by
      unfold quoteL
      rw [if_neg hc, if_pos (by decide)]
    unfold runQ
    rw [hq]
    exact runQ_in l (fun b hb => h b (List.mem_cons_of_mem _ hb))
/-- The tag's inside. -/
def tagIn (s : List UInt8) : List UInt8 := [97, 32, 98, 61] ++ (39 :: (esc s ++ [39]))
theorem runQ_tag (s : List UInt8) : runQ 0 (tagIn s) = some 0 := by
  unfold tagIn
  rw [runQ_app]
  have h1 : runQ 0 [97, 32, 98, 61] = some 0 := rfl
  rw [h1]
  show runQ 0 (39 :: (esc s ++ [39])) = some 0
  have h2 : runQ 0 (39 :: (esc s ++ [39])) = runQ 39 (esc s ++ [39]) := rfl
  rw [h2, runQ_app, runQ_in _ (fun b hb => (esc_safe s b hb).2.2.1)]
  rfl
theorem chars_tag {s : List UInt8} (h : CharsOk s) : CharsOk (60 :: tagIn s ++ [62]) := by
  have e : 60 :: tagIn s ++ [62] = [60, 97, 32, 98, 61, 39] ++ (esc s ++ [39, 62]) := by simp [tagIn]
  rw [e, charsOk_asc _ _ (by decide)]
  refine charsOk_append _ _ _ (Nat.le_refl _) ((charsOk_esc _ s (Nat.le_refl _)).2 h) ?_
  have := (charsOk_asc [39, 62] [] (by decide)).2 charsOk_nil
  simpa using this
theorem value_tag (s : List UInt8) : valueL (39 :: (esc s ++ [39, 62])) = some (s, [62]) := by
  have hm : mayL [39] (39 :: (esc s ++ [39, 62])) = (esc s ++ [39, 62], true) := by simp [mayL, List.isPrefixOf]
  unfold valueL
  rw [hm]
  simp only [if_true]
  unfold valueIn
  have hc : Lib.cut (esc s ++ [39, 62]) [39] = (esc s, [62], true) := cut_has (a := esc s) [62] (fun hh => (esc_safe s 39 hh).2.2.1 rfl)
  rw [hc]
  simp only [unesc_esc, if_true]
theorem begin_in (s Y : List UInt8) (hv : valueL Y = some (s, [62])) (hd : Y.dropWhile isBl = Y) : beginL (60 :: ([97] ++ 32 :: ([98] ++ 61 :: Y))) = some ([97], [([98], s)], false) := by
  have sm1 : Small [97] := fun b hb => by rw [List.mem_singleton.1 hb]; decide
  have sm2 : Small [98] := fun b hb => by rw [List.mem_singleton.1 hb]; decide
  have h1 : mustL [60] (60 :: ([97] ++ 32 :: ([98] ++ 61 :: Y))) = some ([97] ++ 32 :: ([98] ++ 61 :: Y)) := by simp [mustL, mayL, List.isPrefixOf]
  have h2 : nameL ([97] ++ 32 :: ([98] ++ 61 :: Y)) = some ([97], 32 :: ([98] ++ 61 :: Y)) := nameL_small sm1 (by decide) (by decide) (by decide)
  have h3 : nameL ([98] ++ 61 :: Y) = some ([98], 61 :: Y) := nameL_small sm2 (by decide) (by decide) (by decide)
  have d61 : isBl 61 = false := by decide
  have h4 : (61 :: Y).dropWhile isBl = 61 :: Y := by rw [List.dropWhile_cons_of_neg (by rw [d61]; decide)]
  have h5 : mustL [61] (61 :: Y) = some Y := by simp [mustL, mayL, List.isPrefixOf]
  have ha : attrL ([98] ++ 61 :: Y) = some (([98], s), [62]) := by
    unfold attrL
    rw [h3, Option.bind_some, h4, h5, Option.bind_some, hd, hv, Option.map_some]
  have b32 : isBl 32 = true := by decide
  have b98 : isBl 98 = false := by decide
  have h6 : (32 :: ([98] ++ 61 :: Y)).dropWhile isBl = [98] ++ 61 :: Y := by
    rw [List.dropWhile_cons_of_pos b32]
    exact List.dropWhile_cons_of_neg (by rw [b98]; decide)
  have h7 : 0 < ((32 :: ([98] ++ 61 :: Y)).takeWhile isBl).length := by
    rw [List.takeWhile_cons_of_pos b32]
    simp
  have h8 : atEndL ([98] ++ 61 :: Y) = false := by simp [atEndL, List.isPrefixOf]
  have h9 : ∀ f al, attrsGo (f + 1) [62] al = some (al, [62]) := fun f al => by
    unfold attrsGo
    rw [if_neg (by decide)]
    rfl
  have hg : ∀ f, attrsGo (f + 2) (32 :: ([98] ++ 61 :: Y)) [] = some ([([98], s)], [62]) := fun f => by
    rw [attrsGo, h6, if_pos ⟨h7, h8⟩, ha, Option.bind_some, h9]
    rfl
  have hlen : (32 :: ([98] ++ 61 :: Y)).length + 1 = Y.length + 2 + 2 := by simp
  unfold beginL
  rw [h1, Option.bind_some, h2, Option.bind_some, hlen, hg, Option.bind_some]
  rfl
theorem begin_tag (s : List UInt8) : beginL (60 :: tagIn s ++ [62]) = some ([97], [([98], s)], false) := by
  have e : 60 :: tagIn s ++ [62] = 60 :: ([97] ++ 32 :: ([98] ++ 61 :: (39 :: (esc s ++ [39, 62])))) := by simp [tagIn]
  rw [e]
  exact begin_in s _ (value_tag s) (List.dropWhile_cons_of_neg (by decide))
theorem feed_run (r : List UInt8) : ∀ (t : List UInt8) (st : PS), inTagL st.wait = false → (∀ b ∈ t, b ≠ 60) → st.wait.length + t.length ≤ 512 → feedF st (t ++ r) = feedF { st with wait := st.wait ++ t } r
  | [], st, _, _, _ => by simp
  | c :: t, st, h1, h2, h3 => by
    have hc := h2 c List.mem_cons_self
    have hl : (c :: t).length = t.length + 1 := rfl
    rw [hl] at h3
    have hi2 : inTagL (st.wait ++ [c]) = false := by
      cases hw : st.wait with
      | nil =>
        show (c == 60) = false
        rw [beq_eq_false_iff_ne]
        exact hc
      | cons a l =>
        rw [hw] at h1
        exact h1
    rw [List.cons_append, feedF_ok _ (put_text hc h1 (by omega)), feed_run r t _ hi2 (fun b hb => h2 b (List.mem_cons_of_mem _ hb)) (by simp; omega)]
    simp [List.append_assoc]
def carT (s : List UInt8) : List Tok := [⟨1, ⟨#[97]⟩, [(⟨#[98]⟩, ⟨s.toArray⟩)], ⟨#[]⟩⟩, ⟨3, ⟨#[]⟩, [], ⟨s.toArray⟩⟩, ⟨2, ⟨#[97]⟩, [], ⟨#[]⟩⟩]
def carB (s : List UInt8) : List UInt8 := 60 :: (tagIn s ++ 62 :: (esc s ++ [60, 47, 97, 62]))
theorem feed_car {s : List UInt8} (h : CharsOk s) (hs : s ≠ []) (hl : s.length ≤ 80) : feedF st0 (carB s) = (sShut, carT s) := by
  have hel := esc_length s
  have hen : esc s ≠ [] := fun e => by
    have := unesc_esc s
    rw [e, unesc_nil] at this
    exact hs (Option.some.inj this).symm
  have htag : tagL { st0 with wait := [], quote := 0 } (60 :: tagIn s ++ [62]) = .ok (⟨[], 0, [⟨#[97]⟩], true, true, 0⟩, [⟨1, ⟨#[97]⟩, [(⟨#[98]⟩, ⟨s.toArray⟩)], ⟨#[]⟩⟩]) := by
    rw [tag_begin (st := { st0 with wait := [], quote := 0 }) (nm := [97]) (al := [([98], s)]) (ends := false) ((charsB_iff _).2 (chars_tag h)) (by simp [isDecl, tagIn, mayL, List.isPrefixOf]) (by simp [tagIn, List.isPrefixOf]) (by simp [tagIn, List.isPrefixOf]) (by simp [tagIn, List.isPrefixOf]) (begin_tag s)]
    exact begin_ok (by intro h; cases h.2) (by simp [toB]) (noRep_one _) (by decide)
  have h1 := feed_tag (st := st0) (tagIn s) (esc s ++ [60, 47, 97, 62]) rfl rfl (text_none _) (by simp [tagIn]; omega) (runQ_tag s) htag
  have h2 := feed_run [60, 47, 97, 62] (esc s) ⟨[], 0, [⟨#[97]⟩], true, true, 0⟩ rfl (fun b hb => (esc_safe s b hb).1) (by simp; omega)
  have htx : textL { (⟨[] ++ esc s, 0, [⟨#[97]⟩], true, true, 0⟩ : PS) with wait := [] } ([] ++ esc s) = .ok (⟨[], 0, [⟨#[97]⟩], true, true, 0⟩, [⟨3, ⟨#[]⟩, [], ⟨s.toArray⟩⟩]) := by
    unfold textL
    rw [if_neg (by simpa using hen), List.nil_append, unesc_esc]
    simp only
    rw [if_pos ((charsB_iff _).2 ((charsOk_esc _ s (Nat.le_refl _)).2 h)), if_pos (by decide)]
  have hin : inTagL ([] ++ esc s) = false := by
    rw [List.nil_append]
    cases hq : esc s with
    | nil => exact absurd hq hen
    | cons a l =>
      show (a == 60) = false
      rw [beq_eq_false_iff_ne]
      exact (esc_safe s a (by rw [hq]; exact List.mem_cons_self)).1
  have htag2 : tagL { (⟨[], 0, [⟨#[97]⟩], true, true, 0⟩ : PS) with wait := [], quote := 0 } (60 :: [47, 97] ++ [62]) = .ok (⟨[], 0, [], true, true, 0⟩, [⟨2, ⟨#[97]⟩, [], ⟨#[]⟩⟩]) := by
    rw [tag_end (nm := [97]) (charsB_plain (by decide)) (by decide) (by decide) (by decide) (by decide) (by decide)]
    exact end_ok rfl
  have h3 := feed_tag (st := ⟨[] ++ esc s, 0, [⟨#[97]⟩], true, true, 0⟩) [47, 97] [] hin rfl htx (by decide) (by decide) htag2
  have h3' : feedF ⟨[] ++ esc s, 0, [⟨#[97]⟩], true, true, 0⟩ [60, 47, 97, 62] = (sShut, [⟨3, ⟨#[]⟩, [], ⟨s.toArray⟩⟩, ⟨2, ⟨#[97]⟩, [], ⟨#[]⟩⟩]) := (show feedF ⟨[] ++ esc s, 0, [⟨#[97]⟩], true, true, 0⟩ [60, 47, 97, 62] = _ from h3).trans (by simp [feedF, sShut])
  unfold carB
  rw [h1]
  have h2' : feedF ⟨[], 0, [⟨#[97]⟩], true, true, 0⟩ (esc s ++ [60, 47, 97, 62]) = (sShut, [⟨3, ⟨#[]⟩, [], ⟨s.toArray⟩⟩, ⟨2, ⟨#[97]⟩, [], ⟨#[]⟩⟩]) := h2.trans h3'
  rw [h2']
  rfl
theorem carB_len {s : List UInt8} (hl : s.length ≤ 80) : (carB s).length ≤ 1000 := by
  have := esc_length s
  simp [carB, tagIn]
  omega
end Go.Proofs.YthflpcfpfdmaeaaDoor.Xm
