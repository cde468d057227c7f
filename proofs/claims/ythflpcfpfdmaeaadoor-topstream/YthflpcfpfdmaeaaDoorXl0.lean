/- What bytes do, by hand. -/
import Derived.Test.YthflpcfpfdmaeaaDoorXp12
namespace Go.Proofs.YthflpcfpfdmaeaaDoor.Xm
open Go.RowKit

theorem inTagL_app {l : List UInt8} (h : inTagL l = true) (t : List UInt8) : inTagL (l ++ t) = true := by
  cases l with
  | nil => cases h
  | cons a l => exact h
theorem mostL_in {l : List UInt8} (h : inTagL l = true) : mostL l = 2048 := by unfold mostL; rw [if_pos h]
theorem mostL_out {l : List UInt8} (h : inTagL l = false) : mostL l = 512 := by unfold mostL; rw [if_neg (by rw [h]; decide)]
theorem put_in {st : PS} {c : UInt8} (h1 : inTagL st.wait = true) (h2 : st.wait.length < 2048) (h3 : (quoteL st.quote c).2 = false) : putF st c = .ok ({ st with wait := st.wait ++ [c], quote := (quoteL st.quote c).1 }, []) := by
  unfold putF
  rw [if_neg (fun h => by rw [h1] at h; exact absurd h.2 (by decide))]
  unfold put2
  rw [if_neg (by rw [mostL_in (inTagL_app h1 _), List.length_append]; simp; omega), if_pos (inTagL_app h1 _), if_neg (by rw [h3]; decide)]
theorem put_end {st : PS} {c : UInt8} (h1 : inTagL st.wait = true) (h2 : st.wait.length < 2048) (h3 : (quoteL st.quote c).2 = true) : putF st c = tagL { st with wait := [], quote := (quoteL st.quote c).1 } (st.wait ++ [c]) := by
  unfold putF
  rw [if_neg (fun h => by rw [h1] at h; exact absurd h.2 (by decide))]
  unfold put2
  rw [if_neg (by rw [mostL_in (inTagL_app h1 _), List.length_append]; simp; omega), if_pos (inTagL_app h1 _), if_pos h3]
/-- A text ends, a tag begins. -/
theorem put_lt {st st' : PS} {t : List Tok} (h1 : inTagL st.wait = false) (hq : st.quote = 0) (h2 : textL { st with wait := [] } st.wait = .ok (st', t)) : putF st 60 = .ok ({ st' with wait := [60], quote := 0 }, t) := by
  have hk := textL_keeps h2
  unfold putF
  rw [if_pos ⟨rfl, h1⟩, h2]
  have hw : st'.wait = [] := hk.1
  have hq' : st'.quote = 0 := hk.2.2.1.trans hq
  show put2 st' t 60 = _
  unfold put2
  rw [hw, hq']
  rfl
theorem put_text {st : PS} {c : UInt8} (hc : c ≠ 60) (h1 : inTagL st.wait = false) (h2 : st.wait.length < 512) : putF st c = .ok ({ st with wait := st.wait ++ [c] }, []) := by
  have h3 : inTagL (st.wait ++ [c]) = false := by
    cases hw : st.wait with
    | nil =>
      show (c == 60) = false
      rw [beq_eq_false_iff_ne]
      exact hc
    | cons a l =>
      rw [hw] at h1
      exact h1
  unfold putF
  rw [if_neg (fun h => hc h.1)]
  unfold put2
  rw [if_neg (by rw [mostL_out h3, List.length_append]; simp; omega), if_neg (by rw [h3]; decide)]
/-- The quote that is open behind bytes that do not end the tag. -/
def runQ (q : Nat) : List UInt8 → Option Nat
  | [] => some q
  | c :: l => if (quoteL q c).2 = true then none else runQ (quoteL q c).1 l
theorem feed_in (r : List UInt8) : ∀ (t : List UInt8) (st : PS) (q' : Nat), inTagL st.wait = true → st.wait.length + t.length ≤ 2048 → runQ st.quote t = some q' → feedF st (t ++ r) = feedF { st with wait := st.wait ++ t, quote := q' } r
  | [], st, q', _, _, h => by
    cases h
    simp
  | c :: t, st, q', h1, h2, h => by
    unfold runQ at h
    split at h
    · cases h
    · rename_i hq
      have hl : (c :: t).length = t.length + 1 := rfl
      rw [hl] at h2
      rw [List.cons_append, feedF_ok _ (put_in h1 (by omega) (by rw [Bool.not_eq_true] at hq; exact hq))]
      rw [feed_in r t _ q' (inTagL_app h1 _) (by rw [List.length_append]; simp; omega) h]
      simp [List.append_assoc]
/-- A whole tag. -/
theorem feed_tag {st st' st2 : PS} {ts t2 : List Tok} (t r : List UInt8) (h1 : inTagL st.wait = false) (hq : st.quote = 0) (h2 : textL { st with wait := [] } st.wait = .ok (st', ts)) (hl : t.length ≤ 2040) (hr : runQ 0 t = some 0) (htag : tagL { st' with wait := [], quote := 0 } (60 :: t ++ [62]) = .ok (st2, t2)) :
    feedF st (60 :: (t ++ 62 :: r)) = ((feedF st2 r).1, ts ++ (t2 ++ (feedF st2 r).2)) := by
  rw [feedF_ok _ (put_lt h1 hq h2), feed_in (62 :: r) t _ 0 rfl (by simp; omega) hr]
  have hp := put_end (st := { st' with wait := [60] ++ t, quote := 0 }) (c := 62) rfl (by simp; omega) rfl
  have hp' : putF { st' with wait := [60] ++ t, quote := 0 } 62 = .ok (st2, t2) := by rw [hp]; exact htag
  rw [feedF_ok r hp']
end Go.Proofs.YthflpcfpfdmaeaaDoor.Xm
