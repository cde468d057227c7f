/- What bytes do: two pieces, by hand. -/
import Derived.Test.YthflpcfpfdmaeaaDoorXl0
namespace Go.Proofs.YthflpcfpfdmaeaaDoor.Xm
open Go.RowKit

theorem chars_plain : ∀ l : List UInt8, (∀ b ∈ l, b.toNat < 128 ∧ 32 ≤ b.toNat) → CharsOk l
  | [], _ => ⟨rfl, runes_nil⟩
  | b :: t, h => by
    have hb := h b (by simp)
    have ih := chars_plain t (fun c hc => h c (by simp [hc]))
    refine ⟨by rw [Lib.validD_cons b t hb.1]; exact ih.1, ?_⟩
    rw [runes_step _ (by simp), Lib.decodeL_ascii b t hb.1]
    exact ⟨Or.inr (Or.inr (Or.inr ⟨hb.2, by omega, by omega⟩)), ih.2⟩
theorem charsB_plain {l : List UInt8} (h : ∀ b ∈ l, b.toNat < 128 ∧ 32 ≤ b.toNat) : charsB l = true := (charsB_iff _).2 (chars_plain l h)
theorem noRep_one (x : ByteArray × ByteArray) : NoRep [x] := fun i j a b h1 h2 h3 => by
  have hi := (List.getElem?_eq_some_iff.1 h2).1
  simp at hi
  omega
theorem noRep_nil : NoRep [] := fun i j a b h1 h2 h3 => by simp at h2
/-- A tag that begins an element. -/
theorem tag_begin {st : PS} {s nm : List UInt8} {al : List AttrL} {ends : Bool} (h1 : charsB s = true) (h2 : (!st.begun && isDecl s) = false) (h3 : [60, 33].isPrefixOf s = false) (h4 : [60, 63].isPrefixOf s = false) (h5 : [60, 47].isPrefixOf s = false) (hb : beginL s = some (nm, al, ends)) :
    tagL st s = beginP { st with begun := true } ⟨nm.toArray⟩ (toB al) ends := by
  unfold tagL
  rw [if_pos h1, if_neg (by rw [h2]; decide), if_neg (by rw [h3]; decide), if_neg (by rw [h4]; decide), if_neg (by rw [h5]; decide), hb]
theorem begin_ok {st : PS} {nm : ByteArray} {al : List (ByteArray × ByteArray)} (h1 : ¬ (st.op.length = 0 ∧ st.rooted = true)) (h2 : al.length ≤ 8) (h3 : NoRep al) (h4 : st.op.length < 8) : beginP st nm al false = .ok ({ st with rooted := true, op := st.op ++ [nm] }, [⟨1, nm, al, ⟨#[]⟩⟩]) := by
  unfold beginP
  rw [if_neg h1, if_neg (by omega), if_neg (fun h => (repB_iff _).2 h h3), if_neg (by omega), if_neg (by decide)]
theorem tag_end {st : PS} {s nm : List UInt8} (h1 : charsB s = true) (h2 : (!st.begun && isDecl s) = false) (h3 : [60, 33].isPrefixOf s = false) (h4 : [60, 63].isPrefixOf s = false) (h5 : [60, 47].isPrefixOf s = true) (hb : endL s = some nm) :
    tagL st s = endP { st with begun := true } ⟨nm.toArray⟩ := by
  unfold tagL
  rw [if_pos h1, if_neg (by rw [h2]; decide), if_neg (by rw [h3]; decide), if_neg (by rw [h4]; decide), if_pos h5, hb]
theorem end_ok {st : PS} {nm : ByteArray} (h : st.op.getLast? = some nm) : endP st nm = .ok ({ st with op := st.op.dropLast }, [⟨2, nm, [], ⟨#[]⟩⟩]) := by
  unfold endP
  rw [if_pos h]
theorem text_none (st : PS) : textL st [] = .ok (st, []) := by unfold textL; rw [if_pos rfl]

def live1 : PS := ⟨[120], 0, [⟨#[97]⟩], true, true, 0⟩
theorem feed_live1 : feedF st0 [60, 97, 32, 98, 61, 39, 49, 39, 62, 120] = (live1, [⟨1, ⟨#[97]⟩, [(⟨#[98]⟩, ⟨#[49]⟩)], ⟨#[]⟩⟩]) := by
  have htag : tagL { st0 with wait := [], quote := 0 } (60 :: [97, 32, 98, 61, 39, 49, 39] ++ [62]) = .ok (⟨[], 0, [⟨#[97]⟩], true, true, 0⟩, [⟨1, ⟨#[97]⟩, [(⟨#[98]⟩, ⟨#[49]⟩)], ⟨#[]⟩⟩]) := by
    rw [tag_begin (nm := [97]) (al := [([98], [49])]) (ends := false) (charsB_plain (by decide)) (by decide) (by decide) (by decide) (by decide) (by decide)]
    exact begin_ok (by decide) (by decide) (noRep_one _) (by decide)
  have h := feed_tag (st := st0) [97, 32, 98, 61, 39, 49, 39] [120] rfl rfl (text_none _) (by decide) (by decide) htag
  have h2 : feedF ⟨[], 0, [⟨#[97]⟩], true, true, 0⟩ [120] = (live1, []) := by
    rw [feedF_ok _ (put_text (by decide) rfl (by decide))]
    rfl
  rw [h2] at h
  exact h
theorem feed_live2 : feedF live1 [60, 47, 97, 62] = (⟨[], 0, [], true, true, 0⟩, [⟨3, ⟨#[]⟩, [], ⟨#[120]⟩⟩, ⟨2, ⟨#[97]⟩, [], ⟨#[]⟩⟩]) := by
  have htx : textL { live1 with wait := [] } live1.wait = .ok (⟨[], 0, [⟨#[97]⟩], true, true, 0⟩, [⟨3, ⟨#[]⟩, [], ⟨#[120]⟩⟩]) := by
    show textL _ [120] = _
    unfold textL
    rw [if_neg (by decide), show unesc [120] = some [120] from rfl]
    show (if charsB [120] = true then _ else _) = _
    rw [if_pos (charsB_plain (by decide)), if_pos (by decide)]
    rfl
  have htag : tagL { (⟨[], 0, [⟨#[97]⟩], true, true, 0⟩ : PS) with wait := [], quote := 0 } (60 :: [47, 97] ++ [62]) = .ok (⟨[], 0, [], true, true, 0⟩, [⟨2, ⟨#[97]⟩, [], ⟨#[]⟩⟩]) := by
    rw [tag_end (nm := [97]) (charsB_plain (by decide)) (by decide) (by decide) (by decide) (by decide) (by decide)]
    exact end_ok rfl
  have h := feed_tag (st := live1) [47, 97] [] rfl rfl htx (by decide) (by decide) htag
  exact (show feedF live1 [60, 47, 97, 62] = _ from h).trans rfl
end Go.Proofs.YthflpcfpfdmaeaaDoor.Xm
