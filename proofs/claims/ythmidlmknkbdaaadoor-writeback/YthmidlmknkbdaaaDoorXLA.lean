/- What bytes do, by hand. What bytes do: two pieces, by hand. What must be whatever is asked, of the parser. Bytes that are handed in; what a parser keeps to behind them. -/
import Derived.Test.YthmidlmknkbdaaaDoorXPC
import Derived.Lib.SmallJoins
namespace Go.Proofs.YthmidlmknkbdaaaDoor.Xm
open Go.RowKit

theorem inTagL_app {l : List UInt8} (h : inTagL l = true) (t : List UInt8) : inTagL (l ++ t) = true := by
  cases l with
  | nil => cases h
  | cons a l => exact h
theorem mostL_in {l : List UInt8} (h : inTagL l = true) : mostL l = 2048 := by unfold mostL; rw [if_pos h]
theorem mostL_out {l : List UInt8} (h : inTagL l = false) : mostL l = 512 := by unfold mostL; rw [if_neg (by rw [h]; decide)]
theorem put_in {st : PS} {c : UInt8} (h1 : inTagL st.wait = true) (h2 : st.wait.length < 2048) (h3 : (quoteL st.quote c).2 = false) : putF st c = .ok ({ st with wait := st.wait ++ [c], quote := (quoteL st.quote c).1 }, []) := by
  unfold putF
  rw [if_neg (fun h => by rw [h1] at h; exact absurd h.2 (by decide))]
  unfold put2
  rw [if_neg (by rw [mostL_in (inTagL_app h1 _), List.length_append]; simp; omega), if_pos (inTagL_app h1 _), if_neg (by rw [h3]; decide)]
theorem put_end {st : PS} {c : UInt8} (h1 : inTagL st.wait = true) (h2 : st.wait.length < 2048) (h3 : (quoteL st.quote c).2 = true) : putF st c = tagL { st with wait := [], quote := (quoteL st.quote c).1 } (st.wait ++ [c]) := by
  unfold putF
  rw [if_neg (fun h => by rw [h1] at h; exact absurd h.2 (by decide))]
  unfold put2
  rw [if_neg (by rw [mostL_in (inTagL_app h1 _), List.length_append]; simp; omega), if_pos (inTagL_app h1 _), if_pos h3]
/-- A text ends, a tag begins. -/
theorem put_lt {st st' : PS} {t : List Tok} (h1 : inTagL st.wait = false) (hq : st.quote = 0) (h2 : textL { st with wait := [] } st.wait = .ok (st', t)) : putF st 60 = .ok ({ st' with wait := [60], quote := 0 }, t) := by
  have hk := textL_keeps h2
  unfold putF
  rw [if_pos ⟨rfl, h1⟩, h2]
  have hw : st'.wait = [] := hk.1
  have hq' : st'.quote = 0 := hk.2.2.1.trans hq
  show put2 st' t 60 = _
  unfold put2
  rw [hw, hq']
  rfl
theorem put_text {st : PS} {c : UInt8} (hc : c ≠ 60) (h1 : inTagL st.wait = false) (h2 : st.wait.length < 512) : putF st c = .ok ({ st with wait := st.wait ++ [c] }, []) := by
  have h3 : inTagL (st.wait ++ [c]) = false := by
    cases hw : st.wait with
    | nil =>
      show (c == 60) = false
      rw [beq_eq_false_iff_ne]
      exact hc
    | cons a l =>
      rw [hw] at h1
      exact h1
  unfold putF
  rw [if_neg (fun h => hc h.1)]
  unfold put2
  rw [if_neg (by rw [mostL_out h3, List.length_append]; simp; omega), if_neg (by rw [h3]; decide)]
/-- The quote that is open behind bytes that do not end the tag. -/
def runQ (q : Nat) : List UInt8 → Option Nat
  | [] => some q
  | c :: l => if (quoteL q c).2 = true then none else runQ (quoteL q c).1 l
theorem feed_in (r : List UInt8) : ∀ (t : List UInt8) (st : PS) (q' : Nat), inTagL st.wait = true → st.wait.length + t.length ≤ 2048 → runQ st.quote t = some q' → feedF st (t ++ r) = feedF { st with wait := st.wait ++ t, quote := q' } r
  | [], st, q', _, _, h => by
    cases h
    simp
  | c :: t, st, q', h1, h2, h => by
    unfold runQ at h
    split at h
    · cases h
    · rename_i hq
      have hl : (c :: t).length = t.length + 1 := rfl
      rw [hl] at h2
      rw [List.cons_append, feedF_ok _ (put_in h1 (by omega) (by rw [Bool.not_eq_true] at hq; exact hq))]
      rw [feed_in r t _ q' (inTagL_app h1 _) (by rw [List.length_append]; simp; omega) h]
      simp [List.append_assoc]
/-- A whole tag. -/
theorem feed_tag {st st' st2 : PS} {ts t2 : List Tok} (t r : List UInt8) (h1 : inTagL st.wait = false) (hq : st.quote = 0) (h2 : textL { st with wait := [] } st.wait = .ok (st', ts)) (hl : t.length ≤ 2040) (hr : runQ 0 t = some 0) (htag : tagL { st' with wait := [], quote := 0 } (60 :: t ++ [62]) = .ok (st2, t2)) :
    feedF st (60 :: (t ++ 62 :: r)) = ((feedF st2 r).1, ts ++ (t2 ++ (feedF st2 r).2)) := by
  rw [feedF_ok _ (put_lt h1 hq h2), feed_in (62 :: r) t _ 0 rfl (by simp; omega) hr]
  have hp := put_end (st := { st' with wait := [60] ++ t, quote := 0 }) (c := 62) rfl (by simp; omega) rfl
  have hp' : putF { st' with wait := [60] ++ t, quote := 0 } 62 = .ok (st2, t2) := by rw [hp]; exact htag
  rw [feedF_ok r hp']
end Go.Proofs.YthmidlmknkbdaaaDoor.Xm
namespace Go.Proofs.YthmidlmknkbdaaaDoor.Xm
open Go.RowKit

theorem chars_plain : ∀ l : List UInt8, (∀ b ∈ l, b.toNat < 128 ∧ 32 ≤ b.toNat) → CharsOk l
  | [], _ => ⟨rfl, runes_nil⟩
  | b :: t, h => by
    have hb := h b (by simp)
    have ih := chars_plain t (fun c hc => h c (by simp [hc]))
    refine ⟨by rw [Lib.validD_cons b t hb.1]; exact ih.1, ?_⟩
    rw [runes_step _ (by simp), Lib.decodeL_ascii b t hb.1]
    exact ⟨Or.inr (Or.inr (Or.inr ⟨hb.2, by omega, by omega⟩)), ih.2⟩
theorem charsB_plain {l : List UInt8} (h : ∀ b ∈ l, b.toNat < 128 ∧ 32 ≤ b.toNat) : charsB l = true := (charsB_iff _).2 (chars_plain l h)
theorem noRep_one (x : ByteArray × ByteArray) : NoRep [x] := fun i j a b h1 h2 h3 => by
  have hi := (List.getElem?_eq_some_iff.1 h2).1
  simp at hi
  omega
theorem noRep_nil : NoRep [] := fun i j a b h1 h2 h3 => by simp at h2
/-- A tag that begins an element. -/
theorem tag_begin {st : PS} {s nm : List UInt8} {al : List AttrL} {ends : Bool} (h1 : charsB s = true) (h2 : (!st.begun && isDecl s) = false) (h3 : [60, 33].isPrefixOf s = false) (h4 : [60, 63].isPrefixOf s = false) (h5 : [60, 47].isPrefixOf s = false) (hb : beginL s = some (nm, al, ends)) :
    tagL st s = beginP { st with begun := true } ⟨nm.toArray⟩ (toB al) ends := by
  unfold tagL
  rw [if_pos h1, if_neg (by rw [h2]; decide), if_neg (by rw [h3]; decide), if_neg (by rw [h4]; decide), if_neg (by rw [h5]; decide), hb]
theorem begin_ok {st : PS} {nm : ByteArray} {al : List (ByteArray × ByteArray)} (h1 : ¬ (st.op.length = 0 ∧ st.rooted = true)) (h2 : al.length ≤ 8) (h3 : NoRep al) (h4 : st.op.length < 8) : beginP st nm al false = .ok ({ st with rooted := true, op := st.op ++ [nm] }, [⟨1, nm, al, ⟨#[]⟩⟩]) := by
  unfold beginP
  rw [if_neg h1, if_neg (by omega), if_neg (fun h => (repB_iff _).2 h h3), if_neg (by omega), if_neg (by decide)]
theorem tag_end {st : PS} {s nm : List UInt8} (h1 : charsB s = true) (h2 : (!st.begun && isDecl s) = false) (h3 : [60, 33].isPrefixOf s = false) (h4 : [60, 63].isPrefixOf s = false) (h5 : [60, 47].isPrefixOf s = true) (hb : endL s = some nm) :
    tagL st s = endP { st with begun := true } ⟨nm.toArray⟩ := by
  unfold tagL
  rw [if_pos h1, if_neg (by rw [h2]; decide), if_neg (by rw [h3]; decide), if_neg (by rw [h4]; decide), if_pos h5, hb]
theorem end_ok {st : PS} {nm : ByteArray} (h : st.op.getLast? = some nm) : endP st nm = .ok ({ st with op := st.op.dropLast }, [⟨2, nm, [], ⟨#[]⟩⟩]) := by
  unfold endP
  rw [if_pos h]
theorem text_none (st : PS) : textL st [] = .ok (st, []) := by unfold textL; rw [if_pos rfl]

def live1 : PS := ⟨[120], 0, [⟨#[97]⟩], true, true, 0⟩
theorem feed_live1 : feedF st0 [60, 97, 32, 98, 61, 39, 49, 39, 62, 120] = (live1, [⟨1, ⟨#[97]⟩, [(⟨#[98]⟩, ⟨#[49]⟩)], ⟨#[]⟩⟩]) := by
  have htag : tagL { st0 with wait := [], quote := 0 } (60 :: [97, 32, 98, 61, 39, 49, 39] ++ [62]) = .ok (⟨[], 0, [⟨#[97]⟩], true, true, 0⟩, [⟨1, ⟨#[97]⟩, [(⟨#[98]⟩, ⟨#[49]⟩)], ⟨#[]⟩⟩]) := by
    rw [tag_begin (nm := [97]) (al := [([98], [49])]) (ends := false) (charsB_plain (by decide)) (by decide) (by decide) (by decide) (by decide) (by decide)]
    exact begin_ok (by decide) (by decide) (noRep_one _) (by decide)
  have h := feed_tag (st := st0) [97, 32, 98, 61, 39, 49, 39] [120] rfl rfl (text_none _) (by decide) (by decide) htag
  have h2 : feedF ⟨[], 0, [⟨#[97]⟩], true, true, 0⟩ [120] = (live1, []) := by
    rw [feedF_ok _ (put_text (by decide) rfl (by decide))]
    rfl
  rw [h2] at h
  exact h
theorem feed_live2 : feedF live1 [60, 47, 97, 62] = (⟨[], 0, [], true, true, 0⟩, [⟨3, ⟨#[]⟩, [], ⟨#[120]⟩⟩, ⟨2, ⟨#[97]⟩, [], ⟨#[]⟩⟩]) := by
  have htx : textL { live1 with wait := [] } live1.wait = .ok (⟨[], 0, [⟨#[97]⟩], true, true, 0⟩, [⟨3, ⟨#[]⟩, [], ⟨#[120]⟩⟩]) := by
    show textL _ [120] = _
    unfold textL
    rw [if_neg (by decide), show unesc [120] = some [120] from rfl]
    show (if charsB [120] = true then _ else _) = _
    rw [if_pos (charsB_plain (by decide)), if_pos (by decide)]
    rfl
  have htag : tagL { (⟨[], 0, [⟨#[97]⟩], true, true, 0⟩ : PS) with wait := [], quote := 0 } (60 :: [47, 97] ++ [62]) = .ok (⟨[], 0, [], true, true, 0⟩, [⟨2, ⟨#[97]⟩, [], ⟨#[]⟩⟩]) := by
    rw [tag_end (nm := [97]) (charsB_plain (by decide)) (by decide) (by decide) (by decide) (by decide) (by decide)]
    exact end_ok rfl
  have h := feed_tag (st := live1) [47, 97] [] rfl rfl htx (by decide) (by decide) htag
  exact (show feedF live1 [60, 47, 97, 62] = _ from h).trans rfl
end Go.Proofs.YthmidlmknkbdaaaDoor.Xm
namespace Go.Proofs.YthmidlmknkbdaaaDoor.Xm
open Go.RowKit

theorem row_cells {base : Nat} {w : World} {v : Value} {l : List TokV} (h : ElRow base w v l) {k : Nat} {x : TokV} (hk : l[k]? = some x) : ∃ g cap, v = .slice (some ⟨g, 0, none⟩) l.length cap ∧ l.length ≤ cap ∧ w.cell? ⟨g, k * 4, none⟩ = some (.int .u8 x.1.kind) ∧ w.cell? ⟨g, k * 4 + 1, none⟩ = some (.string x.1.name) ∧ w.cell? ⟨g, k * 4 + 3, none⟩ = some (.string x.1.text) := by
  have hlt := (List.getElem?_eq_some_iff.1 hk).1
  obtain ⟨hl', ⟨e, hn⟩ | ⟨g, cap, cur, e, hb, hg, hc', _, hs, ht⟩⟩ := id h.1
  · omega
  · obtain ⟨q1, q2, q3, q4⟩ := tokCells_at l k x hk
    rw [← ht, List.getElem?_take_of_lt (by omega)] at q1 q2 q3 q4
    refine ⟨g, cap, e, hc', ?_, ?_, ?_⟩ <;> (simp [World.cell?, hg]; first | simpa using q1 | simpa using q2 | simpa using q4)
theorem Sim.ok {a b : PS} (h : Sim a b) (hb : b.broken = 0) : a = b := by
  rcases h with h | h
  · exact h
  · exact absurd hb h.1
theorem FeedF_of {st : PS} (h : st.broken = 0) (l : List UInt8) : FeedF st l = feedF st l := by
  unfold FeedF
  rw [if_pos h]
theorem own_ne_mark {W : World} {base e n b : Nat} {size : Nat} {v : Value} {xs : List Value} {cs : Array Value} {T : TypeId} {fr : Nat × Nat} (h : W.ownsRow base e size v n xs) (hb : W.heap[b]? = some (.cells cs T fr)) (hT : T ≠ e) : some b ≠ v.ownBlock := by
  intro e1
  obtain ⟨_, ⟨rfl, _⟩ | ⟨g', cap, cur, rfl, _, hg', _⟩⟩ := h
  · cases e1
  · cases e1
    rw [hg'] at hb
    cases hb
    exact hT rfl
/-- Bytes in a block of their own. -/
theorem bytes_block {base p : Nat} {st : PS} {w : World} {vw vo : Value} {b : Nat} {l : List UInt8} {cs : Array Value} {fr : Nat × Nat} (hP : IsP base p st vw vo w) (hb : w.heap[b]? = some (.cells cs 5 fr)) (hne : some b ≠ vw.ownBlock) (hc : ∀ (j : Nat) (c : UInt8), l[j]? = some c → cs[j]? = some (Value.int .u8 c.toNat)) : Bytes w p vw vo (some ⟨b, 0, none⟩) l := by
  have hbp : b ≠ p := by
    intro e
    subst e
    have h := hP.2.1
    rw [hb] at h
    cases h
  refine ⟨fun j c hj => ⟨b, 0, rfl, (Array.getElem?_eq_some_iff.1 hb).1, hbp, hne, own_ne_mark hP.2.2.2 hb (by decide), ?_⟩⟩
  have h := hc j c hj
  simp [World.cell?, hb]
  simpa using h

end Go.Proofs.YthmidlmknkbdaaaDoor.Xm
namespace Go.Proofs.YthmidlmknkbdaaaDoor.Xm
open Go.RowKit

/-- Bytes that were there. -/
def ByteMem (n₀ : Nat) (w : World) (ba : Option Addr) (l : List UInt8) : Prop := ∀ (j : Nat) (c : UInt8), l[j]? = some c → ∃ b o, ba = some ⟨b, o, none⟩ ∧ b < n₀ ∧ w.cell? ⟨b, o + j, none⟩ = some (.int .u8 c.toNat)
theorem ByteMem.below {n₀ : Nat} {w w' : World} {ba : Option Addr} {l : List UInt8} (h : ByteMem n₀ w ba l) (hb : Below n₀ w w') : ByteMem n₀ w' ba l := fun j c hj => by
  obtain ⟨b, o, h0, h1, h2⟩ := h j c hj
  exact ⟨b, o, h0, h1, (hb.cell (p := ⟨b, _, none⟩) h1).trans h2⟩
theorem ByteMem.take {n₀ : Nat} {w : World} {ba : Option Addr} {l : List UInt8} (h : ByteMem n₀ w ba l) (k : Nat) : ByteMem n₀ w ba (l.take k) := fun j c hj => by
  rw [List.getElem?_take] at hj
  split at hj
  · exact h j c hj
  · cases hj
theorem ByteMem.bytes {n₀ base p : Nat} {st : PS} {w : World} {vw vo : Value} {ba : Option Addr} {l : List UInt8} (h : ByteMem n₀ w ba l) (hP : IsP base p st vw vo w) (hb : n₀ ≤ base) : Bytes w p vw vo ba l :=
  ⟨fun j c hj => by
    obtain ⟨b, o, h0, h1, h2⟩ := h j c hj
    have hp := hP.1
    have hl := hP.lt
    exact ⟨b, o, h0, by omega, by omega, fun e => by have := own_base hP.2.2.1 b e.symm; omega, fun e => by have := own_base hP.2.2.2 b e.symm; omega, h2⟩⟩
theorem feedF_inv : ∀ (l : List UInt8) (st : PS), Inv st → Inv (feedF st l).1
  | [], _, h => h
  | c :: l, st, h => by
    cases hp : putF st c with
    | error e =>
      rw [feedF_err l hp]
      exact ⟨Nat.zero_le _, h.op, show 0 < 256 by decide⟩
    | ok x =>
      rw [feedF_ok (st' := x.1) (t := x.2) l hp]
      exact feedF_inv l x.1 (putF_keeps (st' := x.1) (t' := x.2) hp h).1
theorem FeedF_inv (l : List UInt8) {st : PS} (h : Inv st) : Inv (FeedF st l).1 := by
  unfold FeedF
  split
  · exact feedF_inv l st h
  · exact h
theorem Sim.inv {a b : PS} (h : Sim a b) (hb : Inv b) : Inv a := by
  rcases h with rfl | ⟨_, h1, h2, h3, _⟩
  · exact hb
  · exact ⟨by rw [h2]; exact hb.wait, by rw [h1]; exact hb.op, by rw [h3]; exact hb.quote⟩
theorem Sim.broken {a b : PS} (h : Sim a b) : a.broken = b.broken := by
  rcases h with rfl | h
  · rfl
  · exact h.2.2.2.2
theorem FeedF_broken {st : PS} (h : st.broken ≠ 0) (l : List UInt8) : FeedF st l = (st, []) := by
  unfold FeedF
  rw [if_neg h]
end Go.Proofs.YthmidlmknkbdaaaDoor.Xm
