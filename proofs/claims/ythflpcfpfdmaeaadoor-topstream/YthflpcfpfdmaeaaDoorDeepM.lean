/- Elements one within the other, by hand. -/
import Derived.Test.YthflpcfpfdmaeaaDoorXl3
namespace Go.Proofs.YthflpcfpfdmaeaaDoor.Xm
open Go.RowKit

def deepSt (i : Nat) : PS := if i = 0 then st0 else ⟨[], 0, List.replicate i ⟨#[97]⟩, true, true, 0⟩
theorem deep_wait (i : Nat) : (deepSt i).wait = [] ∧ (deepSt i).quote = 0 ∧ (deepSt i).op.length = i ∧ (deepSt i).broken = 0 := by
  unfold deepSt
  split
  · rename_i h
    subst h
    exact ⟨rfl, rfl, rfl, rfl⟩
  · exact ⟨rfl, rfl, List.length_replicate, rfl⟩
theorem deep_root (i : Nat) : ¬ ((deepSt i).op.length = 0 ∧ (deepSt i).rooted = true) := by
  unfold deepSt
  split
  · exact fun h => by cases h.2
  · rename_i h
    exact fun h' => h (by have := h'.1; simp at this; exact this)
theorem deep_inv {i : Nat} (h : i ≤ 8) : Inv (deepSt i) := by
  obtain ⟨h1, h2, h3, _⟩ := deep_wait i
  exact ⟨by rw [h1]; exact Nat.zero_le _, by rw [h3]; exact h, by rw [h2]; decide⟩
theorem deep_tag (i : Nat) : tagL { deepSt i with wait := [], quote := 0 } (60 :: [97] ++ [62]) = beginP { deepSt i with wait := [], quote := 0, begun := true } ⟨#[97]⟩ [] false := by
  have h := tag_begin (st := { deepSt i with wait := [], quote := 0 }) (s := 60 :: [97] ++ [62]) (nm := [97]) (al := []) (ends := false) (charsB_plain (by decide)) (by rw [show isDecl (60 :: [97] ++ [62]) = false by decide, Bool.and_false]) (by decide) (by decide) (by decide) (by decide)
  exact h
theorem deep_next (i : Nat) : ({ ({ deepSt i with wait := [], quote := 0, begun := true } : PS) with rooted := true, op := (deepSt i).op ++ [⟨#[97]⟩] } : PS) = deepSt (i + 1) := by
  cases i with
  | zero => rfl
  | succ n => simp [deepSt, List.replicate_succ']
theorem feed_deep {i : Nat} (h : i < 8) : feedF (deepSt i) [60, 97, 62] = (deepSt (i + 1), [⟨1, ⟨#[97]⟩, [], ⟨#[]⟩⟩]) := by
  obtain ⟨h1, h2, h3, _⟩ := deep_wait i
  have htx : textL { deepSt i with wait := [] } (deepSt i).wait = .ok ({ deepSt i with wait := [] }, []) := by rw [h1]; exact text_none _
  have htag : tagL { ({ deepSt i with wait := [] } : PS) with wait := [], quote := 0 } (60 :: [97] ++ [62]) = .ok (deepSt (i + 1), [⟨1, ⟨#[97]⟩, [], ⟨#[]⟩⟩]) := by
    refine (deep_tag i).trans ?_
    exact (begin_ok (st := { deepSt i with wait := [], quote := 0, begun := true }) (deep_root i) (Nat.zero_le _) noRep_nil (by show (deepSt i).op.length < 8; omega)).trans (congrArg (fun s => Except.ok (s, _)) (deep_next i))
  have h := feed_tag (st := deepSt i) [97] [] (by rw [h1]; rfl) h2 htx (by decide) (by decide) htag
  exact (show feedF (deepSt i) [60, 97, 62] = _ from h).trans rfl
theorem feed_deep8 : (feedF (deepSt 8) [60, 97, 62]).1.broken = 5 := by
  have h1 := feedF_ok (st := deepSt 8) (c := 60) [97, 62] (put_lt (st := deepSt 8) rfl rfl (text_none _))
  have h2 := feed_in [62] [97] { ({ deepSt 8 with wait := [] } : PS) with wait := [60], quote := 0 } 0 rfl (by decide) (by decide)
  have htag : tagL { deepSt 8 with wait := [], quote := 0 } (60 :: [97] ++ [62]) = .error 5 := by
    refine (deep_tag 8).trans ?_
    unfold beginP
    rw [if_neg (deep_root 8), if_neg (by decide), if_neg (fun h => (repB_iff _).2 h noRep_nil), if_pos (by decide)]
  have hp : putF { ({ deepSt 8 with wait := [] } : PS) with wait := [60] ++ [97], quote := 0 } 62 = .error 5 := (put_end (st := { ({ deepSt 8 with wait := [] } : PS) with wait := [60] ++ [97], quote := 0 }) (c := 62) rfl (by decide) rfl).trans htag
  have h3 := feedF_err [] hp
  have hA : feedF (deepSt 8) (60 :: [97, 62]) = ((feedF { ({ deepSt 8 with wait := [] } : PS) with wait := [60], quote := 0 } ([97] ++ [62])).1, [] ++ (feedF { ({ deepSt 8 with wait := [] } : PS) with wait := [60], quote := 0 } ([97] ++ [62])).2) := h1
  rw [hA, h2]
  show (feedF { ({ deepSt 8 with wait := [] } : PS) with wait := [60] ++ [97], quote := 0 } [62]).1.broken = 5
  rw [h3]

def Deep (i : Nat) (st : PS) : Prop := (i ≤ 8 ∧ st = deepSt i) ∨ (8 < i ∧ st.broken = 5 ∧ Inv st)
theorem Deep.inv {i : Nat} {st : PS} (h : Deep i st) : Inv st := by
  rcases h with ⟨h, rfl⟩ | h
  · exact deep_inv h
  · exact h.2.2
/-- One round. -/
theorem Deep.next {i : Nat} {st st' : PS} (h : Deep i st) (hs : Sim st' (FeedF st [60, 97, 62]).1) : Deep (i + 1) st' ∧ (i < 8 → st'.broken = 0 ∧ st'.op.length = i + 1 ∧ (FeedF st [60, 97, 62]).2.length = 1) ∧ (8 ≤ i → st'.broken = 5) := by
  have hi := hs.inv (FeedF_inv _ h.inv)
  rcases h with ⟨h8, rfl⟩ | ⟨h8, hb, _⟩
  · rw [FeedF_of (deep_wait i).2.2.2] at hs ⊢
    rcases Nat.lt_or_ge i 8 with hlt | hge
    · rw [feed_deep hlt] at hs ⊢
      obtain rfl := hs.ok (deep_wait (i + 1)).2.2.2
      exact ⟨.inl ⟨by omega, rfl⟩, fun _ => ⟨(deep_wait _).2.2.2, (deep_wait _).2.2.1, rfl⟩, fun h => by omega⟩
    · obtain rfl : i = 8 := by omega
      have hb := hs.broken.trans feed_deep8
      exact ⟨.inr ⟨by omega, hb, hi⟩, fun h => by omega, fun _ => hb⟩
  · rw [FeedF_broken (by rw [hb]; decide)] at hs
    have hb' := hs.broken.trans hb
    exact ⟨.inr ⟨by omega, hb', hi⟩, fun h => by omega, fun _ => hb'⟩
end Go.Proofs.YthflpcfpfdmaeaaDoor.Xm
