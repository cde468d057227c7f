/- What is barred, by hand. -/
import Derived.Test.YthflpcfpfdmaeaaDoorDeepM
namespace Go.Proofs.YthflpcfpfdmaeaaDoor.Xm
open Go.RowKit

/-- Letters. -/
def Small (l : List UInt8) : Prop := ∀ b ∈ l, 97 ≤ b.toNat ∧ b.toNat ≤ 122
theorem runQ_small : ∀ l : List UInt8, Small l → runQ 0 l = some 0
  | [], _ => rfl
  | b :: l, h => by
    have hb := h b (by simp)
    have e1 : ¬ b.toNat = 0 := by omega
    have e2 : ¬ (b = 39 ∨ b = 34) := by rintro (rfl | rfl) <;> simp at hb
    have e3 : ¬ b = 62 := by rintro rfl; simp at hb
    have hq : quoteL 0 b = (0, false) := by
      unfold quoteL
      rw [if_neg e1, if_neg (by decide), if_neg e2, decide_eq_false e3]
    unfold runQ
    rw [hq]
    exact runQ_small l (fun c hc => h c (by simp [hc]))
theorem chars_small {l : List UInt8} (h : Small l) : ∀ b ∈ l, b.toNat < 128 ∧ 32 ≤ b.toNat := fun b hb => by
  have := h b hb
  omega
/-- What is barred breaks the parser: m is the mark behind the angle. -/
theorem feed_barred {m : UInt8} (hm : m = 33 ∨ m = 63) {l : List UInt8} (h : Small l) (hl : l.length ≤ 100) :
    (feedF st0 ([60, 97, 62] ++ (60 :: m :: l) ++ [62])).2 = [⟨1, ⟨#[97]⟩, [], ⟨#[]⟩⟩] ∧ (feedF st0 ([60, 97, 62] ++ (60 :: m :: l) ++ [62])).1.broken = 7 := by
  have h0 : feedF (deepSt 0) (60 :: ([97] ++ 62 :: ((60 :: m :: l) ++ [62]))) = ((feedF (deepSt 1) ((60 :: m :: l) ++ [62])).1, [] ++ ([⟨1, ⟨#[97]⟩, [], ⟨#[]⟩⟩] ++ (feedF (deepSt 1) ((60 :: m :: l) ++ [62])).2)) := by
    have htag : tagL { ({ deepSt 0 with wait := [] } : PS) with wait := [], quote := 0 } (60 :: [97] ++ [62]) = .ok (deepSt 1, [⟨1, ⟨#[97]⟩, [], ⟨#[]⟩⟩]) := by
      refine (deep_tag 0).trans ?_
      exact (begin_ok (st := { deepSt 0 with wait := [], quote := 0, begun := true }) (deep_root 0) (Nat.zero_le _) noRep_nil (by decide)).trans (congrArg (fun s => Except.ok (s, _)) (deep_next 0))
    exact feed_tag (st := deepSt 0) [97] _ rfl rfl (text_none _) (by decide) (by decide) htag
  have h1 := feedF_ok (st := deepSt 1) (c := 60) (m :: l ++ [62]) (put_lt (st := deepSt 1) rfl rfl (text_none _))
  have hq : runQ 0 (m :: l) = some 0 := by
    have hqm : quoteL 0 m = (0, false) := by rcases hm with rfl | rfl <;> rfl
    unfold runQ
    rw [hqm]
    exact runQ_small l h
  have h2 := feed_in [62] (m :: l) { ({ deepSt 1 with wait := [] } : PS) with wait := [60], quote := 0 } 0 rfl (by simp; omega) hq
  have hch : charsB (60 :: (m :: l) ++ [62]) = true := charsB_plain (fun b hb => by
    simp only [List.cons_append, List.mem_cons, List.mem_append, List.mem_nil_iff, or_false] at hb
    rcases hb with rfl | rfl | hb | rfl
    · decide
    · rcases hm with rfl | rfl <;> decide
    · exact chars_small h b hb
    · decide)
  have htag : tagL { deepSt 1 with wait := [], quote := 0 } (60 :: (m :: l) ++ [62]) = .error 7 := by
    unfold tagL
    rw [if_pos hch]
    refine (if_neg (fun e => absurd (show (false && isDecl (60 :: (m :: l) ++ [62])) = true from e) (by simp))).trans ?_
    rcases hm with rfl | rfl
    · rw [if_pos (by rfl)]
    · rw [if_neg (by simp [List.isPrefixOf]), if_pos (by rfl)]
  have hp : putF { ({ deepSt 1 with wait := [] } : PS) with wait := [60] ++ (m :: l), quote := 0 } 62 = .error 7 := (put_end (st := { ({ deepSt 1 with wait := [] } : PS) with wait := [60] ++ (m :: l), quote := 0 }) (c := 62) rfl (by simp; omega) rfl).trans htag
  have h3 := feedF_err [] hp
  have hA : feedF (deepSt 1) ((60 :: m :: l) ++ [62]) = ({ ({ deepSt 1 with wait := [] } : PS) with wait := [], quote := 0, broken := 7 }, []) := by
    refine (show feedF (deepSt 1) (60 :: (m :: l ++ [62])) = _ from h1).trans ?_
    show ((feedF { ({ deepSt 1 with wait := [] } : PS) with wait := [60], quote := 0 } ((m :: l) ++ [62])).1, [] ++ (feedF { ({ deepSt 1 with wait := [] } : PS) with wait := [60], quote := 0 } ((m :: l) ++ [62])).2) = _
    rw [h2, h3]
    rfl
  rw [hA] at h0
  have h0' : feedF st0 ([60, 97, 62] ++ (60 :: m :: l) ++ [62]) = _ := h0
  rw [h0']
  exact ⟨rfl, rfl⟩
end Go.Proofs.YthflpcfpfdmaeaaDoor.Xm
