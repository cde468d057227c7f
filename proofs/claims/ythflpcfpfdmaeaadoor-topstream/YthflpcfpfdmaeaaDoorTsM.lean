/- A stream: what its pieces do. -/
import Derived.Test.YthflpcfpfdmaeaaDoorEmpM
namespace Go.Proofs.YthflpcfpfdmaeaaDoor.Xm
open Go.RowKit

def strB : List UInt8 := [115, 116, 114, 101, 97, 109]
theorem strSmall : Small strB := by
  intro b hb
  simp only [strB, List.mem_cons, List.not_mem_nil, or_false] at hb
  rcases hb with rfl | rfl | rfl | rfl | rfl | rfl <;> decide
def sOpen : PS := ⟨[], 0, [⟨strB.toArray⟩], true, true, 0⟩
def sShut : PS := ⟨[], 0, [], true, true, 0⟩
theorem plain_end {t : List UInt8} (ht : t = [62] ∨ t = [47, 62]) : ∀ b ∈ t, plainB b := by
  intro b hb
  rcases ht with rfl | rfl
  · rw [List.mem_singleton.1 hb]; exact ⟨by decide, .inl (by decide)⟩
  · simp at hb; rcases hb with rfl | rfl <;> exact ⟨by decide, .inl (by decide)⟩
theorem feed_open : feedF st0 [60, 115, 116, 114, 101, 97, 109, 62] = (sOpen, [⟨1, ⟨strB.toArray⟩, [], ⟨#[]⟩⟩]) := by
  have htag : tagL { st0 with wait := [], quote := 0 } (60 :: strB ++ [62]) = .ok (sOpen, [⟨1, ⟨strB.toArray⟩, [], ⟨#[]⟩⟩]) := by
    have hh := small_head (t := [] ++ [62]) strSmall (by decide)
    have hs : 60 :: strB ++ [62] = 60 :: (strB ++ ([] ++ [62])) := rfl
    rw [hs, tag_begin (nm := strB) (al := []) (ends := false) ((charsB_iff _).2 (chars_plain2 _ (bytes_plain strSmall (g := []) (fun b hb => by cases hb) (plain_end (.inl rfl))))) (by rw [hh.2.2.2, Bool.and_false]) hh.1 hh.2.1 hh.2.2.1 (beginL_gap strSmall (by decide) (by decide) (fun b hb => by cases hb)).2]
    exact begin_ok (by intro h; cases h.2) (by simp [toB]) noRep_nil (by decide)
  have h := feed_tag (st := st0) strB [] rfl rfl (text_none _) (by decide) (runQ_quiet _ (fun b hb => small_quiet (strSmall b hb))) htag
  exact (show feedF st0 [60, 115, 116, 114, 101, 97, 109, 62] = _ from h).trans rfl
theorem feed_emp (c : UInt8) (hc : 97 ≤ c.toNat ∧ c.toNat ≤ 122) : feedF sOpen [60, c, 47, 62] = (sOpen, empTok [c]) := by
  have hsm : Small [c] := fun b hb => by rw [List.mem_singleton.1 hb]; exact hc
  have htag : tagL { sOpen with wait := [], quote := 0 } (60 :: [c, 47] ++ [62]) = .ok (sOpen, empTok [c]) := by
    have hh := small_head (t := [] ++ [47, 62]) hsm (by simp)
    have hs : 60 :: [c, 47] ++ [62] = 60 :: ([c] ++ ([] ++ [47, 62])) := rfl
    rw [hs, tag_begin (nm := [c]) (al := []) (ends := true) ((charsB_iff _).2 (chars_plain2 _ (bytes_plain hsm (g := []) (fun b hb => by cases hb) (plain_end (.inr rfl))))) (by rw [hh.2.2.2, Bool.and_false]) hh.1 hh.2.1 hh.2.2.1 (beginL_gap hsm (by simp) (by simp) (fun b hb => by cases hb)).1]
    exact begin_both (by intro h; cases h.1) (by decide)
  have h := feed_tag (st := sOpen) [c, 47] [] rfl rfl (text_none _) (by simp) (runQ_quiet _ (fun b hb => by
    simp at hb
    rcases hb with rfl | rfl
    · exact small_quiet hc
    · exact ⟨by decide, by decide, by decide, by decide⟩)) htag
  exact (show feedF sOpen [60, c, 47, 62] = _ from h).trans (by simp [feedF])
theorem feed_close : feedF sOpen [60, 47, 115, 116, 114, 101, 97, 109, 62] = (sShut, [⟨2, ⟨strB.toArray⟩, [], ⟨#[]⟩⟩]) := by
  have htag : tagL { sOpen with wait := [], quote := 0 } (60 :: (47 :: strB) ++ [62]) = .ok (sShut, [⟨2, ⟨strB.toArray⟩, [], ⟨#[]⟩⟩]) := by
    have hs : 60 :: (47 :: strB) ++ [62] = 60 :: 47 :: (strB ++ ([] ++ [62])) := rfl
    have hpl : ∀ b ∈ 60 :: 47 :: (strB ++ ([] ++ [62])), plainB b := by
      intro b hb
      rcases List.mem_cons.1 hb with rfl | hb
      · exact ⟨by decide, .inl (by decide)⟩
      · rcases List.mem_cons.1 hb with rfl | hb
        · exact ⟨by decide, .inl (by decide)⟩
        · exact bytes_plain strSmall (g := []) (fun b hb => by cases hb) (plain_end (.inl rfl)) b (List.mem_cons_of_mem _ hb)
    rw [hs, tag_end (nm := strB) ((charsB_iff _).2 (chars_plain2 _ hpl)) rfl (by simp [List.isPrefixOf]) (by simp [List.isPrefixOf]) (by simp [List.isPrefixOf]) (endL_gap strSmall (by decide) (by decide) (fun b hb => by cases hb))]
    exact end_ok rfl
  have h := feed_tag (st := sOpen) (47 :: strB) [] rfl rfl (text_none _) (by decide) (runQ_quiet _ (fun b hb => by
    rcases List.mem_cons.1 hb with rfl | hb
    · exact ⟨by decide, by decide, by decide, by decide⟩
    · exact small_quiet (strSmall b hb))) htag
  exact (show feedF sOpen [60, 47, 115, 116, 114, 101, 97, 109, 62] = _ from h).trans rfl
theorem feed_err : (feedF sShut [60, 97, 62]).1.broken = 6 := by
  have hsm : Small [97] := fun b hb => by rw [List.mem_singleton.1 hb]; decide
  have hp : putF { sShut with wait := [60] ++ [97], quote := 0 } 62 = .error 6 := by
    rw [put_end (st := { sShut with wait := [60] ++ [97], quote := 0 }) (c := 62) rfl (by decide) rfl]
    have hh := small_head (t := [] ++ [62]) hsm (by decide)
    show tagL { sShut with wait := [], quote := 0 } (60 :: ([97] ++ ([] ++ [62]))) = _
    rw [tag_begin (nm := [97]) (al := []) (ends := false) ((charsB_iff _).2 (chars_plain2 _ (bytes_plain hsm (g := []) (fun b hb => by cases hb) (plain_end (.inl rfl))))) (by rw [hh.2.2.2, Bool.and_false]) hh.1 hh.2.1 hh.2.2.1 (beginL_gap hsm (by decide) (by decide) (fun b hb => by cases hb)).2]
    unfold beginP
    rw [if_pos ⟨rfl, rfl⟩]
  have h1 := feedF_ok (st := sShut) [97, 62] (put_lt (st := sShut) rfl rfl (text_none _))
  have h2 : feedF { sShut with wait := [60], quote := 0 } ([97] ++ [62]) = feedF { sShut with wait := [60] ++ [97], quote := 0 } [62] := feed_in [62] [97] { sShut with wait := [60], quote := 0 } 0 rfl (by decide) rfl
  have h3 : feedF { sShut with wait := [60] ++ [97], quote := 0 } [62] = ({ sShut with wait := [], quote := 0, broken := 6 }, []) := by
    simp only [feedF]
    rw [hp]
  have h4 : (feedF sShut [60, 97, 62]).1 = (feedF { sShut with wait := [60], quote := 0 } ([97] ++ [62])).1 := congrArg Prod.fst h1
  rw [h4, h2, h3]
end Go.Proofs.YthflpcfpfdmaeaaDoor.Xm
