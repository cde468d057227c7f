/- What reads a tag: values, attributes. -/
import Derived.Test.YthflpcfpfdmaeaaDoorXr1
import Derived.Test.YthflpcfpfdmaeaaDoorChars
import Derived.RangeFuncRecord
namespace Go.Proofs.YthflpcfpfdmaeaaDoor.Xm
open Go.RowKit

abbrev Tabs (w : World) : Prop := Lib.Utf8Tabs 1 2 w
theorem tabs_below4 {w w' : World} {B : Nat} (hT : Tabs w) (hb : Below B w w') (hB : 4 ≤ B) : Tabs w' := by
  refine ⟨fun c hc => ?_, fun i hi => ⟨?_, ?_⟩⟩
  · rw [hb.cell (p := ⟨_, _, none⟩) (Nat.lt_of_lt_of_le (show 1 < 4 by decide) hB)]; exact hT.1 c hc
  · rw [hb.cell (p := ⟨_, _, none⟩) (Nat.lt_of_lt_of_le (show 2 < 4 by decide) hB)]; exact (hT.2 i hi).1
  · rw [hb.cell (p := ⟨_, _, none⟩) (Nat.lt_of_lt_of_le (show 2 < 4 by decide) hB)]; exact (hT.2 i hi).2
theorem Only.drewN {r : Nat} {a b : World} (h : Only r a b) (n : Nat) : Only r a (b.drewN n) := ⟨⟨h.below.os, h.below.tape, h.below.output, h.below.size, h.below.block⟩, h.size, h.block⟩
/-- The variables that are read. -/
def Env (w : World) : Prop := Tabs w ∧ EntLaid w ∧ ∃ m, w.cell? ⟨3, 0, none⟩ = some (.int .i64 m)
theorem Env.below {w w' : World} {B : Nat} (h : Env w) (hb : Below B w w') (hB : 4 ≤ B) : Env w' := by
  obtain ⟨h1, h2, m, h3⟩ := h
  exact ⟨tabs_below4 h1 hb hB, h2.below hb (Nat.lt_of_lt_of_le (by decide) hB), m, (hb.cell (p := ⟨_, 0, none⟩) (Nat.lt_of_lt_of_le (by decide) hB)).trans h3⟩

/-- A value in quotes: what it says, and what is behind it. -/
def valueIn (q : UInt8) (l : List UInt8) : Option (List UInt8 × List UInt8) :=
  match unesc (Lib.cut l [q]).1 with
  | some p => if (Lib.cut l [q]).2.2 = true then some (p, (Lib.cut l [q]).2.1) else none
  | none => none
def valueL (l : List UInt8) : Option (List UInt8 × List UInt8) :=
  if (mayL [39] l).2 = true then valueIn 39 (mayL [39] l).1 else if (mayL [34] l).2 = true then valueIn 34 (mayL [34] l).1 else none

theorem mayL_no {p l : List UInt8} (h : (mayL p l).2 = false) : (mayL p l).1 = l := by
  unfold mayL at h ⊢
  split
  · rename_i h1
    simp [h1] at h
  · rfl
theorem mayL_len (p l : List UInt8) : (mayL p l).1.length ≤ l.length := by
  unfold mayL
  split
  · simp
  · exact Nat.le_refl _
theorem arr_list (l : List UInt8) : (⟨l.toArray⟩ : ByteArray).data.toList = l := rfl
theorem size_lst (s : ByteArray) : s.size = s.data.toList.length := Array.length_toList.symm
theorem cut_len (l : List UInt8) (q : UInt8) : (Lib.cut l [q]).1.length ≤ l.length := by
  unfold Lib.cut
  split
  · simp; omega
  · exact Nat.le_refl _

set_option maxRecDepth 100000 in
set_option maxHeartbeats 2000000 in
theorem value_any (r : Nat) (s : ByteArray) (w : World) (hR : IsR r s w) (hs : s.size ≤ 100000) (hE : Env w) (h4 : 4 ≤ r) :
    Calls Tryd.prog 74 #[.pointer (some ⟨r, 0, none⟩)] w fun e w' => ((valueL s.data.toList = none ∧ e = stopE 6) ∨ (∃ p after, valueL s.data.toList = some (p, after) ∧ e = .returned (.string ⟨p.toArray⟩) ∧ IsR r ⟨after.toArray⟩ w')) ∧ Only r w w' := by
  have hrl : r < w.heap.size := (Array.getElem?_eq_some_iff.1 hR).1
  -- what follows the quote
  have hmay := may_any r s ⟨#[39]⟩ w hR (by omega) (by show 1 ≤ _; omega)
  rw [show (⟨#[39]⟩ : ByteArray).data.toList = [39] from rfl] at hmay
  have HE := hide hE
  clear hE hR
  cases hb : (mayL [39] s.data.toList).2 with
  | true =>
    rw [hb] at hmay
    have HM := hide hmay
    clear hmay
    have hv : valueL s.data.toList = valueIn 39 (mayL [39] s.data.toList).1 := by unfold valueL; rw [if_pos hb]
    have hle := mayL_len [39] s.data.toList
    rw [← size_lst] at hle
    obtain ⟨rest, hrest⟩ : ∃ rest, (mayL [39] s.data.toList).1 = rest := ⟨_, rfl⟩
    rw [hrest] at hv HM hle
    have HV := hide hv
    clear hv hb hrest
    go_enter Tryd.func74, Tryd.ntmps74
    go_wp2_with fail
    refine HM.out.mono ?_
    rintro e w1 ⟨rfl, s1, hs1, hR1, hO1⟩
    obtain ⟨c1, c2⟩ := hR1.cell
    have hE1 := HE.out.below hO1.below h4
    obtain ⟨m, hm⟩ := hE1.2.2
    have hss : s1.size ≤ 100000 := by rw [size_lst, hs1]; omega
    have hcut := stringsCut s1 ⟨#[39]⟩ m w1 (by omega) hm
    rw [hs1, show (⟨#[39]⟩ : ByteArray).data.toList = [39] from rfl] at hcut
    have HC := hide (And.intro hcut (And.intro hR1 (And.intro hO1 hE1)))
    clear hcut hR1 hO1 hE1 hm HM
    go_wp2_with fail
    refine HC.out.1.mono ?_
    rintro e w2 ⟨rfl, nd, hw2⟩
    subst hw2
    have hul := cut_len rest 39
    have hue := unescape_any ⟨(Lib.cut rest [39]).1.toArray⟩ (w1.drewN nd) (by rw [size_lst, arr_list]; omega) (by exact HC.out.2.2.2.2.1) _ (by exact (Classical.choose_spec HC.out.2.2.2.2.2))
    rw [arr_list] at hue
    obtain ⟨cs, hcs⟩ : ∃ cs, (Lib.cut rest [39]).1 = cs := ⟨_, rfl⟩
    obtain ⟨ca, hca⟩ : ∃ ca, (Lib.cut rest [39]).2.1 = ca := ⟨_, rfl⟩
    obtain ⟨cb, hcb⟩ : ∃ cb, (Lib.cut rest [39]).2.2 = cb := ⟨_, rfl⟩
    have hvi : valueIn 39 rest = match unesc cs with | some p => if cb = true then some (p, ca) else none | none => none := by unfold valueIn; rw [hcs, hca, hcb]
    rw [hcs] at hue hul ⊢
    rw [hca, hcb]
    have HVI := hide hvi
    have HU := hide (And.intro hue (And.intro HC.out.2.1 (HC.out.2.2.1.drewN nd)))
    clear hue hvi hcs hca hcb HC
    go_wp2_with fail
    refine HU.out.1.mono ?_
    rintro e w3 ⟨⟨p, hp, rfl⟩ | ⟨hp, rfl⟩, hb3⟩
    · have hR3 : IsR r s1 w3 := (hb3.block r (by have := (Array.getElem?_eq_some_iff.1 HU.out.2.1).1; simpa using this)).trans HU.out.2.1
      have hO3 := HU.out.2.2.trans (Only.of_below hb3 (by have := (Array.getElem?_eq_some_iff.1 HU.out.2.1).1; simp; omega))
      obtain ⟨c3, c4⟩ := hR3.cell
      have H3 := hide (And.intro hR3 hO3)
      clear hR3 hO3 hb3 c1 c2
      cases cb with
      | true =>
        go_wp2_with fail
        go_ret
        exact ⟨.inr ⟨p, ca, (HV.out.trans HVI.out).trans (by rw [hp]; rfl), rfl, H3.out.1.set _⟩, H3.out.2.set _⟩
      | false =>
        go_wp2_with fail
        refine (giveUp_any 6 w3).mono ?_
        rintro e w4 ⟨rfl, hw⟩
        subst hw
        exact ⟨rfl, .inl ⟨(HV.out.trans HVI.out).trans (by rw [hp]; rfl), rfl⟩, H3.out.2⟩
    · have hO3 := HU.out.2.2.trans (Only.of_below hb3 (by have := (Array.getElem?_eq_some_iff.1 HU.out.2.1).1; simp; omega))
      have H3 := hide hO3
      clear hO3 hb3 c1 c2
      cases cb with
      | true =>
        go_wp2_with fail
        refine (giveUp_any 6 w3).mono ?_
        rintro e w4 ⟨rfl, hw⟩
        subst hw
        exact ⟨rfl, .inl ⟨(HV.out.trans HVI.out).trans (by rw [hp]), rfl⟩, H3.out⟩
      | false =>
        go_wp2_with fail
        refine (giveUp_any 6 w3).mono ?_
        rintro e w4 ⟨rfl, hw⟩
        subst hw
        exact ⟨rfl, .inl ⟨(HV.out.trans HVI.out).trans (by rw [hp]), rfl⟩, H3.out⟩
  | false =>
    rw [hb] at hmay
    have hno := mayL_no hb
    rw [hno] at hmay
    have HM := hide hmay
    clear hmay
    cases hb2 : (mayL [34] s.data.toList).2 with
    | false =>
      have hv : valueL s.data.toList = none := by unfold valueL; rw [if_neg (by simp [hb]), if_neg (by simp [hb2])]
      have HV := hide hv
      have HB2 := hide hb2
      clear hb hno hv hb2
      go_enter Tryd.func74, Tryd.ntmps74
      go_wp2_with fail
      refine HM.out.mono ?_
      rintro e w1 ⟨rfl, s1, hs1, hR1, hO1⟩
      have hmu := must_any r s1 ⟨#[34]⟩ w1 hR1 (by rw [size_lst, hs1, ← size_lst]; omega) (by show 1 ≤ _; omega)
      rw [show (⟨#[34]⟩ : ByteArray).data.toList = [34] from rfl, hs1] at hmu
      have HMU := hide (And.intro hmu hO1)
      clear hmu hO1
      go_wp2_with fail
      refine HMU.out.1.mono ?_
      rintro e w2 ⟨⟨h, _⟩ | ⟨_, rfl⟩, s2, _, _, hO2⟩
      · rw [HB2.out] at h
        cases h
      · exact ⟨rfl, .inl ⟨HV.out, rfl⟩, HMU.out.2.trans hO2⟩
    | true =>
    have hv : valueL s.data.toList = valueIn 34 (mayL [34] s.data.toList).1 := by unfold valueL; rw [if_neg (by simp [hb]), if_pos hb2]
    have hle := mayL_len [34] s.data.toList
    rw [← size_lst] at hle
    have HB2 := hide hb2
    clear hb hno hb2
    obtain ⟨rest, hrest⟩ : ∃ rest, (mayL [34] s.data.toList).1 = rest := ⟨_, rfl⟩
    rw [hrest] at hle hv
    have HV := hide (And.intro hv hrest)
    clear hv hrest
    go_enter Tryd.func74, Tryd.ntmps74
    go_wp2_with fail
    refine HM.out.mono ?_
    rintro e w0 ⟨rfl, s0, hs0, hR0, hO0⟩
    have hmu := must_any r s0 ⟨#[34]⟩ w0 hR0 (by rw [size_lst, hs0, ← size_lst]; omega) (by show 1 ≤ _; omega)
    rw [show (⟨#[34]⟩ : ByteArray).data.toList = [34] from rfl, hs0, HV.out.2] at hmu
    have HMU := hide (And.intro hmu hO0)
    clear hmu hO0 hs0 hR0
    go_wp2_with fail
    refine HMU.out.1.mono ?_
    rintro e w1 ⟨⟨_, rfl⟩ | ⟨h, _⟩, s1, hs1, hR1, hO1'⟩
    case inr =>
      rw [HB2.out] at h
      cases h
    have hO1 := HMU.out.2.trans hO1'
    obtain ⟨c1, c2⟩ := hR1.cell
    have hE1 := HE.out.below hO1.below h4
    obtain ⟨m, hm⟩ := hE1.2.2
    have hss : s1.size ≤ 100000 := by rw [size_lst, hs1]; omega
    have hcut := stringsCut s1 ⟨#[34]⟩ m w1 (by omega) hm
    rw [hs1, show (⟨#[34]⟩ : ByteArray).data.toList = [34] from rfl] at hcut
    have HC := hide (And.intro hcut (And.intro hR1 (And.intro hO1 hE1)))
    clear hcut hR1 hO1 hE1 hm HM hO1' HMU
    go_wp2_with fail
    refine HC.out.1.mono ?_
    rintro e w2 ⟨rfl, nd, hw2⟩
    subst hw2
    have hul := cut_len rest 34
    have hue := unescape_any ⟨(Lib.cut rest [34]).1.toArray⟩ (w1.drewN nd) (by rw [size_lst, arr_list]; omega) (by exact HC.out.2.2.2.2.1) _ (by exact (Classical.choose_spec HC.out.2.2.2.2.2))
    rw [arr_list] at hue
    obtain ⟨cs, hcs⟩ : ∃ cs, (Lib.cut rest [34]).1 = cs := ⟨_, rfl⟩
    obtain ⟨ca, hca⟩ : ∃ ca, (Lib.cut rest [34]).2.1 = ca := ⟨_, rfl⟩
    obtain ⟨cb, hcb⟩ : ∃ cb, (Lib.cut rest [34]).2.2 = cb := ⟨_, rfl⟩
    have hvi : valueIn 34 rest = match unesc cs with | some p => if cb = true then some (p, ca) else none | none => none := by unfold valueIn; rw [hcs, hca, hcb]
    rw [hcs] at hue hul ⊢
    rw [hca, hcb]
    have HVI := hide hvi
    have HU := hide (And.intro hue (And.intro HC.out.2.1 (HC.out.2.2.1.drewN nd)))
    clear hue hvi hcs hca hcb HC
    go_wp2_with fail
    refine HU.out.1.mono ?_
    rintro e w3 ⟨⟨p, hp, rfl⟩ | ⟨hp, rfl⟩, hb3⟩
    · have hR3 : IsR r s1 w3 := (hb3.block r (by have := (Array.getElem?_eq_some_iff.1 HU.out.2.1).1; simpa using this)).trans HU.out.2.1
      have hO3 := HU.out.2.2.trans (Only.of_below hb3 (by have := (Array.getElem?_eq_some_iff.1 HU.out.2.1).1; simp; omega))
      obtain ⟨c3, c4⟩ := hR3.cell
      have H3 := hide (And.intro hR3 hO3)
      clear hR3 hO3 hb3 c1 c2
      cases cb with
      | true =>
        go_wp2_with fail
        go_ret
        exact ⟨.inr ⟨p, ca, (HV.out.1.trans HVI.out).trans (by rw [hp]; rfl), rfl, H3.out.1.set _⟩, H3.out.2.set _⟩
      | false =>
        go_wp2_with fail
        refine (giveUp_any 6 w3).mono ?_
        rintro e w4 ⟨rfl, hw⟩
        subst hw
        exact ⟨rfl, .inl ⟨(HV.out.1.trans HVI.out).trans (by rw [hp]; rfl), rfl⟩, H3.out.2⟩
    · have hO3 := HU.out.2.2.trans (Only.of_below hb3 (by have := (Array.getElem?_eq_some_iff.1 HU.out.2.1).1; simp; omega))
      have H3 := hide hO3
      clear hO3 hb3 c1 c2
      cases cb with
      | true =>
        go_wp2_with fail
        refine (giveUp_any 6 w3).mono ?_
        rintro e w4 ⟨rfl, hw⟩
        subst hw
        exact ⟨rfl, .inl ⟨(HV.out.1.trans HVI.out).trans (by rw [hp]), rfl⟩, H3.out⟩
      | false =>
        go_wp2_with fail
        refine (giveUp_any 6 w3).mono ?_
        rintro e w4 ⟨rfl, hw⟩
        subst hw
        exact ⟨rfl, .inl ⟨(HV.out.1.trans HVI.out).trans (by rw [hp]), rfl⟩, H3.out⟩
end Go.Proofs.YthflpcfpfdmaeaaDoor.Xm
