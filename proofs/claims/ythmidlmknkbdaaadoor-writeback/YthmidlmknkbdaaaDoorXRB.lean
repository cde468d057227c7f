/- What reads a tag: values, attributes. What reads a tag: an attribute, an ending. -/
import Derived.Test.YthmidlmknkbdaaaDoorXRA
import Derived.Test.YthmidlmknkbdaaaDoorChars
import Derived.RangeFuncRecord
namespace Go.Proofs.YthmidlmknkbdaaaDoor.Xm
open Go.RowKit

abbrev Tabs (w : World) : Prop := Lib.Utf8Tabs 1 2 w
theorem tabs_below4 {w w' : World} {B : Nat} (hT : Tabs w) (hb : Below B w w') (hB : 4 ≤ B) : Tabs w' := by
  refine ⟨fun c hc => ?_, fun i hi => ⟨?_, ?_⟩⟩
  · rw [hb.cell (p := ⟨_, _, none⟩) (Nat.lt_of_lt_of_le (show 1 < 4 by decide) hB)]; exact hT.1 c hc
  · rw [hb.cell (p := ⟨_, _, none⟩) (Nat.lt_of_lt_of_le (show 2 < 4 by decide) hB)]; exact (hT.2 i hi).1
  · rw [hb.cell (p := ⟨_, _, none⟩) (Nat.lt_of_lt_of_le (show 2 < 4 by decide) hB)]; exact (hT.2 i hi).2
theorem Only.drewN {r : Nat} {a b : World} (h : Only r a b) (n : Nat) : Only r a (b.drewN n) := ⟨⟨h.below.os, h.below.tape, h.below.output, h.below.size, h.below.block⟩, h.size, h.block⟩
/-- The variables that are read. -/
def Env (w : World) : Prop := Tabs w ∧ EntLaid w ∧ ∃ m, w.cell? ⟨3, 0, none⟩ = some (.int .i64 m)
theorem Env.below {w w' : World} {B : Nat} (h : Env w) (hb : Below B w w') (hB : 4 ≤ B) : Env w' := by
  obtain ⟨h1, h2, m, h3⟩ := h
  exact ⟨tabs_below4 h1 hb hB, h2.below hb (Nat.lt_of_lt_of_le (by decide) hB), m, (hb.cell (p := ⟨_, 0, none⟩) (Nat.lt_of_lt_of_le (by decide) hB)).trans h3⟩

/-- A value in quotes: what it says, and what is behind it. -/
def valueIn (q : UInt8) (l : List UInt8) : Option (List UInt8 × List UInt8) :=
  match unesc (Lib.cut l [q]).1 with
  | some p => if (Lib.cut l [q]).2.2 = true then some (p, (Lib.cut l [q]).2.1) else none
  | none => none
def valueL (l : List UInt8) : Option (List UInt8 × List UInt8) :=
  if (mayL [39] l).2 = true then valueIn 39 (mayL [39] l).1 else if (mayL [34] l).2 = true then valueIn 34 (mayL [34] l).1 else none

theorem mayL_no {p l : List UInt8} (h : (mayL p l).2 = false) : (mayL p l).1 = l := by
  unfold mayL at h ⊢
  split
  · rename_i h1
    simp [h1] at h
  · rfl
theorem mayL_len (p l : List UInt8) : (mayL p l).1.length ≤ l.length := by
  unfold mayL
  split
  · simp
  · exact Nat.le_refl _
theorem arr_list (l : List UInt8) : (⟨l.toArray⟩ : ByteArray).data.toList = l := rfl
theorem size_lst (s : ByteArray) : s.size = s.data.toList.length := Array.length_toList.symm
theorem cut_len (l : List UInt8) (q : UInt8) : (Lib.cut l [q]).1.length ≤ l.length := by
  unfold Lib.cut
  split
  · simp; omega
  · exact Nat.le_refl _

set_option maxRecDepth 100000 in
set_option maxHeartbeats 2000000 in
theorem value_any (r : Nat) (s : ByteArray) (w : World) (hR : IsR r s w) (hs : s.size ≤ 100000) (hE : Env w) (h4 : 4 ≤ r) :
    Calls Tryd.prog 112 #[.pointer (some ⟨r, 0, none⟩)] w fun e w' => ((valueL s.data.toList = none ∧ e = stopE 6) ∨ (∃ p after, valueL s.data.toList = some (p, after) ∧ e = .returned (.string ⟨p.toArray⟩) ∧ IsR r ⟨after.toArray⟩ w')) ∧ Only r w w' := by
  have hrl : r < w.heap.size := (Array.getElem?_eq_some_iff.1 hR).1
  -- what follows the quote
  have hmay := may_any r s ⟨#[39]⟩ w hR (by omega) (by show 1 ≤ _; omega)
  rw [show (⟨#[39]⟩ : ByteArray).data.toList = [39] from rfl] at hmay
  have HE := hide hE
  clear hE hR
  cases hb : (mayL [39] s.data.toList).2 with
  | true =>
    rw [hb] at hmay
    have HM := hide hmay
    clear hmay
    have hv : valueL s.data.toList = valueIn 39 (mayL [39] s.data.toList).1 := by unfold valueL; rw [if_pos hb]
    have hle := mayL_len [39] s.data.toList
    rw [← size_lst] at hle
    obtain ⟨rest, hrest⟩ : ∃ rest, (mayL [39] s.data.toList).1 = rest := ⟨_, rfl⟩
    rw [hrest] at hv HM hle
    have HV := hide hv
    clear hv hb hrest
    go_enter Tryd.func112, Tryd.ntmps112
    go_wp2_with fail
    refine HM.out.mono ?_
    rintro e w1 ⟨rfl, s1, hs1, hR1, hO1⟩
    obtain ⟨c1, c2⟩ := hR1.cell
    have hE1 := HE.out.below hO1.below h4
    obtain ⟨m, hm⟩ := hE1.2.2
    have hss : s1.size ≤ 100000 := by rw [size_lst, hs1]; omega
    have hcut := stringsCut s1 ⟨#[39]⟩ m w1 (by omega) hm
    rw [hs1, show (⟨#[39]⟩ : ByteArray).data.toList = [39] from rfl] at hcut
    have HC := hide (And.intro hcut (And.intro hR1 (And.intro hO1 hE1)))
    clear hcut hR1 hO1 hE1 hm HM
    go_wp2_with fail
    refine HC.out.1.mono ?_
    rintro e w2 ⟨rfl, nd, hw2⟩
    subst hw2
    have hul := cut_len rest 39
    have hue := unescape_any ⟨(Lib.cut rest [39]).1.toArray⟩ (w1.drewN nd) (by rw [size_lst, arr_list]; omega) (by exact HC.out.2.2.2.2.1) _ (by exact (Classical.choose_spec HC.out.2.2.2.2.2))
    rw [arr_list] at hue
    obtain ⟨cs, hcs⟩ : ∃ cs, (Lib.cut rest [39]).1 = cs := ⟨_, rfl⟩
    obtain ⟨ca, hca⟩ : ∃ ca, (Lib.cut rest [39]).2.1 = ca := ⟨_, rfl⟩
    obtain ⟨cb, hcb⟩ : ∃ cb, (Lib.cut rest [39]).2.2 = cb := ⟨_, rfl⟩
    have hvi : valueIn 39 rest = match unesc cs with | some p => if cb = true then some (p, ca) else none | none => none := by unfold valueIn; rw [hcs, hca, hcb]
    rw [hcs] at hue hul ⊢
    rw [hca, hcb]
    have HVI := hide hvi
    have HU := hide (And.intro hue (And.intro HC.out.2.1 (HC.out.2.2.1.drewN nd)))
    clear hue hvi hcs hca hcb HC
    go_wp2_with fail
    refine HU.out.1.mono ?_
    rintro e w3 ⟨⟨p, hp, rfl⟩ | ⟨hp, rfl⟩, hb3⟩
    · have hR3 : IsR r s1 w3 := (hb3.block r (by have := (Array.getElem?_eq_some_iff.1 HU.out.2.1).1; simpa using this)).trans HU.out.2.1
      have hO3 := HU.out.2.2.trans (Only.of_below hb3 (by have := (Array.getElem?_eq_some_iff.1 HU.out.2.1).1; simp; omega))
      obtain ⟨c3, c4⟩ := hR3.cell
      have H3 := hide (And.intro hR3 hO3)
      clear hR3 hO3 hb3 c1 c2
      cases cb with
      | true =>
        go_wp2_with fail
        go_ret
        exact ⟨.inr ⟨p, ca, (HV.out.trans HVI.out).trans (by rw [hp]; rfl), rfl, H3.out.1.set _⟩, H3.out.2.set _⟩
      | false =>
        go_wp2_with fail
        refine (giveUp_any 6 w3).mono ?_
        rintro e w4 ⟨rfl, hw⟩
        subst hw
        exact ⟨rfl, .inl ⟨(HV.out.trans HVI.out).trans (by rw [hp]; rfl), rfl⟩, H3.out.2⟩
    · have hO3 := HU.out.2.2.trans (Only.of_below hb3 (by have := (Array.getElem?_eq_some_iff.1 HU.out.2.1).1; simp; omega))
      have H3 := hide hO3
      clear hO3 hb3 c1 c2
      cases cb with
      | true =>
        go_wp2_with fail
        refine (giveUp_any 6 w3).mono ?_
        rintro e w4 ⟨rfl, hw⟩
        subst hw
        exact ⟨rfl, .inl ⟨(HV.out.trans HVI.out).trans (by rw [hp]), rfl⟩, H3.out⟩
      | false =>
        go_wp2_with fail
        refine (giveUp_any 6 w3).mono ?_
        rintro e w4 ⟨rfl, hw⟩
        subst hw
        exact ⟨rfl, .inl ⟨(HV.out.trans HVI.out).trans (by rw [hp]), rfl⟩, H3.out⟩
  | false =>
    rw [hb] at hmay
    have hno := mayL_no hb
    rw [hno] at hmay
    have HM := hide hmay
    clear hmay
    cases hb2 : (mayL [34] s.data.toList).2 with
    | false =>
      have hv : valueL s.data.toList = none := by unfold valueL; rw [if_neg (by simp [hb]), if_neg (by simp [hb2])]
      have HV := hide hv
      have HB2 := hide hb2
      clear hb hno hv hb2
      go_enter Tryd.func112, Tryd.ntmps112
      go_wp2_with fail
      refine HM.out.mono ?_
      rintro e w1 ⟨rfl, s1, hs1, hR1, hO1⟩
      have hmu := must_any r s1 ⟨#[34]⟩ w1 hR1 (by rw [size_lst, hs1, ← size_lst]; omega) (by show 1 ≤ _; omega)
      rw [show (⟨#[34]⟩ : ByteArray).data.toList = [34] from rfl, hs1] at hmu
      have HMU := hide (And.intro hmu hO1)
      clear hmu hO1
      go_wp2_with fail
      refine HMU.out.1.mono ?_
      rintro e w2 ⟨⟨h, _⟩ | ⟨_, rfl⟩, s2, _, _, hO2⟩
      · rw [HB2.out] at h
        cases h
      · exact ⟨rfl, .inl ⟨HV.out, rfl⟩, HMU.out.2.trans hO2⟩
    | true =>
    have hv : valueL s.data.toList = valueIn 34 (mayL [34] s.data.toList).1 := by unfold valueL; rw [if_neg (by simp [hb]), if_pos hb2]
    have hle := mayL_len [34] s.data.toList
    rw [← size_lst] at hle
    have HB2 := hide hb2
    clear hb hno hb2
    obtain ⟨rest, hrest⟩ : ∃ rest, (mayL [34] s.data.toList).1 = rest := ⟨_, rfl⟩
    rw [hrest] at hle hv
    have HV := hide (And.intro hv hrest)
    clear hv hrest
    go_enter Tryd.func112, Tryd.ntmps112
    go_wp2_with fail
    refine HM.out.mono ?_
    rintro e w0 ⟨rfl, s0, hs0, hR0, hO0⟩
    have hmu := must_any r s0 ⟨#[34]⟩ w0 hR0 (by rw [size_lst, hs0, ← size_lst]; omega) (by show 1 ≤ _; omega)
    rw [show (⟨#[34]⟩ : ByteArray).data.toList = [34] from rfl, hs0, HV.out.2] at hmu
    have HMU := hide (And.intro hmu hO0)
    clear hmu hO0 hs0 hR0
    go_wp2_with fail
    refine HMU.out.1.mono ?_
    rintro e w1 ⟨⟨_, rfl⟩ | ⟨h, _⟩, s1, hs1, hR1, hO1'⟩
    case inr =>
      rw [HB2.out] at h
      cases h
    have hO1 := HMU.out.2.trans hO1'
    obtain ⟨c1, c2⟩ := hR1.cell
    have hE1 := HE.out.below hO1.below h4
    obtain ⟨m, hm⟩ := hE1.2.2
    have hss : s1.size ≤ 100000 := by rw [size_lst, hs1]; omega
    have hcut := stringsCut s1 ⟨#[34]⟩ m w1 (by omega) hm
    rw [hs1, show (⟨#[34]⟩ : ByteArray).data.toList = [34] from rfl] at hcut
    have HC := hide (And.intro hcut (And.intro hR1 (And.intro hO1 hE1)))
    clear hcut hR1 hO1 hE1 hm HM hO1' HMU
    go_wp2_with fail
    refine HC.out.1.mono ?_
    rintro e w2 ⟨rfl, nd, hw2⟩
    subst hw2
    have hul := cut_len rest 34
    have hue := unescape_any ⟨(Lib.cut rest [34]).1.toArray⟩ (w1.drewN nd) (by rw [size_lst, arr_list]; omega) (by exact HC.out.2.2.2.2.1) _ (by exact (Classical.choose_spec HC.out.2.2.2.2.2))
    rw [arr_list] at hue
    obtain ⟨cs, hcs⟩ : ∃ cs, (Lib.cut rest [34]).1 = cs := ⟨_, rfl⟩
    obtain ⟨ca, hca⟩ : ∃ ca, (Lib.cut rest [34]).2.1 = ca := ⟨_, rfl⟩
    obtain ⟨cb, hcb⟩ : ∃ cb, (Lib.cut rest [34]).2.2 = cb := ⟨_, rfl⟩
    have hvi : valueIn 34 rest = match unesc cs with | some p => if cb = true then some (p, ca) else none | none => none := by unfold valueIn; rw [hcs, hca, hcb]
    rw [hcs] at hue hul ⊢
    rw [hca, hcb]
    have HVI := hide hvi
    have HU := hide (And.intro hue (And.intro HC.out.2.1 (HC.out.2.2.1.drewN nd)))
    clear hue hvi hcs hca hcb HC
    go_wp2_with fail
    refine HU.out.1.mono ?_
    rintro e w3 ⟨⟨p, hp, rfl⟩ | ⟨hp, rfl⟩, hb3⟩
    · have hR3 : IsR r s1 w3 := (hb3.block r (by have := (Array.getElem?_eq_some_iff.1 HU.out.2.1).1; simpa using this)).trans HU.out.2.1
      have hO3 := HU.out.2.2.trans (Only.of_below hb3 (by have := (Array.getElem?_eq_some_iff.1 HU.out.2.1).1; simp; omega))
      obtain ⟨c3, c4⟩ := hR3.cell
      have H3 := hide (And.intro hR3 hO3)
      clear hR3 hO3 hb3 c1 c2
      cases cb with
      | true =>
        go_wp2_with fail
        go_ret
        exact ⟨.inr ⟨p, ca, (HV.out.1.trans HVI.out).trans (by rw [hp]; rfl), rfl, H3.out.1.set _⟩, H3.out.2.set _⟩
      | false =>
        go_wp2_with fail
        refine (giveUp_any 6 w3).mono ?_
        rintro e w4 ⟨rfl, hw⟩
        subst hw
        exact ⟨rfl, .inl ⟨(HV.out.1.trans HVI.out).trans (by rw [hp]; rfl), rfl⟩, H3.out.2⟩
    · have hO3 := HU.out.2.2.trans (Only.of_below hb3 (by have := (Array.getElem?_eq_some_iff.1 HU.out.2.1).1; simp; omega))
      have H3 := hide hO3
      clear hO3 hb3 c1 c2
      cases cb with
      | true =>
        go_wp2_with fail
        refine (giveUp_any 6 w3).mono ?_
        rintro e w4 ⟨rfl, hw⟩
        subst hw
        exact ⟨rfl, .inl ⟨(HV.out.1.trans HVI.out).trans (by rw [hp]), rfl⟩, H3.out⟩
      | false =>
        go_wp2_with fail
        refine (giveUp_any 6 w3).mono ?_
        rintro e w4 ⟨rfl, hw⟩
        subst hw
        exact ⟨rfl, .inl ⟨(HV.out.1.trans HVI.out).trans (by rw [hp]), rfl⟩, H3.out⟩
end Go.Proofs.YthmidlmknkbdaaaDoor.Xm
namespace Go.Proofs.YthmidlmknkbdaaaDoor.Xm
open Go.RowKit

def nameL (l : List UInt8) : Option (List UInt8 × List UInt8) := if nameLen l = 0 then none else some (l.take (nameLen l), l.drop (nameLen l))
def mustL (p l : List UInt8) : Option (List UInt8) := if (mayL p l).2 = true then some (mayL p l).1 else none
def attrL (l : List UInt8) : Option ((List UInt8 × List UInt8) × List UInt8) :=
  (nameL l).bind fun x => (mustL [61] (x.2.dropWhile isBl)).bind fun y => (valueL (y.dropWhile isBl)).map fun z => ((x.1, z.1), z.2)
def endL (l : List UInt8) : Option (List UInt8) :=
  (mustL [60, 47] l).bind fun x => (nameL x).bind fun y => (mustL [62] (y.2.dropWhile isBl)).map fun _ => y.1
def atEndL (l : List UInt8) : Bool := [47].isPrefixOf l || [62].isPrefixOf l

theorem dropWhile_len (p : UInt8 → Bool) (l : List UInt8) : (l.dropWhile p).length ≤ l.length := (List.dropWhile_suffix p).length_le
theorem mustL_len {p l m : List UInt8} (h : mustL p l = some m) : m.length ≤ l.length := by
  unfold mustL at h
  split at h
  · cases h
    exact mayL_len p l
  · cases h
theorem valueIn_len {q : UInt8} {l p a : List UInt8} (h : valueIn q l = some (p, a)) : a.length ≤ l.length := by
  unfold valueIn at h
  split at h
  · split at h
    · cases h
      unfold Lib.cut
      split <;> simp
    · cases h
  · cases h
theorem valueL_len {l p a : List UInt8} (h : valueL l = some (p, a)) : a.length ≤ l.length := by
  unfold valueL at h
  split at h
  · exact Nat.le_trans (valueIn_len h) (mayL_len _ _)
  · split at h
    · exact Nat.le_trans (valueIn_len h) (mayL_len _ _)
    · cases h
theorem Only.past {r b i : Nat} {a c : World} (h : Only r a c) (hb : r < b ∧ a.heap.size ≤ b) (v : Value) : Only r a (c.setCell ⟨b, i, none⟩ v) :=
  ⟨h.below.setCell (p := ⟨b, i, none⟩) (Nat.le_of_lt hb.1) v, by rw [World.size_setCell]; exact h.size, fun j hj hr => (Below.heap_setCell _ _ _ _ (by simp; omega)).trans (h.block j hj hr)⟩
theorem bytes_ext {s : ByteArray} {l : List UInt8} (h : s.data.toList = l) : s = ⟨l.toArray⟩ := by
  obtain ⟨⟨x⟩⟩ := s
  subst h
  rfl

/-- A contract of 'name' by what it says. -/
theorem rname_l (r : Nat) (s : ByteArray) (w : World) (hR : IsR r s w) (hs : s.size ≤ 1000000) :
    Calls Tryd.prog 101 #[.pointer (some ⟨r, 0, none⟩)] w fun e w' => ((nameL s.data.toList = none ∧ e = stopE 6) ∨ (∃ x y, nameL s.data.toList = some (x, y) ∧ e = .returned (.string ⟨x.toArray⟩) ∧ IsR r ⟨y.toArray⟩ w' ∧ y.length ≤ s.size)) ∧ Only r w w' := by
  refine (rname_any r s w hR hs).mono ?_
  rintro e w' ⟨⟨h, rfl⟩ | ⟨h, t, ht, rfl, s', hs', hR'⟩, hO⟩
  · exact ⟨.inl ⟨by simp [nameL, h], rfl⟩, hO⟩
  · refine ⟨.inr ⟨_, _, by unfold nameL; rw [if_neg (by omega)], by rw [bytes_ext ht], by rw [← bytes_ext hs']; exact hR', ?_⟩, hO⟩
    rw [List.length_drop, size_lst]
    omega
theorem must_l (r : Nat) (s p : ByteArray) (w : World) (hR : IsR r s w) (hs : s.size ≤ 1000000) (hp : p.size ≤ 1000) :
    Calls Tryd.prog 100 #[.pointer (some ⟨r, 0, none⟩), .string p] w fun e w' => ((mustL p.data.toList s.data.toList = none ∧ e = stopE 6) ∨ (∃ y, mustL p.data.toList s.data.toList = some y ∧ e = .returned (.tuple #[]) ∧ IsR r ⟨y.toArray⟩ w' ∧ y.length ≤ s.size)) ∧ Only r w w' := by
  refine (must_any r s p w hR (by omega) (by omega)).mono ?_
  rintro e w' ⟨⟨h, rfl⟩ | ⟨h, rfl⟩, s', hs', hR', hO⟩
  · refine ⟨.inr ⟨_, by unfold mustL; rw [if_pos h], rfl, by rw [← bytes_ext hs']; exact hR', ?_⟩, hO⟩
    have := mayL_len p.data.toList s.data.toList
    rw [size_lst]
    exact this
  · exact ⟨.inl ⟨by unfold mustL; rw [if_neg (by simp [h])], rfl⟩, hO⟩
theorem rblanks_l (r : Nat) (s : ByteArray) (w : World) (hR : IsR r s w) (hs : s.size ≤ 1000000) :
    Calls Tryd.prog 102 #[.pointer (some ⟨r, 0, none⟩)] w fun e w' => e = .returned (.bool (decide (0 < (s.data.toList.takeWhile isBl).length))) ∧ IsR r ⟨(s.data.toList.dropWhile isBl).toArray⟩ w' ∧ Only r w w' := by
  refine (rblanks_any r s w hR hs).mono ?_
  rintro e w' ⟨s', hs', rfl, hR', hO⟩
  exact ⟨rfl, by rw [← bytes_ext hs']; exact hR', hO⟩

theorem results_agg2 {fn : Func} {tmps : Array Value} {w : World} {b : Nat} {x y : Value} (h : fn.results = #[.cell 2 65]) (hp : tmps[2]?.getD undef = .pointer (some ⟨b, 0, none⟩)) (h0 : w.cell? ⟨b, 0, none⟩ = some x) (h1 : w.cell? ⟨b, 1, none⟩ = some y) : (results fn tmps).run Tryd.prog w = .ok (.agg #[x, y]) w := by
  simp [results, h, hp, h0, h1, go_sem, Tryd.isAgg65, Tryd.sizeOf65]

set_option maxRecDepth 100000 in
set_option maxHeartbeats 2000000 in
theorem rattr_any (r : Nat) (s : ByteArray) (w : World) (hR : IsR r s w) (hs : s.size ≤ 100000) (hE : Env w) (h4 : 4 ≤ r) :
    Calls Tryd.prog 105 #[.pointer (some ⟨r, 0, none⟩)] w fun e w' => ((attrL s.data.toList = none ∧ e = stopE 6) ∨ (∃ nm p after, attrL s.data.toList = some ((nm, p), after) ∧ e = .returned (.agg #[.string ⟨nm.toArray⟩, .string ⟨p.toArray⟩]) ∧ IsR r ⟨after.toArray⟩ w' ∧ after.length ≤ s.size)) ∧ Only r w w' := by
  have hrl : r < w.heap.size := (Array.getElem?_eq_some_iff.1 hR).1
  obtain ⟨W0, hW0⟩ : ∃ W0, w.alloc (.cells #[.string ⟨#[]⟩, .string ⟨#[]⟩] 65) = W0 := ⟨_, rfl⟩
  have hb0 : Below w.heap.size w W0 := by rw [← hW0]; exact (Below.refl _ w).alloc (Nat.le_refl _) _
  have z0 : W0.heap.size = w.heap.size + 1 := by rw [← hW0]; simp
  have f0 : W0.heap[w.heap.size]? = some (.cells #[.string ⟨#[]⟩, .string ⟨#[]⟩] 65) := by rw [← hW0]; exact World.alloc_heap_new w _
  have hR0 : IsR r s W0 := (hb0.block r hrl).trans hR
  have hO0 : Only r w W0 := Only.of_below hb0 (by omega)
  have hnm := rname_l r s W0 hR0 (by omega)
  have HE := hide hE
  have HN := hide hnm
  have HO := hide (And.intro hO0 f0)
  clear hR hE hb0 hR0 hO0 hnm f0
  go_enter Tryd.func105, Tryd.ntmps105
  go_wp2_with fail
  refine HN.out.mono ?_
  rintro e w1 ⟨⟨h, rfl⟩ | ⟨x, y, h, rfl, hR1, hy⟩, hO1⟩
  case inl => exact ⟨rfl, .inl ⟨by simp [attrL, h], rfl⟩, HO.out.1.trans hO1⟩
  have hb1 := rblanks_l r ⟨y.toArray⟩ w1 hR1 (by rw [size_lst, arr_list]; omega)
  rw [arr_list] at hb1
  have hyd := dropWhile_len isBl y
  obtain ⟨y', hy'⟩ : ∃ y', y.dropWhile isBl = y' := ⟨_, rfl⟩
  rw [hy'] at hb1 hyd
  have H1 := hide (And.intro h (And.intro hb1 (And.intro (HO.out.1.trans hO1) hy')))
  have g1 := (hO1.block w.heap.size (by omega) (by omega)).trans HO.out.2
  have hz1 := hO1.size
  have HG1 := hide g1
  clear h hR1 hO1 HN g1 hb1 hy' hW0
  go_wp2_with fail
  refine H1.out.2.1.mono ?_
  rintro e w2 ⟨rfl, hR2, hO2⟩
  have hmu := must_l r ⟨y'.toArray⟩ ⟨#[61]⟩ w2 hR2 (by rw [size_lst, arr_list]; omega) (by show 1 ≤ _; omega)
  rw [show (⟨#[61]⟩ : ByteArray).data.toList = [61] from rfl, arr_list y', size_lst ⟨y'.toArray⟩, arr_list y'] at hmu
  have g2 := (hO2.block w.heap.size (by omega) (by omega)).trans HG1.out
  have hz2 := hO2.size
  have H2 := hide (And.intro hmu (And.intro g2 (H1.out.2.2.1.trans hO2)))
  clear hmu g2 hR2 hO2 HG1
  go_wp2_with fail
  refine H2.out.1.mono ?_
  rintro e w3 ⟨⟨h, rfl⟩ | ⟨y2, h, rfl, hR3, hy2⟩, hO3⟩
  case inl => exact ⟨rfl, .inl ⟨by simp [attrL, H1.out.1, H1.out.2.2.2, h], rfl⟩, H2.out.2.2.trans hO3⟩
  have hb3 := rblanks_l r ⟨y2.toArray⟩ w3 hR3 (by rw [size_lst, arr_list]; omega)
  rw [arr_list] at hb3
  have hyd2 := dropWhile_len isBl y2
  obtain ⟨y3, hy3⟩ : ∃ y3, y2.dropWhile isBl = y3 := ⟨_, rfl⟩
  rw [hy3] at hb3 hyd2
  have g3 := (hO3.block w.heap.size (by omega) (by omega)).trans H2.out.2.1
  have hz3 := hO3.size
  have H3 := hide (And.intro h (And.intro hb3 (And.intro g3 (And.intro (H2.out.2.2.trans hO3) hy3))))
  clear h hR3 hO3 hb3 g3 hy3 H2
  go_wp2_with fail
  refine H3.out.2.1.mono ?_
  rintro e w4 ⟨rfl, hR4, hO4⟩
  have hO4' := H3.out.2.2.2.1.trans hO4
  have hva := value_any r ⟨y3.toArray⟩ w4 hR4 (by rw [size_lst, arr_list]; omega) (HE.out.below hO4'.below h4) h4
  rw [arr_list] at hva
  have g4 := (hO4.block w.heap.size (by omega) (by omega)).trans H3.out.2.2.1
  have hz4 := hO4.size
  have H4 := hide (And.intro hva (And.intro g4 hO4'))
  clear hva g4 hR4 hO4 hO4'
  go_wp2_with fail
  refine H4.out.1.mono ?_
  rintro e w5 ⟨⟨h, rfl⟩ | ⟨p, after, h, rfl, hR5⟩, hO5⟩
  case inl => exact ⟨rfl, .inl ⟨by simp [attrL, H1.out.1, H1.out.2.2.2, H3.out.1, H3.out.2.2.2.2, h], rfl⟩, H4.out.2.2.trans hO5⟩
  have g5 := (hO5.block w.heap.size (by omega) (by omega)).trans H4.out.2.1
  have c0 : w5.cell? ⟨w.heap.size, 0, none⟩ = some (.string ⟨#[]⟩) := by simp [World.cell?, g5]
  have c1 : w5.cell? ⟨w.heap.size, 1, none⟩ = some (.string ⟨#[]⟩) := by simp [World.cell?, g5]
  have c2 : w5.frozen? ⟨w.heap.size, 0, none⟩ = false := by simp [World.frozen?, g5]
  have c3 : w5.frozen? ⟨w.heap.size, 1, none⟩ = false := by simp [World.frozen?, g5]
  have H5 := hide (And.intro h (And.intro hR5 (And.intro (H4.out.2.2.trans hO5) g5)))
  have hz5 := hO5.size
  clear h hR5 hO5 g5
  go_wp2_with fail
  have k1 := heap_setCell_same _ _ 0 _ _ (.string ⟨x.toArray⟩) H5.out.2.2.2
  have k2 := heap_setCell_same _ _ 1 _ _ (.string ⟨p.toArray⟩) k1
  have hlen := valueL_len H5.out.1
  refine bodyPost_ret (results_agg2 (x := .string ⟨x.toArray⟩) (y := .string ⟨p.toArray⟩) rfl rfl ?_ ?_) rfl ?_
  · simp [World.cell?, k2]
  · simp [World.cell?, k2]
  · refine ⟨.inr ⟨x, p, after, by simp [attrL, H1.out.1, H1.out.2.2.2, H3.out.1, H3.out.2.2.2.2, H5.out.1], rfl, ?_, by omega⟩, ?_⟩
    · exact (Below.heap_setCell _ _ _ _ (by simp; omega)).trans ((Below.heap_setCell _ _ _ _ (by simp; omega)).trans H5.out.2.1)
    · exact (H5.out.2.2.1.past ⟨by omega, Nat.le_refl _⟩ _).past ⟨by omega, Nat.le_refl _⟩ _

theorem atEnd_any (r : Nat) (s : ByteArray) (w : World) (hR : IsR r s w) (hs : s.size ≤ 1000000) :
    Calls Tryd.prog 104 #[.pointer (some ⟨r, 0, none⟩)] w fun e w' => e = .returned (.bool (atEndL s.data.toList)) ∧ w' = w := by
  obtain ⟨c1, c2⟩ := hR.cell
  have h1 := hasPrefix2_any s ⟨#[47]⟩ w (by omega) (by show 1 ≤ _; omega)
  have h2 := hasPrefix2_any s ⟨#[62]⟩ w (by omega) (by show 1 ≤ _; omega)
  rw [show (⟨#[47]⟩ : ByteArray).data.toList = [47] from rfl] at h1
  rw [show (⟨#[62]⟩ : ByteArray).data.toList = [62] from rfl] at h2
  unfold atEndL
  obtain ⟨b1, hb1⟩ : ∃ b1, [47].isPrefixOf s.data.toList = b1 := ⟨_, rfl⟩
  obtain ⟨b2, hb2⟩ : ∃ b2, [62].isPrefixOf s.data.toList = b2 := ⟨_, rfl⟩
  rw [hb1] at h1 ⊢
  rw [hb2] at h2 ⊢
  have H := hide (And.intro h1 h2)
  clear h1 h2 hb1 hb2
  cases b1 with
  | true =>
    go_enter Tryd.func104, Tryd.ntmps104
    go_wp2_with fail
    refine H.out.1.mono ?_
    rintro e w1 ⟨rfl, hw⟩
    subst hw
    go_wp2_with fail
    go_ret
    exact ⟨rfl, rfl⟩
  | false =>
    go_enter Tryd.func104, Tryd.ntmps104
    go_wp2_with fail
    refine H.out.1.mono ?_
    rintro e w1 ⟨rfl, hw⟩
    subst hw
    go_wp2_with fail
    refine H.out.2.mono ?_
    rintro e w2 ⟨rfl, hw⟩
    subst hw
    go_wp2_with fail
    go_ret
    exact ⟨rfl, rfl⟩

set_option maxRecDepth 100000 in
set_option maxHeartbeats 2000000 in
theorem readEnding_any (s : ByteArray) (w : World) (hs : s.size ≤ 100000) :
    Calls Tryd.prog 89 #[.string s] w fun e w' => ((endL s.data.toList = none ∧ e = stopE 6) ∨ (∃ nm, endL s.data.toList = some nm ∧ e = .returned (.string ⟨nm.toArray⟩))) ∧ Below w.heap.size w w' := by
  obtain ⟨W0, hW0⟩ : ∃ W0, w.alloc (.cells #[.string s] 138) = W0 := ⟨_, rfl⟩
  have hb0 : Below w.heap.size w W0 := by rw [← hW0]; exact (Below.refl _ w).alloc (Nat.le_refl _) _
  have hR0 : IsR w.heap.size s W0 := by rw [← hW0]; exact World.alloc_heap_new w _
  have hmu := must_l w.heap.size s ⟨#[60, 47]⟩ W0 hR0 (by omega) (by show 2 ≤ _; omega)
  rw [show (⟨#[60, 47]⟩ : ByteArray).data.toList = [60, 47] from rfl] at hmu
  have HM := hide (And.intro hmu hb0)
  clear hmu hb0 hR0
  go_enter Tryd.func89, Tryd.ntmps89
  go_wp2_with fail
  refine HM.out.1.mono ?_
  rintro e w1 ⟨⟨h, rfl⟩ | ⟨y, h, rfl, hR1, hy⟩, hO1⟩
  case inl => exact ⟨rfl, .inl ⟨by simp [endL, h], rfl⟩, HM.out.2.trans hO1.below⟩
  have hna := rname_l w.heap.size ⟨y.toArray⟩ w1 hR1 (by rw [size_lst, arr_list]; omega)
  rw [arr_list y, size_lst ⟨y.toArray⟩, arr_list y] at hna
  have H1 := hide (And.intro h (And.intro hna (HM.out.2.trans hO1.below)))
  clear h hna hR1 hO1 HM hW0
  go_wp2_with fail
  refine H1.out.2.1.mono ?_
  rintro e w2 ⟨⟨h, rfl⟩ | ⟨x, z, h, rfl, hR2, hz⟩, hO2⟩
  case inl => exact ⟨rfl, .inl ⟨by simp [endL, H1.out.1, h], rfl⟩, H1.out.2.2.trans hO2.below⟩
  have hb2 := rblanks_l w.heap.size ⟨z.toArray⟩ w2 hR2 (by rw [size_lst, arr_list]; omega)
  rw [arr_list z] at hb2
  have hzd := dropWhile_len isBl z
  obtain ⟨z', hz'⟩ : ∃ z', z.dropWhile isBl = z' := ⟨_, rfl⟩
  rw [hz'] at hb2 hzd
  have H2 := hide (And.intro h (And.intro hb2 (And.intro (H1.out.2.2.trans hO2.below) hz')))
  clear h hb2 hR2 hO2 hz'
  go_wp2_with fail
  refine H2.out.2.1.mono ?_
  rintro e w3 ⟨rfl, hR3, hO3⟩
  have hmu := must_l w.heap.size ⟨z'.toArray⟩ ⟨#[62]⟩ w3 hR3 (by rw [size_lst, arr_list]; omega) (by show 1 ≤ _; omega)
  rw [show (⟨#[62]⟩ : ByteArray).data.toList = [62] from rfl, arr_list z', size_lst ⟨z'.toArray⟩, arr_list z'] at hmu
  have H3 := hide (And.intro hmu (H2.out.2.2.1.trans hO3.below))
  clear hmu hR3 hO3
  go_wp2_with fail
  refine H3.out.1.mono ?_
  rintro e w4 ⟨⟨h, rfl⟩ | ⟨u, h, rfl, _, _⟩, hO4⟩
  case inl => exact ⟨rfl, .inl ⟨by simp [endL, H1.out.1, H2.out.1, H2.out.2.2.2, h], rfl⟩, H3.out.2.trans hO4.below⟩
  have H4 := hide (And.intro h (H3.out.2.trans hO4.below))
  clear h hO4
  go_wp2_with fail
  go_ret
  exact ⟨.inr ⟨x, by simp [endL, H1.out.1, H2.out.1, H2.out.2.2.2, H4.out.1], rfl⟩, H4.out.2⟩
end Go.Proofs.YthmidlmknkbdaaaDoor.Xm
