/- A parser: a declaration, a whole tag. -/
import Derived.Test.YthflpcfpfdmaeaaDoorXp3
namespace Go.Proofs.YthflpcfpfdmaeaaDoor.Xm
open Go.RowKit

def sufB (p s : List UInt8) : Bool := decide (p.length ≤ s.length) && (s.drop (s.length - p.length) == p)
theorem suffix_iff (s p : ByteArray) : (p.size ≤ s.size ∧ s.extract (s.size - p.size) s.size = p) ↔ sufB p.data.toList s.data.toList = true := by
  have hl : p.data.toList.length = p.size := Array.length_toList
  have hl2 : s.data.toList.length = s.size := Array.length_toList
  unfold sufB
  rw [hl, hl2, Bool.and_eq_true, decide_eq_true_eq, beq_iff_eq]
  have hx : p.size ≤ s.size → (s.extract (s.size - p.size) s.size).data.toList = s.data.toList.drop (s.size - p.size) := fun h => by
    rw [ext_list]
    apply List.take_of_length_le
    rw [List.length_drop]
    omega
  constructor
  · rintro ⟨h, he⟩
    refine ⟨h, ?_⟩
    rw [← hx h, he]
  · rintro ⟨h, he⟩
    refine ⟨h, ?_⟩
    have h1 := (hx h).trans he
    apply ByteArray.ext
    exact Array.ext' h1

theorem hasSuffix_any (s p : ByteArray) (w : World) (hs : s.size ≤ 9223372036854775807) (hp : p.size ≤ 9223372036854775807) : Calls Tryd.prog 73 #[.string s, .string p] w fun e w' => e = .returned (.bool (sufB p.data.toList s.data.toList)) ∧ w' = w := by
  have hi := suffix_iff s p
  by_cases h : (p.size : Int) ≤ s.size
  · have hk : ((s.size : Int) - p.size) = ((s.size - p.size : Nat) : Int) := by omega
    have hk2 : (s.size - p.size : Nat) ≤ s.size := by omega
    obtain ⟨k, hkk⟩ : ∃ k, s.size - p.size = k := ⟨_, rfl⟩
    rw [hkk] at hk hk2 hi
    by_cases he : s.extract k s.size = p
    · have he' : ((s.extract k s.size).toList == p.toList) = true := by simp [he]
      have hb : sufB p.data.toList s.data.toList = true := hi.1 ⟨by omega, he⟩
      rw [hb]
      clear hi hb hkk
      go_enter Tryd.func73, Tryd.ntmps73
      go_wp2_with fail
      go_ret
      exact ⟨rfl, rfl⟩
    · have he' := str_ne he
      have hb : sufB p.data.toList s.data.toList = false := by
        rw [← Bool.not_eq_true]
        intro x
        exact he (hi.2 x).2
      rw [hb]
      clear hi hb hkk
      go_enter Tryd.func73, Tryd.ntmps73
      go_wp2_with fail
      go_ret
      exact ⟨rfl, rfl⟩
  · have hb : sufB p.data.toList s.data.toList = false := by
      rw [← Bool.not_eq_true]
      intro x
      have := (hi.2 x).1
      omega
    rw [hb]
    clear hi hb
    go_enter Tryd.func73, Tryd.ntmps73
    go_wp2_with fail
    go_ret
    exact ⟨rfl, rfl⟩
theorem hasSuffix2_any (s p : ByteArray) (w : World) (hs : s.size ≤ 9223372036854775807) (hp : p.size ≤ 9223372036854775807) : Calls Tryd.prog 61 #[.string s, .string p] w fun e w' => e = .returned (.bool (sufB p.data.toList s.data.toList)) ∧ w' = w := by
  have h := hasSuffix_any s p w hs hp
  obtain ⟨bv, hbv⟩ : ∃ bv, sufB p.data.toList s.data.toList = bv := ⟨_, rfl⟩
  rw [hbv] at h ⊢
  have H := hide h
  clear h hbv
  go_enter Tryd.func61, Tryd.ntmps61
  go_wp2_with fail
  refine H.out.mono ?_
  rintro e w1 ⟨rfl, rfl⟩
  go_wp2_with fail
  go_ret
  exact ⟨rfl, rfl⟩

/-- An XML declaration. -/
def isDecl (l : List UInt8) : Bool := (mayL [60, 63, 120, 109, 108] l).2 && (((mayL [60, 63, 120, 109, 108] l).1.take 1).all isBl && sufB [63, 62] (mayL [60, 63, 120, 109, 108] l).1)
set_option maxRecDepth 100000 in
theorem isDeclaration_any (s : ByteArray) (w : World) (hs : s.size ≤ 100000) (hne : (mayL [60, 63, 120, 109, 108] s.data.toList).2 = true → (mayL [60, 63, 120, 109, 108] s.data.toList).1 ≠ []) :
    Calls Tryd.prog 50 #[.string s] w fun e w' => e = .returned (.bool (isDecl s.data.toList)) ∧ Below w.heap.size w w' := by
  have hc := cutPrefix2_any s ⟨#[60, 63, 120, 109, 108]⟩ w (by omega) (by show 5 ≤ _; omega)
  have hmay : ((⟨#[60, 63, 120, 109, 108]⟩ : ByteArray).data.toList) = [60, 63, 120, 109, 108] := rfl
  rw [hmay] at hc
  unfold isDecl
  have hln : (mayL [60, 63, 120, 109, 108] s.data.toList).1.length ≤ s.size := by
    have h2 : s.data.toList.length = s.size := Array.length_toList
    unfold mayL
    split
    · simp
    · simp
  obtain ⟨rv, hrv⟩ : ∃ rv, (mayL [60, 63, 120, 109, 108] s.data.toList).1 = rv := ⟨_, rfl⟩
  cases hb : (mayL [60, 63, 120, 109, 108] s.data.toList).2 with
  | false =>
    rw [hb] at hc
    have H := hide hc
    clear hc hb hne hmay hrv hln
    simp only [Bool.false_and]
    go_enter Tryd.func50, Tryd.ntmps50
    go_wp2_with fail
    refine H.out.mono ?_
    rintro e w1 ⟨⟨r, rfl, hr⟩, hw⟩
    subst hw
    clear hr
    go_wp2_with fail
    go_ret
    exact ⟨rfl, Below.refl _ _⟩
  | true =>
    have hn0 := hne hb
    rw [hb, hrv] at hc
    rw [hrv] at hn0 hln ⊢
    simp only [Bool.true_and]
    have H := hide hc
    have HN := hide (And.intro hn0 hln)
    clear hc hb hne hmay hrv hn0 hln
    obtain ⟨res, hres⟩ : ∃ res, ((rv.take 1).all isBl && sufB [63, 62] rv) = res := ⟨_, rfl⟩
    rw [hres]
    have HRES := hide hres
    clear hres
    go_enter Tryd.func50, Tryd.ntmps50
    go_wp2_with fail
    refine H.out.mono ?_
    rintro e w1 ⟨⟨r, rfl, hr⟩, hw⟩
    subst hw
    have hrl : r.data.toList.length = r.size := Array.length_toList
    have h1 : 1 ≤ (r.size : Int) := by
      have := HN.out.1
      rw [← hr] at this
      have h0 : r.data.toList.length ≠ 0 := fun e => this (List.length_eq_zero_iff.1 e)
      omega
    have hrs : r.size ≤ 100000 := by
      have := HN.out.2
      rw [← hr] at this
      omega
    have hsp := space_any (r.extract 0 1) w1
    have hex : (r.extract 0 1).data.toList = rv.take 1 := by rw [ext_list, ← hr]; rfl
    rw [hex] at hsp
    have HR := hide (And.intro hr (And.intro hsp hrs))
    clear hr hsp hex hrl hrs
    go_wp2_with fail
    refine HR.out.2.1.mono ?_
    rintro e w2 ⟨hsp, hb2⟩
    have HB2 := hide hb2
    clear hb2
    rcases hsp with ⟨hbl, rfl⟩ | ⟨hbl, rfl⟩
    · have hall : (rv.take 1).all isBl = true := (blanks_all _).1 hbl
      have hrs := HRES.out
      rw [hall] at hrs
      simp only [Bool.true_and] at hrs
      have hsu := hasSuffix2_any r ⟨#[63, 62]⟩ w2 (by have := HR.out.2.2; omega) (by show 2 ≤ _; omega)
      rw [HR.out.1] at hsu
      have hm2 : ((⟨#[63, 62]⟩ : ByteArray).data.toList) = [63, 62] := rfl
      rw [hm2] at hsu
      rw [hrs] at hsu
      have HS := hide hsu
      clear hsu hrs hm2 hall hbl
      go_wp2_with fail
      refine HS.out.mono ?_
      rintro e w3 ⟨rfl, hw⟩
      subst hw
      go_wp2_with fail
      go_ret
      exact ⟨rfl, HB2.out⟩
    · have hall : (rv.take 1).all isBl = false := by
        rw [← Bool.not_eq_true]
        exact fun h => hbl ((blanks_all _).2 h)
      have hrs := HRES.out
      rw [hall] at hrs
      simp only [Bool.false_and] at hrs
      subst hrs
      clear hall hbl
      go_wp2_with fail
      go_ret
      exact ⟨rfl, HB2.out⟩
end Go.Proofs.YthflpcfpfdmaeaaDoor.Xm
