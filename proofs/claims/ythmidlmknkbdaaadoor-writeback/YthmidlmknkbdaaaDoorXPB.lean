/- A parser: a declaration, a whole tag. A parser: a whole tag. -/
import Derived.Test.YthmidlmknkbdaaaDoorXp3
namespace Go.Proofs.YthmidlmknkbdaaaDoor.Xm
open Go.RowKit

def sufB (p s : List UInt8) : Bool := decide (p.length ≤ s.length) && (s.drop (s.length - p.length) == p)
theorem suffix_iff (s p : ByteArray) : (p.size ≤ s.size ∧ s.extract (s.size - p.size) s.size = p) ↔ sufB p.data.toList s.data.toList = true := by
  have hl : p.data.toList.length = p.size := Array.length_toList
  have hl2 : s.data.toList.length = s.size := Array.length_toList
  unfold sufB
  rw [hl, hl2, Bool.and_eq_true, decide_eq_true_eq, beq_iff_eq]
  have hx : p.size ≤ s.size → (s.extract (s.size - p.size) s.size).data.toList = s.data.toList.drop (s.size - p.size) := fun h => by
    rw [ext_list]
    apply List.take_of_length_le
    rw [List.length_drop]
    omega
  constructor
  · rintro ⟨h, he⟩
    refine ⟨h, ?_⟩
    rw [← hx h, he]
  · rintro ⟨h, he⟩
    refine ⟨h, ?_⟩
    have h1 := (hx h).trans he
    apply ByteArray.ext
    exact Array.ext' h1

theorem hasSuffix_any (s p : ByteArray) (w : World) (hs : s.size ≤ 9223372036854775807) (hp : p.size ≤ 9223372036854775807) : Calls Tryd.prog 111 #[.string s, .string p] w fun e w' => e = .returned (.bool (sufB p.data.toList s.data.toList)) ∧ w' = w := by
  have hi := suffix_iff s p
  by_cases h : (p.size : Int) ≤ s.size
  · have hk : ((s.size : Int) - p.size) = ((s.size - p.size : Nat) : Int) := by omega
    have hk2 : (s.size - p.size : Nat) ≤ s.size := by omega
    obtain ⟨k, hkk⟩ : ∃ k, s.size - p.size = k := ⟨_, rfl⟩
    rw [hkk] at hk hk2 hi
    by_cases he : s.extract k s.size = p
    · have he' : ((s.extract k s.size).toList == p.toList) = true := by simp [he]
      have hb : sufB p.data.toList s.data.toList = true := hi.1 ⟨by omega, he⟩
      rw [hb]
      clear hi hb hkk
      go_enter Tryd.func111, Tryd.ntmps111
      go_wp2_with fail
      go_ret
      exact ⟨rfl, rfl⟩
    · have he' := str_ne he
      have hb : sufB p.data.toList s.data.toList = false := by
        rw [← Bool.not_eq_true]
        intro x
        exact he (hi.2 x).2
      rw [hb]
      clear hi hb hkk
      go_enter Tryd.func111, Tryd.ntmps111
      go_wp2_with fail
      go_ret
      exact ⟨rfl, rfl⟩
  · have hb : sufB p.data.toList s.data.toList = false := by
      rw [← Bool.not_eq_true]
      intro x
      have := (hi.2 x).1
      omega
    rw [hb]
    clear hi hb
    go_enter Tryd.func111, Tryd.ntmps111
    go_wp2_with fail
    go_ret
    exact ⟨rfl, rfl⟩
theorem hasSuffix2_any (s p : ByteArray) (w : World) (hs : s.size ≤ 9223372036854775807) (hp : p.size ≤ 9223372036854775807) : Calls Tryd.prog 98 #[.string s, .string p] w fun e w' => e = .returned (.bool (sufB p.data.toList s.data.toList)) ∧ w' = w := by
  have h := hasSuffix_any s p w hs hp
  obtain ⟨bv, hbv⟩ : ∃ bv, sufB p.data.toList s.data.toList = bv := ⟨_, rfl⟩
  rw [hbv] at h ⊢
  have H := hide h
  clear h hbv
  go_enter Tryd.func98, Tryd.ntmps98
  go_wp2_with fail
  refine H.out.mono ?_
  rintro e w1 ⟨rfl, rfl⟩
  go_wp2_with fail
  go_ret
  exact ⟨rfl, rfl⟩

/-- An XML declaration. -/
def isDecl (l : List UInt8) : Bool := (mayL [60, 63, 120, 109, 108] l).2 && (((mayL [60, 63, 120, 109, 108] l).1.take 1).all isBl && sufB [63, 62] (mayL [60, 63, 120, 109, 108] l).1)
set_option maxRecDepth 100000 in
theorem isDeclaration_any (s : ByteArray) (w : World) (hs : s.size ≤ 100000) (hne : (mayL [60, 63, 120, 109, 108] s.data.toList).2 = true → (mayL [60, 63, 120, 109, 108] s.data.toList).1 ≠ []) :
    Calls Tryd.prog 86 #[.string s] w fun e w' => e = .returned (.bool (isDecl s.data.toList)) ∧ Below w.heap.size w w' := by
  have hc := cutPrefix2_any s ⟨#[60, 63, 120, 109, 108]⟩ w (by omega) (by show 5 ≤ _; omega)
  have hmay : ((⟨#[60, 63, 120, 109, 108]⟩ : ByteArray).data.toList) = [60, 63, 120, 109, 108] := rfl
  rw [hmay] at hc
  unfold isDecl
  have hln : (mayL [60, 63, 120, 109, 108] s.data.toList).1.length ≤ s.size := by
    have h2 : s.data.toList.length = s.size := Array.length_toList
    unfold mayL
    split
    · simp
    · simp
  obtain ⟨rv, hrv⟩ : ∃ rv, (mayL [60, 63, 120, 109, 108] s.data.toList).1 = rv := ⟨_, rfl⟩
  cases hb : (mayL [60, 63, 120, 109, 108] s.data.toList).2 with
  | false =>
    rw [hb] at hc
    have H := hide hc
    clear hc hb hne hmay hrv hln
    simp only [Bool.false_and]
    go_enter Tryd.func86, Tryd.ntmps86
    go_wp2_with fail
    refine H.out.mono ?_
    rintro e w1 ⟨⟨r, rfl, hr⟩, hw⟩
    subst hw
    clear hr
    go_wp2_with fail
    go_ret
    exact ⟨rfl, Below.refl _ _⟩
  | true =>
    have hn0 := hne hb
    rw [hb, hrv] at hc
    rw [hrv] at hn0 hln ⊢
    simp only [Bool.true_and]
    have H := hide hc
    have HN := hide (And.intro hn0 hln)
    clear hc hb hne hmay hrv hn0 hln
    obtain ⟨res, hres⟩ : ∃ res, ((rv.take 1).all isBl && sufB [63, 62] rv) = res := ⟨_, rfl⟩
    rw [hres]
    have HRES := hide hres
    clear hres
    go_enter Tryd.func86, Tryd.ntmps86
    go_wp2_with fail
    refine H.out.mono ?_
    rintro e w1 ⟨⟨r, rfl, hr⟩, hw⟩
    subst hw
    have hrl : r.data.toList.length = r.size := Array.length_toList
    have h1 : 1 ≤ (r.size : Int) := by
      have := HN.out.1
      rw [← hr] at this
      have h0 : r.data.toList.length ≠ 0 := fun e => this (List.length_eq_zero_iff.1 e)
      omega
    have hrs : r.size ≤ 100000 := by
      have := HN.out.2
      rw [← hr] at this
      omega
    have hsp := space_any (r.extract 0 1) w1
    have hex : (r.extract 0 1).data.toList = rv.take 1 := by rw [ext_list, ← hr]; rfl
    rw [hex] at hsp
    have HR := hide (And.intro hr (And.intro hsp hrs))
    clear hr hsp hex hrl hrs
    go_wp2_with fail
    refine HR.out.2.1.mono ?_
    rintro e w2 ⟨hsp, hb2⟩
    have HB2 := hide hb2
    clear hb2
    rcases hsp with ⟨hbl, rfl⟩ | ⟨hbl, rfl⟩
    · have hall : (rv.take 1).all isBl = true := (blanks_all _).1 hbl
      have hrs := HRES.out
      rw [hall] at hrs
      simp only [Bool.true_and] at hrs
      have hsu := hasSuffix2_any r ⟨#[63, 62]⟩ w2 (by have := HR.out.2.2; omega) (by show 2 ≤ _; omega)
      rw [HR.out.1] at hsu
      have hm2 : ((⟨#[63, 62]⟩ : ByteArray).data.toList) = [63, 62] := rfl
      rw [hm2] at hsu
      rw [hrs] at hsu
      have HS := hide hsu
      clear hsu hrs hm2 hall hbl
      go_wp2_with fail
      refine HS.out.mono ?_
      rintro e w3 ⟨rfl, hw⟩
      subst hw
      go_wp2_with fail
      go_ret
      exact ⟨rfl, HB2.out⟩
    · have hall : (rv.take 1).all isBl = false := by
        rw [← Bool.not_eq_true]
        exact fun h => hbl ((blanks_all _).2 h)
      have hrs := HRES.out
      rw [hall] at hrs
      simp only [Bool.false_and] at hrs
      subst hrs
      clear hall hbl
      go_wp2_with fail
      go_ret
      exact ⟨rfl, HB2.out⟩
end Go.Proofs.YthmidlmknkbdaaaDoor.Xm
namespace Go.Proofs.YthmidlmknkbdaaaDoor.Xm
open Go.RowKit

theorem nameL_len1 {l x y : List UInt8} (h : nameL l = some (x, y)) : x.length ≤ l.length := by
  unfold nameL at h
  split at h
  · cases h
  · cases h
    rw [List.length_take]
    omega
theorem valueIn_len1 {q : UInt8} {l p a : List UInt8} (h : valueIn q l = some (p, a)) : p.length ≤ l.length := by
  unfold valueIn at h
  split at h
  · rename_i t ht
    split at h
    · cases h
      exact Nat.le_trans (unesc_len ht) (cut_len l q)
    · cases h
  · cases h
theorem valueL_len1 {l p a : List UInt8} (h : valueL l = some (p, a)) : p.length ≤ l.length := by
  unfold valueL at h
  split at h
  · exact Nat.le_trans (valueIn_len1 h) (mayL_len _ _)
  · split at h
    · exact Nat.le_trans (valueIn_len1 h) (mayL_len _ _)
    · cases h
theorem attrL_len1 {l a : List UInt8} {x : AttrL} (h : attrL l = some (x, a)) : x.1.length ≤ l.length ∧ x.2.length ≤ l.length := by
  unfold attrL at h
  rw [Option.bind_eq_some_iff] at h
  obtain ⟨⟨n, r⟩, h1, h⟩ := h
  rw [Option.bind_eq_some_iff] at h
  obtain ⟨y, h2, h⟩ := h
  rw [Option.map_eq_some_iff] at h
  obtain ⟨⟨z, b⟩, h3, h⟩ := h
  cases h
  refine ⟨nameL_len1 h1, ?_⟩
  have e1 := nameL_len h1
  have e2 := dropWhile_len isBl r
  have e3 := mustL_len h2
  have e4 := dropWhile_len isBl y
  have e5 := valueL_len1 h3
  have e2' : (List.dropWhile isBl (n, r).2).length ≤ r.length := e2
  show z.length ≤ _
  omega
theorem attrsGo_len1 (n : Nat) : ∀ (f : Nat) (l : List UInt8) (acc al : List AttrL) (r : List UInt8), attrsGo f l acc = some (al, r) → l.length ≤ n → (∀ a ∈ acc, a.1.length ≤ n ∧ a.2.length ≤ n) → ∀ a ∈ al, a.1.length ≤ n ∧ a.2.length ≤ n
  | 0, _, _, _, _, h, _, _ => by cases h
  | f + 1, l, acc, al, r, h, hl, ha => by
    unfold attrsGo at h
    split at h
    · rw [Option.bind_eq_some_iff] at h
      obtain ⟨⟨x, b⟩, h1, h⟩ := h
      have e1 := attrL_len h1
      have e2 := attrL_len1 h1
      have e3 := dropWhile_len isBl l
      refine attrsGo_len1 n f b _ al r h (by omega) (fun a hm => ?_)
      rcases List.mem_append.1 hm with hm | hm
      · exact ha a hm
      · have : a = x := by simpa using hm
        subst this
        exact ⟨by omega, by omega⟩
    · cases h
      exact ha
theorem beginL_len {l nm : List UInt8} {al : List AttrL} {ends : Bool} (h : beginL l = some (nm, al, ends)) : nm.length ≤ l.length ∧ ∀ a ∈ al, a.1.length ≤ l.length ∧ a.2.length ≤ l.length := by
  unfold beginL at h
  rw [Option.bind_eq_some_iff] at h
  obtain ⟨x, h1, h⟩ := h
  rw [Option.bind_eq_some_iff] at h
  obtain ⟨⟨y, r⟩, h2, h⟩ := h
  rw [Option.bind_eq_some_iff] at h
  obtain ⟨⟨z, q⟩, h3, h⟩ := h
  rw [Option.map_eq_some_iff] at h
  obtain ⟨_, h4, h⟩ := h
  cases h
  have e1 := mustL_len h1
  have e2 := nameL_len1 h2
  have e3 := nameL_len h2
  refine ⟨by show y.length ≤ _; omega, attrsGo_len1 l.length _ r [] z q h3 (by omega) (fun a ha => by simp at ha)⟩
theorem endL_len {l nm : List UInt8} (h : endL l = some nm) : nm.length ≤ l.length := by
  unfold endL at h
  rw [Option.bind_eq_some_iff] at h
  obtain ⟨x, h1, h⟩ := h
  rw [Option.bind_eq_some_iff] at h
  obtain ⟨⟨y, r⟩, h2, h⟩ := h
  rw [Option.map_eq_some_iff] at h
  obtain ⟨_, _, h⟩ := h
  cases h
  have e1 := mustL_len h1
  have e2 := nameL_len1 h2
  show y.length ≤ _
  omega

/-- What a whole tag does. -/
noncomputable def tagL (st : PS) (s : List UInt8) : Except Int (PS × List Tok) :=
  if charsB s = true then
    if (!st.begun && isDecl s) = true then .ok ({ st with begun := true }, [])
    else if [60, 33].isPrefixOf s = true then .error 7
    else if [60, 63].isPrefixOf s = true then .error 7
    else if [60, 47].isPrefixOf s = true then (match endL s with | none => .error 6 | some nm => endP { st with begun := true } ⟨nm.toArray⟩)
    else match beginL s with | none => .error 6 | some x => beginP { st with begun := true } ⟨x.1.toArray⟩ (toB x.2.1) x.2.2
  else .error 6
/-- All but a parser and its names stays. -/
structure But (p : Nat) (vo : Value) (w w' : World) : Prop where
  below : Below 0 w w'
  block : ∀ j, j < w.heap.size → j ≠ p → some j ≠ vo.ownBlock → w'.heap[j]? = w.heap[j]?
theorem But.size {p : Nat} {vo : Value} {w w' : World} (h : But p vo w w') : w.heap.size ≤ w'.heap.size := h.below.size
theorem Only.but {p : Nat} {w w' : World} (h : Only p w w') (vo : Value) : But p vo w w' := ⟨h.below.mono (Nat.zero_le _), fun j hj hp _ => h.block j hj hp⟩
theorem But.after {p : Nat} {vo : Value} {a b c : World} (h : Only p a b) (g : But p vo b c) : But p vo a c :=
  ⟨(h.below.mono (Nat.zero_le _)).trans g.below, fun j hj hp ho => (g.block j (Nat.lt_of_lt_of_le hj h.size) hp ho).trans (h.block j hj hp)⟩
end Go.Proofs.YthmidlmknkbdaaaDoor.Xm
