/- What reads a tag: the small functions. What reads a tag: blanks, names, what must be there. What reads a tag: values, attributes. What reads a tag: an attribute, an ending. -/
import Derived.Test.YthflpcfpfdmaeaaDoorName
import Derived.Test.YthflpcfpfdmaeaaDoorSpace
import Derived.Test.YthflpcfpfdmaeaaDoorToks
import Derived.Test.YthflpcfpfdmaeaaDoorUN
import Derived.WalkMore
import Derived.Test.YthflpcfpfdmaeaaDoorChars
import Derived.RangeFuncRecord
namespace Go.Proofs.YthflpcfpfdmaeaaDoor.Xm
open Go.RowKit

/-- A step that gives up. -/
abbrev stopE (err : Int) : Ending := .panicked [{ v := .iface 73 (.agg #[.int .i64 err]), recovered := false }]
theorem giveUp_any (err : Int) (w : World) : Calls Tryd.prog 43 #[.int .i64 err] w fun e w' => e = stopE err ∧ w' = w := by
  go_enter Tryd.func43, Tryd.ntmps43
  go_wp2_with fail
  exact ⟨rfl, rfl, rfl⟩

theorem prefix_iff (s p : ByteArray) : (p.size ≤ s.size ∧ s.extract 0 p.size = p) ↔ p.data.toList.isPrefixOf s.data.toList = true := by
  rw [List.isPrefixOf_iff_prefix, List.prefix_iff_eq_take]
  have hl : p.data.toList.length = p.size := Array.length_toList
  have hl2 : s.data.toList.length = s.size := Array.length_toList
  constructor
  · rintro ⟨h, he⟩
    have h1 := ext_list s 0 p.size
    rw [he] at h1
    simpa [hl] using h1
  · intro h
    have hle : p.size ≤ s.size := by
      have h1 := congrArg List.length h
      rw [List.length_take] at h1
      omega
    refine ⟨hle, ?_⟩
    have h1 := ext_list s 0 p.size
    rw [hl] at h
    rw [Nat.sub_zero, List.drop_zero, ← h] at h1
    cases p
    apply ByteArray.ext
    exact Array.ext' h1

theorem hasPrefix_any (s p : ByteArray) (w : World) (_hs : s.size ≤ 9223372036854775807) (_hp : p.size ≤ 9223372036854775807) : Calls Tryd.prog 62 #[.string s, .string p] w fun e w' => e = .returned (.bool (p.data.toList.isPrefixOf s.data.toList)) ∧ w' = w := by
  have hi := prefix_iff s p
  by_cases h : (p.size : Int) ≤ s.size
  · by_cases he : s.extract 0 p.size = p
    · have he' : ((s.extract 0 p.size).toList == p.toList) = true := by simp [he]
      have hb : p.data.toList.isPrefixOf s.data.toList = true := hi.1 ⟨by omega, he⟩
      rw [hb]
      clear hi hb
      go_enter Tryd.func62, Tryd.ntmps62
      go_wp2_with fail
      go_ret
      exact ⟨rfl, rfl⟩
    · have he' := str_ne he
      have hb : p.data.toList.isPrefixOf s.data.toList = false := by
        rw [← Bool.not_eq_true]
        intro x
        exact he (hi.2 x).2
      rw [hb]
      clear hi hb
      go_enter Tryd.func62, Tryd.ntmps62
      go_wp2_with fail
      go_ret
      exact ⟨rfl, rfl⟩
  · have hb : p.data.toList.isPrefixOf s.data.toList = false := by
      rw [← Bool.not_eq_true]
      intro x
      have := (hi.2 x).1
      omega
    rw [hb]
    clear hi hb
    go_enter Tryd.func62, Tryd.ntmps62
    go_wp2_with fail
    go_ret
    exact ⟨rfl, rfl⟩
theorem hasPrefix2_any (s p : ByteArray) (w : World) (hs : s.size ≤ 9223372036854775807) (hp : p.size ≤ 9223372036854775807) : Calls Tryd.prog 51 #[.string s, .string p] w fun e w' => e = .returned (.bool (p.data.toList.isPrefixOf s.data.toList)) ∧ w' = w := by
  have h := hasPrefix_any s p w hs hp
  obtain ⟨bv, hbv⟩ : ∃ bv, p.data.toList.isPrefixOf s.data.toList = bv := ⟨_, rfl⟩
  rw [hbv] at h ⊢
  have H := hide h
  clear h hbv
  go_enter Tryd.func51, Tryd.ntmps51
  go_wp2_with fail
  refine H.out.mono ?_
  rintro e w1 ⟨rfl, rfl⟩
  go_wp2_with fail
  go_ret
  exact ⟨rfl, rfl⟩

/-- What is behind a prefix, and whether it is there. -/
def mayL (p rest : List UInt8) : List UInt8 × Bool := if p.isPrefixOf rest = true then (rest.drop p.length, true) else (rest, false)
theorem cutPrefix_any (s p : ByteArray) (w : World) (hs : s.size ≤ 9223372036854775807) (hp : p.size ≤ 9223372036854775807) : Calls Tryd.prog 72 #[.string s, .string p] w fun e w' => (∃ r : ByteArray, e = .returned (.tuple #[.string r, .bool (mayL p.data.toList s.data.toList).2]) ∧ r.data.toList = (mayL p.data.toList s.data.toList).1) ∧ w' = w := by
  have H := hide (hasPrefix_any s p w hs hp)
  have hi := prefix_iff s p
  have hl : p.data.toList.length = p.size := Array.length_toList
  unfold mayL
  cases hb : p.data.toList.isPrefixOf s.data.toList with
  | true =>
    rw [hb] at H hi
    have hle := (hi.2 rfl).1
    have hle' : (p.size : Int) ≤ s.size := by omega
    have hex : (s.extract p.size s.size).data.toList = s.data.toList.drop p.data.toList.length := by
      rw [ext_list, hl]
      apply List.take_of_length_le
      rw [List.length_drop]
      have : s.data.toList.length = s.size := Array.length_toList
      omega
    have HX := hide hex
    clear hex hi hb hl
    simp only [if_true]
    go_enter Tryd.func72, Tryd.ntmps72
    go_wp2_with fail
    refine H.out.mono ?_
    rintro e w1 ⟨rfl, rfl⟩
    go_wp2_with fail
    go_ret2
    exact ⟨⟨_, rfl, HX.out⟩, rfl⟩
  | false =>
    rw [hb] at H
    clear hi hb hl
    simp only [Bool.false_eq_true, if_false]
    go_enter Tryd.func72, Tryd.ntmps72
    go_wp2_with fail
    refine H.out.mono ?_
    rintro e w1 ⟨rfl, rfl⟩
    go_wp2_with fail
    go_ret2
    exact ⟨⟨_, rfl, rfl⟩, rfl⟩
theorem cutPrefix2_any (s p : ByteArray) (w : World) (hs : s.size ≤ 9223372036854775807) (hp : p.size ≤ 9223372036854775807) : Calls Tryd.prog 60 #[.string s, .string p] w fun e w' => (∃ r : ByteArray, e = .returned (.tuple #[.string r, .bool (mayL p.data.toList s.data.toList).2]) ∧ r.data.toList = (mayL p.data.toList s.data.toList).1) ∧ w' = w := by
  have h := cutPrefix_any s p w hs hp
  obtain ⟨bv, hbv⟩ : ∃ bv, (mayL p.data.toList s.data.toList).2 = bv := ⟨_, rfl⟩
  obtain ⟨rv, hrv⟩ : ∃ rv, (mayL p.data.toList s.data.toList).1 = rv := ⟨_, rfl⟩
  rw [hbv, hrv] at h ⊢
  have H := hide h
  clear h hbv hrv
  go_enter Tryd.func60, Tryd.ntmps60
  go_wp2_with fail
  refine H.out.mono ?_
  rintro e w1 ⟨⟨r, rfl, hr⟩, rfl⟩
  have HR := hide hr
  clear hr
  go_wp2_with fail
  go_ret2
  exact ⟨⟨r, rfl, HR.out⟩, rfl⟩

/-- A world that parts from another in one block alone, and in new ones. -/
structure Only (r : Nat) (w w' : World) : Prop where
  below : Below r w w'
  size : w.heap.size ≤ w'.heap.size
  block : ∀ j, j < w.heap.size → j ≠ r → w'.heap[j]? = w.heap[j]?
theorem Only.refl (r : Nat) (w : World) : Only r w w := ⟨Below.refl _ _, Nat.le_refl _, fun _ _ _ => rfl⟩
theorem Only.trans {r : Nat} {a b c : World} (h : Only r a b) (g : Only r b c) : Only r a c :=
  ⟨h.below.trans g.below, Nat.le_trans h.size g.size, fun j hj hr => (g.block j (Nat.lt_of_lt_of_le hj h.size) hr).trans (h.block j hj hr)⟩
theorem Only.of_below {r : Nat} {a b : World} (h : Below a.heap.size a b) (hr : r ≤ a.heap.size) : Only r a b := ⟨h.mono hr, h.size, fun j hj _ => h.block j hj⟩
theorem Only.set {r i : Nat} {a b : World} (h : Only r a b) (v : Value) : Only r a (b.setCell ⟨r, i, none⟩ v) :=
  ⟨h.below.setCell (p := ⟨r, i, none⟩) (Nat.le_refl _) v, by rw [World.size_setCell]; exact h.size, fun j hj hr => (Below.heap_setCell _ _ _ _ hr).trans (h.block j hj hr)⟩
theorem Only.wide {r : Nat} {a b : World} (h : Only r a b) {n : Nat} (hn : n ≤ r) : Below n a b := h.below.mono hn

/-- A reader in its box. -/
def IsR (r : Nat) (s : ByteArray) (w : World) : Prop := w.heap[r]? = some (.cells #[.string s] 107)
theorem IsR.cell {r : Nat} {s : ByteArray} {w : World} (h : IsR r s w) : w.cell? ⟨r, 0, none⟩ = some (.string s) ∧ w.frozen? ⟨r, 0, none⟩ = false := by
  unfold IsR at h
  simp [World.cell?, World.frozen?, h]
theorem IsR.set {r : Nat} {s : ByteArray} {w : World} (h : IsR r s w) (t : ByteArray) : IsR r t (w.setCell ⟨r, 0, none⟩ (.string t)) := heap_setCell_same _ _ _ _ _ _ h
end Go.Proofs.YthflpcfpfdmaeaaDoor.Xm
namespace Go.Proofs.YthflpcfpfdmaeaaDoor.Xm
open Go.RowKit

set_option maxRecDepth 100000 in
theorem may_any (r : Nat) (s p : ByteArray) (w : World) (hR : IsR r s w) (hs : s.size ≤ 9223372036854775807) (hp : p.size ≤ 9223372036854775807) :
    Calls Tryd.prog 69 #[.pointer (some ⟨r, 0, none⟩), .string p] w fun e w' => e = .returned (.bool (mayL p.data.toList s.data.toList).2) ∧ ∃ s', s'.data.toList = (mayL p.data.toList s.data.toList).1 ∧ IsR r s' w' ∧ Only r w w' := by
  obtain ⟨c1, c2⟩ := hR.cell
  have h := cutPrefix2_any s p w hs hp
  obtain ⟨bv, hbv⟩ : ∃ bv, (mayL p.data.toList s.data.toList).2 = bv := ⟨_, rfl⟩
  obtain ⟨rv, hrv⟩ : ∃ rv, (mayL p.data.toList s.data.toList).1 = rv := ⟨_, rfl⟩
  rw [hbv, hrv] at h ⊢
  have H := hide h
  have HR := hide hR
  clear h hbv hrv hR
  go_enter Tryd.func69, Tryd.ntmps69
  go_wp2_with fail
  refine H.out.mono ?_
  rintro e w1 ⟨⟨t, rfl, ht⟩, hw⟩
  subst hw
  have HTT := hide ht
  clear ht
  go_wp2_with fail
  go_ret
  exact ⟨rfl, t, HTT.out, HR.out.set t, (Only.refl _ _).set _⟩

theorem must_any (r : Nat) (s p : ByteArray) (w : World) (hR : IsR r s w) (hs : s.size ≤ 9223372036854775807) (hp : p.size ≤ 9223372036854775807) :
    Calls Tryd.prog 63 #[.pointer (some ⟨r, 0, none⟩), .string p] w fun e w' => (((mayL p.data.toList s.data.toList).2 = true ∧ e = .returned (.tuple #[])) ∨ ((mayL p.data.toList s.data.toList).2 = false ∧ e = stopE 6)) ∧ ∃ s', s'.data.toList = (mayL p.data.toList s.data.toList).1 ∧ IsR r s' w' ∧ Only r w w' := by
  have h := may_any r s p w hR hs hp
  obtain ⟨rv, hrv⟩ : ∃ rv, (mayL p.data.toList s.data.toList).1 = rv := ⟨_, rfl⟩
  rw [hrv] at h ⊢
  cases hb : (mayL p.data.toList s.data.toList).2 with
  | true =>
    rw [hb] at h
    have H := hide h
    clear h hb hrv hR
    go_enter Tryd.func63, Tryd.ntmps63
    go_wp2_with fail
    refine H.out.mono ?_
    rintro e w1 ⟨rfl, s', h1, h2, h3⟩
    have H3 := hide (And.intro h1 (And.intro h2 h3))
    clear h1 h2 h3
    go_wp2_with fail
    go_end0
    exact ⟨.inl ⟨by trivial, rfl⟩, s', H3.out.1, H3.out.2.1, H3.out.2.2⟩
  | false =>
    rw [hb] at h
    have H := hide h
    clear h hb hrv hR
    go_enter Tryd.func63, Tryd.ntmps63
    go_wp2_with fail
    refine H.out.mono ?_
    rintro e w1 ⟨rfl, s', h1, h2, h3⟩
    have H3 := hide (And.intro h1 (And.intro h2 h3))
    clear h1 h2 h3
    go_wp2_with fail
    refine (giveUp_any 6 w1).mono ?_
    rintro e w2 ⟨rfl, hw⟩
    subst hw
    exact ⟨rfl, .inr ⟨by trivial, rfl⟩, s', H3.out.1, H3.out.2.1, H3.out.2.2⟩

def isBl (b : UInt8) : Bool := b == 32 || b == 9 || b == 10 || b == 13
theorem isBl_iff (b : UInt8) : isBl b = true ↔ Blank b := by
  simp [isBl, Blank, or_assoc]
theorem blanks_one (s : ByteArray) (n : Nat) (h : n < s.size) : Blanks (s.extract n (n + 1)).data.toList ↔ isBl (s[n]'h) = true := by
  have hl : s.data.toList.length = s.size := Array.length_toList
  rw [ext_list, isBl_iff, show n + 1 - n = 1 by omega, drop_cons s n h]
  simp [Blanks]
theorem dropWhile_at {p : UInt8 → Bool} : ∀ (l : List UInt8) (n : Nat), (∀ j x, j < n → l[j]? = some x → p x = true) → (∀ x, l[n]? = some x → p x = false) → n ≤ l.length → l.dropWhile p = l.drop n ∧ l.takeWhile p = l.take n
  | [], 0, _, _, _ => by simp
  | [], n + 1, _, _, h => by simp at h
  | x :: l, 0, _, h, _ => by
    have := h x (by simp)
    simp [this]
  | x :: l, n + 1, h1, h2, h3 => by
    have h0 := h1 0 x (by omega) (by simp)
    have ih := dropWhile_at l n (fun j y hj hy => h1 (j + 1) y (by omega) (by simpa using hy)) (fun y hy => h2 y (by simpa using hy)) (by simpa using h3)
    simp [h0, ih.1, ih.2]

set_option maxRecDepth 100000 in
set_option maxHeartbeats 2000000 in
theorem rblanks_any (r : Nat) (s : ByteArray) (w : World) (hR : IsR r s w) (hs : s.size ≤ 1000000) :
    Calls Tryd.prog 65 #[.pointer (some ⟨r, 0, none⟩)] w fun e w' => ∃ s', s'.data.toList = s.data.toList.dropWhile isBl ∧ e = .returned (.bool (decide (0 < (s.data.toList.takeWhile isBl).length))) ∧ IsR r s' w' ∧ Only r w w' := by
  have hl : s.data.toList.length = s.size := Array.length_toList
  have hrl : r < w.heap.size := (Array.getElem?_eq_some_iff.1 hR).1
  have HR := hide hR
  clear hR
  have hfin : ∀ (n : Nat), n ≤ s.size → (∀ j x, j < n → s.data.toList[j]? = some x → isBl x = true) → (∀ x, s.data.toList[n]? = some x → isBl x = false) → (s.extract n s.size).data.toList = s.data.toList.dropWhile isBl ∧ (s.data.toList.takeWhile isBl).length = n := fun n hn h1 h2 => by
    obtain ⟨e1, e2⟩ := dropWhile_at s.data.toList n h1 h2 (by omega)
    rw [e1, e2, ext_list]
    exact ⟨List.take_of_length_le (by rw [List.length_drop]; omega), by rw [List.length_take]; omega⟩
  have HF := hide hfin
  clear hfin
  go_enter Tryd.func65, Tryd.ntmps65
  go_wp2_with fail
  go_step3
  go_wp2_with fail
  go_step3
  go_wp2_with fail
  go_loopw [3] (fun i wr => ∃ n : Nat, n ≤ s.size ∧ i = .int .i64 n ∧ (∀ j x, j < n → s.data.toList[j]? = some x → isBl x = true) ∧ IsR r s wr ∧ Only r w wr) (fun i _ => s.size - (intOf i).toNat)
  case atStart => exact ⟨0, Nat.zero_le _, rfl, fun j x h => by omega, HR.out, Only.refl _ _⟩
  case round =>
    obtain ⟨n, hn, rfl, hbl, hR, hO⟩ := hrel
    obtain ⟨c1, c2⟩ := hR.cell
    have HI := hide (And.intro hbl (And.intro hR hO))
    clear hbl hR hO
    have hn0 : 0 ≤ (n : Int) := by omega
    by_cases hlt : n < s.size
    · have hone := blanks_one s n hlt
      have hat : s.data.toList[n]? = some (s[n]'hlt) := by simp [hlt]; rfl
      have HO := hide (And.intro hone hat)
      clear hone hat
      have g1 : (n : Int) + 1 ≤ s.size := by omega
      have g2 : (n : Int) ≤ (n : Int) + 1 := by omega
      have g3 : ¬ ((n : Int) + 1 < n) := by omega
      go_wp2_with fail
      refine (space_any _ wr).mono ?_
      rintro e w1 ⟨⟨hb, rfl⟩ | ⟨hb, rfl⟩, hbw⟩
      · have H1 := hide hbw
        clear hbw
        go_wp2_with fail
        refine ⟨⟨n + 1, by omega, by simp, fun j x hj hx => ?_, ?_, HI.out.2.2.trans (Only.of_below H1.out (by have := lt_of_cell c1; simp at this; omega))⟩, by simp [intOf]; omega⟩
        · rcases Nat.lt_or_ge j n with h | h
          · exact HI.out.1 j x h hx
          · obtain rfl : j = n := by omega
            rw [HO.out.2] at hx
            cases hx
            exact HO.out.1.1 hb
        · exact (H1.out.block r (lt_of_cell c1)).trans HI.out.2.1
      · have H1 := hide hbw
        clear hbw
        have c3 : w1.cell? ⟨r, 0, none⟩ = some (.string s) := (H1.out.cell (p := ⟨r, 0, none⟩) (lt_of_cell c1)).trans c1
        have c4 : w1.frozen? ⟨r, 0, none⟩ = false := by
          have h := (H1.out.block r (lt_of_cell c1)).trans HI.out.2.1
          exact (show IsR r s w1 from h).cell.2
        go_wp2_with fail
        rw [Exit.noGoto_ret]
        go_ret
        obtain ⟨e1, e2⟩ := HF.out n (by omega) HI.out.1 (fun x hx => by
          rw [HO.out.2] at hx
          cases hx
          rw [← Bool.not_eq_true]
          exact fun h => hb (HO.out.1.2 h))
        refine ⟨_, e1, by rw [e2]; rfl, IsR.set (s := s) ((H1.out.block r (lt_of_cell c1)).trans HI.out.2.1) _, (HI.out.2.2.trans (Only.of_below H1.out (by have := lt_of_cell c1; simp at this; omega))).set _⟩
    · go_wp2_with fail
      rw [Exit.noGoto_ret]
      go_ret
      obtain ⟨e1, e2⟩ := HF.out n (by omega) HI.out.1 (fun x hx => by
        have := (List.getElem?_eq_some_iff.1 hx).1
        omega)
      exact ⟨_, e1, by rw [e2]; rfl, IsR.set HI.out.2.1 _, HI.out.2.2.set _⟩

def isBb (b : UInt8) : Bool := (decide (65 ≤ b.toNat) && decide (b.toNat ≤ 90)) || (decide (97 ≤ b.toNat) && decide (b.toNat ≤ 122)) || decide (b.toNat = 95)
def isGb (b : UInt8) : Bool := (decide (48 ≤ b.toNat) && decide (b.toNat ≤ 57)) || decide (b.toNat = 45) || decide (b.toNat = 46) || decide (b.toNat = 58)
theorem isBb_iff (b : UInt8) : isBb b = true ↔ IsB (b.toNat : Int) := by
  simp only [isBb, IsB, Bool.or_eq_true, Bool.and_eq_true, decide_eq_true_eq]
  omega
theorem isGb_iff (b : UInt8) : isGb b = true ↔ IsG (b.toNat : Int) := by
  simp only [isGb, IsG, Bool.or_eq_true, Bool.and_eq_true, decide_eq_true_eq]
  omega
/-- Whether a text is a name. -/
def nmB (l : List UInt8) : Bool := decide (1 ≤ l.length) && decide (l.length ≤ 32) && l.zipIdx.all (fun x => isBb x.1 || (decide (0 < x.2) && isGb x.1))
theorem nmB_iff (s : ByteArray) : NameOk s ↔ nmB s.data.toList = true := by
  have hl : s.data.toList.length = s.size := Array.length_toList
  unfold nmB NameOk
  rw [Bool.and_eq_true, Bool.and_eq_true, decide_eq_true_eq, decide_eq_true_eq, hl, List.all_eq_true]
  constructor
  · rintro ⟨h1, h2, h3⟩
    refine ⟨⟨h1, h2⟩, fun x hx => ?_⟩
    obtain ⟨b, j⟩ := x
    have hj := List.mem_zipIdx_iff_getElem?.1 hx
    have hlt : j < s.size := by
      have := (List.getElem?_eq_some_iff.1 hj).1
      omega
    have he : s[j] = b := by
      have h := List.getElem?_eq_some_iff.1 hj
      obtain ⟨_, h⟩ := h
      have h' : s.data[j]'hlt = b := by simpa using h
      exact h'
    have h4 := h3 j hlt
    unfold NmAt at h4
    rw [he] at h4
    rcases h4 with h4 | ⟨h5, h4⟩
    · simp [(isBb_iff b).2 h4]
    · simp [(isGb_iff b).2 h4, h5]
  · rintro ⟨⟨h1, h2⟩, h3⟩
    refine ⟨h1, h2, fun j hj => ?_⟩
    have hm : (s[j], j) ∈ s.data.toList.zipIdx := List.mem_zipIdx_iff_getElem?.2 (by
      show s.data.toList[j]? = some s[j]
      rw [List.getElem?_eq_getElem (by omega)]
      simp
      rfl)
    have h4 := h3 _ hm
    simp only [Bool.or_eq_true, Bool.and_eq_true, decide_eq_true_eq] at h4
    rcases h4 with h4 | ⟨h5, h4⟩
    · exact .inl ((isBb_iff _).1 h4)
    · exact .inr ⟨h5, (isGb_iff _).1 h4⟩
/-- How long the name is that a text begins with. -/
def nameGo (l : List UInt8) : Nat → Nat → Nat
  | 0, n => n
  | f + 1, n => if n < l.length ∧ nmB (l.take (n + 1)) = true then nameGo l f (n + 1) else n
def nameLen (l : List UInt8) : Nat := nameGo l l.length 0
theorem take_list (s : ByteArray) (n : Nat) : (s.extract 0 n).data.toList = s.data.toList.take n := by
  rw [ext_list]
  simp

set_option maxRecDepth 100000 in
set_option maxHeartbeats 2000000 in
theorem rname_any (r : Nat) (s : ByteArray) (w : World) (hR : IsR r s w) (hs : s.size ≤ 1000000) :
    Calls Tryd.prog 64 #[.pointer (some ⟨r, 0, none⟩)] w fun e w' => ((nameLen s.data.toList = 0 ∧ e = stopE 6) ∨ (0 < nameLen s.data.toList ∧ ∃ t : ByteArray, t.data.toList = s.data.toList.take (nameLen s.data.toList) ∧ e = .returned (.string t) ∧ ∃ s', s'.data.toList = s.data.toList.drop (nameLen s.data.toList) ∧ IsR r s' w')) ∧ Only r w w' := by
  have hl : s.data.toList.length = s.size := Array.length_toList
  have hrl : r < w.heap.size := (Array.getElem?_eq_some_iff.1 hR).1
  have HR := hide hR
  clear hR
  go_enter Tryd.func64, Tryd.ntmps64
  go_wp2_with fail
  go_loopw [3] (fun i wr => ∃ n : Nat, n ≤ s.size ∧ i = .int .i64 n ∧ nameGo s.data.toList (s.size - n) n = nameLen s.data.toList ∧ IsR r s wr ∧ Only r w wr) (fun i _ => s.size - (intOf i).toNat)
  case atStart => exact ⟨0, Nat.zero_le _, rfl, by rw [nameLen, hl]; rfl, HR.out, Only.refl _ _⟩
  case round =>
    obtain ⟨n, hn, rfl, hgo, hR, hO⟩ := hrel
    obtain ⟨c1, c2⟩ := hR.cell
    have hend : (n = s.size ∨ ¬ NameOk (s.extract 0 (n + 1))) → nameLen s.data.toList = n := fun h => by
      rw [← hgo]
      cases hf : s.size - n with
      | zero => rfl
      | succ f =>
        rw [nameGo, if_neg]
        rintro ⟨h1, h2⟩
        rcases h with h | h
        · omega
        · exact h ((nmB_iff _).2 (by rw [take_list]; exact h2))
    have hnext : n < s.size → NameOk (s.extract 0 (n + 1)) → nameGo s.data.toList (s.size - (n + 1)) (n + 1) = nameLen s.data.toList := fun h1 h2 => by
      rw [← hgo, show s.size - n = (s.size - (n + 1)) + 1 by omega, nameGo, if_pos]
      exact ⟨by omega, by rw [← take_list]; exact (nmB_iff _).1 h2⟩
    have HI := hide (And.intro (And.intro hend hnext) (And.intro hR hO))
    clear hgo hR hO hend hnext
    have hn0 : 0 ≤ (n : Int) := by omega
    have hfin : nameLen s.data.toList = n → ∀ (v : World), IsR r s v → Only r w v → (0 < n) → ∃ t : ByteArray, t.data.toList = s.data.toList.take (nameLen s.data.toList) ∧ Ending.returned (.string (s.extract 0 n)) = .returned (.string t) ∧ ∃ s', s'.data.toList = s.data.toList.drop (nameLen s.data.toList) ∧ IsR r s' (v.setCell ⟨r, 0, none⟩ (.string (s.extract n s.size))) := fun he v h1 h2 h3 => by
      rw [he]
      refine ⟨_, take_list s n, rfl, _, ?_, h1.set _⟩
      rw [ext_list]
      exact List.take_of_length_le (by rw [List.length_drop]; omega)
    have HF := hide hfin
    clear hfin
    by_cases hlt : n < s.size
    · have g1 : (n : Int) + 1 ≤ s.size := by omega
      have g2 : (0 : Int) ≤ (n : Int) + 1 := by omega
      go_wp2_with fail
      refine (name_any _ wr (by rw [ByteArray.size_extract]; unfold maxLen; omega)).mono ?_
      rintro e w1 ⟨⟨hb, rfl⟩ | ⟨hb, rfl⟩, hbw⟩
      · have H1 := hide hbw
        clear hbw
        go_wp2_with fail
        exact ⟨⟨n + 1, by omega, by simp, HI.out.1.2 hlt hb, (H1.out.block r (lt_of_cell c1)).trans HI.out.2.1, HI.out.2.2.trans (Only.of_below H1.out (by have := lt_of_cell c1; simp at this; omega))⟩, by simp [intOf]; omega⟩
      · have H1 := hide hbw
        have c3 : IsR r s w1 := (hbw.block r (lt_of_cell c1)).trans HI.out.2.1
        obtain ⟨c4, c5⟩ := c3.cell
        have hon := HI.out.2.2.trans (Only.of_below hbw (by have := lt_of_cell c1; simp at this; omega))
        have HC := hide (And.intro c3 hon)
        clear hbw c3 hon
        have he := HI.out.1.1 (.inr hb)
        have HE := hide he
        clear he
        by_cases h0 : n = 0
        · subst h0
          go_wp2_with fail
          refine (giveUp_any 6 w1).mono ?_
          rintro e w2 ⟨rfl, hw⟩
          subst hw
          exact ⟨rfl, .inl ⟨HE.out, rfl⟩, HC.out.2⟩
        · have h0' : ((n : Int) == 0) = false := by rw [beq_eq_false_iff_ne]; omega
          go_wp2_with fail
          go_ret
          exact ⟨.inr ⟨by rw [HE.out]; omega, HF.out HE.out w1 HC.out.1 HC.out.2 (by omega)⟩, HC.out.2.set _⟩
    · have he := HI.out.1.1 (.inl (by omega))
      have HE := hide he
      clear he
      by_cases h0 : n = 0
      · subst h0
        go_wp2_with fail
        refine (giveUp_any 6 wr).mono ?_
        rintro e w2 ⟨rfl, hw⟩
        subst hw
        exact ⟨rfl, .inl ⟨HE.out, rfl⟩, HI.out.2.2⟩
      · have h0' : ((n : Int) == 0) = false := by rw [beq_eq_false_iff_ne]; omega
        go_wp2_with fail
        go_ret
        exact ⟨.inr ⟨by rw [HE.out]; omega, HF.out HE.out wr HI.out.2.1 HI.out.2.2 (by omega)⟩, HI.out.2.2.set _⟩
end Go.Proofs.YthflpcfpfdmaeaaDoor.Xm
namespace Go.Proofs.YthflpcfpfdmaeaaDoor.Xm
open Go.RowKit

abbrev Tabs (w : World) : Prop := Lib.Utf8Tabs 1 2 w
theorem tabs_below4 {w w' : World} {B : Nat} (hT : Tabs w) (hb : Below B w w') (hB : 4 ≤ B) : Tabs w' := by
  refine ⟨fun c hc => ?_, fun i hi => ⟨?_, ?_⟩⟩
  · rw [hb.cell (p := ⟨_, _, none⟩) (Nat.lt_of_lt_of_le (show 1 < 4 by decide) hB)]; exact hT.1 c hc
  · rw [hb.cell (p := ⟨_, _, none⟩) (Nat.lt_of_lt_of_le (show 2 < 4 by decide) hB)]; exact (hT.2 i hi).1
  · rw [hb.cell (p := ⟨_, _, none⟩) (Nat.lt_of_lt_of_le (show 2 < 4 by decide) hB)]; exact (hT.2 i hi).2
theorem Only.drewN {r : Nat} {a b : World} (h : Only r a b) (n : Nat) : Only r a (b.drewN n) := ⟨⟨h.below.os, h.below.tape, h.below.output, h.below.size, h.below.block⟩, h.size, h.block⟩
/-- The variables that are read. -/
def Env (w : World) : Prop := Tabs w ∧ EntLaid w ∧ ∃ m, w.cell? ⟨3, 0, none⟩ = some (.int .i64 m)
theorem Env.below {w w' : World} {B : Nat} (h : Env w) (hb : Below B w w') (hB : 4 ≤ B) : Env w' := by
  obtain ⟨h1, h2, m, h3⟩ := h
  exact ⟨tabs_below4 h1 hb hB, h2.below hb (Nat.lt_of_lt_of_le (by decide) hB), m, (hb.cell (p := ⟨_, 0, none⟩) (Nat.lt_of_lt_of_le (by decide) hB)).trans h3⟩

/-- A value in quotes: what it says, and what is behind it. -/
def valueIn (q : UInt8) (l : List UInt8) : Option (List UInt8 × List UInt8) :=
  match unesc (Lib.cut l [q]).1 with
  | some p => if (Lib.cut l [q]).2.2 = true then some (p, (Lib.cut l [q]).2.1) else none
  | none => none
def valueL (l : List UInt8) : Option (List UInt8 × List UInt8) :=
  if (mayL [39] l).2 = true then valueIn 39 (mayL [39] l).1 else if (mayL [34] l).2 = true then valueIn 34 (mayL [34] l).1 else none

theorem mayL_no {p l : List UInt8} (h : (mayL p l).2 = false) : (mayL p l).1 = l := by
  unfold mayL at h ⊢
  split
  · rename_i h1
    simp [h1] at h
  · rfl
theorem mayL_len (p l : List UInt8) : (mayL p l).1.length ≤ l.length := by
  unfold mayL
  split
  · simp
  · exact Nat.le_refl _
theorem arr_list (l : List UInt8) : (⟨l.toArray⟩ : ByteArray).data.toList = l := rfl
theorem size_lst (s : ByteArray) : s.size = s.data.toList.length := Array.length_toList.symm
theorem cut_len (l : List UInt8) (q : UInt8) : (Lib.cut l [q]).1.length ≤ l.length := by
  unfold Lib.cut
  split
  · simp; omega
  · exact Nat.le_refl _

set_option maxRecDepth 100000 in
set_option maxHeartbeats 2000000 in
theorem value_any (r : Nat) (s : ByteArray) (w : World) (hR : IsR r s w) (hs : s.size ≤ 100000) (hE : Env w) (h4 : 4 ≤ r) :
    Calls Tryd.prog 74 #[.pointer (some ⟨r, 0, none⟩)] w fun e w' => ((valueL s.data.toList = none ∧ e = stopE 6) ∨ (∃ p after, valueL s.data.toList = some (p, after) ∧ e = .returned (.string ⟨p.toArray⟩) ∧ IsR r ⟨after.toArray⟩ w')) ∧ Only r w w' := by
  have hrl : r < w.heap.size := (Array.getElem?_eq_some_iff.1 hR).1
  -- what follows the quote
  have hmay := may_any r s ⟨#[39]⟩ w hR (by omega) (by show 1 ≤ _; omega)
  rw [show (⟨#[39]⟩ : ByteArray).data.toList = [39] from rfl] at hmay
  have HE := hide hE
  clear hE hR
  cases hb : (mayL [39] s.data.toList).2 with
  | true =>
    rw [hb] at hmay
    have HM := hide hmay
    clear hmay
    have hv : valueL s.data.toList = valueIn 39 (mayL [39] s.data.toList).1 := by unfold valueL; rw [if_pos hb]
    have hle := mayL_len [39] s.data.toList
    rw [← size_lst] at hle
    obtain ⟨rest, hrest⟩ : ∃ rest, (mayL [39] s.data.toList).1 = rest := ⟨_, rfl⟩
    rw [hrest] at hv HM hle
    have HV := hide hv
    clear hv hb hrest
    go_enter Tryd.func74, Tryd.ntmps74
    go_wp2_with fail
    refine HM.out.mono ?_
    rintro e w1 ⟨rfl, s1, hs1, hR1, hO1⟩
    obtain ⟨c1, c2⟩ := hR1.cell
    have hE1 := HE.out.below hO1.below h4
    obtain ⟨m, hm⟩ := hE1.2.2
    have hss : s1.size ≤ 100000 := by rw [size_lst, hs1]; omega
    have hcut := stringsCut s1 ⟨#[39]⟩ m w1 (by omega) hm
    rw [hs1, show (⟨#[39]⟩ : ByteArray).data.toList = [39] from rfl] at hcut
    have HC := hide (And.intro hcut (And.intro hR1 (And.intro hO1 hE1)))
    clear hcut hR1 hO1 hE1 hm HM
    go_wp2_with fail
    refine HC.out.1.mono ?_
    rintro e w2 ⟨rfl, nd, hw2⟩
    subst hw2
    have hul := cut_len rest 39
    have hue := unescape_any ⟨(Lib.cut rest [39]).1.toArray⟩ (w1.drewN nd) (by rw [size_lst, arr_list]; omega) (by exact HC.out.2.2.2.2.1) _ (by exact (Classical.choose_spec HC.out.2.2.2.2.2))
    rw [arr_list] at hue
    obtain ⟨cs, hcs⟩ : ∃ cs, (Lib.cut rest [39]).1 = cs := ⟨_, rfl⟩
    obtain ⟨ca, hca⟩ : ∃ ca, (Lib.cut rest [39]).2.1 = ca := ⟨_, rfl⟩
    obtain ⟨cb, hcb⟩ : ∃ cb, (Lib.cut rest [39]).2.2 = cb := ⟨_, rfl⟩
    have hvi : valueIn 39 rest = match unesc cs with | some p => if cb = true then some (p, ca) else none | none => none := by unfold valueIn; rw [hcs, hca, hcb]
    rw [hcs] at hue hul ⊢
    rw [hca, hcb]
    have HVI := hide hvi
    have HU := hide (And.intro hue (And.intro HC.out.2.1 (HC.out.2.2.1.drewN nd)))
    clear hue hvi hcs hca hcb HC
    go_wp2_with fail
    refine HU.out.1.mono ?_
    rintro e w3 ⟨⟨p, hp, rfl⟩ | ⟨hp, rfl⟩, hb3⟩
    · have hR3 : IsR r s1 w3 := (hb3.block r (by have := (Array.getElem?_eq_some_iff.1 HU.out.2.1).1; simpa using this)).trans HU.out.2.1
      have hO3 := HU.out.2.2.trans (Only.of_below hb3 (by have := (Array.getElem?_eq_some_iff.1 HU.out.2.1).1; simp; omega))
      obtain ⟨c3, c4⟩ := hR3.cell
      have H3 := hide (And.intro hR3 hO3)
      clear hR3 hO3 hb3 c1 c2
      cases cb with
      | true =>
        go_wp2_with fail
        go_ret
        exact ⟨.inr ⟨p, ca, (HV.out.trans HVI.out).trans (by rw [hp]; rfl), rfl, H3.out.1.set _⟩, H3.out.2.set _⟩
      | false =>
        go_wp2_with fail
        refine (giveUp_any 6 w3).mono ?_
        rintro e w4 ⟨rfl, hw⟩
        subst hw
        exact ⟨rfl, .inl ⟨(HV.out.trans HVI.out).trans (by rw [hp]; rfl), rfl⟩, H3.out.2⟩
    · have hO3 := HU.out.2.2.trans (Only.of_below hb3 (by have := (Array.getElem?_eq_some_iff.1 HU.out.2.1).1; simp; omega))
      have H3 := hide hO3
      clear hO3 hb3 c1 c2
      cases cb with
      | true =>
        go_wp2_with fail
        refine (giveUp_any 6 w3).mono ?_
        rintro e w4 ⟨rfl, hw⟩
        subst hw
        exact ⟨rfl, .inl ⟨(HV.out.trans HVI.out).trans (by rw [hp]), rfl⟩, H3.out⟩
      | false =>
        go_wp2_with fail
        refine (giveUp_any 6 w3).mono ?_
        rintro e w4 ⟨rfl, hw⟩
        subst hw
        exact ⟨rfl, .inl ⟨(HV.out.trans HVI.out).trans (by rw [hp]), rfl⟩, H3.out⟩
  | false =>
    rw [hb] at hmay
    have hno := mayL_no hb
    rw [hno] at hmay
    have HM := hide hmay
    clear hmay
    cases hb2 : (mayL [34] s.data.toList).2 with
    | false =>
      have hv : valueL s.data.toList = none := by unfold valueL; rw [if_neg (by simp [hb]), if_neg (by simp [hb2])]
      have HV := hide hv
      have HB2 := hide hb2
      clear hb hno hv hb2
      go_enter Tryd.func74, Tryd.ntmps74
      go_wp2_with fail
      refine HM.out.mono ?_
      rintro e w1 ⟨rfl, s1, hs1, hR1, hO1⟩
      have hmu := must_any r s1 ⟨#[34]⟩ w1 hR1 (by rw [size_lst, hs1, ← size_lst]; omega) (by show 1 ≤ _; omega)
      rw [show (⟨#[34]⟩ : ByteArray).data.toList = [34] from rfl, hs1] at hmu
      have HMU := hide (And.intro hmu hO1)
      clear hmu hO1
      go_wp2_with fail
      refine HMU.out.1.mono ?_
      rintro e w2 ⟨⟨h, _⟩ | ⟨_, rfl⟩, s2, _, _, hO2⟩
      · rw [HB2.out] at h
        cases h
      · exact ⟨rfl, .inl ⟨HV.out, rfl⟩, HMU.out.2.trans hO2⟩
    | true =>
    have hv : valueL s.data.toList = valueIn 34 (mayL [34] s.data.toList).1 := by unfold valueL; rw [if_neg (by simp [hb]), if_pos hb2]
    have hle := mayL_len [34] s.data.toList
    rw [← size_lst] at hle
    have HB2 := hide hb2
    clear hb hno hb2
    obtain ⟨rest, hrest⟩ : ∃ rest, (mayL [34] s.data.toList).1 = rest := ⟨_, rfl⟩
    rw [hrest] at hle hv
    have HV := hide (And.intro hv hrest)
    clear hv hrest
    go_enter Tryd.func74, Tryd.ntmps74
    go_wp2_with fail
    refine HM.out.mono ?_
    rintro e w0 ⟨rfl, s0, hs0, hR0, hO0⟩
    have hmu := must_any r s0 ⟨#[34]⟩ w0 hR0 (by rw [size_lst, hs0, ← size_lst]; omega) (by show 1 ≤ _; omega)
    rw [show (⟨#[34]⟩ : ByteArray).data.toList = [34] from rfl, hs0, HV.out.2] at hmu
    have HMU := hide (And.intro hmu hO0)
    clear hmu hO0 hs0 hR0
    go_wp2_with fail
    refine HMU.out.1.mono ?_
    rintro e w1 ⟨⟨_, rfl⟩ | ⟨h, _⟩, s1, hs1, hR1, hO1'⟩
    case inr =>
      rw [HB2.out] at h
      cases h
    have hO1 := HMU.out.2.trans hO1'
    obtain ⟨c1, c2⟩ := hR1.cell
    have hE1 := HE.out.below hO1.below h4
    obtain ⟨m, hm⟩ := hE1.2.2
    have hss : s1.size ≤ 100000 := by rw [size_lst, hs1]; omega
    have hcut := stringsCut s1 ⟨#[34]⟩ m w1 (by omega) hm
    rw [hs1, show (⟨#[34]⟩ : ByteArray).data.toList = [34] from rfl] at hcut
    have HC := hide (And.intro hcut (And.intro hR1 (And.intro hO1 hE1)))
    clear hcut hR1 hO1 hE1 hm HM hO1' HMU
    go_wp2_with fail
    refine HC.out.1.mono ?_
    rintro e w2 ⟨rfl, nd, hw2⟩
    subst hw2
    have hul := cut_len rest 34
    have hue := unescape_any ⟨(Lib.cut rest [34]).1.toArray⟩ (w1.drewN nd) (by rw [size_lst, arr_list]; omega) (by exact HC.out.2.2.2.2.1) _ (by exact (Classical.choose_spec HC.out.2.2.2.2.2))
    rw [arr_list] at hue
    obtain ⟨cs, hcs⟩ : ∃ cs, (Lib.cut rest [34]).1 = cs := ⟨_, rfl⟩
    obtain ⟨ca, hca⟩ : ∃ ca, (Lib.cut rest [34]).2.1 = ca := ⟨_, rfl⟩
    obtain ⟨cb, hcb⟩ : ∃ cb, (Lib.cut rest [34]).2.2 = cb := ⟨_, rfl⟩
    have hvi : valueIn 34 rest = match unesc cs with | some p => if cb = true then some (p, ca) else none | none => none := by unfold valueIn; rw [hcs, hca, hcb]
    rw [hcs] at hue hul ⊢
    rw [hca, hcb]
    have HVI := hide hvi
    have HU := hide (And.intro hue (And.intro HC.out.2.1 (HC.out.2.2.1.drewN nd)))
    clear hue hvi hcs hca hcb HC
    go_wp2_with fail
    refine HU.out.1.mono ?_
    rintro e w3 ⟨⟨p, hp, rfl⟩ | ⟨hp, rfl⟩, hb3⟩
    · have hR3 : IsR r s1 w3 := (hb3.block r (by have := (Array.getElem?_eq_some_iff.1 HU.out.2.1).1; simpa using this)).trans HU.out.2.1
      have hO3 := HU.out.2.2.trans (Only.of_below hb3 (by have := (Array.getElem?_eq_some_iff.1 HU.out.2.1).1; simp; omega))
      obtain ⟨c3, c4⟩ := hR3.cell
      have H3 := hide (And.intro hR3 hO3)
      clear hR3 hO3 hb3 c1 c2
      cases cb with
      | true =>
        go_wp2_with fail
        go_ret
        exact ⟨.inr ⟨p, ca, (HV.out.1.trans HVI.out).trans (by rw [hp]; rfl), rfl, H3.out.1.set _⟩, H3.out.2.set _⟩
      | false =>
        go_wp2_with fail
        refine (giveUp_any 6 w3).mono ?_
        rintro e w4 ⟨rfl, hw⟩
        subst hw
        exact ⟨rfl, .inl ⟨(HV.out.1.trans HVI.out).trans (by rw [hp]; rfl), rfl⟩, H3.out.2⟩
    · have hO3 := HU.out.2.2.trans (Only.of_below hb3 (by have := (Array.getElem?_eq_some_iff.1 HU.out.2.1).1; simp; omega))
      have H3 := hide hO3
      clear hO3 hb3 c1 c2
      cases cb with
      | true =>
        go_wp2_with fail
        refine (giveUp_any 6 w3).mono ?_
        rintro e w4 ⟨rfl, hw⟩
        subst hw
        exact ⟨rfl, .inl ⟨(HV.out.1.trans HVI.out).trans (by rw [hp]), rfl⟩, H3.out⟩
      | false =>
        go_wp2_with fail
        refine (giveUp_any 6 w3).mono ?_
        rintro e w4 ⟨rfl, hw⟩
        subst hw
        exact ⟨rfl, .inl ⟨(HV.out.1.trans HVI.out).trans (by rw [hp]), rfl⟩, H3.out⟩
end Go.Proofs.YthflpcfpfdmaeaaDoor.Xm
namespace Go.Proofs.YthflpcfpfdmaeaaDoor.Xm
open Go.RowKit

def nameL (l : List UInt8) : Option (List UInt8 × List UInt8) := if nameLen l = 0 then none else some (l.take (nameLen l), l.drop (nameLen l))
def mustL (p l : List UInt8) : Option (List UInt8) := if (mayL p l).2 = true then some (mayL p l).1 else none
def attrL (l : List UInt8) : Option ((List UInt8 × List UInt8) × List UInt8) :=
  (nameL l).bind fun x => (mustL [61] (x.2.dropWhile isBl)).bind fun y => (valueL (y.dropWhile isBl)).map fun z => ((x.1, z.1), z.2)
def endL (l : List UInt8) : Option (List UInt8) :=
  (mustL [60, 47] l).bind fun x => (nameL x).bind fun y => (mustL [62] (y.2.dropWhile isBl)).map fun _ => y.1
def atEndL (l : List UInt8) : Bool := [47].isPrefixOf l || [62].isPrefixOf l

theorem dropWhile_len (p : UInt8 → Bool) (l : List UInt8) : (l.dropWhile p).length ≤ l.length := (List.dropWhile_suffix p).length_le
theorem mustL_len {p l m : List UInt8} (h : mustL p l = some m) : m.length ≤ l.length := by
  unfold mustL at h
  split at h
  · cases h
    exact mayL_len p l
  · cases h
theorem valueIn_len {q : UInt8} {l p a : List UInt8} (h : valueIn q l = some (p, a)) : a.length ≤ l.length := by
  unfold valueIn at h
  split at h
  · split at h
    · cases h
      unfold Lib.cut
      split <;> simp
    · cases h
  · cases h
theorem valueL_len {l p a : List UInt8} (h : valueL l = some (p, a)) : a.length ≤ l.length := by
  unfold valueL at h
  split at h
  · exact Nat.le_trans (valueIn_len h) (mayL_len _ _)
  · split at h
    · exact Nat.le_trans (valueIn_len h) (mayL_len _ _)
    · cases h
theorem Only.past {r b i : Nat} {a c : World} (h : Only r a c) (hb : r < b ∧ a.heap.size ≤ b) (v : Value) : Only r a (c.setCell ⟨b, i, none⟩ v) :=
  ⟨h.below.setCell (p := ⟨b, i, none⟩) (Nat.le_of_lt hb.1) v, by rw [World.size_setCell]; exact h.size, fun j hj hr => (Below.heap_setCell _ _ _ _ (by simp; omega)).trans (h.block j hj hr)⟩
theorem bytes_ext {s : ByteArray} {l : List UInt8} (h : s.data.toList = l) : s = ⟨l.toArray⟩ := by
  obtain ⟨⟨x⟩⟩ := s
  subst h
  rfl

/-- A contract of 'name' by what it says. -/
theorem rname_l (r : Nat) (s : ByteArray) (w : World) (hR : IsR r s w) (hs : s.size ≤ 1000000) :
    Calls Tryd.prog 64 #[.pointer (some ⟨r, 0, none⟩)] w fun e w' => ((nameL s.data.toList = none ∧ e = stopE 6) ∨ (∃ x y, nameL s.data.toList = some (x, y) ∧ e = .returned (.string ⟨x.toArray⟩) ∧ IsR r ⟨y.toArray⟩ w' ∧ y.length ≤ s.size)) ∧ Only r w w' := by
  refine (rname_any r s w hR hs).mono ?_
  rintro e w' ⟨⟨h, rfl⟩ | ⟨h, t, ht, rfl, s', hs', hR'⟩, hO⟩
  · exact ⟨.inl ⟨by simp [nameL, h], rfl⟩, hO⟩
  · refine ⟨.inr ⟨_, _, by unfold nameL; rw [if_neg (by omega)], by rw [bytes_ext ht], by rw [← bytes_ext hs']; exact hR', ?_⟩, hO⟩
    rw [List.length_drop, size_lst]
    omega
theorem must_l (r : Nat) (s p : ByteArray) (w : World) (hR : IsR r s w) (hs : s.size ≤ 1000000) (hp : p.size ≤ 1000) :
    Calls Tryd.prog 63 #[.pointer (some ⟨r, 0, none⟩), .string p] w fun e w' => ((mustL p.data.toList s.data.toList = none ∧ e = stopE 6) ∨ (∃ y, mustL p.data.toList s.data.toList = some y ∧ e = .returned (.tuple #[]) ∧ IsR r ⟨y.toArray⟩ w' ∧ y.length ≤ s.size)) ∧ Only r w w' := by
  refine (must_any r s p w hR (by omega) (by omega)).mono ?_
  rintro e w' ⟨⟨h, rfl⟩ | ⟨h, rfl⟩, s', hs', hR', hO⟩
  · refine ⟨.inr ⟨_, by unfold mustL; rw [if_pos h], rfl, by rw [← bytes_ext hs']; exact hR', ?_⟩, hO⟩
    have := mayL_len p.data.toList s.data.toList
    rw [size_lst]
    exact this
  · exact ⟨.inl ⟨by unfold mustL; rw [if_neg (by simp [h])], rfl⟩, hO⟩
theorem rblanks_l (r : Nat) (s : ByteArray) (w : World) (hR : IsR r s w) (hs : s.size ≤ 1000000) :
    Calls Tryd.prog 65 #[.pointer (some ⟨r, 0, none⟩)] w fun e w' => e = .returned (.bool (decide (0 < (s.data.toList.takeWhile isBl).length))) ∧ IsR r ⟨(s.data.toList.dropWhile isBl).toArray⟩ w' ∧ Only r w w' := by
  refine (rblanks_any r s w hR hs).mono ?_
  rintro e w' ⟨s', hs', rfl, hR', hO⟩
  exact ⟨rfl, by rw [← bytes_ext hs']; exact hR', hO⟩

theorem results_agg2 {fn : Func} {tmps : Array Value} {w : World} {b : Nat} {x y : Value} (h : fn.results = #[.cell 2 25]) (hp : tmps[2]?.getD undef = .pointer (some ⟨b, 0, none⟩)) (h0 : w.cell? ⟨b, 0, none⟩ = some x) (h1 : w.cell? ⟨b, 1, none⟩ = some y) : (results fn tmps).run Tryd.prog w = .ok (.agg #[x, y]) w := by
  simp [results, h, hp, h0, h1, go_sem, Tryd.isAgg25, Tryd.sizeOf25]

set_option maxRecDepth 100000 in
set_option maxHeartbeats 2000000 in
theorem rattr_any (r : Nat) (s : ByteArray) (w : World) (hR : IsR r s w) (hs : s.size ≤ 100000) (hE : Env w) (h4 : 4 ≤ r) :
    Calls Tryd.prog 68 #[.pointer (some ⟨r, 0, none⟩)] w fun e w' => ((attrL s.data.toList = none ∧ e = stopE 6) ∨ (∃ nm p after, attrL s.data.toList = some ((nm, p), after) ∧ e = .returned (.agg #[.string ⟨nm.toArray⟩, .string ⟨p.toArray⟩]) ∧ IsR r ⟨after.toArray⟩ w' ∧ after.length ≤ s.size)) ∧ Only r w w' := by
  have hrl : r < w.heap.size := (Array.getElem?_eq_some_iff.1 hR).1
  obtain ⟨W0, hW0⟩ : ∃ W0, w.alloc (.cells #[.string ⟨#[]⟩, .string ⟨#[]⟩] 25) = W0 := ⟨_, rfl⟩
  have hb0 : Below w.heap.size w W0 := by rw [← hW0]; exact (Below.refl _ w).alloc (Nat.le_refl _) _
  have z0 : W0.heap.size = w.heap.size + 1 := by rw [← hW0]; simp
  have f0 : W0.heap[w.heap.size]? = some (.cells #[.string ⟨#[]⟩, .string ⟨#[]⟩] 25) := by rw [← hW0]; exact World.alloc_heap_new w _
  have hR0 : IsR r s W0 := (hb0.block r hrl).trans hR
  have hO0 : Only r w W0 := Only.of_below hb0 (by omega)
  have hnm := rname_l r s W0 hR0 (by omega)
  have HE := hide hE
  have HN := hide hnm
  have HO := hide (And.intro hO0 f0)
  clear hR hE hb0 hR0 hO0 hnm f0
  go_enter Tryd.func68, Tryd.ntmps68
  go_wp2_with fail
  refine HN.out.mono ?_
  rintro e w1 ⟨⟨h, rfl⟩ | ⟨x, y, h, rfl, hR1, hy⟩, hO1⟩
  case inl => exact ⟨rfl, .inl ⟨by simp [attrL, h], rfl⟩, HO.out.1.trans hO1⟩
  have hb1 := rblanks_l r ⟨y.toArray⟩ w1 hR1 (by rw [size_lst, arr_list]; omega)
  rw [arr_list] at hb1
  have hyd := dropWhile_len isBl y
  obtain ⟨y', hy'⟩ : ∃ y', y.dropWhile isBl = y' := ⟨_, rfl⟩
  rw [hy'] at hb1 hyd
  have H1 := hide (And.intro h (And.intro hb1 (And.intro (HO.out.1.trans hO1) hy')))
  have g1 := (hO1.block w.heap.size (by omega) (by omega)).trans HO.out.2
  have hz1 := hO1.size
  have HG1 := hide g1
  clear h hR1 hO1 HN g1 hb1 hy' hW0
  go_wp2_with fail
  refine H1.out.2.1.mono ?_
  rintro e w2 ⟨rfl, hR2, hO2⟩
  have hmu := must_l r ⟨y'.toArray⟩ ⟨#[61]⟩ w2 hR2 (by rw [size_lst, arr_list]; omega) (by show 1 ≤ _; omega)
  rw [show (⟨#[61]⟩ : ByteArray).data.toList = [61] from rfl, arr_list y', size_lst ⟨y'.toArray⟩, arr_list y'] at hmu
  have g2 := (hO2.block w.heap.size (by omega) (by omega)).trans HG1.out
  have hz2 := hO2.size
  have H2 := hide (And.intro hmu (And.intro g2 (H1.out.2.2.1.trans hO2)))
  clear hmu g2 hR2 hO2 HG1
  go_wp2_with fail
  refine H2.out.1.mono ?_
  rintro e w3 ⟨⟨h, rfl⟩ | ⟨y2, h, rfl, hR3, hy2⟩, hO3⟩
  case inl => exact ⟨rfl, .inl ⟨by simp [attrL, H1.out.1, H1.out.2.2.2, h], rfl⟩, H2.out.2.2.trans hO3⟩
  have hb3 := rblanks_l r ⟨y2.toArray⟩ w3 hR3 (by rw [size_lst, arr_list]; omega)
  rw [arr_list] at hb3
  have hyd2 := dropWhile_len isBl y2
  obtain ⟨y3, hy3⟩ : ∃ y3, y2.dropWhile isBl = y3 := ⟨_, rfl⟩
  rw [hy3] at hb3 hyd2
  have g3 := (hO3.block w.heap.size (by omega) (by omega)).trans H2.out.2.1
  have hz3 := hO3.size
  have H3 := hide (And.intro h (And.intro hb3 (And.intro g3 (And.intro (H2.out.2.2.trans hO3) hy3))))
  clear h hR3 hO3 hb3 g3 hy3 H2
  go_wp2_with fail
  refine H3.out.2.1.mono ?_
  rintro e w4 ⟨rfl, hR4, hO4⟩
  have hO4' := H3.out.2.2.2.1.trans hO4
  have hva := value_any r ⟨y3.toArray⟩ w4 hR4 (by rw [size_lst, arr_list]; omega) (HE.out.below hO4'.below h4) h4
  rw [arr_list] at hva
  have g4 := (hO4.block w.heap.size (by omega) (by omega)).trans H3.out.2.2.1
  have hz4 := hO4.size
  have H4 := hide (And.intro hva (And.intro g4 hO4'))
  clear hva g4 hR4 hO4 hO4'
  go_wp2_with fail
  refine H4.out.1.mono ?_
  rintro e w5 ⟨⟨h, rfl⟩ | ⟨p, after, h, rfl, hR5⟩, hO5⟩
  case inl => exact ⟨rfl, .inl ⟨by simp [attrL, H1.out.1, H1.out.2.2.2, H3.out.1, H3.out.2.2.2.2, h], rfl⟩, H4.out.2.2.trans hO5⟩
  have g5 := (hO5.block w.heap.size (by omega) (by omega)).trans H4.out.2.1
  have c0 : w5.cell? ⟨w.heap.size, 0, none⟩ = some (.string ⟨#[]⟩) := by simp [World.cell?, g5]
  have c1 : w5.cell? ⟨w.heap.size, 1, none⟩ = some (.string ⟨#[]⟩) := by simp [World.cell?, g5]
  have c2 : w5.frozen? ⟨w.heap.size, 0, none⟩ = false := by simp [World.frozen?, g5]
  have c3 : w5.frozen? ⟨w.heap.size, 1, none⟩ = false := by simp [World.frozen?, g5]
  have H5 := hide (And.intro h (And.intro hR5 (And.intro (H4.out.2.2.trans hO5) g5)))
  have hz5 := hO5.size
  clear h hR5 hO5 g5
  go_wp2_with fail
  have k1 := heap_setCell_same _ _ 0 _ _ (.string ⟨x.toArray⟩) H5.out.2.2.2
  have k2 := heap_setCell_same _ _ 1 _ _ (.string ⟨p.toArray⟩) k1
  have hlen := valueL_len H5.out.1
  refine bodyPost_ret (results_agg2 (x := .string ⟨x.toArray⟩) (y := .string ⟨p.toArray⟩) rfl rfl ?_ ?_) rfl ?_
  · simp [World.cell?, k2]
  · simp [World.cell?, k2]
  · refine ⟨.inr ⟨x, p, after, by simp [attrL, H1.out.1, H1.out.2.2.2, H3.out.1, H3.out.2.2.2.2, H5.out.1], rfl, ?_, by omega⟩, ?_⟩
    · exact (Below.heap_setCell _ _ _ _ (by simp; omega)).trans ((Below.heap_setCell _ _ _ _ (by simp; omega)).trans H5.out.2.1)
    · exact (H5.out.2.2.1.past ⟨by omega, Nat.le_refl _⟩ _).past ⟨by omega, Nat.le_refl _⟩ _

theorem atEnd_any (r : Nat) (s : ByteArray) (w : World) (hR : IsR r s w) (hs : s.size ≤ 1000000) :
    Calls Tryd.prog 67 #[.pointer (some ⟨r, 0, none⟩)] w fun e w' => e = .returned (.bool (atEndL s.data.toList)) ∧ w' = w := by
  obtain ⟨c1, c2⟩ := hR.cell
  have h1 := hasPrefix2_any s ⟨#[47]⟩ w (by omega) (by show 1 ≤ _; omega)
  have h2 := hasPrefix2_any s ⟨#[62]⟩ w (by omega) (by show 1 ≤ _; omega)
  rw [show (⟨#[47]⟩ : ByteArray).data.toList = [47] from rfl] at h1
  rw [show (⟨#[62]⟩ : ByteArray).data.toList = [62] from rfl] at h2
  unfold atEndL
  obtain ⟨b1, hb1⟩ : ∃ b1, [47].isPrefixOf s.data.toList = b1 := ⟨_, rfl⟩
  obtain ⟨b2, hb2⟩ : ∃ b2, [62].isPrefixOf s.data.toList = b2 := ⟨_, rfl⟩
  rw [hb1] at h1 ⊢
  rw [hb2] at h2 ⊢
  have H := hide (And.intro h1 h2)
  clear h1 h2 hb1 hb2
  cases b1 with
  | true =>
    go_enter Tryd.func67, Tryd.ntmps67
    go_wp2_with fail
    refine H.out.1.mono ?_
    rintro e w1 ⟨rfl, hw⟩
    subst hw
    go_wp2_with fail
    go_ret
    exact ⟨rfl, rfl⟩
  | false =>
    go_enter Tryd.func67, Tryd.ntmps67
    go_wp2_with fail
    refine H.out.1.mono ?_
    rintro e w1 ⟨rfl, hw⟩
    subst hw
    go_wp2_with fail
    refine H.out.2.mono ?_
    rintro e w2 ⟨rfl, hw⟩
    subst hw
    go_wp2_with fail
    go_ret
    exact ⟨rfl, rfl⟩

set_option maxRecDepth 100000 in
set_option maxHeartbeats 2000000 in
theorem readEnding_any (s : ByteArray) (w : World) (hs : s.size ≤ 100000) :
    Calls Tryd.prog 53 #[.string s] w fun e w' => ((endL s.data.toList = none ∧ e = stopE 6) ∨ (∃ nm, endL s.data.toList = some nm ∧ e = .returned (.string ⟨nm.toArray⟩))) ∧ Below w.heap.size w w' := by
  obtain ⟨W0, hW0⟩ : ∃ W0, w.alloc (.cells #[.string s] 107) = W0 := ⟨_, rfl⟩
  have hb0 : Below w.heap.size w W0 := by rw [← hW0]; exact (Below.refl _ w).alloc (Nat.le_refl _) _
  have hR0 : IsR w.heap.size s W0 := by rw [← hW0]; exact World.alloc_heap_new w _
  have hmu := must_l w.heap.size s ⟨#[60, 47]⟩ W0 hR0 (by omega) (by show 2 ≤ _; omega)
  rw [show (⟨#[60, 47]⟩ : ByteArray).data.toList = [60, 47] from rfl] at hmu
  have HM := hide (And.intro hmu hb0)
  clear hmu hb0 hR0
  go_enter Tryd.func53, Tryd.ntmps53
  go_wp2_with fail
  refine HM.out.1.mono ?_
  rintro e w1 ⟨⟨h, rfl⟩ | ⟨y, h, rfl, hR1, hy⟩, hO1⟩
  case inl => exact ⟨rfl, .inl ⟨by simp [endL, h], rfl⟩, HM.out.2.trans hO1.below⟩
  have hna := rname_l w.heap.size ⟨y.toArray⟩ w1 hR1 (by rw [size_lst, arr_list]; omega)
  rw [arr_list y, size_lst ⟨y.toArray⟩, arr_list y] at hna
  have H1 := hide (And.intro h (And.intro hna (HM.out.2.trans hO1.below)))
  clear h hna hR1 hO1 HM hW0
  go_wp2_with fail
  refine H1.out.2.1.mono ?_
  rintro e w2 ⟨⟨h, rfl⟩ | ⟨x, z, h, rfl, hR2, hz⟩, hO2⟩
  case inl => exact ⟨rfl, .inl ⟨by simp [endL, H1.out.1, h], rfl⟩, H1.out.2.2.trans hO2.below⟩
  have hb2 := rblanks_l w.heap.size ⟨z.toArray⟩ w2 hR2 (by rw [size_lst, arr_list]; omega)
  rw [arr_list z] at hb2
  have hzd := dropWhile_len isBl z
  obtain ⟨z', hz'⟩ : ∃ z', z.dropWhile isBl = z' := ⟨_, rfl⟩
  rw [hz'] at hb2 hzd
  have H2 := hide (And.intro h (And.intro hb2 (And.intro (H1.out.2.2.trans hO2.below) hz')))
  clear h hb2 hR2 hO2 hz'
  go_wp2_with fail
  refine H2.out.2.1.mono ?_
  rintro e w3 ⟨rfl, hR3, hO3⟩
  have hmu := must_l w.heap.size ⟨z'.toArray⟩ ⟨#[62]⟩ w3 hR3 (by rw [size_lst, arr_list]; omega) (by show 1 ≤ _; omega)
  rw [show (⟨#[62]⟩ : ByteArray).data.toList = [62] from rfl, arr_list z', size_lst ⟨z'.toArray⟩, arr_list z'] at hmu
  have H3 := hide (And.intro hmu (H2.out.2.2.1.trans hO3.below))
  clear hmu hR3 hO3
  go_wp2_with fail
  refine H3.out.1.mono ?_
  rintro e w4 ⟨⟨h, rfl⟩ | ⟨u, h, rfl, _, _⟩, hO4⟩
  case inl => exact ⟨rfl, .inl ⟨by simp [endL, H1.out.1, H2.out.1, H2.out.2.2.2, h], rfl⟩, H3.out.2.trans hO4.below⟩
  have H4 := hide (And.intro h (H3.out.2.trans hO4.below))
  clear h hO4
  go_wp2_with fail
  go_ret
  exact ⟨.inr ⟨x, by simp [endL, H1.out.1, H2.out.1, H2.out.2.2.2, H4.out.1], rfl⟩, H4.out.2⟩
end Go.Proofs.YthflpcfpfdmaeaaDoor.Xm
