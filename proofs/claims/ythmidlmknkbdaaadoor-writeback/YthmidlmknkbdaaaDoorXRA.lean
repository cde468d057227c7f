/- What reads a tag: the small functions. What reads a tag: blanks, names, what must be there. -/
import Derived.Test.YthmidlmknkbdaaaDoorName
import Derived.Test.YthmidlmknkbdaaaDoorSpace
import Derived.Test.YthmidlmknkbdaaaDoorWS
import Derived.Test.YthmidlmknkbdaaaDoorGC
import Derived.WalkMore
namespace Go.Proofs.YthmidlmknkbdaaaDoor.Xm
open Go.RowKit

/-- A step that gives up. -/
abbrev stopE (err : Int) : Ending := .panicked [{ v := .iface 91 (.agg #[.int .i64 err]), recovered := false }]
theorem giveUp_any (err : Int) (w : World) : Calls Tryd.prog 72 #[.int .i64 err] w fun e w' => e = stopE err ∧ w' = w := by
  go_enter Tryd.func72, Tryd.ntmps72
  go_wp2_with fail
  exact ⟨rfl, rfl, rfl⟩

theorem prefix_iff (s p : ByteArray) : (p.size ≤ s.size ∧ s.extract 0 p.size = p) ↔ p.data.toList.isPrefixOf s.data.toList = true := by
  rw [List.isPrefixOf_iff_prefix, List.prefix_iff_eq_take]
  have hl : p.data.toList.length = p.size := Array.length_toList
  have hl2 : s.data.toList.length = s.size := Array.length_toList
  constructor
  · rintro ⟨h, he⟩
    have h1 := ext_list s 0 p.size
    rw [he] at h1
    simpa [hl] using h1
  · intro h
    have hle : p.size ≤ s.size := by
      have h1 := congrArg List.length h
      rw [List.length_take] at h1
      omega
    refine ⟨hle, ?_⟩
    have h1 := ext_list s 0 p.size
    rw [hl] at h
    rw [Nat.sub_zero, List.drop_zero, ← h] at h1
    cases p
    apply ByteArray.ext
    exact Array.ext' h1

theorem hasPrefix_any (s p : ByteArray) (w : World) (_hs : s.size ≤ 9223372036854775807) (_hp : p.size ≤ 9223372036854775807) : Calls Tryd.prog 99 #[.string s, .string p] w fun e w' => e = .returned (.bool (p.data.toList.isPrefixOf s.data.toList)) ∧ w' = w := by
  have hi := prefix_iff s p
  by_cases h : (p.size : Int) ≤ s.size
  · by_cases he : s.extract 0 p.size = p
    · have he' : ((s.extract 0 p.size).toList == p.toList) = true := by simp [he]
      have hb : p.data.toList.isPrefixOf s.data.toList = true := hi.1 ⟨by omega, he⟩
      rw [hb]
      clear hi hb
      go_enter Tryd.func99, Tryd.ntmps99
      go_wp2_with fail
      go_ret
      exact ⟨rfl, rfl⟩
    · have he' := str_ne he
      have hb : p.data.toList.isPrefixOf s.data.toList = false := by
        rw [← Bool.not_eq_true]
        intro x
        exact he (hi.2 x).2
      rw [hb]
      clear hi hb
      go_enter Tryd.func99, Tryd.ntmps99
      go_wp2_with fail
      go_ret
      exact ⟨rfl, rfl⟩
  · have hb : p.data.toList.isPrefixOf s.data.toList = false := by
      rw [← Bool.not_eq_true]
      intro x
      have := (hi.2 x).1
      omega
    rw [hb]
    clear hi hb
    go_enter Tryd.func99, Tryd.ntmps99
    go_wp2_with fail
    go_ret
    exact ⟨rfl, rfl⟩
theorem hasPrefix2_any (s p : ByteArray) (w : World) (hs : s.size ≤ 9223372036854775807) (hp : p.size ≤ 9223372036854775807) : Calls Tryd.prog 87 #[.string s, .string p] w fun e w' => e = .returned (.bool (p.data.toList.isPrefixOf s.data.toList)) ∧ w' = w := by
  have h := hasPrefix_any s p w hs hp
  obtain ⟨bv, hbv⟩ : ∃ bv, p.data.toList.isPrefixOf s.data.toList = bv := ⟨_, rfl⟩
  rw [hbv] at h ⊢
  have H := hide h
  clear h hbv
  go_enter Tryd.func87, Tryd.ntmps87
  go_wp2_with fail
  refine H.out.mono ?_
  rintro e w1 ⟨rfl, rfl⟩
  go_wp2_with fail
  go_ret
  exact ⟨rfl, rfl⟩

/-- What is behind a prefix, and whether it is there. -/
def mayL (p rest : List UInt8) : List UInt8 × Bool := if p.isPrefixOf rest = true then (rest.drop p.length, true) else (rest, false)
theorem cutPrefix_any (s p : ByteArray) (w : World) (hs : s.size ≤ 9223372036854775807) (hp : p.size ≤ 9223372036854775807) : Calls Tryd.prog 110 #[.string s, .string p] w fun e w' => (∃ r : ByteArray, e = .returned (.tuple #[.string r, .bool (mayL p.data.toList s.data.toList).2]) ∧ r.data.toList = (mayL p.data.toList s.data.toList).1) ∧ w' = w := by
  have H := hide (hasPrefix_any s p w hs hp)
  have hi := prefix_iff s p
  have hl : p.data.toList.length = p.size := Array.length_toList
  unfold mayL
  cases hb : p.data.toList.isPrefixOf s.data.toList with
  | true =>
    rw [hb] at H hi
    have hle := (hi.2 rfl).1
    have hle' : (p.size : Int) ≤ s.size := by omega
    have hex : (s.extract p.size s.size).data.toList = s.data.toList.drop p.data.toList.length := by
      rw [ext_list, hl]
      apply List.take_of_length_le
      rw [List.length_drop]
      have : s.data.toList.length = s.size := Array.length_toList
      omega
    have HX := hide hex
    clear hex hi hb hl
    simp only [if_true]
    go_enter Tryd.func110, Tryd.ntmps110
    go_wp2_with fail
    refine H.out.mono ?_
    rintro e w1 ⟨rfl, rfl⟩
    go_wp2_with fail
    go_ret2
    exact ⟨⟨_, rfl, HX.out⟩, rfl⟩
  | false =>
    rw [hb] at H
    clear hi hb hl
    simp only [Bool.false_eq_true, if_false]
    go_enter Tryd.func110, Tryd.ntmps110
    go_wp2_with fail
    refine H.out.mono ?_
    rintro e w1 ⟨rfl, rfl⟩
    go_wp2_with fail
    go_ret2
    exact ⟨⟨_, rfl, rfl⟩, rfl⟩
theorem cutPrefix2_any (s p : ByteArray) (w : World) (hs : s.size ≤ 9223372036854775807) (hp : p.size ≤ 9223372036854775807) : Calls Tryd.prog 97 #[.string s, .string p] w fun e w' => (∃ r : ByteArray, e = .returned (.tuple #[.string r, .bool (mayL p.data.toList s.data.toList).2]) ∧ r.data.toList = (mayL p.data.toList s.data.toList).1) ∧ w' = w := by
  have h := cutPrefix_any s p w hs hp
  obtain ⟨bv, hbv⟩ : ∃ bv, (mayL p.data.toList s.data.toList).2 = bv := ⟨_, rfl⟩
  obtain ⟨rv, hrv⟩ : ∃ rv, (mayL p.data.toList s.data.toList).1 = rv := ⟨_, rfl⟩
  rw [hbv, hrv] at h ⊢
  have H := hide h
  clear h hbv hrv
  go_enter Tryd.func97, Tryd.ntmps97
  go_wp2_with fail
  refine H.out.mono ?_
  rintro e w1 ⟨⟨r, rfl, hr⟩, rfl⟩
  have HR := hide hr
  clear hr
  go_wp2_with fail
  go_ret2
  exact ⟨⟨r, rfl, HR.out⟩, rfl⟩

/-- A world that parts from another in one block alone, and in new ones. -/
structure Only (r : Nat) (w w' : World) : Prop where
  below : Below r w w'
  size : w.heap.size ≤ w'.heap.size
  block : ∀ j, j < w.heap.size → j ≠ r → w'.heap[j]? = w.heap[j]?
theorem Only.refl (r : Nat) (w : World) : Only r w w := ⟨Below.refl _ _, Nat.le_refl _, fun _ _ _ => rfl⟩
theorem Only.trans {r : Nat} {a b c : World} (h : Only r a b) (g : Only r b c) : Only r a c :=
  ⟨h.below.trans g.below, Nat.le_trans h.size g.size, fun j hj hr => (g.block j (Nat.lt_of_lt_of_le hj h.size) hr).trans (h.block j hj hr)⟩
theorem Only.of_below {r : Nat} {a b : World} (h : Below a.heap.size a b) (hr : r ≤ a.heap.size) : Only r a b := ⟨h.mono hr, h.size, fun j hj _ => h.block j hj⟩
theorem Only.set {r i : Nat} {a b : World} (h : Only r a b) (v : Value) : Only r a (b.setCell ⟨r, i, none⟩ v) :=
  ⟨h.below.setCell (p := ⟨r, i, none⟩) (Nat.le_refl _) v, by rw [World.size_setCell]; exact h.size, fun j hj hr => (Below.heap_setCell _ _ _ _ hr).trans (h.block j hj hr)⟩
theorem Only.wide {r : Nat} {a b : World} (h : Only r a b) {n : Nat} (hn : n ≤ r) : Below n a b := h.below.mono hn

/-- A reader in its box. -/
def IsR (r : Nat) (s : ByteArray) (w : World) : Prop := w.heap[r]? = some (.cells #[.string s] 138)
theorem IsR.cell {r : Nat} {s : ByteArray} {w : World} (h : IsR r s w) : w.cell? ⟨r, 0, none⟩ = some (.string s) ∧ w.frozen? ⟨r, 0, none⟩ = false := by
  unfold IsR at h
  simp [World.cell?, World.frozen?, h]
theorem IsR.set {r : Nat} {s : ByteArray} {w : World} (h : IsR r s w) (t : ByteArray) : IsR r t (w.setCell ⟨r, 0, none⟩ (.string t)) := heap_setCell_same _ _ _ _ _ _ h
end Go.Proofs.YthmidlmknkbdaaaDoor.Xm
namespace Go.Proofs.YthmidlmknkbdaaaDoor.Xm
open Go.RowKit

set_option maxRecDepth 100000 in
theorem may_any (r : Nat) (s p : ByteArray) (w : World) (hR : IsR r s w) (hs : s.size ≤ 9223372036854775807) (hp : p.size ≤ 9223372036854775807) :
    Calls Tryd.prog 106 #[.pointer (some ⟨r, 0, none⟩), .string p] w fun e w' => e = .returned (.bool (mayL p.data.toList s.data.toList).2) ∧ ∃ s', s'.data.toList = (mayL p.data.toList s.data.toList).1 ∧ IsR r s' w' ∧ Only r w w' := by
  obtain ⟨c1, c2⟩ := hR.cell
  have h := cutPrefix2_any s p w hs hp
  obtain ⟨bv, hbv⟩ : ∃ bv, (mayL p.data.toList s.data.toList).2 = bv := ⟨_, rfl⟩
  obtain ⟨rv, hrv⟩ : ∃ rv, (mayL p.data.toList s.data.toList).1 = rv := ⟨_, rfl⟩
  rw [hbv, hrv] at h ⊢
  have H := hide h
  have HR := hide hR
  clear h hbv hrv hR
  go_enter Tryd.func106, Tryd.ntmps106
  go_wp2_with fail
  refine H.out.mono ?_
  rintro e w1 ⟨⟨t, rfl, ht⟩, hw⟩
  subst hw
  have HTT := hide ht
  clear ht
  go_wp2_with fail
  go_ret
  exact ⟨rfl, t, HTT.out, HR.out.set t, (Only.refl _ _).set _⟩

theorem must_any (r : Nat) (s p : ByteArray) (w : World) (hR : IsR r s w) (hs : s.size ≤ 9223372036854775807) (hp : p.size ≤ 9223372036854775807) :
    Calls Tryd.prog 100 #[.pointer (some ⟨r, 0, none⟩), .string p] w fun e w' => (((mayL p.data.toList s.data.toList).2 = true ∧ e = .returned (.tuple #[])) ∨ ((mayL p.data.toList s.data.toList).2 = false ∧ e = stopE 6)) ∧ ∃ s', s'.data.toList = (mayL p.data.toList s.data.toList).1 ∧ IsR r s' w' ∧ Only r w w' := by
  have h := may_any r s p w hR hs hp
  obtain ⟨rv, hrv⟩ : ∃ rv, (mayL p.data.toList s.data.toList).1 = rv := ⟨_, rfl⟩
  rw [hrv] at h ⊢
  cases hb : (mayL p.data.toList s.data.toList).2 with
  | true =>
    rw [hb] at h
    have H := hide h
    clear h hb hrv hR
    go_enter Tryd.func100, Tryd.ntmps100
    go_wp2_with fail
    refine H.out.mono ?_
    rintro e w1 ⟨rfl, s', h1, h2, h3⟩
    have H3 := hide (And.intro h1 (And.intro h2 h3))
    clear h1 h2 h3
    go_wp2_with fail
    go_end0
    exact ⟨.inl ⟨by trivial, rfl⟩, s', H3.out.1, H3.out.2.1, H3.out.2.2⟩
  | false =>
    rw [hb] at h
    have H := hide h
    clear h hb hrv hR
    go_enter Tryd.func100, Tryd.ntmps100
    go_wp2_with fail
    refine H.out.mono ?_
    rintro e w1 ⟨rfl, s', h1, h2, h3⟩
    have H3 := hide (And.intro h1 (And.intro h2 h3))
    clear h1 h2 h3
    go_wp2_with fail
    refine (giveUp_any 6 w1).mono ?_
    rintro e w2 ⟨rfl, hw⟩
    subst hw
    exact ⟨rfl, .inr ⟨by trivial, rfl⟩, s', H3.out.1, H3.out.2.1, H3.out.2.2⟩

def isBl (b : UInt8) : Bool := b == 32 || b == 9 || b == 10 || b == 13
theorem isBl_iff (b : UInt8) : isBl b = true ↔ Blank b := by
  simp [isBl, Blank, or_assoc]
theorem blanks_one (s : ByteArray) (n : Nat) (h : n < s.size) : Blanks (s.extract n (n + 1)).data.toList ↔ isBl (s[n]'h) = true := by
  have hl : s.data.toList.length = s.size := Array.length_toList
  rw [ext_list, isBl_iff, show n + 1 - n = 1 by omega, drop_cons s n h]
  simp [Blanks]
theorem dropWhile_at {p : UInt8 → Bool} : ∀ (l : List UInt8) (n : Nat), (∀ j x, j < n → l[j]? = some x → p x = true) → (∀ x, l[n]? = some x → p x = false) → n ≤ l.length → l.dropWhile p = l.drop n ∧ l.takeWhile p = l.take n
  | [], 0, _, _, _ => by simp
  | [], n + 1, _, _, h => by simp at h
  | x :: l, 0, _, h, _ => by
    have := h x (by simp)
    simp [this]
  | x :: l, n + 1, h1, h2, h3 => by
    have h0 := h1 0 x (by omega) (by simp)
    have ih := dropWhile_at l n (fun j y hj hy => h1 (j + 1) y (by omega) (by simpa using hy)) (fun y hy => h2 y (by simpa using hy)) (by simpa using h3)
    simp [h0, ih.1, ih.2]

set_option maxRecDepth 100000 in
set_option maxHeartbeats 2000000 in
theorem rblanks_any (r : Nat) (s : ByteArray) (w : World) (hR : IsR r s w) (hs : s.size ≤ 1000000) :
    Calls Tryd.prog 102 #[.pointer (some ⟨r, 0, none⟩)] w fun e w' => ∃ s', s'.data.toList = s.data.toList.dropWhile isBl ∧ e = .returned (.bool (decide (0 < (s.data.toList.takeWhile isBl).length))) ∧ IsR r s' w' ∧ Only r w w' := by
  have hl : s.data.toList.length = s.size := Array.length_toList
  have hrl : r < w.heap.size := (Array.getElem?_eq_some_iff.1 hR).1
  have HR := hide hR
  clear hR
  have hfin : ∀ (n : Nat), n ≤ s.size → (∀ j x, j < n → s.data.toList[j]? = some x → isBl x = true) → (∀ x, s.data.toList[n]? = some x → isBl x = false) → (s.extract n s.size).data.toList = s.data.toList.dropWhile isBl ∧ (s.data.toList.takeWhile isBl).length = n := fun n hn h1 h2 => by
    obtain ⟨e1, e2⟩ := dropWhile_at s.data.toList n h1 h2 (by omega)
    rw [e1, e2, ext_list]
    exact ⟨List.take_of_length_le (by rw [List.length_drop]; omega), by rw [List.length_take]; omega⟩
  have HF := hide hfin
  clear hfin
  go_enter Tryd.func102, Tryd.ntmps102
  go_wp2_with fail
  go_step3
  go_wp2_with fail
  go_step3
  go_wp2_with fail
  go_loopw [3] (fun i wr => ∃ n : Nat, n ≤ s.size ∧ i = .int .i64 n ∧ (∀ j x, j < n → s.data.toList[j]? = some x → isBl x = true) ∧ IsR r s wr ∧ Only r w wr) (fun i _ => s.size - (intOf i).toNat)
  case atStart => exact ⟨0, Nat.zero_le _, rfl, fun j x h => by omega, HR.out, Only.refl _ _⟩
  case round =>
    obtain ⟨n, hn, rfl, hbl, hR, hO⟩ := hrel
    obtain ⟨c1, c2⟩ := hR.cell
    have HI := hide (And.intro hbl (And.intro hR hO))
    clear hbl hR hO
    have hn0 : 0 ≤ (n : Int) := by omega
    by_cases hlt : n < s.size
    · have hone := blanks_one s n hlt
      have hat : s.data.toList[n]? = some (s[n]'hlt) := by simp [hlt]; rfl
      have HO := hide (And.intro hone hat)
      clear hone hat
      have g1 : (n : Int) + 1 ≤ s.size := by omega
      have g2 : (n : Int) ≤ (n : Int) + 1 := by omega
      have g3 : ¬ ((n : Int) + 1 < n) := by omega
      go_wp2_with fail
      refine (space_any _ wr).mono ?_
      rintro e w1 ⟨⟨hb, rfl⟩ | ⟨hb, rfl⟩, hbw⟩
      · have H1 := hide hbw
        clear hbw
        go_wp2_with fail
        refine ⟨⟨n + 1, by omega, by simp, fun j x hj hx => ?_, ?_, HI.out.2.2.trans (Only.of_below H1.out (by have := lt_of_cell c1; simp at this; omega))⟩, by simp [intOf]; omega⟩
        · rcases Nat.lt_or_ge j n with h | h
          · exact HI.out.1 j x h hx
          · obtain rfl : j = n := by omega
            rw [HO.out.2] at hx
            cases hx
            exact HO.out.1.1 hb
        · exact (H1.out.block r (lt_of_cell c1)).trans HI.out.2.1
      · have H1 := hide hbw
        clear hbw
        have c3 : w1.cell? ⟨r, 0, none⟩ = some (.string s) := (H1.out.cell (p := ⟨r, 0, none⟩) (lt_of_cell c1)).trans c1
        have c4 : w1.frozen? ⟨r, 0, none⟩ = false := by
          have h := (H1.out.block r (lt_of_cell c1)).trans HI.out.2.1
          exact (show IsR r s w1 from h).cell.2
        go_wp2_with fail
        rw [Exit.noGoto_ret]
        go_ret
        obtain ⟨e1, e2⟩ := HF.out n (by omega) HI.out.1 (fun x hx => by
          rw [HO.out.2] at hx
          cases hx
          rw [← Bool.not_eq_true]
          exact fun h => hb (HO.out.1.2 h))
        refine ⟨_, e1, by rw [e2]; rfl, IsR.set (s := s) ((H1.out.block r (lt_of_cell c1)).trans HI.out.2.1) _, (HI.out.2.2.trans (Only.of_below H1.out (by have := lt_of_cell c1; simp at this; omega))).set _⟩
    · go_wp2_with fail
      rw [Exit.noGoto_ret]
      go_ret
      obtain ⟨e1, e2⟩ := HF.out n (by omega) HI.out.1 (fun x hx => by
        have := (List.getElem?_eq_some_iff.1 hx).1
        omega)
      exact ⟨_, e1, by rw [e2]; rfl, IsR.set HI.out.2.1 _, HI.out.2.2.set _⟩

def isBb (b : UInt8) : Bool := (decide (65 ≤ b.toNat) && decide (b.toNat ≤ 90)) || (decide (97 ≤ b.toNat) && decide (b.toNat ≤ 122)) || decide (b.toNat = 95)
def isGb (b : UInt8) : Bool := (decide (48 ≤ b.toNat) && decide (b.toNat ≤ 57)) || decide (b.toNat = 45) || decide (b.toNat = 46) || decide (b.toNat = 58)
theorem isBb_iff (b : UInt8) : isBb b = true ↔ IsB (b.toNat : Int) := by
  simp only [isBb, IsB, Bool.or_eq_true, Bool.and_eq_true, decide_eq_true_eq]
  omega
theorem isGb_iff (b : UInt8) : isGb b = true ↔ IsG (b.toNat : Int) := by
  simp only [isGb, IsG, Bool.or_eq_true, Bool.and_eq_true, decide_eq_true_eq]
  omega
/-- Whether a text is a name. -/
def nmB (l : List UInt8) : Bool := decide (1 ≤ l.length) && decide (l.length ≤ 32) && l.zipIdx.all (fun x => isBb x.1 || (decide (0 < x.2) && isGb x.1))
theorem nmB_iff (s : ByteArray) : NameOk s ↔ nmB s.data.toList = true := by
  have hl : s.data.toList.length = s.size := Array.length_toList
  unfold nmB NameOk
  rw [Bool.and_eq_true, Bool.and_eq_true, decide_eq_true_eq, decide_eq_true_eq, hl, List.all_eq_true]
  constructor
  · rintro ⟨h1, h2, h3⟩
    refine ⟨⟨h1, h2⟩, fun x hx => ?_⟩
    obtain ⟨b, j⟩ := x
    have hj := List.mem_zipIdx_iff_getElem?.1 hx
    have hlt : j < s.size := by
      have := (List.getElem?_eq_some_iff.1 hj).1
      omega
    have he : s[j] = b := by
      have h := List.getElem?_eq_some_iff.1 hj
      obtain ⟨_, h⟩ := h
      have h' : s.data[j]'hlt = b := by simpa using h
      exact h'
    have h4 := h3 j hlt
    unfold NmAt at h4
    rw [he] at h4
    rcases h4 with h4 | ⟨h5, h4⟩
    · simp [(isBb_iff b).2 h4]
    · simp [(isGb_iff b).2 h4, h5]
  · rintro ⟨⟨h1, h2⟩, h3⟩
    refine ⟨h1, h2, fun j hj => ?_⟩
    have hm : (s[j], j) ∈ s.data.toList.zipIdx := List.mem_zipIdx_iff_getElem?.2 (by
      show s.data.toList[j]? = some s[j]
      rw [List.getElem?_eq_getElem (by omega)]
      simp
      rfl)
    have h4 := h3 _ hm
    simp only [Bool.or_eq_true, Bool.and_eq_true, decide_eq_true_eq] at h4
    rcases h4 with h4 | ⟨h5, h4⟩
    · exact .inl ((isBb_iff _).1 h4)
    · exact .inr ⟨h5, (isGb_iff _).1 h4⟩
/-- How long the name is that a text begins with. -/
def nameGo (l : List UInt8) : Nat → Nat → Nat
  | 0, n => n
  | f + 1, n => if n < l.length ∧ nmB (l.take (n + 1)) = true then nameGo l f (n + 1) else n
def nameLen (l : List UInt8) : Nat := nameGo l l.length 0
theorem take_list (s : ByteArray) (n : Nat) : (s.extract 0 n).data.toList = s.data.toList.take n := by
  rw [ext_list]
  simp

set_option maxRecDepth 100000 in
set_option maxHeartbeats 2000000 in
theorem rname_any (r : Nat) (s : ByteArray) (w : World) (hR : IsR r s w) (hs : s.size ≤ 1000000) :
    Calls Tryd.prog 101 #[.pointer (some ⟨r, 0, none⟩)] w fun e w' => ((nameLen s.data.toList = 0 ∧ e = stopE 6) ∨ (0 < nameLen s.data.toList ∧ ∃ t : ByteArray, t.data.toList = s.data.toList.take (nameLen s.data.toList) ∧ e = .returned (.string t) ∧ ∃ s', s'.data.toList = s.data.toList.drop (nameLen s.data.toList) ∧ IsR r s' w')) ∧ Only r w w' := by
  have hl : s.data.toList.length = s.size := Array.length_toList
  have hrl : r < w.heap.size := (Array.getElem?_eq_some_iff.1 hR).1
  have HR := hide hR
  clear hR
  go_enter Tryd.func101, Tryd.ntmps101
  go_wp2_with fail
  go_loopw [3] (fun i wr => ∃ n : Nat, n ≤ s.size ∧ i = .int .i64 n ∧ nameGo s.data.toList (s.size - n) n = nameLen s.data.toList ∧ IsR r s wr ∧ Only r w wr) (fun i _ => s.size - (intOf i).toNat)
  case atStart => exact ⟨0, Nat.zero_le _, rfl, by rw [nameLen, hl]; rfl, HR.out, Only.refl _ _⟩
  case round =>
    obtain ⟨n, hn, rfl, hgo, hR, hO⟩ := hrel
    obtain ⟨c1, c2⟩ := hR.cell
    have hend : (n = s.size ∨ ¬ NameOk (s.extract 0 (n + 1))) → nameLen s.data.toList = n := fun h => by
      rw [← hgo]
      cases hf : s.size - n with
      | zero => rfl
      | succ f =>
        rw [nameGo, if_neg]
        rintro ⟨h1, h2⟩
        rcases h with h | h
        · omega
        · exact h ((nmB_iff _).2 (by rw [take_list]; exact h2))
    have hnext : n < s.size → NameOk (s.extract 0 (n + 1)) → nameGo s.data.toList (s.size - (n + 1)) (n + 1) = nameLen s.data.toList := fun h1 h2 => by
      rw [← hgo, show s.size - n = (s.size - (n + 1)) + 1 by omega, nameGo, if_pos]
      exact ⟨by omega, by rw [← take_list]; exact (nmB_iff _).1 h2⟩
    have HI := hide (And.intro (And.intro hend hnext) (And.intro hR hO))
    clear hgo hR hO hend hnext
    have hn0 : 0 ≤ (n : Int) := by omega
    have hfin : nameLen s.data.toList = n → ∀ (v : World), IsR r s v → Only r w v → (0 < n) → ∃ t : ByteArray, t.data.toList = s.data.toList.take (nameLen s.data.toList) ∧ Ending.returned (.string (s.extract 0 n)) = .returned (.string t) ∧ ∃ s', s'.data.toList = s.data.toList.drop (nameLen s.data.toList) ∧ IsR r s' (v.setCell ⟨r, 0, none⟩ (.string (s.extract n s.size))) := fun he v h1 h2 h3 => by
      rw [he]
      refine ⟨_, take_list s n, rfl, _, ?_, h1.set _⟩
      rw [ext_list]
      exact List.take_of_length_le (by rw [List.length_drop]; omega)
    have HF := hide hfin
    clear hfin
    by_cases hlt : n < s.size
    · have g1 : (n : Int) + 1 ≤ s.size := by omega
      have g2 : (0 : Int) ≤ (n : Int) + 1 := by omega
      go_wp2_with fail
      refine (name_any _ wr (by rw [ByteArray.size_extract]; unfold maxLen; omega)).mono ?_
      rintro e w1 ⟨⟨hb, rfl⟩ | ⟨hb, rfl⟩, hbw⟩
      · have H1 := hide hbw
        clear hbw
        go_wp2_with fail
        exact ⟨⟨n + 1, by omega, by simp, HI.out.1.2 hlt hb, (H1.out.block r (lt_of_cell c1)).trans HI.out.2.1, HI.out.2.2.trans (Only.of_below H1.out (by have := lt_of_cell c1; simp at this; omega))⟩, by simp [intOf]; omega⟩
      · have H1 := hide hbw
        have c3 : IsR r s w1 := (hbw.block r (lt_of_cell c1)).trans HI.out.2.1
        obtain ⟨c4, c5⟩ := c3.cell
        have hon := HI.out.2.2.trans (Only.of_below hbw (by have := lt_of_cell c1; simp at this; omega))
        have HC := hide (And.intro c3 hon)
        clear hbw c3 hon
        have he := HI.out.1.1 (.inr hb)
        have HE := hide he
        clear he
        by_cases h0 : n = 0
        · subst h0
          go_wp2_with fail
          refine (giveUp_any 6 w1).mono ?_
          rintro e w2 ⟨rfl, hw⟩
          subst hw
          exact ⟨rfl, .inl ⟨HE.out, rfl⟩, HC.out.2⟩
        · have h0' : ((n : Int) == 0) = false := by rw [beq_eq_false_iff_ne]; omega
          go_wp2_with fail
          go_ret
          exact ⟨.inr ⟨by rw [HE.out]; omega, HF.out HE.out w1 HC.out.1 HC.out.2 (by omega)⟩, HC.out.2.set _⟩
    · have he := HI.out.1.1 (.inl (by omega))
      have HE := hide he
      clear he
      by_cases h0 : n = 0
      · subst h0
        go_wp2_with fail
        refine (giveUp_any 6 wr).mono ?_
        rintro e w2 ⟨rfl, hw⟩
        subst hw
        exact ⟨rfl, .inl ⟨HE.out, rfl⟩, HI.out.2.2⟩
      · have h0' : ((n : Int) == 0) = false := by rw [beq_eq_false_iff_ne]; omega
        go_wp2_with fail
        go_ret
        exact ⟨.inr ⟨by rw [HE.out]; omega, HF.out HE.out wr HI.out.2.1 HI.out.2.2 (by omega)⟩, HI.out.2.2.set _⟩
end Go.Proofs.YthmidlmknkbdaaaDoor.Xm
