/- What reads a tag: the small functions. -/
import Derived.Test.YthflpcfpfdmaeaaDoorName
import Derived.Test.YthflpcfpfdmaeaaDoorSpace
import Derived.Test.YthflpcfpfdmaeaaDoorToks
import Derived.Test.YthflpcfpfdmaeaaDoorUnesc
namespace Go.Proofs.YthflpcfpfdmaeaaDoor.Xm
open Go.RowKit

/-- A step that gives up. -/
abbrev stopE (err : Int) : Ending := .panicked [{ v := .iface 73 (.agg #[.int .i64 err]), recovered := false }]
theorem giveUp_any (err : Int) (w : World) : Calls Tryd.prog 43 #[.int .i64 err] w fun e w' => e = stopE err ∧ w' = w := by
  go_enter Tryd.func43, Tryd.ntmps43
  go_wp2_with fail
  exact ⟨rfl, rfl, rfl⟩

theorem prefix_iff (s p : ByteArray) : (p.size ≤ s.size ∧ s.extract 0 p.size = p) ↔ p.data.toList.isPrefixOf s.data.toList = true := by
  rw [List.isPrefixOf_iff_prefix, List.prefix_iff_eq_take]
  have hl : p.data.toList.length = p.size := Array.length_toList
  have hl2 : s.data.toList.length = s.size := Array.length_toList
  constructor
  · rintro ⟨h, he⟩
    have h1 := ext_list s 0 p.size
    rw [he] at h1
    simpa [hl] using h1
  · intro h
    have hle : p.size ≤ s.size := by
      have h1 := congrArg List.length h
      rw [List.length_take] at h1
      omega
    refine ⟨hle, ?_⟩
    have h1 := ext_list s 0 p.size
    rw [hl] at h
    rw [Nat.sub_zero, List.drop_zero, ← h] at h1
    cases p
    apply ByteArray.ext
    exact Array.ext' h1

theorem hasPrefix_any (s p : ByteArray) (w : World) (_hs : s.size ≤ 9223372036854775807) (_hp : p.size ≤ 9223372036854775807) : Calls Tryd.prog 62 #[.string s, .string p] w fun e w' => e = .returned (.bool (p.data.toList.isPrefixOf s.data.toList)) ∧ w' = w := by
  have hi := prefix_iff s p
  by_cases h : (p.size : Int) ≤ s.size
  · by_cases he : s.extract 0 p.size = p
    · have he' : ((s.extract 0 p.size).toList == p.toList) = true := by simp [he]
      have hb : p.data.toList.isPrefixOf s.data.toList = true := hi.1 ⟨by omega, he⟩
      rw [hb]
      clear hi hb
      go_enter Tryd.func62, Tryd.ntmps62
      go_wp2_with fail
      go_ret
      exact ⟨rfl, rfl⟩
    · have he' := str_ne he
      have hb : p.data.toList.isPrefixOf s.data.toList = false := by
        rw [← Bool.not_eq_true]
        intro x
        exact he (hi.2 x).2
      rw [hb]
      clear hi hb
      go_enter Tryd.func62, Tryd.ntmps62
      go_wp2_with fail
      go_ret
      exact ⟨rfl, rfl⟩
  · have hb : p.data.toList.isPrefixOf s.data.toList = false := by
      rw [← Bool.not_eq_true]
      intro x
      have := (hi.2 x).1
      omega
    rw [hb]
    clear hi hb
    go_enter Tryd.func62, Tryd.ntmps62
    go_wp2_with fail
    go_ret
    exact ⟨rfl, rfl⟩
theorem hasPrefix2_any (s p : ByteArray) (w : World) (hs : s.size ≤ 9223372036854775807) (hp : p.size ≤ 9223372036854775807) : Calls Tryd.prog 51 #[.string s, .string p] w fun e w' => e = .returned (.bool (p.data.toList.isPrefixOf s.data.toList)) ∧ w' = w := by
  have h := hasPrefix_any s p w hs hp
  obtain ⟨bv, hbv⟩ : ∃ bv, p.data.toList.isPrefixOf s.data.toList = bv := ⟨_, rfl⟩
  rw [hbv] at h ⊢
  have H := hide h
  clear h hbv
  go_enter Tryd.func51, Tryd.ntmps51
  go_wp2_with fail
  refine H.out.mono ?_
  rintro e w1 ⟨rfl, rfl⟩
  go_wp2_with fail
  go_ret
  exact ⟨rfl, rfl⟩

/-- What is behind a prefix, and whether it is there. -/
def mayL (p rest : List UInt8) : List UInt8 × Bool := if p.isPrefixOf rest = true then (rest.drop p.length, true) else (rest, false)
theorem cutPrefix_any (s p : ByteArray) (w : World) (hs : s.size ≤ 9223372036854775807) (hp : p.size ≤ 9223372036854775807) : Calls Tryd.prog 72 #[.string s, .string p] w fun e w' => (∃ r : ByteArray, e = .returned (.tuple #[.string r, .bool (mayL p.data.toList s.data.toList).2]) ∧ r.data.toList = (mayL p.data.toList s.data.toList).1) ∧ w' = w := by
  have H := hide (hasPrefix_any s p w hs hp)
  have hi := prefix_iff s p
  have hl : p.data.toList.length = p.size := Array.length_toList
  unfold mayL
  cases hb : p.data.toList.isPrefixOf s.data.toList with
  | true =>
    rw [hb] at H hi
    have hle := (hi.2 rfl).1
    have hle' : (p.size : Int) ≤ s.size := by omega
    have hex : (s.extract p.size s.size).data.toList = s.data.toList.drop p.data.toList.length := by
      rw [ext_list, hl]
      apply List.take_of_length_le
      rw [List.length_drop]
      have : s.data.toList.length = s.size := Array.length_toList
      omega
    have HX := hide hex
    clear hex hi hb hl
    simp only [if_true]
    go_enter Tryd.func72, Tryd.ntmps72
    go_wp2_with fail
    refine H.out.mono ?_
    rintro e w1 ⟨rfl, rfl⟩
    go_wp2_with fail
    go_ret2
    exact ⟨⟨_, rfl, HX.out⟩, rfl⟩
  | false =>
    rw [hb] at H
    clear hi hb hl
    simp only [Bool.false_eq_true, if_false]
    go_enter Tryd.func72, Tryd.ntmps72
    go_wp2_with fail
    refine H.out.mono ?_
    rintro e w1 ⟨rfl, rfl⟩
    go_wp2_with fail
    go_ret2
    exact ⟨⟨_, rfl, rfl⟩, rfl⟩
theorem cutPrefix2_any (s p : ByteArray) (w : World) (hs : s.size ≤ 9223372036854775807) (hp : p.size ≤ 9223372036854775807) : Calls Tryd.prog 60 #[.string s, .string p] w fun e w' => (∃ r : ByteArray, e = .returned (.tuple #[.string r, .bool (mayL p.data.toList s.data.toList).2]) ∧ r.data.toList = (mayL p.data.toList s.data.toList).1) ∧ w' = w := by
  have h := cutPrefix_any s p w hs hp
  obtain ⟨bv, hbv⟩ : ∃ bv, (mayL p.data.toList s.data.toList).2 = bv := ⟨_, rfl⟩
  obtain ⟨rv, hrv⟩ : ∃ rv, (mayL p.data.toList s.data.toList).1 = rv := ⟨_, rfl⟩
  rw [hbv, hrv] at h ⊢
  have H := hide h
  clear h hbv hrv
  go_enter Tryd.func60, Tryd.ntmps60
  go_wp2_with fail
  refine H.out.mono ?_
  rintro e w1 ⟨⟨r, rfl, hr⟩, rfl⟩
  have HR := hide hr
  clear hr
  go_wp2_with fail
  go_ret2
  exact ⟨⟨r, rfl, HR.out⟩, rfl⟩

/-- A world that parts from another in one block alone, and in new ones. -/
structure Only (r : Nat) (w w' : World) : Prop where
  below : Below r w w'
  size : w.heap.size ≤ w'.heap.size
  block : ∀ j, j < w.heap.size → j ≠ r → w'.heap[j]? = w.heap[j]?
theorem Only.refl (r : Nat) (w : World) : Only r w w := ⟨Below.refl _ _, Nat.le_refl _, fun _ _ _ => rfl⟩
theorem Only.trans {r : Nat} {a b c : World} (h : Only r a b) (g : Only r b c) : Only r a c :=
  ⟨h.below.trans g.below, Nat.le_trans h.size g.size, fun j hj hr => (g.block j (Nat.lt_of_lt_of_le hj h.size) hr).trans (h.block j hj hr)⟩
theorem Only.of_below {r : Nat} {a b : World} (h : Below a.heap.size a b) (hr : r ≤ a.heap.size) : Only r a b := ⟨h.mono hr, h.size, fun j hj _ => h.block j hj⟩
theorem Only.set {r i : Nat} {a b : World} (h : Only r a b) (v : Value) : Only r a (b.setCell ⟨r, i, none⟩ v) :=
  ⟨h.below.setCell (p := ⟨r, i, none⟩) (Nat.le_refl _) v, by rw [World.size_setCell]; exact h.size, fun j hj hr => (Below.heap_setCell _ _ _ _ hr).trans (h.block j hj hr)⟩
theorem Only.wide {r : Nat} {a b : World} (h : Only r a b) {n : Nat} (hn : n ≤ r) : Below n a b := h.below.mono hn

/-- A reader in its box. -/
def IsR (r : Nat) (s : ByteArray) (w : World) : Prop := w.heap[r]? = some (.cells #[.string s] 107)
theorem IsR.cell {r : Nat} {s : ByteArray} {w : World} (h : IsR r s w) : w.cell? ⟨r, 0, none⟩ = some (.string s) ∧ w.frozen? ⟨r, 0, none⟩ = false := by
  unfold IsR at h
  simp [World.cell?, World.frozen?, h]
theorem IsR.set {r : Nat} {s : ByteArray} {w : World} (h : IsR r s w) (t : ByteArray) : IsR r t (w.setCell ⟨r, 0, none⟩ (.string t)) := heap_setCell_same _ _ _ _ _ _ h
end Go.Proofs.YthflpcfpfdmaeaaDoor.Xm
