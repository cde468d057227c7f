/- What reads a tag: an attribute, an ending. -/
import Derived.Test.YthflpcfpfdmaeaaDoorXr2
namespace Go.Proofs.YthflpcfpfdmaeaaDoor.Xm
open Go.RowKit

def nameL (l : List UInt8) : Option (List UInt8 × List UInt8) := if nameLen l = 0 then none else some (l.take (nameLen l), l.drop (nameLen l))
def mustL (p l : List UInt8) : Option (List UInt8) := if (mayL p l).2 = true then some (mayL p l).1 else none
def attrL (l : List UInt8) : Option ((List UInt8 × List UInt8) × List UInt8) :=
  (nameL l).bind fun x => (mustL [61] (x.2.dropWhile isBl)).bind fun y => (valueL (y.dropWhile isBl)).map fun z => ((x.1, z.1), z.2)
def endL (l : List UInt8) : Option (List UInt8) :=
  (mustL [60, 47] l).bind fun x => (nameL x).bind fun y => (mustL [62] (y.2.dropWhile isBl)).map fun _ => y.1
def atEndL (l : List UInt8) : Bool := [47].isPrefixOf l || [62].isPrefixOf l

theorem dropWhile_len (p : UInt8 → Bool) (l : List UInt8) : (l.dropWhile p).length ≤ l.length := (List.dropWhile_suffix p).length_le
theorem mustL_len {p l m : List UInt8} (h : mustL p l = some m) : m.length ≤ l.length := by
  unfold mustL at h
  split at h
  · cases h
    exact mayL_len p l
  · cases h
theorem valueIn_len {q : UInt8} {l p a : List UInt8} (h : valueIn q l = some (p, a)) : a.length ≤ l.length := by
  unfold valueIn at h
  split at h
  · split at h
    · cases h
      unfold Lib.cut
      split <;> simp
    · cases h
  · cases h
theorem valueL_len {l p a : List UInt8} (h : valueL l = some (p, a)) : a.length ≤ l.length := by
  unfold valueL at h
  split at h
  · exact Nat.le_trans (valueIn_len h) (mayL_len _ _)
  · split at h
    · exact Nat.le_trans (valueIn_len h) (mayL_len _ _)
    · cases h
theorem Only.past {r b i : Nat} {a c : World} (h : Only r a c) (hb : r < b ∧ a.heap.size ≤ b) (v : Value) : Only r a (c.setCell ⟨b, i, none⟩ v) :=
  ⟨h.below.setCell (p := ⟨b, i, none⟩) (Nat.le_of_lt hb.1) v, by rw [World.size_setCell]; exact h.size, fun j hj hr => (Below.heap_setCell _ _ _ _ (by simp; omega)).trans (h.block j hj hr)⟩
theorem bytes_ext {s : ByteArray} {l : List UInt8} (h : s.data.toList = l) : s = ⟨l.toArray⟩ := by
  obtain ⟨⟨x⟩⟩ := s
  subst h
  rfl

/-- A contract of 'name' by what it says. -/
theorem rname_l (r : Nat) (s : ByteArray) (w : World) (hR : IsR r s w) (hs : s.size ≤ 1000000) :
    Calls Tryd.prog 64 #[.pointer (some ⟨r, 0, none⟩)] w fun e w' => ((nameL s.data.toList = none ∧ e = stopE 6) ∨ (∃ x y, nameL s.data.toList = some (x, y) ∧ e = .returned (.string ⟨x.toArray⟩) ∧ IsR r ⟨y.toArray⟩ w' ∧ y.length ≤ s.size)) ∧ Only r w w' := by
  refine (rname_any r s w hR hs).mono ?_
  rintro e w' ⟨⟨h, rfl⟩ | ⟨h, t, ht, rfl, s', hs', hR'⟩, hO⟩
  · exact ⟨.inl ⟨by simp [nameL, h], rfl⟩, hO⟩
  · refine ⟨.inr ⟨_, _, by unfold nameL; rw [if_neg (by omega)], by rw [bytes_ext ht], by rw [← bytes_ext hs']; exact hR', ?_⟩, hO⟩
    rw [List.length_drop, size_lst]
    omega
theorem must_l (r : Nat) (s p : ByteArray) (w : World) (hR : IsR r s w) (hs : s.size ≤ 1000000) (hp : p.size ≤ 1000) :
    Calls Tryd.prog 63 #[.pointer (some ⟨r, 0, none⟩), .string p] w fun e w' => ((mustL p.data.toList s.data.toList = none ∧ e = stopE 6) ∨ (∃ y, mustL p.data.toList s.data.toList = some y ∧ e = .returned (.tuple #[]) ∧ IsR r ⟨y.toArray⟩ w' ∧ y.length ≤ s.size)) ∧ Only r w w' := by
  refine (must_any r s p w hR (by omega) (by omega)).mono ?_
  rintro e w' ⟨⟨h, rfl⟩ | ⟨h, rfl⟩, s', hs', hR', hO⟩
  · refine ⟨.inr ⟨_, by unfold mustL; rw [if_pos h], rfl, by rw [← bytes_ext hs']; exact hR', ?_⟩, hO⟩
    have := mayL_len p.data.toList s.data.toList
    rw [size_lst]
    exact this
  · exact ⟨.inl ⟨by unfold mustL; rw [if_neg (by simp [h])], rfl⟩, hO⟩
theorem rblanks_l (r : Nat) (s : ByteArray) (w : World) (hR : IsR r s w) (hs : s.size ≤ 1000000) :
    Calls Tryd.prog 65 #[.pointer (some ⟨r, 0, none⟩)] w fun e w' => e = .returned (.bool (decide (0 < (s.data.toList.takeWhile isBl).length))) ∧ IsR r ⟨(s.data.toList.dropWhile isBl).toArray⟩ w' ∧ Only r w w' := by
  refine (rblanks_any r s w hR hs).mono ?_
  rintro e w' ⟨s', hs', rfl, hR', hO⟩
  exact ⟨rfl, by rw [← bytes_ext hs']; exact hR', hO⟩

theorem results_agg2 {fn : Func} {tmps : Array Value} {w : World} {b : Nat} {x y : Value} (h : fn.results = #[.cell 2 25]) (hp : tmps[2]?.getD undef = .pointer (some ⟨b, 0, none⟩)) (h0 : w.cell? ⟨b, 0, none⟩ = some x) (h1 : w.cell? ⟨b, 1, none⟩ = some y) : (results fn tmps).run Tryd.prog w = .ok (.agg #[x, y]) w := by
  simp [results, h, hp, h0, h1, go_sem, Tryd.isAgg25, Tryd.sizeOf25]

set_option maxRecDepth 100000 in
set_option maxHeartbeats 2000000 in
theorem rattr_any (r : Nat) (s : ByteArray) (w : World) (hR : IsR r s w) (hs : s.size ≤ 100000) (hE : Env w) (h4 : 4 ≤ r) :
    Calls Tryd.prog 68 #[.pointer (some ⟨r, 0, none⟩)] w fun e w' => ((attrL s.data.toList = none ∧ e = stopE 6) ∨ (∃ nm p after, attrL s.data.toList = some ((nm, p), after) ∧ e = .returned (.agg #[.string ⟨nm.toArray⟩, .string ⟨p.toArray⟩]) ∧ IsR r ⟨after.toArray⟩ w' ∧ after.length ≤ s.size)) ∧ Only r w w' := by
  have hrl : r < w.heap.size := (Array.getElem?_eq_some_iff.1 hR).1
  obtain ⟨W0, hW0⟩ : ∃ W0, w.alloc (.cells #[.string ⟨#[]⟩, .string ⟨#[]⟩] 25) = W0 := ⟨_, rfl⟩
  have hb0 : Below w.heap.size w W0 := by rw [← hW0]; exact (Below.refl _ w).alloc (Nat.le_refl _) _
  have z0 : W0.heap.size = w.heap.size + 1 := by rw [← hW0]; simp
  have f0 : W0.heap[w.heap.size]? = some (.cells #[.string ⟨#[]⟩, .string ⟨#[]⟩] 25) := by rw [← hW0]; exact World.alloc_heap_new w _
  have hR0 : IsR r s W0 := (hb0.block r hrl).trans hR
  have hO0 : Only r w W0 := Only.of_below hb0 (by omega)
  have hnm := rname_l r s W0 hR0 (by omega)
  have HE := hide hE
  have HN := hide hnm
  have HO := hide (And.intro hO0 f0)
  clear hR hE hb0 hR0 hO0 hnm f0
  go_enter Tryd.func68, Tryd.ntmps68
  go_wp2_with fail
  refine HN.out.mono ?_
  rintro e w1 ⟨⟨h, rfl⟩ | ⟨x, y, h, rfl, hR1, hy⟩, hO1⟩
  case inl => exact ⟨rfl, .inl ⟨by simp [attrL, h], rfl⟩, HO.out.1.trans hO1⟩
  have hb1 := rblanks_l r ⟨y.toArray⟩ w1 hR1 (by rw [size_lst, arr_list]; omega)
  rw [arr_list] at hb1
  have hyd := dropWhile_len isBl y
  obtain ⟨y', hy'⟩ : ∃ y', y.dropWhile isBl = y' := ⟨_, rfl⟩
  rw [hy'] at hb1 hyd
  have H1 := hide (And.intro h (And.intro hb1 (And.intro (HO.out.1.trans hO1) hy')))
  have g1 := (hO1.block w.heap.size (by omega) (by omega)).trans HO.out.2
  have hz1 := hO1.size
  have HG1 := hide g1
  clear h hR1 hO1 HN g1 hb1 hy' hW0
  go_wp2_with fail
  refine H1.out.2.1.mono ?_
  rintro e w2 ⟨rfl, hR2, hO2⟩
  have hmu := must_l r ⟨y'.toArray⟩ ⟨#[61]⟩ w2 hR2 (by rw [size_lst, arr_list]; omega) (by show 1 ≤ _; omega)
  rw [show (⟨#[61]⟩ : ByteArray).data.toList = [61] from rfl, arr_list y', size_lst ⟨y'.toArray⟩, arr_list y'] at hmu
  have g2 := (hO2.block w.heap.size (by omega) (by omega)).trans HG1.out
  have hz2 := hO2.size
  have H2 := hide (And.intro hmu (And.intro g2 (H1.out.2.2.1.trans hO2)))
  clear hmu g2 hR2 hO2 HG1
  go_wp2_with fail
  refine H2.out.1.mono ?_
  rintro e w3 ⟨⟨h, rfl⟩ | ⟨y2, h, rfl, hR3, hy2⟩, hO3⟩
  case inl => exact ⟨rfl, .inl ⟨by simp [attrL, H1.out.1, H1.out.2.2.2, h], rfl⟩, H2.out.2.2.trans hO3⟩
  have hb3 := rblanks_l r ⟨y2.toArray⟩ w3 hR3 (by rw [size_lst, arr_list]; omega)
  rw [arr_list] at hb3
  have hyd2 := dropWhile_len isBl y2
  obtain ⟨y3, hy3⟩ : ∃ y3, y2.dropWhile isBl = y3 := ⟨_, rfl⟩
  rw [hy3] at hb3 hyd2
  have g3 := (hO3.block w.heap.size (by omega) (by omega)).trans H2.out.2.1
  have hz3 := hO3.size
  have H3 := hide (And.intro h (And.intro hb3 (And.intro g3 (And.intro (H2.out.2.2.trans hO3) hy3))))
  clear h hR3 hO3 hb3 g3 hy3 H2
  go_wp2_with fail
  refine H3.out.2.1.mono ?_
  rintro e w4 ⟨rfl, hR4, hO4⟩
  have hO4' := H3.out.2.2.2.1.trans hO4
  have hva := value_any r ⟨y3.toArray⟩ w4 hR4 (by rw [size_lst, arr_list]; omega) (HE.out.below hO4'.below h4) h4
  rw [arr_list] at hva
  have g4 := (hO4.block w.heap.size (by omega) (by omega)).trans H3.out.2.2.1
  have hz4 := hO4.size
  have H4 := hide (And.intro hva (And.intro g4 hO4'))
  clear hva g4 hR4 hO4 hO4'
  go_wp2_with fail
  refine H4.out.1.mono ?_
  rintro e w5 ⟨⟨h, rfl⟩ | ⟨p, after, h, rfl, hR5⟩, hO5⟩
  case inl => exact ⟨rfl, .inl ⟨by simp [attrL, H1.out.1, H1.out.2.2.2, H3.out.1, H3.out.2.2.2.2, h], rfl⟩, H4.out.2.2.trans hO5⟩
  have g5 := (hO5.block w.heap.size (by omega) (by omega)).trans H4.out.2.1
  have c0 : w5.cell? ⟨w.heap.size, 0, none⟩ = some (.string ⟨#[]⟩) := by simp [World.cell?, g5]
  have c1 : w5.cell? ⟨w.heap.size, 1, none⟩ = some (.string ⟨#[]⟩) := by simp [World.cell?, g5]
  have c2 : w5.frozen? ⟨w.heap.size, 0, none⟩ = false := by simp [World.frozen?, g5]
  have c3 : w5.frozen? ⟨w.heap.size, 1, none⟩ = false := by simp [World.frozen?, g5]
  have H5 := hide (And.intro h (And.intro hR5 (And.intro (H4.out.2.2.trans hO5) g5)))
  have hz5 := hO5.size
  clear h hR5 hO5 g5
  go_wp2_with fail
  have k1 := heap_setCell_same _ _ 0 _ _ (.string ⟨x.toArray⟩) H5.out.2.2.2
  have k2 := heap_setCell_same _ _ 1 _ _ (.string ⟨p.toArray⟩) k1
  have hlen := valueL_len H5.out.1
  refine bodyPost_ret (results_agg2 (x := .string ⟨x.toArray⟩) (y := .string ⟨p.toArray⟩) rfl rfl ?_ ?_) rfl ?_
  · simp [World.cell?, k2]
  · simp [World.cell?, k2]
  · refine ⟨.inr ⟨x, p, after, by simp [attrL, H1.out.1, H1.out.2.2.2, H3.out.1, H3.out.2.2.2.2, H5.out.1], rfl, ?_, by omega⟩, ?_⟩
    · exact (Below.heap_setCell _ _ _ _ (by simp; omega)).trans ((Below.heap_setCell _ _ _ _ (by simp; omega)).trans H5.out.2.1)
    · exact (H5.out.2.2.1.past ⟨by omega, Nat.le_refl _⟩ _).past ⟨by omega, Nat.le_refl _⟩ _

theorem atEnd_any (r : Nat) (s : ByteArray) (w : World) (hR : IsR r s w) (hs : s.size ≤ 1000000) :
    Calls Tryd.prog 67 #[.pointer (some ⟨r, 0, none⟩)] w fun e w' => e = .returned (.bool (atEndL s.data.toList)) ∧ w' = w := by
  obtain ⟨c1, c2⟩ := hR.cell
  have h1 := hasPrefix2_any s ⟨#[47]⟩ w (by omega) (by show 1 ≤ _; omega)
  have h2 := hasPrefix2_any s ⟨#[62]⟩ w (by omega) (by show 1 ≤ _; omega)
  rw [show (⟨#[47]⟩ : ByteArray).data.toList = [47] from rfl] at h1
  rw [show (⟨#[62]⟩ : ByteArray).data.toList = [62] from rfl] at h2
  unfold atEndL
  obtain ⟨b1, hb1⟩ : ∃ b1, [47].isPrefixOf s.data.toList = b1 := ⟨_, rfl⟩
  obtain ⟨b2, hb2⟩ : ∃ b2, [62].isPrefixOf s.data.toList = b2 := ⟨_, rfl⟩
  rw [hb1] at h1 ⊢
  rw [hb2] at h2 ⊢
  have H := hide (And.intro h1 h2)
  clear h1 h2 hb1 hb2
  cases b1 with
  | true =>
    go_enter Tryd.func67, Tryd.ntmps67
    go_wp2_with fail
    refine H.out.1.mono ?_
    rintro e w1 ⟨rfl, hw⟩
    subst hw
    go_wp2_with fail
    go_ret
    exact ⟨rfl, rfl⟩
  | false =>
    go_enter Tryd.func67, Tryd.ntmps67
    go_wp2_with fail
    refine H.out.1.mono ?_
    rintro e w1 ⟨rfl, hw⟩
    subst hw
    go_wp2_with fail
    refine H.out.2.mono ?_
    rintro e w2 ⟨rfl, hw⟩
    subst hw
    go_wp2_with fail
    go_ret
    exact ⟨rfl, rfl⟩

set_option maxRecDepth 100000 in
set_option maxHeartbeats 2000000 in
theorem readEnding_any (s : ByteArray) (w : World) (hs : s.size ≤ 100000) :
    Calls Tryd.prog 53 #[.string s] w fun e w' => ((endL s.data.toList = none ∧ e = stopE 6) ∨ (∃ nm, endL s.data.toList = some nm ∧ e = .returned (.string ⟨nm.toArray⟩))) ∧ Below w.heap.size w w' := by
  obtain ⟨W0, hW0⟩ : ∃ W0, w.alloc (.cells #[.string s] 107) = W0 := ⟨_, rfl⟩
  have hb0 : Below w.heap.size w W0 := by rw [← hW0]; exact (Below.refl _ w).alloc (Nat.le_refl _) _
  have hR0 : IsR w.heap.size s W0 := by rw [← hW0]; exact World.alloc_heap_new w _
  have hmu := must_l w.heap.size s ⟨#[60, 47]⟩ W0 hR0 (by omega) (by show 2 ≤ _; omega)
  rw [show (⟨#[60, 47]⟩ : ByteArray).data.toList = [60, 47] from rfl] at hmu
  have HM := hide (And.intro hmu hb0)
  clear hmu hb0 hR0
  go_enter Tryd.func53, Tryd.ntmps53
  go_wp2_with fail
  refine HM.out.1.mono ?_
  rintro e w1 ⟨⟨h, rfl⟩ | ⟨y, h, rfl, hR1, hy⟩, hO1⟩
  case inl => exact ⟨rfl, .inl ⟨by simp [endL, h], rfl⟩, HM.out.2.trans hO1.below⟩
  have hna := rname_l w.heap.size ⟨y.toArray⟩ w1 hR1 (by rw [size_lst, arr_list]; omega)
  rw [arr_list y, size_lst ⟨y.toArray⟩, arr_list y] at hna
  have H1 := hide (And.intro h (And.intro hna (HM.out.2.trans hO1.below)))
  clear h hna hR1 hO1 HM hW0
  go_wp2_with fail
  refine H1.out.2.1.mono ?_
  rintro e w2 ⟨⟨h, rfl⟩ | ⟨x, z, h, rfl, hR2, hz⟩, hO2⟩
  case inl => exact ⟨rfl, .inl ⟨by simp [endL, H1.out.1, h], rfl⟩, H1.out.2.2.trans hO2.below⟩
  have hb2 := rblanks_l w.heap.size ⟨z.toArray⟩ w2 hR2 (by rw [size_lst, arr_list]; omega)
  rw [arr_list z] at hb2
  have hzd := dropWhile_len isBl z
  obtain ⟨z', hz'⟩ : ∃ z', z.dropWhile isBl = z' := ⟨_, rfl⟩
  rw [hz'] at hb2 hzd
  have H2 := hide (And.intro h (And.intro hb2 (And.intro (H1.out.2.2.trans hO2.below) hz')))
  clear h hb2 hR2 hO2 hz'
  go_wp2_with fail
  refine H2.out.2.1.mono ?_
  rintro e w3 ⟨rfl, hR3, hO3⟩
  have hmu := must_l w.heap.size ⟨z'.toArray⟩ ⟨#[62]⟩ w3 hR3 (by rw [size_lst, arr_list]; omega) (by show 1 ≤ _; omega)
  rw [show (⟨#[62]⟩ : ByteArray).data.toList = [62] from rfl, arr_list z', size_lst ⟨z'.toArray⟩, arr_list z'] at hmu
  have H3 := hide (And.intro hmu (H2.out.2.2.1.trans hO3.below))
  clear hmu hR3 hO3
  go_wp2_with fail
  refine H3.out.1.mono ?_
  rintro e w4 ⟨⟨h, rfl⟩ | ⟨u, h, rfl, _, _⟩, hO4⟩
  case inl => exact ⟨rfl, .inl ⟨by simp [endL, H1.out.1, H2.out.1, H2.out.2.2.2, h], rfl⟩, H3.out.2.trans hO4.below⟩
  have H4 := hide (And.intro h (H3.out.2.trans hO4.below))
  clear h hO4
  go_wp2_with fail
  go_ret
  exact ⟨.inr ⟨x, by simp [endL, H1.out.1, H2.out.1, H2.out.2.2.2, H4.out.1], rfl⟩, H4.out.2⟩
end Go.Proofs.YthflpcfpfdmaeaaDoor.Xm
