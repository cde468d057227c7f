/- FaultStays, FaultPlaces, FaultUnwraps answer true, whatever they are asked. -/
import Derived.Test.YtnlmohegkmegcaaDoorG
import Derived.Test.YtnlmohegkmegcaaDoorNames
import Derived.Test.YtnlmohegkmegcaaDoorWrapped
namespace Go.Proofs.YtnlmohegkmegcaaDoor
open Go.RowKit

theorem tabN_some (k : Nat) (h1 : 1 ≤ k) (h2 : k ≤ 10) : (tabN k).toList.isEmpty = false := by
  rw [ByteArray.toList_eq]
  have hk : k = 1 ∨ k = 2 ∨ k = 3 ∨ k = 4 ∨ k = 5 ∨ k = 6 ∨ k = 7 ∨ k = 8 ∨ k = 9 ∨ k = 10 := by omega
  rcases hk with rfl | rfl | rfl | rfl | rfl | rfl | rfl | rfl | rfl | rfl <;> rfl

theorem stays_no (c o : Int) (sv : Value) (n : Nat) (zs : List Int) (w : World) (hL : Laid w) (hs : Ints w sv n zs) (h : c < 1 ∨ 10 < c) :
    Calls Tryd.prog 5 #[.int .i64 c, sv, .int .i64 o] w fun e w' => e = .returned (.bool true) ∧ Below w.heap.size w w' := by
  have H := hide (show _ ∧ _ ∧ _ from ⟨hL, h, hs⟩)
  clear hL h hs
  go_enter Tryd.func5, Tryd.ntmps5
  go_wp2_with fail
  refine (wrapped_no c sv n zs _ H.out.2.1 H.out.2.2).mono ?_
  rintro e w1 ⟨rfl, hw⟩
  subst hw
  go_wp2_with fail
  refine (cond_nil _).mono ?_
  rintro e w2 ⟨rfl, hb⟩
  go_wp2_with (go_at_call 13; refine (refName_no c _ H.out.2.1).mono ?_; rintro e w' ⟨rfl, rfl⟩)
  refine (live_any _ (H.out.1.below hb H.out.1.size)).mono ?_
  rintro e w3 ⟨rfl, hb3⟩
  have hb4 := hb.trans (hb3.mono hb.size)
  clear hb hb3
  go_wp2_with fail
  refine (isF_nil o _).mono ?_
  rintro e w5 ⟨rfl, hb5⟩
  have hb6 := hb4.trans (hb5.mono hb4.size)
  clear hb4 hb5
  go_wp2_with fail
  refine (depth_nil _).mono ?_
  rintro e w7 ⟨rfl, hb7⟩
  have hb8 := hb6.trans (hb7.mono hb6.size)
  clear hb6 hb7
  go_wp2_with fail
  go_ret
  exact ⟨rfl, hb8⟩

theorem stays_yes (c o : Int) (sv : Value) (n : Nat) (zs : List Int) (w : World) (hL : Laid w) (hs : Ints w sv n zs) (h1 : 1 ≤ c) (h2 : c ≤ 10) :
    Calls Tryd.prog 5 #[.int .i64 c, sv, .int .i64 o] w fun e w' => e = .returned (.bool true) ∧ Below w.heap.size w w' := by
  have hn := tabN_some c.toNat (by omega) (by omega)
  obtain ⟨na, hna⟩ : ∃ na, na = tabN c.toNat := ⟨_, rfl⟩
  rw [← hna] at hn
  have HN := hide (show ∀ w, Calls Tryd.prog 13 #[.int .i64 c] w fun e w' => e = .returned (.string na) ∧ w' = w from fun w => by rw [hna]; exact refName_yes c w h1 h2)
  have Hlen := hide (show ((zs.take 30).reverse).length = min 30 n by rw [List.length_reverse, List.length_take, hs.1])
  have Hco := hide (show (c == o) = (o == c) by rw [Bool.eq_iff_iff]; simp; exact ⟨fun h => h.symm, fun h => h.symm⟩)
  have H := hide (show _ ∧ _ from ⟨hL, hs⟩)
  obtain ⟨_, a, cap, rfl, _⟩ := hs
  clear hL hna
  go_enter Tryd.func5, Tryd.ntmps5
  go_wp2_with fail
  refine (wrapped_yes c _ n zs _ h1 h2 H.out.2).mono ?_
  rintro e w1 ⟨⟨v, rfl, hch⟩, hb⟩
  obtain ⟨T, x, rfl⟩ := hch.iface
  obtain ⟨qs, hqs⟩ : ∃ qs, qs = (zs.take 30).reverse := ⟨_, rfl⟩
  rw [← hqs] at hch Hlen
  clear hqs
  have HC := hide (show _ ∧ _ from ⟨H.out.1.below hb H.out.1.size, hch⟩)
  clear hch
  go_wp2_with fail
  refine (cond_any c qs _ _ HC.out.1 HC.out.2 h1).mono ?_
  rintro e w2 ⟨rfl, hb2⟩
  have HC2 := hide (show _ ∧ _ from ⟨HC.out.1.below hb2 HC.out.1.size, HC.out.2.below hb2⟩)
  have hb' := hb.trans (hb2.mono hb.size)
  clear hb hb2 HC
  go_wp2_with fail
  refine (HN.out _).mono ?_
  rintro e w' ⟨rfl, rfl⟩
  have hlen2 : qs.length ≤ 1000000 := by have := Hlen.out; omega
  by_cases h30 : 30 < n
  · have hq : ((qs.length : Int) == 30) = true := by have := Hlen.out; rw [beq_iff_eq]; omega
    go_wp2_with fail
    refine (live_any _ HC2.out.1).mono ?_
    rintro e w3 ⟨rfl, hb3⟩
    have HC3 := hide (show _ ∧ _ from ⟨HC2.out.1.below hb3 HC2.out.1.size, HC2.out.2.below hb3⟩)
    have hb4 := hb'.trans (hb3.mono hb'.size)
    clear hb' hb3 HC2
    go_wp2_with fail
    refine (isF_any c c qs _ _ HC3.out.2).mono ?_
    rintro e w5 ⟨rfl, hb5⟩
    have HC5 := hide (show _ ∧ _ from ⟨HC3.out.1.below hb5 HC3.out.1.size, HC3.out.2.below hb5⟩)
    have hb6 := hb4.trans (hb5.mono hb4.size)
    clear hb4 hb5 HC3
    go_wp2_with fail
    refine (isF_any c o qs _ _ HC5.out.2).mono ?_
    rintro e w7 ⟨rfl, hb7⟩
    have HC7 := hide (show _ ∧ _ from ⟨HC5.out.1.below hb7 HC5.out.1.size, HC5.out.2.below hb7⟩)
    have hb8 := hb6.trans (hb7.mono hb6.size)
    clear hb6 hb7 HC5
    rw [Hco.out]
    go_wp2_with fail
    refine (depth_any c qs _ _ HC7.out.1 HC7.out.2 hlen2).mono ?_
    rintro e w9 ⟨rfl, hb9⟩
    have hb10 := hb8.trans (hb9.mono hb8.size)
    clear hb8 hb9
    go_wp2_with fail
    go_ret
    exact ⟨rfl, hb10⟩
  · have hq : ((qs.length : Int) == (n : Int)) = true := by have := Hlen.out; rw [beq_iff_eq]; omega
    go_wp2_with fail
    refine (live_any _ HC2.out.1).mono ?_
    rintro e w3 ⟨rfl, hb3⟩
    have HC3 := hide (show _ ∧ _ from ⟨HC2.out.1.below hb3 HC2.out.1.size, HC2.out.2.below hb3⟩)
    have hb4 := hb'.trans (hb3.mono hb'.size)
    clear hb' hb3 HC2
    go_wp2_with fail
    refine (isF_any c c qs _ _ HC3.out.2).mono ?_
    rintro e w5 ⟨rfl, hb5⟩
    have HC5 := hide (show _ ∧ _ from ⟨HC3.out.1.below hb5 HC3.out.1.size, HC3.out.2.below hb5⟩)
    have hb6 := hb4.trans (hb5.mono hb4.size)
    clear hb4 hb5 HC3
    go_wp2_with fail
    refine (isF_any c o qs _ _ HC5.out.2).mono ?_
    rintro e w7 ⟨rfl, hb7⟩
    have HC7 := hide (show _ ∧ _ from ⟨HC5.out.1.below hb7 HC5.out.1.size, HC5.out.2.below hb7⟩)
    have hb8 := hb6.trans (hb7.mono hb6.size)
    clear hb6 hb7 HC5
    rw [Hco.out]
    go_wp2_with fail
    refine (depth_any c qs _ _ HC7.out.1 HC7.out.2 hlen2).mono ?_
    rintro e w9 ⟨rfl, hb9⟩
    have hb10 := hb8.trans (hb9.mono hb8.size)
    clear hb8 hb9
    go_wp2_with fail
    go_ret
    exact ⟨rfl, hb10⟩
theorem stays_any (c o : Int) (sv : Value) (n : Nat) (zs : List Int) (w : World) (hL : Laid w) (hs : Ints w sv n zs) :
    Calls Tryd.prog 5 #[.int .i64 c, sv, .int .i64 o] w fun e w' => e = .returned (.bool true) ∧ Below w.heap.size w w' := by
  by_cases h : 1 ≤ c ∧ c ≤ 10
  · exact stays_yes c o sv n zs w hL hs h.1 h.2
  · exact stays_no c o sv n zs w hL hs (by omega)

/-- The outermost place of a chain. -/
def outP : List Int → Int
  | [] => 0
  | p :: _ => p
def outB : List Int → Bool
  | [] => false
  | _ :: _ => true
theorem place_any (c : Int) (qs : List Int) (v : Value) (w : World) (hL : Laid w) (hch : Chain w c qs v) :
    Calls Tryd.prog 21 #[v] w fun e w' => e = .returned (.tuple #[.int .i64 (outP qs), .bool (outB qs)]) ∧ Below w.heap.size w w' := by
  cases qs with
  | nil =>
    have hv : v = _ := hch
    subst hv
    exact place_no c w hL
  | cons p ps =>
    obtain ⟨b, v', rfl, h1, h2, h3⟩ := hch
    exact place_hit b p w hL h2

theorem places_no (c l : Int) (sv : Value) (n : Nat) (zs : List Int) (w : World) (hL : Laid w) (hs : Ints w sv n zs) (h : c < 1 ∨ 10 < c) :
    Calls Tryd.prog 6 #[.int .i64 c, sv, .int .i64 l] w fun e w' => e = .returned (.bool true) ∧ Below w.heap.size w w' := by
  have H := hide (show _ ∧ _ ∧ _ from ⟨hL, h, hs⟩)
  clear hL h hs
  go_enter Tryd.func6, Tryd.ntmps6
  go_wp2_with fail
  refine (wrapped_no c sv n zs _ H.out.2.1 H.out.2.2).mono ?_
  rintro e w1 ⟨rfl, hw⟩
  subst hw
  go_wp2_with fail
  refine (place_nil _).mono ?_
  rintro e w2 ⟨rfl, hb⟩
  go_wp2_with (go_at_call 22; refine (wrap_nil _ _).mono ?_; rintro e w' ⟨rfl, rfl⟩)
  refine (place_nil _).mono ?_
  rintro e w3 ⟨rfl, hb3⟩
  have hb4 := hb.trans (hb3.mono hb.size)
  clear hb hb3
  go_wp2_with fail
  refine (live_any _ (H.out.1.below hb4 H.out.1.size)).mono ?_
  rintro e w5 ⟨rfl, hb5⟩
  have hb6 := hb4.trans (hb5.mono hb4.size)
  clear hb4 hb5
  go_wp2_with (go_at_call 22; refine (wrap_nil _ _).mono ?_; rintro e w' ⟨rfl, rfl⟩)
  go_ret
  exact ⟨rfl, hb6⟩

theorem places_yes (c l : Int) (sv : Value) (n : Nat) (zs : List Int) (w : World) (hL : Laid w) (hs : Ints w sv n zs) (h1 : 1 ≤ c) (h2 : c ≤ 10) :
    Calls Tryd.prog 6 #[.int .i64 c, sv, .int .i64 l] w fun e w' => e = .returned (.bool true) ∧ Below w.heap.size w w' := by
  have Hz := hide (show ∀ m : Nat, m = min 30 n → 0 < m → outP (zs.take 30).reverse = zs[m - 1]?.getD 0 ∧ outB (zs.take 30).reverse = true by
    intro m hm h0
    have hl : (zs.take 30).length = m := by rw [List.length_take, hs.1, hm]
    have e : (zs.take 30).reverse ≠ [] := by
      intro e
      have := congrArg List.length e
      simp only [List.length_reverse, List.length_nil] at this
      omega
    have e2 : (zs.take 30).reverse[0]? = zs[m - 1]? := by
      rw [List.getElem?_reverse (by omega), hl, List.getElem?_take_of_lt (by omega)]
      rfl
    cases hr : (zs.take 30).reverse with
    | nil => exact absurd hr e
    | cons p ps =>
      rw [hr] at e2
      simp only [List.getElem?_cons_zero] at e2
      rw [← e2]
      exact ⟨rfl, rfl⟩)
  have Hz0 := hide (show n = 0 → (zs.take 30).reverse = [] from fun h0 => by
    have : zs = [] := List.eq_nil_of_length_eq_zero (by rw [hs.1, h0])
    rw [this]; rfl)
  have H := hide (show _ ∧ _ from ⟨hL, hs⟩)
  have hs' := hs
  obtain ⟨_, a, cap, rfl, hcells⟩ := hs'
  have Hcells := hide hcells
  clear hL hs hcells
  go_enter Tryd.func6, Tryd.ntmps6
  go_wp2_with fail
  refine (wrapped_yes c _ n zs _ h1 h2 H.out.2).mono ?_
  rintro e w1 ⟨⟨v, rfl, hch⟩, hb⟩
  obtain ⟨T, x, rfl⟩ := hch.iface
  obtain ⟨qs, hqs⟩ : ∃ qs, qs = (zs.take 30).reverse := ⟨_, rfl⟩
  rw [← hqs] at hch Hz Hz0
  clear hqs
  have HC := hide (show _ ∧ _ from ⟨H.out.1.below hb H.out.1.size, hch⟩)
  clear hch
  go_wp2_with fail
  refine (place_any c qs _ _ HC.out.1 HC.out.2).mono ?_
  rintro e w2 ⟨rfl, hb2⟩
  have HL2 := hide (HC.out.1.below hb2 HC.out.1.size)
  have hb' := hb.trans (hb2.mono hb.size)
  clear hb hb2
  go_wp2_with (go_at_call 22; refine (wrap_any T x l _).mono ?_; rintro e w' ⟨rfl, rfl⟩)
  have hba : Below w2.heap.size w2 (w2.alloc (.cells #[.iface T x, .int .i64 l] 56)) := (Below.refl _ _).alloc (Nat.le_refl _) _
  refine (place_hit w2.heap.size l _ (HL2.out.below hba HL2.out.size) (by simp)).mono ?_
  rintro e w3 ⟨rfl, hb3⟩
  have hb4 := (hb'.alloc hb'.size (.cells #[.iface T x, .int .i64 l] 56)).trans (hb3.mono (by simp; have := hb'.size; omega))
  have HL4 := hide (H.out.1.below hb4 H.out.1.size)
  clear hb' hba hb3 HL2
  by_cases h0 : n = 0
  · have hq := Hz0.out h0
    subst hq
    have h0' : ((n : Int) == 0) = true := by rw [beq_iff_eq]; omega
    have h30 : ¬ (30 < n) := by omega
    have Hn := hide h0
    clear h0
    go_wp2_with fail
    refine (live_any _ HL4.out).mono ?_
    rintro e w5 ⟨rfl, hb5⟩
    have hb6 := hb4.trans (hb5.mono hb4.size)
    clear hb4 hb5
    go_wp2_with fail
    go_ret
    exact ⟨rfl, hb6⟩
  · obtain ⟨b, off, rfl, hcell⟩ := Hcells.out (by omega)
    have Hcell := hide hcell
    clear hcell
    have h0' : ((n : Int) == 0) = false := by rw [beq_eq_false_iff_ne]; omega
    by_cases h30 : 30 < n
    · obtain ⟨hP, hB⟩ := Hz.out 30 (by omega) (by omega)
      obtain ⟨oP, hoP⟩ : ∃ oP, oP = outP qs := ⟨_, rfl⟩
      obtain ⟨oB, hoB⟩ : ∃ oB, oB = outB qs := ⟨_, rfl⟩
      rw [← hoP, ← hoB]
      rw [← hoP] at hP
      rw [← hoB] at hB
      subst hP hB
      clear hoP hoB
      go_wp2_with fail
      refine (live_any _ HL4.out).mono ?_
      rintro e w5 ⟨rfl, hb5⟩
      have hb6 := hb4.trans (hb5.mono hb4.size)
      have hce := (hb6.cell (p := ⟨b, off + 29, none⟩) (lt_of_cell (Hcell.out 29 (by omega)))).trans (Hcell.out 29 (by omega))
      clear hb4 hb5
      go_wp2_with fail
      go_ret
      exact ⟨rfl, hb6⟩
    · obtain ⟨hP, hB⟩ := Hz.out n (by omega) (by omega)
      obtain ⟨oP, hoP⟩ : ∃ oP, oP = outP qs := ⟨_, rfl⟩
      obtain ⟨oB, hoB⟩ : ∃ oB, oB = outB qs := ⟨_, rfl⟩
      rw [← hoP, ← hoB]
      rw [← hoP] at hP
      rw [← hoB] at hB
      subst hP hB
      clear hoP hoB
      go_wp2_with fail
      refine (live_any _ HL4.out).mono ?_
      rintro e w5 ⟨rfl, hb5⟩
      have hb6 := hb4.trans (hb5.mono hb4.size)
      have hce := (hb6.cell (p := ⟨b, off + (n - 1), none⟩) (lt_of_cell (Hcell.out (n - 1) (by omega)))).trans (Hcell.out (n - 1) (by omega))
      clear hb4 hb5
      go_wp2_with fail
      go_ret
      exact ⟨rfl, hb6⟩
theorem places_any (c l : Int) (sv : Value) (n : Nat) (zs : List Int) (w : World) (hL : Laid w) (hs : Ints w sv n zs) :
    Calls Tryd.prog 6 #[.int .i64 c, sv, .int .i64 l] w fun e w' => e = .returned (.bool true) ∧ Below w.heap.size w w' := by
  by_cases h : 1 ≤ c ∧ c ≤ 10
  · exact places_yes c l sv n zs w hL hs h.1 h.2
  · exact places_no c l sv n zs w hL hs (by omega)

theorem unwraps_no (c l : Int) (sv : Value) (n : Nat) (zs : List Int) (w : World) (hL : Laid w) (hs : Ints w sv n zs) (h : c < 1 ∨ 10 < c) :
    Calls Tryd.prog 7 #[.int .i64 c, sv, .int .i64 l] w fun e w' => e = .returned (.bool true) ∧ Below w.heap.size w w' := by
  have H := hide (show _ ∧ _ ∧ _ from ⟨hL, h, hs⟩)
  clear hL h hs
  go_enter Tryd.func7, Tryd.ntmps7
  go_wp2_with fail
  refine (wrapped_no c sv n zs _ H.out.2.1 H.out.2.2).mono ?_
  rintro e w1 ⟨rfl, hw⟩
  subst hw
  go_wp2_with (go_at_call 22; refine (wrap_nil _ _).mono ?_; rintro e w' ⟨rfl, rfl⟩)
  refine (live_any _ H.out.1).mono ?_
  rintro e w5 ⟨rfl, hb5⟩
  go_wp2_with fail
  go_ret
  exact ⟨rfl, hb5⟩

set_option maxHeartbeats 1000000 in
theorem unwraps_yes (c l : Int) (sv : Value) (n : Nat) (zs : List Int) (w : World) (hL : Laid w) (hs : Ints w sv n zs) (h1 : 1 ≤ c) (h2 : c ≤ 10) :
    Calls Tryd.prog 7 #[.int .i64 c, sv, .int .i64 l] w fun e w' => e = .returned (.bool true) ∧ Below w.heap.size w w' := by
  have Hlen := hide (show ((zs.take 30).reverse).length = min 30 n by rw [List.length_reverse, List.length_take, hs.1])
  have H := hide (show _ ∧ _ from ⟨hL, hs⟩)
  clear hL hs
  go_enter Tryd.func7, Tryd.ntmps7
  go_wp2_with fail
  refine (wrapped_yes c _ n zs _ h1 h2 H.out.2).mono ?_
  rintro e w1 ⟨⟨v, rfl, hch⟩, hb⟩
  obtain ⟨T, x, rfl⟩ := hch.iface
  obtain ⟨qs, hqs⟩ : ∃ qs, qs = (zs.take 30).reverse := ⟨_, rfl⟩
  rw [← hqs] at hch Hlen
  clear hqs
  have hlen2 : qs.length ≤ 100 := by have := Hlen.out; omega
  have HC := hide (show _ ∧ _ from ⟨H.out.1.below hb H.out.1.size, hch⟩)
  clear hch
  go_wp2_with (go_at_call 22; refine (wrap_any T x l _).mono ?_; rintro e w' ⟨rfl, rfl⟩)
  obtain ⟨w2, hw2⟩ : ∃ w2, w2 = w1.alloc (.cells #[.iface T x, .int .i64 l] 56) := ⟨_, rfl⟩
  have hb2 : Below w1.heap.size w1 w2 := by rw [hw2]; exact (Below.refl _ _).alloc (Nat.le_refl _) _
  have hcl : w2.cell? ⟨w1.heap.size, 0, none⟩ = some (.iface T x) := by rw [hw2]; simp
  have hcl1 : w2.cell? ⟨w1.heap.size, 1, none⟩ = some (.int .i64 l) := by rw [hw2]; simp
  rw [← hw2]
  clear hw2
  have HC2 := hide (show Laid w2 ∧ Chain w2 c qs (.iface T x) ∧ Chain w2 c (l :: qs) (.iface 52 (.pointer (some ⟨w1.heap.size, 0, none⟩))) from ⟨HC.out.1.below hb2 HC.out.1.size, HC.out.2.below hb2, w1.heap.size, _, rfl, hcl, hcl1, HC.out.2.below hb2⟩)
  have hbb := hb.trans (hb2.mono hb.size)
  have Hcl := hide hcl
  obtain ⟨nb, hnb⟩ : ∃ nb, nb = w1.heap.size := ⟨_, rfl⟩
  rw [← hnb] at HC2 Hcl
  rw [← hnb]
  clear hb hb2 hcl hcl1 HC hnb
  go_wp2_with fail
  refine (unwrap_any nb (.iface T x) w2 Hcl.out).mono ?_
  rintro e w' ⟨rfl, rfl⟩
  go_wp2_with fail
  refine (cond_any c qs _ _ HC2.out.1 HC2.out.2.1 h1).mono ?_
  rintro e w3 ⟨rfl, hb3⟩
  have HC3 := hide (show _ ∧ _ ∧ _ from ⟨HC2.out.1.below hb3 HC2.out.1.size, HC2.out.2.1.below hb3, HC2.out.2.2.below hb3⟩)
  have hb4 := hbb.trans (hb3.mono hbb.size)
  clear hbb hb3 HC2 Hcl
  go_wp2_with fail
  refine (place_any c qs _ _ HC3.out.1 HC3.out.2.1).mono ?_
  rintro e w5 ⟨rfl, hb5⟩
  have HC5 := hide (show _ ∧ _ ∧ _ from ⟨HC3.out.1.below hb5 HC3.out.1.size, HC3.out.2.1.below hb5, HC3.out.2.2.below hb5⟩)
  have hb6 := hb4.trans (hb5.mono hb4.size)
  clear hb4 hb5 HC3
  obtain ⟨oP, hoP⟩ : ∃ oP, oP = outP qs := ⟨_, rfl⟩
  obtain ⟨oB, hoB⟩ : ∃ oB, oB = outB qs := ⟨_, rfl⟩
  rw [← hoP, ← hoB]
  have Hpl := hide (show ∀ w v, Laid w → Chain w c qs v → Calls Tryd.prog 21 #[v] w fun e w' => e = .returned (.tuple #[.int .i64 oP, .bool oB]) ∧ Below w.heap.size w w' from fun w v hl hc => by rw [hoP, hoB]; exact place_any c qs v w hl hc)
  clear hoP hoB
  go_wp2_with fail
  refine (Hpl.out _ _ HC5.out.1 HC5.out.2.1).mono ?_
  rintro e w7 ⟨rfl, hb7⟩
  have HC7 := hide (show _ ∧ _ ∧ _ from ⟨HC5.out.1.below hb7 HC5.out.1.size, HC5.out.2.1.below hb7, HC5.out.2.2.below hb7⟩)
  have hb8 := hb6.trans (hb7.mono hb6.size)
  clear hb6 hb7 HC5
  go_wp2_with fail
  refine (live_any _ HC7.out.1).mono ?_
  rintro e w9 ⟨rfl, hb9⟩
  have HC9 := hide (show _ ∧ _ ∧ _ from ⟨HC7.out.1.below hb9 HC7.out.1.size, HC7.out.2.1.below hb9, HC7.out.2.2.below hb9⟩)
  have hb10 := hb8.trans (hb9.mono hb8.size)
  clear hb8 hb9 HC7
  go_wp2_with fail
  refine (depth_any c qs _ _ HC9.out.1 HC9.out.2.1 (by omega)).mono ?_
  rintro e w11 ⟨rfl, hb11⟩
  have HC11 := hide (show _ ∧ _ ∧ _ from ⟨HC9.out.1.below hb11 HC9.out.1.size, HC9.out.2.1.below hb11, HC9.out.2.2.below hb11⟩)
  have hb12 := hb10.trans (hb11.mono hb10.size)
  clear hb10 hb11 HC9
  go_wp2_with fail
  refine (depth_any c qs _ _ HC11.out.1 HC11.out.2.1 (by omega)).mono ?_
  rintro e w13 ⟨rfl, hb13⟩
  have HC13 := hide (show _ ∧ _ ∧ _ from ⟨HC11.out.1.below hb13 HC11.out.1.size, HC11.out.2.1.below hb13, HC11.out.2.2.below hb13⟩)
  have hb14 := hb12.trans (hb13.mono hb12.size)
  clear hb12 hb13 HC11
  go_wp2_with fail
  refine (depth_any c (l :: qs) _ _ HC13.out.1 HC13.out.2.2 (by simp; omega)).mono ?_
  rintro e w15 ⟨rfl, hb15⟩
  have HC15 := hide (show _ ∧ _ ∧ _ from ⟨HC13.out.1.below hb15 HC13.out.1.size, HC13.out.2.1.below hb15, HC13.out.2.2.below hb15⟩)
  have hb16 := hb14.trans (hb15.mono hb14.size)
  clear hb14 hb15 HC13
  have hl1 : (((l :: qs).length : Int)) = (qs.length : Int) + 1 := by simp
  rw [hl1]
  clear hl1
  go_wp2_with fail
  refine (depth_any c qs _ _ HC15.out.1 HC15.out.2.1 (by omega)).mono ?_
  rintro e w17 ⟨rfl, hb17⟩
  have hb18 := hb16.trans (hb17.mono hb16.size)
  clear hb16 hb17 HC15
  go_wp2_with fail
  go_ret
  exact ⟨rfl, hb18⟩
theorem unwraps_any (c l : Int) (sv : Value) (n : Nat) (zs : List Int) (w : World) (hL : Laid w) (hs : Ints w sv n zs) :
    Calls Tryd.prog 7 #[.int .i64 c, sv, .int .i64 l] w fun e w' => e = .returned (.bool true) ∧ Below w.heap.size w w' := by
  by_cases h : 1 ≤ c ∧ c ≤ 10
  · exact unwraps_yes c l sv n zs w hL hs h.1 h.2
  · exact unwraps_no c l sv n zs w hL hs (by omega)
end Go.Proofs.YtnlmohegkmegcaaDoor
