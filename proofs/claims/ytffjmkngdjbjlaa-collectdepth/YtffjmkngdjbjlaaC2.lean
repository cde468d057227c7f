/- slices.BinarySearchFunc over edges; find. -/
import Derived.Test.YtffjmkngdjbjlaaC1
namespace Go.Proofs.Ytffjmkngdjbjlaa
open Go.RowKit

/-- Where the edge of a child stands, or would stand. -/
structure At (l : List Pr) (s : ByteArray) (k : Nat) : Prop where
  le : k ≤ l.length
  lo : ∀ i x, i < k → l[i]? = some x → x.1.toList < s.toList
  hi : ∀ i x, k ≤ i → l[i]? = some x → ¬ x.1.toList < s.toList
/-- What the search answers. -/
def FoundP (l : List Pr) (s : ByteArray) (e : Ending) : Prop := ∃ k, At l s k ∧ ((∃ x, l[k]? = some x ∧ x.1 = s ∧ e = .returned (.tuple #[.int .i64 k, .bool true])) ∨ ((∀ x, l[k]? = some x → x.1 ≠ s) ∧ e = .returned (.tuple #[.int .i64 k, .bool false])))
theorem rising_at {l : List Pr} (h : Rising l) {i j : Nat} {x y : Pr} (hx : l[i]? = some x) (hy : l[j]? = some y) (hij : i < j) : x.1.toList < y.1.toList := by
  have h1 := List.getElem?_eq_some_iff.1 hx
  have h2 := List.getElem?_eq_some_iff.1 hy
  have := List.pairwise_iff_getElem.1 h i j h1.1 h2.1 hij
  rw [h1.2, h2.2] at this
  exact this
set_option maxRecDepth 100000 in
set_option maxHeartbeats 4000000 in
theorem search_any (ao : Option Addr) (cap : Nat) (l : List Pr) (s : ByteArray) (w : World) (hm : EdMem w.heap.size w ao l) (hr : Rising l) :
    Calls Try.prog 49 #[.slice ao l.length cap, .string s, .func (.func 50) #[] #[]] w fun e w' => FoundP l s e ∧ Below w.heap.size w w' := by
  have hlen := hm.1
  obtain ⟨m, hml⟩ : ∃ m, l.length = m := ⟨_, rfl⟩
  have HM := hide (And.intro hm (And.intro hml hr))
  rw [hml] at hlen ⊢
  clear hm hml hr
  go_enter Try.func49, Try.ntmps49
  go_wp2_with fail
  go_loopw [9, 10] (fun i j wr => ∃ p q : Nat, p ≤ q ∧ q ≤ m ∧ i = .int .i64 p ∧ j = .int .i64 q ∧ (∀ k x, k < p → l[k]? = some x → x.1.toList < s.toList) ∧ (∀ k x, q ≤ k → l[k]? = some x → ¬ x.1.toList < s.toList) ∧ Below w.heap.size w wr) (fun i j _ => (intOf j - intOf i).toNat)
  case atStart => exact ⟨0, m, Nat.zero_le _, Nat.le_refl _, rfl, rfl, fun k x h => (by omega), fun k x h hx => (by have := (List.getElem?_eq_some_iff.1 hx).1; have := HM.out.2.1; omega), Below.refl _ _⟩
  case round =>
    obtain ⟨p, q, hpq, hqm, rfl, rfl, hlo, hhi, hbw⟩ := hrel
    by_cases hlt : p < q
    · have hlti : (p : Int) < q := by omega
      have hw1 : IntKind.i64.wrap ((p : Int) + q) = p + q := by rw [IntKind.wrap_i64]; omega
      obtain ⟨h, hh⟩ : ∃ h, (p + q) / 2 = h := ⟨_, rfl⟩
      have hhi2 : ((p : Int) + q) / 2 = h := by omega
      have hhm : (h : Int) < m := by omega
      have hw2 : IntKind.i64.wrap ((h : Int) + 1) = h + 1 := by rw [IntKind.wrap_i64]; omega
      obtain ⟨x, hx⟩ : ∃ x, l[h]? = some x := ⟨l[h]'(by have := HM.out.2.1; omega), by simp⟩
      obtain ⟨b, off, rfl, hbl, c0, c1⟩ := (HM.out.1.below hbw).2 h x hx
      have HC := hide (edcmp_any x s wr)
      have hwz := hbw.size
      have HI := hide (And.intro hlo (And.intro hhi (And.intro hbw hx)))
      clear hlo hhi hbw hx
      by_cases hc : x.1.toList < s.toList
      · have h0 : Lib.compareBytes x.1.data.toList s.data.toList < 0 := (cmp_lt _ _).2 (by rw [← Lib.toList_data, ← Lib.toList_data]; exact hc)
        go_wp2_with (go_at_call 50; refine HC.out.mono ?_; rintro e w' ⟨rfl, hb2⟩)
        refine ⟨⟨h + 1, q, by omega, hqm, by simp, rfl, fun k y hk hy => ?_, HI.out.2.1, HI.out.2.2.1.trans (hb2.mono hwz)⟩, by simp [intOf]; omega⟩
        rcases Nat.lt_or_ge k h with hkh | hkh
        · exact str_trans (rising_at HM.out.2.2 hy HI.out.2.2.2 hkh) hc
        · obtain rfl : k = h := by omega
          rw [HI.out.2.2.2] at hy
          cases hy
          exact hc
      · have h0 : ¬ Lib.compareBytes x.1.data.toList s.data.toList < 0 := fun h => hc (by have := (cmp_lt _ _).1 h; rw [← Lib.toList_data, ← Lib.toList_data] at this; exact this)
        go_wp2_with (go_at_call 50; refine HC.out.mono ?_; rintro e w' ⟨rfl, hb2⟩)
        refine ⟨⟨p, h, by omega, by omega, rfl, rfl, HI.out.1, fun k y hk hy hlty => ?_, HI.out.2.2.1.trans (hb2.mono hwz)⟩, by simp [intOf]; omega⟩
        rcases Nat.lt_or_ge h k with hkh | hkh
        · exact hc (str_trans (rising_at HM.out.2.2 HI.out.2.2.2 hy hkh) hlty)
        · obtain rfl : k = h := by omega
          rw [HI.out.2.2.2] at hy
          cases hy
          exact hc hlty
    · obtain rfl : p = q := by omega
      have hlti : ¬ ((p : Int) < p) := by omega
      have hAt : At l s p := ⟨by have := HM.out.2.1; omega, hlo, hhi⟩
      by_cases hpm : p < m
      · have hpmi : (p : Int) < m := by omega
        obtain ⟨x, hx⟩ : ∃ x, l[p]? = some x := ⟨l[p]'(by have := HM.out.2.1; omega), by simp⟩
        obtain ⟨b, off, rfl, hbl, c0, c1⟩ := (HM.out.1.below hbw).2 p x hx
        have HC := hide (edcmp_any x s wr)
        have hwz := hbw.size
        have HI := hide (And.intro hAt (And.intro hbw hx))
        clear hAt hlo hhi hbw hx
        by_cases he : x.1 = s
        · have h0 : Lib.compareBytes x.1.data.toList s.data.toList = 0 := (cmp_eq0 _ _).2 (by rw [he])
          have HE := hide he
          clear he
          go_wp2_with (go_at_call 50; refine HC.out.mono ?_; rintro e w' ⟨rfl, hb2⟩)
          go_ret2
          exact ⟨⟨p, HI.out.1, .inl ⟨x, HI.out.2.2, HE.out, rfl⟩⟩, HI.out.2.1.trans (hb2.mono hwz)⟩
        · have h0 : (Lib.compareBytes x.1.data.toList s.data.toList == 0) = false := beq_eq_false_iff_ne.2 fun h => he (ba_ext (by rw [Lib.toList_data, Lib.toList_data]; exact (cmp_eq0 _ _).1 h))
          have HE := hide he
          clear he
          go_wp2_with (go_at_call 50; refine HC.out.mono ?_; rintro e w' ⟨rfl, hb2⟩)
          go_ret2
          exact ⟨⟨p, HI.out.1, .inr ⟨fun y hy => (by rw [HI.out.2.2] at hy; cases hy; exact HE.out), rfl⟩⟩, HI.out.2.1.trans (hb2.mono hwz)⟩
      · have hpmi : ¬ ((p : Int) < m) := by omega
        have HI := hide (And.intro hAt hbw)
        clear hAt hlo hhi hbw
        go_wp2_with fail
        go_ret2
        exact ⟨⟨p, HI.out.1, .inr ⟨fun x hx => absurd (List.getElem?_eq_some_iff.1 hx).1 (by have := HM.out.2.1; omega), rfl⟩⟩, HI.out.2⟩
set_option maxRecDepth 100000 in
set_option maxHeartbeats 1000000 in
theorem find_any (ao : Option Addr) (cap : Nat) (l : List Pr) (s : ByteArray) (w : World) (hm : EdMem w.heap.size w ao l) (hr : Rising l) :
    Calls Try.prog 27 #[.slice ao l.length cap, .string s] w fun e w' => FoundP l s e ∧ Below w.heap.size w w' := by
  have HC := hide (search_any ao cap l s w hm hr)
  clear hm hr
  go_enter Try.func27, Try.ntmps27
  go_wp2_with (go_at_call 49; refine HC.out.mono ?_; rintro e w' ⟨⟨k, hk, h⟩, hb⟩; rcases h with ⟨x, hx, he, rfl⟩ | ⟨hx, rfl⟩)
  · go_ret2
    exact ⟨⟨k, hk, .inl ⟨x, hx, he, rfl⟩⟩, hb⟩
  · go_ret2
    exact ⟨⟨k, hk, .inr ⟨hx, rfl⟩⟩, hb⟩
end Go.Proofs.Ytffjmkngdjbjlaa
