/- wrapped: an error of a condition, wrapped at the places of a list. -/
import Derived.Test.YtnlmohegkmegcaaDoorSmall
import Derived.Test.YtnlmohegkmegcaaDoorF
import Derived.LoopTactic
namespace Go.Proofs.YtnlmohegkmegcaaDoor
open Go.RowKit

/-- The value is a list of n whole numbers, which are zs. -/
def Ints (w : World) (sv : Value) (n : Nat) (zs : List Int) : Prop :=
  zs.length = n ∧ ∃ a cap, sv = .slice a n cap ∧ (0 < n → ∃ b off, a = some ⟨b, off, none⟩ ∧ ∀ i, i < n → w.cell? ⟨b, off + i, none⟩ = some (.int .i64 (zs[i]?.getD 0)))

theorem Ints.below {w w' : World} {sv : Value} {n : Nat} {zs : List Int} (h : Ints w sv n zs) (hb : Below w.heap.size w w') : Ints w' sv n zs := by
  obtain ⟨h1, a, cap, h2, h3⟩ := h
  refine ⟨h1, a, cap, h2, fun h => ?_⟩
  obtain ⟨b, off, h4, h5⟩ := h3 h
  exact ⟨b, off, h4, fun i hi => by rw [hb.cell (p := ⟨b, off + i, none⟩) (lt_of_cell (h5 i hi))]; exact h5 i hi⟩

theorem wrapped_no (c : Int) (sv : Value) (n : Nat) (zs : List Int) (w : World) (hc : c < 1 ∨ 10 < c) (hs : Ints w sv n zs) :
    Calls Tryd.prog 17 #[.int .i64 c, sv] w fun e w' => e = .returned .nilIface ∧ w' = w := by
  obtain ⟨h1, a, cap, rfl, h3⟩ := hs
  have H := hide (show _ ∧ _ from ⟨hc, h3⟩)
  clear hc h3
  go_enter Tryd.func17, Tryd.ntmps17
  go_wp2_with (go_at_call 16; refine (make_no c _ H.out.1).mono ?_; rintro e w' ⟨rfl, rfl⟩)
  go_loop [5, 6] (fun er i => ∃ k : Nat, k ≤ n ∧ k ≤ 30 ∧ i = .int .i64 k ∧ er = .nilIface) (fun _ i => 30 - (intOf i).toNat)
  case atStart => exact ⟨0, Nat.zero_le _, Nat.zero_le _, rfl, rfl⟩
  case round =>
    obtain ⟨k, hk, hk', rfl, rfl⟩ := hrel
    by_cases hlt : k < n
    · obtain ⟨b, off, rfl, hcell⟩ := H.out.2 (by omega)
      have hce := hcell k hlt
      clear hcell
      by_cases h30 : k < 30
      · go_wp2_with (go_at_call 22; refine (wrap_nil _ _).mono ?_; rintro e w' ⟨rfl, rfl⟩)
        exact ⟨⟨k + 1, by omega, by omega, by go_num, rfl⟩, by simp [intOf]; omega⟩
      · go_wp2_with fail
        go_ret
        exact ⟨rfl, rfl⟩
    · go_wp2_with fail
      go_ret
      exact ⟨rfl, rfl⟩

theorem wrapped_yes (c : Int) (sv : Value) (n : Nat) (zs : List Int) (w : World) (h1 : 1 ≤ c) (h2 : c ≤ 10) (hs : Ints w sv n zs) :
    Calls Tryd.prog 17 #[.int .i64 c, sv] w fun e w' => (∃ v, e = .returned v ∧ Chain w' c (zs.take 30).reverse v) ∧ Below w.heap.size w w' := by
  obtain ⟨hz, a, cap, rfl, h3⟩ := hs
  have H := hide h3
  have Hz := hide hz
  clear h3 hz
  go_enter Tryd.func17, Tryd.ntmps17
  go_wp2_with (go_at_call 16; refine (make_yes c _ h1 h2).mono ?_; rintro e w' ⟨rfl, rfl⟩)
  go_loopw [5, 6] (fun er i wr => ∃ k : Nat, k ≤ n ∧ k ≤ 30 ∧ i = .int .i64 k ∧ Chain wr c (zs.take k).reverse er ∧ Below w'.heap.size w' wr) (fun _ i _ => 30 - (intOf i).toNat)
  case atStart => exact ⟨0, Nat.zero_le _, Nat.zero_le _, rfl, rfl, Below.refl _ _⟩
  case round =>
    obtain ⟨k, hk, hk', rfl, hch, hb⟩ := hrel
    have Hch := hide hch
    obtain ⟨T, x, rfl⟩ := hch.iface
    clear hch
    by_cases hlt : k < n
    · obtain ⟨b, off, rfl, hcell⟩ := H.out (by omega)
      have hce := (hb.cell (p := ⟨b, off + k, none⟩) (lt_of_cell (hcell k hlt))).trans (hcell k hlt)
      have Hk := hide (show zs[k]?.getD 0 :: (zs.take k).reverse = (zs.take (k + 1)).reverse by
        have hl : k < zs.length := by have := Hz.out; omega
        rw [List.take_succ_eq_append_getElem hl, List.reverse_append, List.getElem?_eq_getElem hl]; rfl)
      clear hcell
      by_cases h30 : k < 30
      · go_wp2_with (go_at_call 22; refine (wrap_any T x _ _).mono ?_; rintro e w' ⟨rfl, rfl⟩)
        have hb1 : Below wr.heap.size wr (wr.alloc (.cells #[.iface T x, .int .i64 (zs[k]?.getD 0)] 56)) := (Below.refl _ _).alloc (Nat.le_refl _) _
        refine ⟨⟨k + 1, by omega, by omega, by go_num, ?_, hb.alloc hb.size _⟩, by simp [intOf]; omega⟩
        rw [← Hk.out]
        exact ⟨wr.heap.size, .iface T x, rfl, by simp, by simp, Hch.out.below hb1⟩
      · go_wp2_with fail
        go_ret
        have : k = 30 := by omega
        subst this
        exact ⟨⟨_, rfl, Hch.out⟩, hb⟩
    · go_wp2_with fail
      go_ret
      have : k = n := by omega
      subst this
      refine ⟨⟨_, rfl, ?_⟩, hb⟩
      have := Hch.out
      rw [List.take_of_length_le (by have := Hz.out; omega)] at this
      rw [List.take_of_length_le (by have := Hz.out; omega)]
      exact this
end Go.Proofs.YtnlmohegkmegcaaDoor
