/- A word's number; a number out of digits. -/
import Derived.Test.YtimhkgpjfppkmaaDoorRq3
import Derived.Test.YtimhkgpjfppkmaaDoorRq5
namespace Go.Proofs.YtimhkgpjfppkmaaDoor
open Go.RowKit Go.Shelf

/-- The first place of a word, or 0 if it is none. -/
def FindR (L : List ByteArray) (s : ByteArray) (k : Nat) : Prop := (L[k]? = some s) ∨ ((∀ j : Nat, L[j]? ≠ some s) ∧ k = 0)
set_option maxRecDepth 100000 in
set_option maxHeartbeats 2000000 in
theorem index_any (b : Nat) (L : List ByteArray) (hL : L.length = 16) (s : ByteArray) (w : World) (hb : w.heap[b]? = some (.cells (w16 L) 67)) :
    Calls Tryd.prog 54 #[.slice (some ⟨b, 0, none⟩) 16 16, .string s] w fun e w' => (∃ k : Nat, k < 16 ∧ L[k]? = some s ∧ e = .returned (.int .i64 k)) ∧ w' = w ∨ ((∀ j : Nat, L[j]? ≠ some s) ∧ e = .returned (.int .i64 (-1))) ∧ w' = w := by
  have HB := hide hb
  clear hb
  go_enter Tryd.func54, Tryd.ntmps54
  go_wp2_with fail
  go_loop [8] (fun i => ∃ k : Nat, k ≤ 16 ∧ i = .int .i64 k ∧ ∀ j : Nat, j < k → L[j]? ≠ some s) (fun i => 16 - (intOf i).toNat)
  case atStart => exact ⟨0, Nat.zero_le _, rfl, fun j h => by omega⟩
  case round =>
    obtain ⟨k, hk, rfl, hpre⟩ := hrel
    have HP := hide hpre
    clear hpre
    by_cases hlt : (k : Int) < 16
    · obtain ⟨x, hx⟩ : ∃ x, L[k]? = some x := ⟨_, List.getElem?_eq_getElem (by omega)⟩
      have c := w16_cell HB.out hx
      have HX := hide hx
      clear hx
      by_cases he : s = x
      · subst he
        go_wp2_with fail
        go_ret
        exact .inl ⟨⟨k, by omega, HX.out, rfl⟩, rfl⟩
      · have hne := str_ne he
        have HNe := hide he
        clear he
        go_wp2_with fail
        go_round
        case rel => exact ⟨k + 1, by omega, by simp, fun j hj => by
          by_cases h : j = k
          · subst h
            rw [HX.out]
            intro e
            injection e with e
            exact HNe.out e.symm
          · exact HP.out j (by omega)⟩
        case measure => simp [intOf]; omega
    · obtain rfl : k = 16 := by omega
      go_wp2_with fail
      go_ret
      refine .inr ⟨⟨fun j e => ?_, rfl⟩, rfl⟩
      have := (List.getElem?_eq_some_iff.1 e).1
      exact HP.out j (by omega) e
set_option maxRecDepth 100000 in
set_option maxHeartbeats 2000000 in
theorem find_any (L : List ByteArray) (hL : L.length = 16) (s : ByteArray) (w : World) :
    Calls Tryd.prog 41 #[.agg (w16 L), .string s] w fun e w' => (∃ k : Nat, k < 16 ∧ FindR L s k ∧ e = .returned (.int .i64 k)) ∧ Below w.heap.size w w' := by
  obtain ⟨W1, hW1⟩ : ∃ W1, w.alloc (.cells (w16 L) 67) = W1 := ⟨_, rfl⟩
  have b1 : Below w.heap.size w W1 := by rw [← hW1]; exact (Below.refl _ w).alloc (Nat.le_refl _) _
  have f1 : W1.heap[w.heap.size]? = some (.cells (w16 L) 67) := by rw [← hW1]; exact World.alloc_heap_new _ _
  have HI := hide (index_any w.heap.size L hL s W1 f1)
  have HB := hide b1
  clear b1 f1
  go_enter Tryd.func41, Tryd.ntmps41
  go_wp2_with fail
  refine HI.out.mono ?_
  rintro e w2 (⟨⟨k, hk, hx, rfl⟩, hw⟩ | ⟨⟨hx, rfl⟩, hw⟩)
  · obtain rfl : W1 = w2 := hw.symm
    have HX := hide (And.intro hk hx)
    have h0 : ¬ ((k : Int) < 0) := by omega
    have h1 : max 0 (k : Int) = k := by omega
    clear hk hx
    go_wp2_with fail
    go_ret
    exact ⟨⟨k, HX.out.1, .inl HX.out.2, rfl⟩, HB.out⟩
  · obtain rfl : W1 = w2 := hw.symm
    have HX := hide hx
    clear hx
    go_wp2_with fail
    go_ret
    exact ⟨⟨0, by decide, .inr ⟨HX.out, rfl⟩, rfl⟩, HB.out⟩
/-- The number that digits say; of other texts it is some number. -/
def NumR (s : ByteArray) (v : Int) : Prop := (-9223372036854775808 ≤ v ∧ v ≤ 9223372036854775807) ∧ ∀ u, Lib.atoiAll s.data.toList = .ok u → v = u
set_option maxRecDepth 100000 in
theorem number_any (s : ByteArray) (hs : s.size ≤ 281474976710656) (w : World) (hg : GlobE w) :
    Calls Tryd.prog 55 #[.string s] w fun e w' => (∃ v, NumR s v ∧ e = .returned (.int .i64 v)) ∧ Below w.heap.size w w' := by
  have HA := hide (atoi_any s hs w hg)
  clear hg
  go_enter Tryd.func55, Tryd.ntmps55
  go_wp2_with fail
  refine HA.out.mono ?_
  rintro e w1 ⟨⟨v, hv, rfl⟩ | ⟨hv, v, t, p, h0, h1, rfl⟩, b1⟩
  · have HN := hide (And.intro (show NumR s v from ⟨Lib.atoiAll_bounds hv, fun u hu => by rw [hv] at hu; injection hu⟩) b1)
    clear hv b1
    go_wp2_with fail
    go_ret
    exact ⟨⟨v, HN.out.1, rfl⟩, HN.out.2⟩
  · have HN := hide (And.intro (show NumR s v from ⟨⟨h0, h1⟩, fun u hu => absurd hu (hv u)⟩) b1)
    clear hv b1 h0 h1
    go_wp2_with fail
    go_ret
    exact ⟨⟨v, HN.out.1, rfl⟩, HN.out.2⟩
end Go.Proofs.YtimhkgpjfppkmaaDoor
