/- Contracts of the small functions of package fault: known, Name, Type, Make, Wrap, errors.Unwrap. -/
import Derived.Test.YtnlmohegkmegcaaDoorBase
import Derived.Outline
namespace Go.Proofs.YtnlmohegkmegcaaDoor
open Go.RowKit

theorem known_yes (c : Int) (w : World) (h1 : 1 ≤ c) (h2 : c ≤ 10) : Calls Tryd.prog 24 #[.int .i64 c] w fun e w' => e = .returned (.bool true) ∧ w' = w := by
  have h3 : decide (c < 11) = true := by simp; omega
  go_enter Tryd.func24, Tryd.ntmps24
  go_wp2
  go_ret
  exact ⟨rfl, rfl⟩
theorem known_no (c : Int) (w : World) (h : c < 1 ∨ 10 < c) : Calls Tryd.prog 24 #[.int .i64 c] w fun e w' => e = .returned (.bool false) ∧ w' = w := by
  rcases h with h | h
  · have h3 : ¬ 0 < c := by omega
    go_enter Tryd.func24, Tryd.ntmps24
    go_wp2
    go_ret
    exact ⟨rfl, rfl⟩
  · have h3 : decide (c < 11) = false := by simp; omega
    have h4 : 0 < c := by omega
    go_enter Tryd.func24, Tryd.ntmps24
    go_wp2
    go_ret
    exact ⟨rfl, rfl⟩
theorem name_yes (c : Int) (w : World) (h1 : 1 ≤ c) (h2 : c ≤ 10) (hl : Laid w) : Calls Tryd.prog 12 #[.int .i64 c] w fun e w' => e = .returned (.string (tabN c.toNat)) ∧ w' = w := by
  have hc := hl.nm c.toNat (by omega)
  clear hl
  go_enter Tryd.func12, Tryd.ntmps12
  go_wp2_with (go_at_call 24; refine (known_yes c _ h1 h2).mono ?_; rintro e w' ⟨rfl, rfl⟩)
  go_ret
  exact ⟨rfl, rfl⟩
theorem name_no (c : Int) (w : World) (h : c < 1 ∨ 10 < c) : Calls Tryd.prog 12 #[.int .i64 c] w fun e w' => e = .returned (.string ⟨#[]⟩) ∧ w' = w := by
  have H : Hid (c < 1 ∨ 10 < c) := h
  clear h
  go_enter Tryd.func12, Tryd.ntmps12
  go_wp2_with (go_at_call 24; refine (known_no c _ H.out).mono ?_; rintro e w' ⟨rfl, rfl⟩)
  go_ret
  exact ⟨rfl, rfl⟩
theorem type_yes (c : Int) (w : World) (h1 : 1 ≤ c) (h2 : c ≤ 10) (hl : Laid w) : Calls Tryd.prog 14 #[.int .i64 c] w fun e w' => e = .returned (.string (tabT c.toNat)) ∧ w' = w := by
  have hc := hl.ty c.toNat (by omega)
  clear hl
  go_enter Tryd.func14, Tryd.ntmps14
  go_wp2_with (go_at_call 24; refine (known_yes c _ h1 h2).mono ?_; rintro e w' ⟨rfl, rfl⟩)
  go_ret
  exact ⟨rfl, rfl⟩
theorem type_no (c : Int) (w : World) (h : c < 1 ∨ 10 < c) : Calls Tryd.prog 14 #[.int .i64 c] w fun e w' => e = .returned (.string ⟨#[]⟩) ∧ w' = w := by
  have H : Hid (c < 1 ∨ 10 < c) := h
  clear h
  go_enter Tryd.func14, Tryd.ntmps14
  go_wp2_with (go_at_call 24; refine (known_no c _ H.out).mono ?_; rintro e w' ⟨rfl, rfl⟩)
  go_ret
  exact ⟨rfl, rfl⟩
theorem make_yes (c : Int) (w : World) (h1 : 1 ≤ c) (h2 : c ≤ 10) : Calls Tryd.prog 16 #[.int .i64 c] w fun e w' => e = .returned (.iface 48 (.agg #[.int .i64 c])) ∧ w' = w := by
  go_enter Tryd.func16, Tryd.ntmps16
  go_wp2_with (go_at_call 24; refine (known_yes c _ h1 h2).mono ?_; rintro e w' ⟨rfl, rfl⟩)
  go_ret
  exact ⟨rfl, rfl⟩
theorem make_no (c : Int) (w : World) (h : c < 1 ∨ 10 < c) : Calls Tryd.prog 16 #[.int .i64 c] w fun e w' => e = .returned .nilIface ∧ w' = w := by
  have H : Hid (c < 1 ∨ 10 < c) := h
  clear h
  go_enter Tryd.func16, Tryd.ntmps16
  go_wp2_with (go_at_call 24; refine (known_no c _ H.out).mono ?_; rintro e w' ⟨rfl, rfl⟩)
  go_ret
  exact ⟨rfl, rfl⟩
theorem wrap_nil (p : Int) (w : World) : Calls Tryd.prog 22 #[.nilIface, .int .i64 p] w fun e w' => e = .returned .nilIface ∧ w' = w := by
  go_enter Tryd.func22, Tryd.ntmps22
  go_wp2
  go_ret
  exact ⟨rfl, rfl⟩
theorem wrap_any (t : TypeId) (x : Value) (p : Int) (w : World) : Calls Tryd.prog 22 #[.iface t x, .int .i64 p] w fun e w' => e = .returned (.iface 52 (.pointer (some ⟨w.heap.size, 0, none⟩))) ∧ w' = w.alloc (.cells #[.iface t x, .int .i64 p] 56) := by
  go_enter Tryd.func22, Tryd.ntmps22
  go_wp2
  go_ret
  exact ⟨rfl, rfl⟩
end Go.Proofs.YtnlmohegkmegcaaDoor
