/- The program's queue: New, Handled, Sent, Got, since, Waiting. -/
import Derived.Test.YtllpblnbdocfjadA0
import Derived.Test.YtllpblnbdocfjadDL
import Derived.Deep.RegionHeld3
import Derived.Lib.Strings
namespace Go.Proofs.Ytllpblnbdocfjad
open Go.RowKit

def q0 : Qs := ⟨[], 0, 0⟩
theorem q0_ok : QOk q0 := ⟨by simp [q0], by simp [q0], by simp [q0]⟩
theorem new_any (base : Nat) (w : World) (hb : base ≤ w.heap.size) :
    Calls Try.prog 4 #[] w fun e w' => ∃ p v, e = .returned (.pointer (some ⟨p, 0, none⟩)) ∧ IsP base p q0 v w' ∧ Below w.heap.size w w' ∧ ∀ j, foot p v j → w.heap.size ≤ j := by
  go_enter Try.func4, Try.ntmps4
  go_wp2_with fail
  go_ret
  refine ⟨w.heap.size, .slice none 0 0, rfl, ⟨hb, heap_alloc_new w _, World.ownsRow_nil _ _ _ _⟩, (Below.refl _ w).alloc (Nat.le_refl _) _, ?_⟩
  rintro j (rfl | h)
  · exact Nat.le_refl _
  · cases h
theorem handled_any (base p : Nat) (q : Qs) (v : Value) (w : World) (h : IsP base p q v w) :
    Calls Try.prog 6 #[.pointer (some ⟨p, 0, none⟩)] w fun e w' => e = .returned (.int .u32 q.g) ∧ w' = w := by
  obtain ⟨c0, c1, c2, _⟩ := cellsP h
  clear h
  go_enter Try.func6, Try.ntmps6
  go_wp2_with fail
  go_ret
  exact ⟨rfl, rfl⟩
/-- How many were sent. -/
def sentQ (q : Qs) : Nat := (q.a + q.l.length) % 4294967296
set_option maxHeartbeats 1000000 in
theorem sent_any (base p : Nat) (q : Qs) (v : Value) (w : World) (h : IsP base p q v w) (hq : QOk q) :
    Calls Try.prog 9 #[.pointer (some ⟨p, 0, none⟩)] w fun e w' => e = .returned (.int .u32 (sentQ q)) ∧ Below w.heap.size w w' := by
  obtain ⟨c0, c1, c2, _⟩ := cellsP h
  obtain ⟨ga, gc, rfl⟩ := own_shape h.row
  have hl : IntKind.u32.wrap (q.l.length : Int) = q.l.length := by rw [IntKind.wrap_u32]; have := hq.few; omega
  have hs : ((q.a : Int) + q.l.length) % 4294967296 = (sentQ q : Nat) := by unfold sentQ; omega
  clear h hq
  go_enter Try.func9, Try.ntmps9
  go_wp2_with fail
  go_region
  all_goals
    go_wp2_with fail
    go_ret
    rw [← hs]
    exact ⟨rfl, (Below.refl _ w).drew⟩
def gotQ (q : Qs) : Qs := ⟨q.l, q.a, (q.g + 1) % 4294967296⟩
theorem got_any (base p : Nat) (q : Qs) (v : Value) (w : World) (h : IsP base p q v w) (_hb : base ≤ w.heap.size) :
    Calls Try.prog 8 #[.pointer (some ⟨p, 0, none⟩)] w fun e w' => e = .returned (.tuple #[]) ∧ ToP base p v (gotQ q) v w w' := by
  obtain ⟨c0, c1, c2, f0, f1, f2⟩ := cellsP h
  have HH := hide h
  clear h
  go_enter Try.func8, Try.ntmps8
  go_wp2_with fail
  exact bodyPost_end (results_none rfl _ _ _) rfl ⟨rfl, HH.out.set (by decide) (by simp [cP, gotQ]) rfl⟩
theorem since_any (a g h : Nat) (w : World) :
    Calls Try.prog 12 #[.agg #[.int .u32 a, .int .u32 g], .int .u32 h] w fun e w' => e = .returned (.int .u32 (((h : Int) - a) % 4294967296)) ∧ Below w.heap.size w w' := by
  go_enter Try.func12, Try.ntmps12
  go_wp2_with fail
  go_ret
  exact ⟨rfl, (Below.refl _ w).alloc (Nat.le_refl _) _⟩
end Go.Proofs.Ytllpblnbdocfjad
