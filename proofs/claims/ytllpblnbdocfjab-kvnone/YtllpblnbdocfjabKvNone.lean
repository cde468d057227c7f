/- KvNone. -/
import Derived.Test.YtllpblnbdocfjabKArg
namespace Go.Proofs.Ytllpblnbdocfjab
open Go.RowKit

theorem boxed (w : World) (cs : Array Value) : ∃ W, w.alloc (.cells cs 32) = W ∧ W.heap[w.heap.size]? = some (.cells cs 32) ∧ W.heap.size = w.heap.size + 1 ∧ Below w.heap.size w W :=
  ⟨_, rfl, heap_alloc_new w _, by simp, (Below.refl _ w).alloc (Nat.le_refl _) _⟩
theorem keepX {w : World} {bx : Nat} {a b c : Value} {T : TypeId} (h : w.heap[bx]? = some (.cells #[a, b, c] T)) : w.cell? ⟨bx, 0, none⟩ = some a ∧ w.cell? ⟨bx, 1, none⟩ = some b ∧ w.cell? ⟨bx, 2, none⟩ = some c := by
  simp [World.cell?, h]
theorem keepB {w w1 : World} {a : Addr} {v : Value} {n : Nat} (hb : Below n w w1) (h : w.cell? a = some v) (hn : w.heap.size ≤ n) : w1.cell? a = some v := (hb.cell (Nat.lt_of_lt_of_le (World.block_lt_of_cell? w _ h) hn)).trans h
set_option maxRecDepth 100000 in
set_option maxHeartbeats 2000000 in
theorem kvNone_any (x : Dk) (w : World) :
    Calls Try.prog 4 #[.agg (dkC x)] w fun e w' => e = .returned (.bool true) ∧ Below w.heap.size w w' := by
  obtain ⟨W, hW, f1, z1, hB1⟩ := boxed w (dkC x)
  unfold dkC at *
  obtain ⟨x0, x1, x2⟩ := keepX f1
  have HB := hide (And.intro hB1 f1)
  clear hB1 f1
  go_enter Try.func4, Try.ntmps4
  go_wp2_with (first
    | (go_at_call 15; refine (get_nil x.key W).mono ?_; rintro e w' ⟨rfl, hw'⟩; subst hw'; refine stopHere ?_))
  unfold Hid
  go_wp2_with (first
    | (go_at_call 10; refine (live_any _).mono ?_; rintro e w1 ⟨rfl, b1⟩; have k1 := keepB b1 x1 (Nat.le_refl _); have k2 := keepB b1 x2 (Nat.le_refl _); have H1 := hide b1; clear b1; refine stopHere ?_))
  unfold Hid
  go_wp2_with (first
    | (go_at_call 16; refine (put_nil x.key x.val w1).mono ?_; rintro e w' ⟨rfl, hw'⟩; subst hw')
    | (go_at_call 17; refine (delete_nil x.key _).mono ?_; rintro e w' ⟨rfl, hw'⟩; subst hw')
    | (go_at_call 18; refine (scan_nil x.key _).mono ?_; rintro e w' ⟨rfl, hw'⟩; subst hw')
    | (go_at_call 19; refine (bytes_nil _).mono ?_; rintro e w' ⟨rfl, hw'⟩; subst hw')
    | (go_at_call 20; refine (len_nil _).mono ?_; rintro e w' ⟨rfl, hw'⟩; subst hw')
    | (go_at_call 21; refine (size_nil _).mono ?_; rintro e w' ⟨rfl, hw'⟩; subst hw')
    | (go_at_call 11; refine (fork_nil _).mono ?_; rintro e w' ⟨rfl, hw'⟩; subst hw'))
  go_ret
  exact ⟨rfl, HB.out.1.trans (H1.out.mono (by omega))⟩
end Go.Proofs.Ytllpblnbdocfjab
