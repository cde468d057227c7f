/- AckNone. -/
import Derived.Test.YtllpblnbdocfjacA6
namespace Go.Proofs.Ytllpblnbdocfjac
open Go.RowKit

set_option maxRecDepth 100000 in
set_option maxHeartbeats 2000000 in
theorem ackNone_any (x : Dd) (w : World) :
    Calls Try.prog 7 #[.agg (ddC x)] w fun e w' => e = .returned (.bool true) ∧ Below w.heap.size w w' := by
  obtain ⟨W, hW, f1, z1, hB1⟩ := boxed w (ddC x)
  unfold ddC at *
  obtain ⟨x0, x1, x2, x3⟩ := keepX f1
  have HB := hide (And.intro hB1 f1)
  clear hB1 f1
  go_enter Try.func7, Try.ntmps7
  go_wp2_with (first
    | (go_at_call 20; refine (got_nil W).mono ?_; rintro e w' ⟨rfl, hw'⟩; subst hw')
    | (go_at_call 14; refine (ack_nil x.h _).mono ?_; rintro e w' ⟨rfl, hw'⟩; subst hw')
    | (go_at_call 15; refine (resume_nil x.h _).mono ?_; rintro e w' ⟨rfl, hw'⟩; subst hw'; refine stopHere ?_))
  unfold Hid
  go_wp2_with (first
    | (go_at_call 10; refine (live_any _).mono ?_; rintro e w1 ⟨rfl, b1⟩; have k1 := keepB b1 x1 (Nat.le_refl _); have H1 := hide b1; clear b1; refine stopHere ?_))
  unfold Hid
  go_wp2_with (first
    | (go_at_call 19; refine (send_nil x.s w1).mono ?_; rintro e w' ⟨rfl, hw'⟩; subst hw')
    | (go_at_call 21; refine (handled_nil _).mono ?_; rintro e w' ⟨rfl, hw'⟩; subst hw')
    | (go_at_call 12; refine (sent_nil _).mono ?_; rintro e w' ⟨rfl, hw'⟩; subst hw')
    | (go_at_call 11; refine (waiting_nil _).mono ?_; rintro e w' ⟨rfl, hw'⟩; subst hw')
    | (go_at_call 13; refine (fork_nil _).mono ?_; rintro e w' ⟨rfl, hw'⟩; subst hw'))
  go_ret
  exact ⟨rfl, HB.out.1.trans (H1.out.mono (by omega))⟩
end Go.Proofs.Ytllpblnbdocfjac
