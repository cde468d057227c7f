/- AckPlays. -/
import Derived.Test.YtllpblnbdocfjabA6
namespace Go.Proofs.Ytllpblnbdocfjab
open Go.RowKit

set_option maxHeartbeats 1000000 in
theorem ackPlays_any (ao : Option Addr) (cap : Nat) (ds : List Dd) (w : World) (hm : DdMem w.heap.size w ao ds) :
    Calls Try.prog 6 #[.slice ao ds.length cap] w fun e w' => e = .returned (.bool true) ∧ Below w.heap.size w w' := by
  have H0 := hide (play_any ao cap ds w hm)
  have HO := hide (playQ_ok (ds := ds) q0_ok (fun k x hk => (hm.2 k x hk).1) (min ds.length 80))
  clear hm
  go_enter Try.func6, Try.ntmps6
  go_wp2_with (first
    | (go_at_call 23; refine H0.out.mono ?_; rintro e w1 ⟨p, q, v, u, rfl, t1, b1⟩; have s1 := b1.size; have H1 := hide (And.intro t1 b1); clear t1 b1)
    | (go_at_call 24; refine (live_any w1).mono ?_; rintro e w2 ⟨rfl, b2⟩; have s2 := b2.size; have H2 := hide b2; clear b2)
    | (go_at_call 25; refine (same_any w.heap.size p q _ v u w2 (H1.out.1.below H2.out) HO.out).mono ?_; rintro e w3 ⟨rfl, b3⟩; have H3 := hide b3; clear b3))
  go_ret
  exact ⟨rfl, H1.out.2.trans ((H2.out.mono (by omega)).trans (H3.out.mono (by omega)))⟩
end Go.Proofs.Ytllpblnbdocfjab
