/- KvPlays. -/
import Derived.Test.YtjdcgndcljmieaaKG
namespace Go.Proofs.Ytjdcgndcljmieaa
open Go.RowKit

set_option maxRecDepth 100000 in
set_option maxHeartbeats 2000000 in
theorem kvPlays_any (ao : Option Addr) (cap : Nat) (ds : List Dk) (s : ByteArray) (w : World) (hm : DkMem w.heap.size w ao ds) :
    Calls Try.prog 3 #[.slice ao ds.length cap, .string s] w fun e w' => e = .returned (.bool true) ∧ Below w.heap.size w w' := by
  have H0 := hide (play_any ao cap ds w hm)
  have HG := hide (good_play ds (min ds.length 60))
  clear hm
  go_enter Try.func3, Try.ntmps3
  go_wp2_with (first
    | (go_at_call 9; refine H0.out.mono ?_; rintro e w1 ⟨p, bm, q, u, rfl, t1, b1⟩; have s1 := b1.size; have H1 := hide (And.intro t1 b1); clear t1 b1)
    | (go_at_call 10; refine (live_any w1).mono ?_; rintro e w2 ⟨rfl, b2⟩; have s2 := b2.size; have H2 := hide (And.intro (H1.out.1.below b2) (H1.out.2.trans (b2.mono s1))); clear b2)
    | (go_at_call 11; refine (same_any w.heap.size p bm q _ u s w2 H2.out.1 HG.out).mono ?_; rintro e w3 ⟨rfl, b3⟩; have H3 := hide b3; clear b3))
  go_ret
  exact ⟨rfl, H2.out.2.trans (H3.out.mono H2.out.2.size)⟩
end Go.Proofs.Ytjdcgndcljmieaa
