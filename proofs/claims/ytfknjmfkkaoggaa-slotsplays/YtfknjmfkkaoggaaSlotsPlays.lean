/- SlotsPlays. -/
import Derived.Test.YtfknjmfkkaoggaaS27
import Derived.Test.YtfknjmfkkaoggaaS24
namespace Go.Proofs.Ytfknjmfkkaoggaa
open Go.RowKit Go.Shelf

set_option maxHeartbeats 1000000 in
theorem slotsPlays_any (n : Nat) (hn : n < 256) (ao : Option Addr) (cap : Nat) (ds : List Sd) (w : World) (hm : SdMem w.heap.size w ao ds) :
    Calls Try.prog 3 #[.int .u8 n, .slice ao ds.length cap] w fun e w' => e = .returned (.bool true) ∧ Below w.heap.size w w' := by
  have H0 := hide (play_any n hn ao cap ds w hm)
  clear hm
  go_enter Try.func3, Try.ntmps3
  go_wp2_with (first
    | (go_at_call 14; refine H0.out.mono ?_; rintro e w1 ⟨qs, ps, qt, pt, d, rfl, P1, b1⟩; have s1 := b1.size; obtain ⟨⟨vl, vw, ul, uw, t1⟩, ⟨k, t, l, i1, _⟩, z1⟩ := P1; have H1 := hide (And.intro t1 (And.intro b1 i1)); clear t1 b1 i1)
    | (go_at_call 15; refine (live_any w1).mono ?_; rintro e w2 ⟨rfl, b2⟩; have s2 := b2.size; have H2 := hide b2; clear b2)
    | (go_at_call 16; refine (same_any w.heap.size qs ps qt pt d vl vw ul uw w2 (H1.out.1.below H2.out) H1.out.2.2.2.1 (by omega)).mono ?_; rintro e w3 ⟨rfl, b3⟩; have H3 := hide b3; clear b3))
  go_ret
  exact ⟨rfl, H1.out.2.1.trans ((H2.out.mono (by omega)).trans (H3.out.mono (by omega)))⟩
end Go.Proofs.Ytfknjmfkkaoggaa
