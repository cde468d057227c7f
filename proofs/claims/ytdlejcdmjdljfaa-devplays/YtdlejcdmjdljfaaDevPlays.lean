/- DevPlays. -/
import Derived.Test.YtdlejcdmjdljfaaD17
namespace Go.Proofs.Ytdlejcdmjdljfaa
open Go.RowKit Go.Shelf

set_option maxHeartbeats 1000000 in
theorem devPlays_any (n : Nat) (hn : n < 256) (ao : Option Addr) (cap : Nat) (ds : List Dd) (w : World) (hm : DdMem w.heap.size w ao ds) :
    Calls Try.prog 3 #[.int .u8 n, .slice ao ds.length cap] w fun e w' => e = .returned (.bool true) ∧ Below w.heap.size w w' := by
  have H0 := hide (play_any n hn ao cap ds w hm)
  have hok : DvOk (playD (dvNew (n % 8 + 1)) ds (min ds.length 60)) := (playD_all (new_ok _ (by omega) (by omega)) _ (by simp [dvNew]; omega)).1
  have HO := hide hok
  clear hm hok
  go_enter Try.func3, Try.ntmps3
  go_wp2_with (first
    | (go_at_call 9; refine H0.out.mono ?_; rintro e w1 ⟨p, q, vl, vw, ul, uw, rfl, t1, b1⟩; have s1 := b1.size; have H1 := hide (And.intro t1 b1); clear t1 b1)
    | (go_at_call 10; refine (live_any w1).mono ?_; rintro e w2 ⟨rfl, b2⟩; have s2 := b2.size; have H2 := hide b2; clear b2)
    | (go_at_call 11; refine (same_any w.heap.size p q _ vl vw ul uw w2 (H1.out.1.below H2.out) HO.out).mono ?_; rintro e w3 ⟨rfl, b3⟩; have H3 := hide b3; clear b3))
  go_ret
  exact ⟨rfl, H1.out.2.trans ((H2.out.mono (by omega)).trans (H3.out.mono (by omega)))⟩
end Go.Proofs.Ytdlejcdmjdljfaa
