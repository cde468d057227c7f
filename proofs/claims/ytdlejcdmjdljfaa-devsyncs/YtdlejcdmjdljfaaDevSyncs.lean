/- DevSyncs. -/
import Derived.Test.YtdlejcdmjdljfaaD19
namespace Go.Proofs.Ytdlejcdmjdljfaa
open Go.RowKit Go.Shelf

set_option maxHeartbeats 1000000 in
theorem devSyncs_any (n : Nat) (hn : n < 256) (ao : Option Addr) (cap : Nat) (ds : List Dd) (sa : Option Addr) (sc : Nat) (bs : List Bool) (w : World) (hm : DdMem w.heap.size w ao ds) (hs : BoolMem w.heap.size w sa bs) :
    Calls Try.prog 5 #[.int .u8 n, .slice ao ds.length cap, .slice sa bs.length sc] w fun e w' => e = .returned (.bool true) ∧ Below w.heap.size w w' := by
  have H0 := hide (play_any n hn ao cap ds w hm)
  obtain ⟨D, hD⟩ : ∃ D, playD (dvNew (n % 8 + 1)) ds (min ds.length 60) = D := ⟨_, rfl⟩
  have hok : DvOk D := hD ▸ (playD_all (new_ok _ (by omega) (by omega)) _ (by simp [dvNew]; omega)).1
  rw [hD] at H0
  have HO := hide hok
  have HS := hide hs
  clear hm hok hs hD
  go_enter Try.func5, Try.ntmps5
  go_wp2_with (first
    | (go_at_call 9; refine H0.out.mono ?_; rintro e w1 ⟨p, q, vl, vw, ul, uw, rfl, t1, b1⟩; have s1 := b1.size; have H1 := hide (And.intro t1 b1); clear t1 b1)
    | (go_at_call 10; refine (live_any w1).mono ?_; rintro e w2 ⟨rfl, b2⟩; have s2 := b2.size; have H2 := hide (And.intro (H1.out.1.below b2) (H1.out.2.trans (b2.mono s1))); clear b2)
    | (go_at_call 12; refine (sync_any w.heap.size p D vl vw w2 H2.out.1.dev HO.out (by omega)).mono ?_; rintro e w3 ⟨rfl, t3⟩; have s3 := toD_size t3; have r3 := refKeep H2.out.1.dev H2.out.1.ref t3; have f3 := H2.out.2.trans (toD_frees t3).below; obtain ⟨vl3, vw3, t3⟩ := toD_is t3; have H3 := hide (And.intro t3 (And.intro r3 f3)); clear t3 r3 f3)
    | (go_at_call 17; refine (crash_any w.heap.size p _ vl3 vw3 sa bs sc w3 H3.out.1 (settled_ok HO.out _) (by omega) (HS.out.below H3.out.2.2)).mono ?_; rintro e w4 ⟨rfl, t4⟩; rw [settled_twice] at t4; have s4 := toD_size t4; have r4 := refKeep H3.out.1 H3.out.2.1 t4; have f4 := H3.out.2.2.trans (toD_frees t4).below; obtain ⟨vl4, vw4, t4⟩ := toD_is t4; have H4 := hide (And.intro t4 (And.intro r4 f4)); clear t4 r4 f4)
    | (go_at_call 19; refine (rsync_any w.heap.size q D ul uw w4 H4.out.2.1 HO.out (by omega)).mono ?_; rintro e w5 ⟨rfl, t5⟩; have s5 := toR_size t5; have d5 := devKeep H4.out.1 H4.out.2.1 t5; have f5 := H4.out.2.2.trans (toR_frees t5).below; obtain ⟨ul5, uw5, t5⟩ := toR_is t5; have H5 := hide (And.intro (Two.mk d5 t5) f5); clear t5 d5 f5)
    | (go_at_call 11; refine (same_any w.heap.size p q _ vl4 vw4 ul5 uw5 w5 H5.out.1 (settled_ok HO.out _)).mono ?_; rintro e w6 ⟨rfl, b6⟩; have H6 := hide (H5.out.2.trans (b6.mono (by omega))); clear b6))
  go_ret
  exact ⟨rfl, H6.out⟩
end Go.Proofs.Ytdlejcdmjdljfaa
