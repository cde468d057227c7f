/- DevNone. -/
import Derived.Test.YtdlejcdmjdljfaaD19
namespace Go.Proofs.Ytdlejcdmjdljfaa
open Go.RowKit Go.Shelf

set_option maxRecDepth 100000 in
set_option maxHeartbeats 2000000 in
theorem devNone_any (x : Dd) (n : Int) (w : World) (_hm : BoolMem w.heap.size w x.sa x.bs) :
    Calls Try.prog 8 #[.agg #[.int .i64 x.kind, .int .i64 x.i, .int .u8 x.c.toNat, .slice x.sa x.bs.length x.sc], .int .i64 n] w fun e w' => e = .returned (.bool true) ∧ Below w.heap.size w w' := by
  obtain ⟨W, hW, f1, z1, hB1⟩ := boxed w x
  obtain ⟨k1, k2, k3⟩ := keepX f1
  have HH := hide (And.intro f1 hB1)
  clear f1 hB1
  go_enter Try.func8, Try.ntmps8
  go_wp2_with (go_at_call 18; refine (read_nil x.i W).mono ?_; rintro e w1 ⟨rfl, b1⟩; have s1 := b1.size; have B1 := hide b1; clear b1; refine stopHere ?_)
  unfold Hid
  obtain ⟨W2, hW2⟩ : ∃ W2, w1.alloc (.cells (secA sec0) 39) = W2 := ⟨_, rfl⟩
  have hst : (Instr.storeAt 39 (.pointer (some ⟨w1.heap.size, 0, none⟩)) (.agg (secA sec0))).run Try.prog (w1.alloc (.cells (Lib.byteCells sec0).toArray 39)) = .ok () W2 :=
    (run_store_new (P := Try.prog) infoSecD w1 (cs := secA sec0) (c := secA sec0) rfl rfl (secA_one sec0)).trans (by rw [hW2])
  have b2 : Below w1.heap.size w1 W2 := by rw [← hW2]; exact (Below.refl _ w1).alloc (Nat.le_refl _) _
  have f2 : W2.heap[w1.heap.size]? = some (.cells (secA sec0) 39) := by rw [← hW2]; exact World.alloc_heap_new w1 _
  have s2 := b2.size
  have g2 : W2.heap[w.heap.size]? = _ := (b2.block _ (by omega)).trans ((B1.out.block _ (by omega)).trans HH.out.1)
  have H2 := hide (And.intro g2 (And.intro f2 (HH.out.2.trans ((B1.out.mono (by omega)).trans (b2.mono (by omega))))))
  have HS := hide hst
  clear b2 f2 g2 hst hW2
  go_wp2_with (first | (refine l_alloc _ infoSecD rfl rfl ?_) | (refine l_store _ HS.out rfl rfl rfl rfl ?_; refine stopHere ?_))
  unfold Hid
  go_wp2_with (go_at_call 10; refine (live_any W2).mono ?_; rintro e w3 ⟨rfl, b3⟩; have s3 := b3.size; have B3 := hide b3; clear b3; refine stopHere ?_)
  unfold Hid
  have f3 := (B3.out.block _ (hp_lt H2.out.2.1)).trans H2.out.2.1
  have g3 := (B3.out.block _ (hp_lt H2.out.1)).trans H2.out.1
  have hl3 := run_load_row (P := Try.prog) (w := w3) (cs := secA sec0) (g := w1.heap.size) (ty' := 39) infoSecD undSecD rfl rfl f3
  obtain ⟨j1, j2, j3⟩ := keepX g3
  have heq := sec_eql (T := 39) undSecD sec0 sec0 rfl rfl
  simp only [decide_true] at heq
  have H3 := hide (And.intro g3 (And.intro f3 (H2.out.2.2.trans (B3.out.mono (by omega)))))
  have HL3 := hide hl3
  clear g3 f3 hl3 H2
  go_wp2_with (first | (refine g_val rfl _ (ex_load rfl rfl HL3.out) ?_) | (go_at_call 14; refine (write_nil x.i sec0 w3).mono ?_; rintro e w4 ⟨rfl, b4⟩; have s4 := b4.size; have B4 := hide b4; clear b4; refine stopHere ?_))
  unfold Hid
  have f4 := (B4.out.block _ (hp_lt H3.out.2.1)).trans H3.out.2.1
  have g4 := (B4.out.block _ (hp_lt H3.out.1)).trans H3.out.1
  have hl4 := run_load_row (P := Try.prog) (w := w4) (cs := secA sec0) (g := w1.heap.size) (ty' := 39) infoSecD undSecD rfl rfl f4
  obtain ⟨i1, i2, i3⟩ := keepX g4
  have H4 := hide (And.intro g4 (H3.out.2.2.trans (B4.out.mono (by omega))))
  have HL4 := hide hl4
  clear f4 g4 hl4 H3 j1 j2 j3
  go_wp2_with (first | (refine g_val rfl _ (ex_load rfl rfl HL4.out) ?_; refine stopHere ?_))
  unfold Hid
  refine g_val (w' := w4) rfl (.agg (secA sec0)) (by kernel_rfl) ?_
  refine g_val rfl (.bool true) (ex_eql (u := secA sec0) (v := secA sec0) rfl rfl rfl (by kernel_rfl) (heq w4)) ?_
  by_cases hbad : n < 1 ∨ 4096 < n
  · have hb1 : n < 1 ∨ (¬ n < 1 ∧ 4096 < n) := by omega
    rcases hb1 with h1 | ⟨h1, h2⟩
    · go_wp2_with (first
      | (go_at_call 12; refine (sync_nil w4).mono ?_; rintro e w' ⟨rfl, hw'⟩; rw [hw']; clear hw')
      | (go_at_call 17; refine (crash_nil _ _ _ w4).mono ?_; rintro e w5 ⟨rfl, b5⟩; have s5 := b5.size; have B5 := hide b5; clear b5)
      | (go_at_call 23; refine (size_nil w5).mono ?_; rintro e w' ⟨rfl, hw'⟩; rw [hw']; clear hw')
      | (go_at_call 16; refine (pending_nil w5).mono ?_; rintro e w' ⟨rfl, hw'⟩; rw [hw']; clear hw')
      | (go_at_call 13; refine (fork_nil w5).mono ?_; rintro e w' ⟨rfl, hw'⟩; rw [hw']; clear hw')
      | (go_at_call 24; refine (new_bad n w5 hbad).mono ?_; rintro e w' ⟨rfl, hw'⟩; rw [hw']; clear hw'))
      go_ret
      exact ⟨rfl, H4.out.2.trans (B5.out.mono (by omega))⟩
    · go_wp2_with (first
      | (go_at_call 12; refine (sync_nil w4).mono ?_; rintro e w' ⟨rfl, hw'⟩; rw [hw']; clear hw')
      | (go_at_call 17; refine (crash_nil _ _ _ w4).mono ?_; rintro e w5 ⟨rfl, b5⟩; have s5 := b5.size; have B5 := hide b5; clear b5)
      | (go_at_call 23; refine (size_nil w5).mono ?_; rintro e w' ⟨rfl, hw'⟩; rw [hw']; clear hw')
      | (go_at_call 16; refine (pending_nil w5).mono ?_; rintro e w' ⟨rfl, hw'⟩; rw [hw']; clear hw')
      | (go_at_call 13; refine (fork_nil w5).mono ?_; rintro e w' ⟨rfl, hw'⟩; rw [hw']; clear hw')
      | (go_at_call 24; refine (new_bad n w5 hbad).mono ?_; rintro e w' ⟨rfl, hw'⟩; rw [hw']; clear hw'))
      go_ret
      exact ⟨rfl, H4.out.2.trans (B5.out.mono (by omega))⟩
  · have h1 : ¬ n < 1 := by omega
    have h2 : ¬ 4096 < n := by omega
    obtain ⟨m, rfl⟩ : ∃ m : Nat, n = m := ⟨n.toNat, by omega⟩
    have hd1 : decide ((m : Int) < 1) = false := decide_eq_false h1
    have hd2 : decide (4096 < (m : Int)) = false := decide_eq_false h2
    have HD := hide (And.intro hd1 hd2)
    clear hd1 hd2
    go_wp2_with (first
      | (go_at_call 12; refine (sync_nil w4).mono ?_; rintro e w' ⟨rfl, hw'⟩; rw [hw']; clear hw')
      | (go_at_call 17; refine (crash_nil _ _ _ w4).mono ?_; rintro e w5 ⟨rfl, b5⟩; have s5 := b5.size; have B5 := hide b5; clear b5)
      | (go_at_call 23; refine (size_nil w5).mono ?_; rintro e w' ⟨rfl, hw'⟩; rw [hw']; clear hw')
      | (go_at_call 16; refine (pending_nil w5).mono ?_; rintro e w' ⟨rfl, hw'⟩; rw [hw']; clear hw')
      | (go_at_call 13; refine (fork_nil w5).mono ?_; rintro e w' ⟨rfl, hw'⟩; rw [hw']; clear hw')
      | (go_at_call 24; refine (new_any w5.heap.size m w5 (Nat.le_refl _) (by omega) (by omega)).mono ?_; rintro e w6 ⟨p, vl, rfl, _, _, b6⟩; have B6 := hide b6; clear b6))
    go_ret
    refine ⟨?_, H4.out.2.trans ((B5.out.mono (by omega)).trans (B6.out.mono (by omega)))⟩
    show Ending.returned (Value.bool (!decide ((m : Int) < 1) && !decide (4096 < (m : Int)))) = _
    rw [HD.out.1, HD.out.2]
    rfl
end Go.Proofs.Ytdlejcdmjdljfaa
