/- live: what must be whatever is asked. -/
import Derived.Test.YtdlejcdmjdljfabD14o
namespace Go.Proofs.Ytdlejcdmjdljfab
open Go.RowKit Go.Shelf

theorem toD_is {base p : Nat} {vl vw : Value} {d' : Dv} {w w' : World} (h : ToD base p vl vw d' w w') : ∃ vl' vw', IsD base p d' vl' vw' w' := by
  obtain ⟨a, b, t, _⟩ := h
  exact ⟨a, b, t⟩
/-- What it does: two writes, of which the first one survives. -/
def liveD : Dv := dvWrite (dvWrite (dvNew 3) 0 (allC 1)) 0 (allC 2)
theorem live_read : readS (settled liveD (svOf [true, false])) 0 = allC 1 := rfl
theorem live_ok1 : DvOk (dvWrite (dvNew 3) 0 (allC 1)) := dvWrite_ok (new_ok 3 (by omega) (by omega)) (by simp [dvNew]) (fillS_len _ _ (Nat.le_refl _)) (by simp [dvNew])
theorem live_ok : DvOk liveD := dvWrite_ok live_ok1 (by simp [dvNew, dvWrite]) (fillS_len _ _ (Nat.le_refl _)) (by simp [dvNew, dvWrite])

set_option maxRecDepth 100000 in
set_option maxHeartbeats 2000000 in
theorem live_any (w : World) : Calls Try.prog 14 #[] w fun e w' => e = .returned (.bool true) ∧ Below w.heap.size w w' := by
  have H0 := hide (new_any w.heap.size 3 w (Nat.le_refl _) (by omega) (by omega))
  go_enter Try.func14, Try.ntmps14
  go_wp2_with (first | (go_at_call 9; refine H0.out.mono ?_; rintro e w1 ⟨p, vl, rfl, d1, hp1, b1⟩; have s1 := b1.size; have H1 := hide (And.intro d1 b1); clear d1 b1; refine stopHere ?_))
  unfold Hid
  go_wp2_with (first | (go_at_call 11; refine (sector_any 1 w1).mono ?_; rintro e w2 ⟨rfl, b2⟩; have s2 := b2.size; have H2 := hide (And.intro (H1.out.1.below b2) (H1.out.2.trans (b2.mono s1))); clear b2; refine stopHere ?_))
  unfold Hid
  go_wp2_with (first | (go_at_call 10; refine (write_any w.heap.size p _ vl (.slice none 0 0) 0 (allC 1) w2 H2.out.1 (new_ok 3 (by omega) (by omega)) (by omega) (by simp [dvNew]) (fillS_len _ _ (Nat.le_refl _)) (by simp [dvNew])).mono ?_; rintro e w3 ⟨rfl, t3⟩; have s3 := toD_size t3; have f3 := (toD_frees t3).below; obtain ⟨vl3, vw3, t3⟩ := toD_is t3; have H3 := hide (And.intro t3 (H2.out.2.trans f3)); clear t3 f3; refine stopHere ?_))
  unfold Hid
  go_wp2_with (first | (go_at_call 11; refine (sector_any 2 w3).mono ?_; rintro e w4 ⟨rfl, b4⟩; have s4 := b4.size; have H4 := hide (And.intro (H3.out.1.below b4) (H3.out.2.trans (b4.mono (by omega)))); clear b4; refine stopHere ?_))
  unfold Hid
  go_wp2_with (first | (go_at_call 10; refine (write_any w.heap.size p _ vl3 vw3 0 (allC 2) w4 H4.out.1 live_ok1 (by omega) (by simp [dvNew, dvWrite]) (fillS_len _ _ (Nat.le_refl _)) (by simp [dvNew, dvWrite])).mono ?_; rintro e w5 ⟨rfl, t5⟩; have s5 := toD_size t5; have f5 := (toD_frees t5).below; obtain ⟨vl5, vw5, t5⟩ := toD_is t5; have H5 := hide (And.intro t5 (H4.out.2.trans f5)); clear t5 f5; refine stopHere ?_))
  unfold Hid
  go_wp2_with (first | (go_at_call 31; refine (pending_any w.heap.size p liveD vl5 vw5 w5 H5.out.1).mono ?_; rintro e w5' ⟨rfl, hw5⟩; rw [hw5, show ((liveD.wr.length : Nat) : Int) = 2 from rfl]; clear hw5; refine stopHere ?_))
  unfold Hid
  obtain ⟨W6, hW6⟩ : ∃ W6, w5.alloc (.cells #[.bool true, .bool false] 4) = W6 := ⟨_, rfl⟩
  have b6 : Below w5.heap.size w5 W6 := by rw [← hW6]; exact (Below.refl _ w5).alloc (Nat.le_refl _) _
  have z6 : W6.heap.size = w5.heap.size + 1 := by rw [← hW6]; simp
  have f6 : W6.heap[w5.heap.size]? = some (.cells #[.bool true, .bool false] 4) := by rw [← hW6]; exact World.alloc_heap_new w5 _
  have hm6 : BoolMem W6.heap.size W6 (some ⟨w5.heap.size, 0, none⟩) [true, false] := by
    refine ⟨by simp, fun j v hj => ⟨w5.heap.size, 0, rfl, by omega, ?_⟩⟩
    rw [cell_of_row W6 w5.heap.size (0 + j) _ _ _ f6]
    match j, hj with
    | 0, hj => cases hj; rfl
    | 1, hj => cases hj; rfl
    | j + 2, hj => simp at hj
  have H6 := hide (And.intro (H5.out.1.below b6) (And.intro (H5.out.2.trans (b6.mono (by omega))) hm6))
  have hnf : ∀ (j : Nat) (v : Bool) (b off : Nat), [true, false][j]? = some v → (some ⟨w5.heap.size, 0, none⟩ : Option Addr) = some ⟨b, off, none⟩ → ¬ foot p vl5 vw5 b := fun j v b off _ e hf => by
    cases e
    have := (H5.out.1.lt hf).2
    omega
  have HN := hide hnf
  clear b6 f6 hm6 hnf
  go_wp2_with (first | (go_at_call 13; refine (crash_gen w.heap.size p liveD vl5 vw5 (some ⟨w5.heap.size, 0, none⟩) [true, false] 2 W6 H6.out.1 live_ok (by omega) H6.out.2.2 HN.out).mono ?_; rintro e w7 ⟨rfl, t7⟩; have s7 := toD_size t7; have f7 := (toD_frees t7).below; obtain ⟨vl7, vw7, t7⟩ := toD_is t7; have H7 := hide (And.intro t7 (H6.out.2.1.trans f7)); clear t7 f7; refine stopHere ?_))
  unfold Hid
  have hrd := read_any w.heap.size p (settled liveD (svOf [true, false])) vl7 vw7 0 w7 H7.out.1 (settled_ok live_ok _) (by rw [show (settled liveD (svOf [true, false])).las.length = 3 from rfl]; omega)
  rw [live_read] at hrd
  have HR := hide hrd
  clear hrd
  go_wp2_with (first | (go_at_call 12; refine HR.out.mono ?_; rintro e w8 ⟨rfl, b8⟩; have s8 := b8.size; have H8 := hide (And.intro (H7.out.1.below b8) (H7.out.2.trans (b8.mono (by omega)))); clear b8; refine stopHere ?_))
  unfold Hid
  have h64 : (allC 1).length = 64 := fillS_len _ _ (Nat.le_refl _)
  have hst := run_store_new (P := Try.prog) infoSecD w8 (cs := secA (allC 1)) (c := secA sec0) (by rw [secA_size, h64]) rfl (secA_one _)
  obtain ⟨W9, hW9⟩ : ∃ W9, w8.alloc (.cells (secA (allC 1)) 29) = W9 := ⟨_, rfl⟩
  rw [hW9] at hst
  have b9 : Below w8.heap.size w8 W9 := by rw [← hW9]; exact (Below.refl _ w8).alloc (Nat.le_refl _) _
  have f9 : W9.heap[w8.heap.size]? = some (.cells (secA (allC 1)) 29) := by rw [← hW9]; exact World.alloc_heap_new w8 _
  have c5 : W9.cell? ⟨w8.heap.size, 5, none⟩ = some (.int .u8 1) := by
    rw [cell_of_row W9 _ 5 _ _ _ f9]
    rfl
  have H9 := hide (And.intro (H8.out.1.below b9) (H8.out.2.trans (b9.mono (by omega))))
  have HSZ := hide (size_any w.heap.size p _ vl7 vw7 W9 H9.out.1)
  have HS := hide hst
  clear b9 f9 hst hW9
  go_wp2_with (first | (refine l_alloc _ infoSecD rfl rfl ?_) | (refine l_store _ HS.out rfl rfl rfl rfl ?_; refine stopHere ?_))
  unfold Hid
  go_wp2_with (first | (go_at_call 32; refine HSZ.out.mono ?_; rintro e w' ⟨rfl, hw'⟩; rw [hw', show (((settled liveD (svOf [true, false])).las.length : Nat) : Int) = 3 from rfl]; clear hw'))
  go_ret
  exact ⟨rfl, H9.out.2⟩
end Go.Proofs.Ytdlejcdmjdljfab
