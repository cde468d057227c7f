/- The document's device: what is refused; Sync, Crash. -/
import Derived.Test.YtdlejcdmjdljfaaD10
namespace Go.Proofs.Ytdlejcdmjdljfaa
open Go.RowKit Go.Shelf

theorem rwrite_bad (base p : Nat) (d : Dv) (vl vw : Value) (i : Int) (s : Sec) (w : World) (h : IsR base p d vl vw w) (hi : wrongI d.las.length i = 2) :
    Calls Try.prog 37 #[.pointer (some ⟨p, 0, none⟩), .int .i64 i, .agg (secA s)] w fun e w' => e = .returned (.int .i64 2) ∧ Below w.heap.size w w' := by
  obtain ⟨W1, hW1⟩ : ∃ W1, w.alloc (.cells (secA s) 53) = W1 := ⟨_, rfl⟩
  have hB1 : Below w.heap.size w W1 := by rw [← hW1]; exact (Below.refl _ w).alloc (Nat.le_refl _) _
  have hD1 := h.below hB1
  obtain ⟨q0, _⟩ := hD1.cells
  obtain ⟨ga, gc, rfl⟩ := own_shape hD1.las
  have HB := hide hB1
  clear h hB1 hD1
  unfold wrongI at hi
  by_cases h1 : i < 0
  · clear hi
    go_enter Try.func37, Try.ntmps37
    go_wp2_with (refine l_val rfl _ (ex_box (ty := 53) rfl rfl (run_box_long _ (secA s) w)) ?_; rw [hW1])
    go_ret
    exact ⟨rfl, HB.out⟩
  · have h2 : (d.las.length : Int) ≤ i := by
      by_cases h2 : (d.las.length : Int) ≤ i
      · exact h2
      · rw [if_neg (by omega)] at hi
        omega
    clear hi
    go_enter Try.func37, Try.ntmps37
    go_wp2_with (refine l_val rfl _ (ex_box (ty := 53) rfl rfl (run_box_long _ (secA s) w)) ?_; rw [hW1])
    go_ret
    exact ⟨rfl, HB.out⟩
theorem rsync_any (base p : Nat) (d : Dv) (vl vw : Value) (w : World) (h : IsR base p d vl vw w) (hd : DvOk d) (hb : base ≤ w.heap.size) :
    Calls Try.prog 19 #[.pointer (some ⟨p, 0, none⟩)] w fun e w' => e = .returned (.int .i64 0) ∧ ToR base p vl vw (settled d fun _ => true) w w' := by
  have HC := hide (rland_all base p d vl vw none [] 0 w h hd hb ⟨by simp, fun j v hj => by simp at hj⟩)
  clear h hd
  go_enter Try.func19, Try.ntmps19
  go_wp2_with (go_at_call 36; refine HC.out.mono ?_; rintro e w' ⟨⟨v, rfl⟩, ht⟩; have HT := hide ht; clear ht)
  go_ret
  exact ⟨rfl, HT.out⟩
theorem rcrash_any (base p : Nat) (d : Dv) (vl vw : Value) (ao : Option Addr) (bs : List Bool) (cap : Nat) (w : World) (h : IsR base p d vl vw w) (hd : DvOk d) (hb : base ≤ w.heap.size) (hm : BoolMem base w ao bs) :
    Calls Try.prog 21 #[.pointer (some ⟨p, 0, none⟩), .slice ao bs.length cap] w fun e w' => e = .returned (.int .i64 0) ∧ ToR base p vl vw (settled d (svOf bs)) w w' := by
  have HC := hide (rland_some base p d vl vw ao bs cap w h hd hb hm)
  clear h hd hm
  go_enter Try.func21, Try.ntmps21
  go_wp2_with (go_at_call 36; refine HC.out.mono ?_; rintro e w' ⟨⟨v, rfl⟩, ht⟩; have HT := hide ht; clear ht)
  go_ret
  exact ⟨rfl, HT.out⟩
end Go.Proofs.Ytdlejcdmjdljfaa
