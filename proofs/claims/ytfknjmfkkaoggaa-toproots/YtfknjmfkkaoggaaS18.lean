/- Slots: Open, Fork, Device. -/
import Derived.Test.YtfknjmfkkaoggaaS17
namespace Go.Proofs.Ytfknjmfkkaoggaa
open Go.RowKit Go.Shelf

theorem build_h (a : Option Addr) (w : World) : (Instr.build 79 #[(0, .pointer a)]).run Try.prog w = .ok (.agg #[.pointer a]) w := by kernel_rfl
theorem build_s (a : Option Addr) (w : World) : (Instr.build 81 #[(0, .agg #[.pointer a])]).run Try.prog w = .ok (.agg #[.pointer a]) w := by kernel_rfl
/-- A new store on a device of its own. -/
theorem new_store {base p : Nat} {d : Dv} {vl vw : Value} {w w' : World} (h : IsD base p d vl vw w') (hb : base ≤ w.heap.size) (hB : Below w.heap.size w w') (hf : ∀ j, foot p vl vw j → w.heap.size ≤ j) : ∃ q p' vl' vw', Value.pointer (some ⟨w'.heap.size, 0, none⟩) = .pointer (some ⟨q, 0, none⟩) ∧ IsS base q p' d vl' vw' (w'.alloc (.cells #[.pointer (some ⟨p, 0, none⟩)] 81)) ∧ w.heap.size ≤ q ∧ Below w.heap.size w (w'.alloc (.cells #[.pointer (some ⟨p, 0, none⟩)] 81)) ∧ ∀ j, foot p' vl' vw' j → w.heap.size ≤ j :=
  ⟨w'.heap.size, p, vl, vw, rfl, ⟨World.alloc_heap_new _ _, Nat.le_trans hb hB.size, h.below ((Below.refl _ _).alloc (Nat.le_refl _) _)⟩, hB.size, hB.alloc hB.size _, hf⟩
set_option maxRecDepth 100000 in
set_option maxHeartbeats 2000000 in
theorem device_any (base q p : Nat) (d : Dv) (vl vw : Value) (w : World) (h : IsS base q p d vl vw w) (hd : DvOk d) (hb : base ≤ w.heap.size) :
    Calls Try.prog 27 #[.pointer (some ⟨q, 0, none⟩)] w fun e w' => ∃ p' vl' vw', e = .returned (.pointer (some ⟨p', 0, none⟩)) ∧ IsD base p' d vl' vw' w' ∧ Below w.heap.size w w' ∧ ∀ j, foot p' vl' vw' j → w.heap.size ≤ j := by
  obtain ⟨c1, _⟩ := cell1 h.here
  have HF := hide (fork_any base p d vl vw w h.dev hd hb)
  clear h hd
  go_enter Try.func27, Try.ntmps27
  go_wp2_with (go_at_call 50; refine HF.out.mono ?_; rintro e w3 ⟨p', vl', vw', rfl, k⟩; have H3 := hide k; clear k)
  go_ret
  exact ⟨p', vl', vw', rfl, H3.out⟩
set_option maxRecDepth 100000 in
set_option maxHeartbeats 2000000 in
theorem forkS_any (base q p : Nat) (d : Dv) (vl vw : Value) (w : World) (h : IsS base q p d vl vw w) (hd : DvOk d) (hb : base ≤ w.heap.size) :
    Calls Try.prog 25 #[.pointer (some ⟨q, 0, none⟩)] w fun e w' => ∃ q' p' vl' vw', e = .returned (.pointer (some ⟨q', 0, none⟩)) ∧ IsS base q' p' d vl' vw' w' ∧ w.heap.size ≤ q' ∧ Below w.heap.size w w' ∧ ∀ j, foot p' vl' vw' j → w.heap.size ≤ j := by
  obtain ⟨c1, _⟩ := cell1 h.here
  have f1 := build_h
  have f2 := build_s
  have HF := hide (fork_any base p d vl vw w h.dev hd hb)
  clear h hd
  go_enter Try.func25, Try.ntmps25
  go_wp2_with (go_at_call 50; refine HF.out.mono ?_; rintro e w3 ⟨p', vl', vw', rfl, k⟩; have H3 := hide k; clear k)
  go_ret
  obtain ⟨k1, k2, k3⟩ := H3.out
  obtain ⟨q', p2, vl2, vw2, e, r⟩ := new_store k1 hb k2 k3
  exact ⟨q', p2, vl2, vw2, by rw [← e]; rfl, r⟩
set_option maxRecDepth 100000 in
set_option maxHeartbeats 2000000 in
theorem open_any (base p : Nat) (d : Dv) (vl vw : Value) (w : World) (h : IsD base p d vl vw w) (hd : DvOk d) (hb : base ≤ w.heap.size) (h2 : 4 ≤ d.las.length) :
    Calls Try.prog 26 #[.pointer (some ⟨p, 0, none⟩)] w fun e w' => ∃ q' p' vl' vw', e = .returned (.pointer (some ⟨q', 0, none⟩)) ∧ IsS base q' p' d vl' vw' w' ∧ w.heap.size ≤ q' ∧ Below w.heap.size w w' ∧ ∀ j, foot p' vl' vw' j → w.heap.size ≤ j := by
  have f1 := build_h
  have f2 := build_s
  have HZ := hide (size_any base p d vl vw w h)
  have HF := hide (fork_any base p d vl vw w h hd hb)
  have h2' : ¬ ((d.las.length : Int) < 4) := by omega
  clear h hd
  go_enter Try.func26, Try.ntmps26
  go_wp2_with (first
    | (go_at_call 50; refine HF.out.mono ?_; rintro e w3 ⟨p', vl', vw', rfl, k⟩; have H3 := hide k; clear k)
    | (go_at_call 40; refine HZ.out.mono ?_; rintro e w3 ⟨rfl, rfl⟩))
  go_ret
  obtain ⟨k1, k2, k3⟩ := H3.out
  obtain ⟨q', p2, vl2, vw2, e, r⟩ := new_store k1 hb k2 k3
  exact ⟨q', p2, vl2, vw2, by rw [← e]; rfl, r⟩
end Go.Proofs.Ytfknjmfkkaoggaa
