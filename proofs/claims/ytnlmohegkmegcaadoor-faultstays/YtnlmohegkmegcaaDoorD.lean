/- first and has: what defers a recover. -/
import Derived.Test.YtnlmohegkmegcaaDoorF
import Derived.Test.YtnlmohegkmegcaaDoorI
import Derived.Defers
import Derived.Recover
import Derived.Outline
import Derived.RegionTactic
namespace Go.Proofs.YtnlmohegkmegcaaDoor
open Go.RowKit

theorem idle28 (p q r : Value) (w : World) :
    CallsD Tryd.prog 28 #[p, q, r] .returning w fun e u' w' => e = .returned (.tuple #[]) ∧ u' = .returning ∧ w' = w := by
  refine callsD_of_wpS Tryd.func28 rfl fun c₀ cs hu => ?_
  apply wpS_seq
  apply wpS_region
  simp [wpOpsS, go_sem, recoverD, hu, Tryd.ntmps28, Exit.thenS]
  refine wpS_cond (t := false) (by simp [Act.eval, Array.replicate]) ?_
  simp only [Bool.false_eq_true, if_false]
  refine wpS_of_wp (wp_skip ?_)
  cases c₀
  simp_all [bodyPostS, results, Tryd.results28]
theorem idle32 (p q r : Value) (w : World) :
    CallsD Tryd.prog 32 #[p, q, r] .returning w fun e u' w' => e = .returned (.tuple #[]) ∧ u' = .returning ∧ w' = w := by
  refine callsD_of_wpS Tryd.func32 rfl fun c₀ cs hu => ?_
  apply wpS_seq
  apply wpS_region
  simp [wpOpsS, go_sem, recoverD, hu, Tryd.ntmps32, Exit.thenS]
  refine wpS_cond (t := false) (by simp [Act.eval, Array.replicate]) ?_
  simp only [Bool.false_eq_true, if_false]
  refine wpS_of_wp (wp_skip ?_)
  cases c₀
  simp_all [bodyPostS, results, Tryd.results32]
theorem idle30 (p : Value) (w : World) :
    CallsD Tryd.prog 30 #[p] .returning w fun e u' w' => e = .returned (.tuple #[]) ∧ u' = .returning ∧ w' = w := by
  refine callsD_of_wpS Tryd.func30 rfl fun c₀ cs hu => ?_
  apply wpS_seq
  apply wpS_region
  simp [wpOpsS, go_sem, recoverD, hu, Tryd.ntmps30, Exit.thenS]
  refine wpS_cond (t := false) (by simp [Act.eval, Array.replicate]) ?_
  simp only [Bool.false_eq_true, if_false]
  refine wpS_of_wp (wp_skip ?_)
  cases c₀
  simp_all [bodyPostS, results, Tryd.results30]

set_option maxRecDepth 100000 in
theorem has_chain (c d : Int) (ps : List Int) (v : Value) (w : World) (hch : Chain w c ps v) :
    Calls Tryd.prog 26 #[v, .iface 48 (.agg #[.int .i64 d])] w fun e w' => e = .returned (.bool (c == d)) ∧ Below w.heap.size w w' := by
  have hmf : ∀ (fn : Fn) (first cap : Array Value) (w : World), (Instr.makeFunc fn first cap).run Tryd.prog w = .ok (.func fn first cap) w := fun _ _ _ _ => rfl
  have hc2 := hide (hch.below ((Below.refl w.heap.size w).alloc (Nat.le_refl _) (.cells #[.bool false] 4)))
  clear hch
  go_enter_defers Tryd.func26, Tryd.ntmps26
  go_wp2_with (go_at_call 31; refine (Is_chain c d ps v _ hc2.out).mono ?_; rintro e w' ⟨rfl, rfl⟩)
  refine leaves_cons (f := 30) (args := #[.pointer (some ⟨w.heap.size, 0, none⟩)]) (by simp) (by simp [go_sem]) ?_
  refine (idle30 _ _).mono ?_
  rintro e u' w'' ⟨rfl, rfl, rfl⟩
  simp [Leaves, settle, results, Tryd.results26, go_sem]
  exact (Below.refl _ _).alloc (Nat.le_refl _) _

/-- What stands behind errors.As in 'first': three variables of the call's own, the first of them set. -/
theorem after_as {w w1 : World} {A B C : Value} {tA tB tC : TypeId} (x : Value) (hb : Below (((w.alloc (.cells #[A] tA)).alloc (.cells #[B] tB)).alloc (.cells #[C] tC)).heap.size (((w.alloc (.cells #[A] tA)).alloc (.cells #[B] tB)).alloc (.cells #[C] tC)) w1) :
    Below w.heap.size w (w1.setCell ⟨w.heap.size, 0, none⟩ x) ∧ (w1.setCell ⟨w.heap.size, 0, none⟩ x).cell? ⟨w.heap.size, 0, none⟩ = some x ∧ (w1.setCell ⟨w.heap.size, 0, none⟩ x).cell? ⟨w.heap.size + 1, 0, none⟩ = some B ∧ (w1.setCell ⟨w.heap.size, 0, none⟩ x).cell? ⟨w.heap.size + 1 + 1, 0, none⟩ = some C ∧ (w1.setCell ⟨w.heap.size, 0, none⟩ x).frozen? ⟨w.heap.size, 0, none⟩ = false ∧ (w1.setCell ⟨w.heap.size, 0, none⟩ x).frozen? ⟨w.heap.size + 1, 0, none⟩ = false ∧ w.heap.size + 1 + 1 < (w1.setCell ⟨w.heap.size, 0, none⟩ x).heap.size := by
  have hs := hb.size
  simp only [World.size_alloc] at hs
  have c0 : w1.cell? ⟨w.heap.size, 0, none⟩ = some A := by
    rw [hb.cell (p := ⟨w.heap.size, 0, none⟩) (by simp only [World.size_alloc]; omega)]; simp [go_sem]
  have c1 : w1.cell? ⟨w.heap.size + 1, 0, none⟩ = some B := by
    rw [hb.cell (p := ⟨w.heap.size + 1, 0, none⟩) (by simp only [World.size_alloc]; omega)]; simp [go_sem]
  have c2 : w1.cell? ⟨w.heap.size + 1 + 1, 0, none⟩ = some C := by
    rw [hb.cell (p := ⟨w.heap.size + 1 + 1, 0, none⟩) (by simp only [World.size_alloc]; omega)]; simp [go_sem]
  have f0 : w1.frozen? ⟨w.heap.size, 0, none⟩ = false := by
    rw [hb.frozen (p := ⟨w.heap.size, 0, none⟩) (by simp only [World.size_alloc]; omega)]; simp [go_sem]
  have f1 : w1.frozen? ⟨w.heap.size + 1, 0, none⟩ = false := by
    rw [hb.frozen (p := ⟨w.heap.size + 1, 0, none⟩) (by simp only [World.size_alloc]; omega)]; simp [go_sem]
  refine ⟨?_, World.cell?_setCell_same _ _ _ c0, ?_, ?_, ?_, ?_, ?_⟩
  · exact (((((Below.refl _ _).alloc (Nat.le_refl _) _).alloc (by simp) _).alloc (by simp only [World.size_alloc]; omega) _).trans (hb.mono (by simp only [World.size_alloc]; omega))).setCell (Nat.le_refl _) _
  · rw [World.cell?_setCell_other _ _ _ _ (by simp)]; exact c1
  · rw [World.cell?_setCell_other _ _ _ _ (by simp)]; exact c2
  · rw [World.frozen?_setCell]; exact f0
  · rw [World.frozen?_setCell]; exact f1
  · simp only [World.size_setCell]; omega

/-- The same, where nothing was set. -/
theorem after_none {w w1 : World} {A B C : Value} {tA tB tC : TypeId} (hb : Below (((w.alloc (.cells #[A] tA)).alloc (.cells #[B] tB)).alloc (.cells #[C] tC)).heap.size (((w.alloc (.cells #[A] tA)).alloc (.cells #[B] tB)).alloc (.cells #[C] tC)) w1) :
    Below w.heap.size w w1 ∧ w1.cell? ⟨w.heap.size, 0, none⟩ = some A ∧ w1.cell? ⟨w.heap.size + 1, 0, none⟩ = some B ∧ w1.cell? ⟨w.heap.size + 1 + 1, 0, none⟩ = some C ∧ w1.frozen? ⟨w.heap.size, 0, none⟩ = false ∧ w1.frozen? ⟨w.heap.size + 1, 0, none⟩ = false ∧ w.heap.size + 1 + 1 < w1.heap.size := by
  have hs := hb.size
  simp only [World.size_alloc] at hs
  have c0 : w1.cell? ⟨w.heap.size, 0, none⟩ = some A := by
    rw [hb.cell (p := ⟨w.heap.size, 0, none⟩) (by simp only [World.size_alloc]; omega)]; simp [go_sem]
  have c1 : w1.cell? ⟨w.heap.size + 1, 0, none⟩ = some B := by
    rw [hb.cell (p := ⟨w.heap.size + 1, 0, none⟩) (by simp only [World.size_alloc]; omega)]; simp [go_sem]
  have c2 : w1.cell? ⟨w.heap.size + 1 + 1, 0, none⟩ = some C := by
    rw [hb.cell (p := ⟨w.heap.size + 1 + 1, 0, none⟩) (by simp only [World.size_alloc]; omega)]; simp [go_sem]
  have f0 : w1.frozen? ⟨w.heap.size, 0, none⟩ = false := by
    rw [hb.frozen (p := ⟨w.heap.size, 0, none⟩) (by simp only [World.size_alloc]; omega)]; simp [go_sem]
  have f1 : w1.frozen? ⟨w.heap.size + 1, 0, none⟩ = false := by
    rw [hb.frozen (p := ⟨w.heap.size + 1, 0, none⟩) (by simp only [World.size_alloc]; omega)]; simp [go_sem]
  exact ⟨((((Below.refl _ _).alloc (Nat.le_refl _) _).alloc (by simp) _).alloc (by simp only [World.size_alloc]; omega) _).trans (hb.mono (by simp only [World.size_alloc]; omega)), c0, c1, c2, f0, f1, by omega⟩

set_option maxRecDepth 100000 in
theorem first_made (c : Int) (ps : List Int) (v : Value) (w : World) (hL : Laid w) (hch : Chain w c ps v) (h1 : 1 ≤ c) :
    Calls Tryd.prog 25 #[v] w fun e w' => e = .returned (.tuple #[.agg #[.int .i64 c], .bool true]) ∧ Below w.heap.size w w' := by
  have hmf : ∀ (fn : Fn) (first cap : Array Value) (w : World), (Instr.makeFunc fn first cap).run Tryd.prog w = .ok (.func fn first cap) w := fun _ _ _ _ => rfl
  have hB3 : Below w.heap.size w (((w.alloc (.cells #[.int .i64 0] 48)).alloc (.cells #[.bool false] 4)).alloc (.cells #[.int .i64 0] 48)) := (((Below.refl _ _).alloc (Nat.le_refl _) _).alloc (by simp) _).alloc (by simp; omega) _
  have Hp := hide (show _ ∧ _ from ⟨hL.below hB3 hL.size, hch.below hB3⟩)
  clear hL hch hB3
  have hne : (c == 0) = false := by rw [beq_eq_false_iff_ne]; omega
  go_enter_defers Tryd.func25, Tryd.ntmps25
  go_wp2_with fail
  refine (As_made c ps v (.int .i64 0) ⟨w.heap.size, 0, none⟩ (((w.alloc (.cells #[.int .i64 0] 48)).alloc (.cells #[.bool false] 4)).alloc (.cells #[.int .i64 0] 48)) Hp.out.1 Hp.out.2 (by simp [go_sem]) (by simp [go_sem])).mono ?_
  rintro e w' ⟨rfl, w1, hb1, hw'⟩
  obtain ⟨k1, k2, k3, k4, k5, k6, k7⟩ := after_as (.int .i64 c) hb1
  rw [← hw'] at k1 k2 k3 k4 k5 k6 k7
  clear hw' hb1
  go_wp2_with fail
  obtain ⟨W5, hW5⟩ : ∃ W5, W5 = w'.setCell ⟨w.heap.size + 1, 0, none⟩ (.bool true) := ⟨_, rfl⟩
  have m1 : Below w.heap.size w W5 := by rw [hW5]; exact k1.setCell (by simp) _
  have m2 : W5.cell? ⟨w.heap.size, 0, none⟩ = some (.int .i64 c) := by rw [hW5, World.cell?_setCell_other _ _ _ _ (by simp)]; exact k2
  have m3 : W5.cell? ⟨w.heap.size + 1, 0, none⟩ = some (.bool true) := by rw [hW5]; exact World.cell?_setCell_same _ _ _ k3
  have m4 : W5.frozen? ⟨w.heap.size, 0, none⟩ = false := by rw [hW5, World.frozen?_setCell]; exact k5
  have m5 : W5.frozen? ⟨w.heap.size + 1, 0, none⟩ = false := by rw [hW5, World.frozen?_setCell]; exact k6
  rw [← hW5]
  clear hW5 k1 k2 k3 k4 k5 k6
  go_region
  obtain ⟨W6, hW6⟩ : ∃ W6, W6 = ((W5.setCell ⟨w.heap.size, 0, none⟩ (.int .i64 c)).setCell ⟨w.heap.size + 1, 0, none⟩ (.bool true)).drew := ⟨_, rfl⟩
  have q1 : Below w.heap.size w W6 := by rw [hW6]; exact ((m1.setCell (Nat.le_refl _) _).setCell (by simp) _).drew
  have q2 : W6.cell? ⟨w.heap.size, 0, none⟩ = some (.int .i64 c) := by
    rw [hW6, World.cell?_drew, World.cell?_setCell_other _ _ _ _ (by simp)]; exact World.cell?_setCell_same _ _ _ m2
  have q3 : W6.cell? ⟨w.heap.size + 1, 0, none⟩ = some (.bool true) := by
    rw [hW6, World.cell?_drew]; exact World.cell?_setCell_same _ _ _ ((World.cell?_setCell_other _ _ _ _ (by simp)).trans m3)
  rw [← hW6]
  clear hW6 m1 m2 m3 m4 m5
  go_wp2_with fail
  refine leaves_cons (f := 28) (args := #[.pointer (some ⟨w.heap.size + 1 + 1, 0, none⟩), .pointer (some ⟨w.heap.size, 0, none⟩), .pointer (some ⟨w.heap.size + 1, 0, none⟩)]) (by simp) (by simp [go_sem]) ?_
  refine (idle28 _ _ _ _).mono ?_
  rintro e u' w'' ⟨rfl, rfl, rfl⟩
  simp [Leaves, settle, results, Tryd.results25, go_sem, q2, q3]
  exact q1

set_option maxRecDepth 100000 in
theorem first_made_nil (w : World) :
    Calls Tryd.prog 25 #[.nilIface] w fun e w' => e = .returned (.tuple #[.agg #[.int .i64 0], .bool false]) ∧ Below w.heap.size w w' := by
  have hmf : ∀ (fn : Fn) (first cap : Array Value) (w : World), (Instr.makeFunc fn first cap).run Tryd.prog w = .ok (.func fn first cap) w := fun _ _ _ _ => rfl
  go_enter_defers Tryd.func25, Tryd.ntmps25
  go_wp2_with fail
  refine (As_nil _ (((w.alloc (.cells #[.int .i64 0] 48)).alloc (.cells #[.bool false] 4)).alloc (.cells #[.int .i64 0] 48))).mono ?_
  rintro e w' ⟨rfl, hw'⟩
  obtain ⟨k1, k2, k3, k4, k5, k6, k7⟩ := after_none (w := w) (w1 := w') (by rw [hw']; exact Below.refl _ _)
  clear hw' 
  go_wp2_with fail
  obtain ⟨W5, hW5⟩ : ∃ W5, W5 = w'.setCell ⟨w.heap.size + 1, 0, none⟩ (.bool false) := ⟨_, rfl⟩
  have m1 : Below w.heap.size w W5 := by rw [hW5]; exact k1.setCell (by simp) _
  have m2 : W5.cell? ⟨w.heap.size, 0, none⟩ = some (.int .i64 0) := by rw [hW5, World.cell?_setCell_other _ _ _ _ (by simp)]; exact k2
  have m3 : W5.cell? ⟨w.heap.size + 1, 0, none⟩ = some (.bool false) := by rw [hW5]; exact World.cell?_setCell_same _ _ _ k3
  have m4 : W5.frozen? ⟨w.heap.size, 0, none⟩ = false := by rw [hW5, World.frozen?_setCell]; exact k5
  have m5 : W5.frozen? ⟨w.heap.size + 1, 0, none⟩ = false := by rw [hW5, World.frozen?_setCell]; exact k6
  rw [← hW5]
  clear hW5 k1 k2 k3 k4 k5 k6
  go_region
  obtain ⟨W6, hW6⟩ : ∃ W6, W6 = ((W5.setCell ⟨w.heap.size, 0, none⟩ (.int .i64 0)).setCell ⟨w.heap.size + 1, 0, none⟩ (.bool false)).drew := ⟨_, rfl⟩
  have q1 : Below w.heap.size w W6 := by rw [hW6]; exact ((m1.setCell (Nat.le_refl _) _).setCell (by simp) _).drew
  have q2 : W6.cell? ⟨w.heap.size, 0, none⟩ = some (.int .i64 0) := by
    rw [hW6, World.cell?_drew, World.cell?_setCell_other _ _ _ _ (by simp)]; exact World.cell?_setCell_same _ _ _ m2
  have q3 : W6.cell? ⟨w.heap.size + 1, 0, none⟩ = some (.bool false) := by
    rw [hW6, World.cell?_drew]; exact World.cell?_setCell_same _ _ _ ((World.cell?_setCell_other _ _ _ _ (by simp)).trans m3)
  rw [← hW6]
  clear hW6 m1 m2 m3 m4 m5
  go_wp2_with fail
  refine leaves_cons (f := 28) (args := #[.pointer (some ⟨w.heap.size + 1 + 1, 0, none⟩), .pointer (some ⟨w.heap.size, 0, none⟩), .pointer (some ⟨w.heap.size + 1, 0, none⟩)]) (by simp) (by simp [go_sem]) ?_
  refine (idle28 _ _ _ _).mono ?_
  rintro e u' w'' ⟨rfl, rfl, rfl⟩
  simp [Leaves, settle, results, Tryd.results25, go_sem, q2, q3]
  exact q1

set_option maxRecDepth 100000 in
theorem first_placed (b : Nat) (w : World) (hL : Laid w) :
    Calls Tryd.prog 27 #[.iface 52 (.pointer (some ⟨b, 0, none⟩))] w fun e w' => e = .returned (.tuple #[.pointer (some ⟨b, 0, none⟩), .bool true]) ∧ Below w.heap.size w w' := by
  have hmf : ∀ (fn : Fn) (first cap : Array Value) (w : World), (Instr.makeFunc fn first cap).run Tryd.prog w = .ok (.func fn first cap) w := fun _ _ _ _ => rfl
  have hB3 : Below w.heap.size w (((w.alloc (.cells #[.pointer none] 52)).alloc (.cells #[.bool false] 4)).alloc (.cells #[.pointer none] 52)) := (((Below.refl _ _).alloc (Nat.le_refl _) _).alloc (by simp) _).alloc (by simp; omega) _
  have Hp := hide (hL.below hB3 hL.size)
  clear hL hB3
  go_enter_defers Tryd.func27, Tryd.ntmps27
  go_wp2_with fail
  refine (As_placed_hit b (.pointer none) ⟨w.heap.size, 0, none⟩ (((w.alloc (.cells #[.pointer none] 52)).alloc (.cells #[.bool false] 4)).alloc (.cells #[.pointer none] 52)) Hp.out (by simp [go_sem]) (by simp [go_sem])).mono ?_
  rintro e w' ⟨rfl, w1, hb1, hw'⟩
  obtain ⟨k1, k2, k3, k4, k5, k6, k7⟩ := after_as (.pointer (some ⟨b, 0, none⟩)) hb1
  rw [← hw'] at k1 k2 k3 k4 k5 k6 k7
  clear hw' hb1
  go_wp2_with fail
  obtain ⟨W5, hW5⟩ : ∃ W5, W5 = w'.setCell ⟨w.heap.size + 1, 0, none⟩ (.bool true) := ⟨_, rfl⟩
  have m1 : Below w.heap.size w W5 := by rw [hW5]; exact k1.setCell (by simp) _
  have m2 : W5.cell? ⟨w.heap.size, 0, none⟩ = some (.pointer (some ⟨b, 0, none⟩)) := by rw [hW5, World.cell?_setCell_other _ _ _ _ (by simp)]; exact k2
  have m3 : W5.cell? ⟨w.heap.size + 1, 0, none⟩ = some (.bool true) := by rw [hW5]; exact World.cell?_setCell_same _ _ _ k3
  have m4 : W5.frozen? ⟨w.heap.size, 0, none⟩ = false := by rw [hW5, World.frozen?_setCell]; exact k5
  have m5 : W5.frozen? ⟨w.heap.size + 1, 0, none⟩ = false := by rw [hW5, World.frozen?_setCell]; exact k6
  rw [← hW5]
  clear hW5 k1 k2 k3 k4 k5 k6
  go_region
  obtain ⟨W6, hW6⟩ : ∃ W6, W6 = ((W5.setCell ⟨w.heap.size, 0, none⟩ (.pointer (some ⟨b, 0, none⟩))).setCell ⟨w.heap.size + 1, 0, none⟩ (.bool true)).drew := ⟨_, rfl⟩
  have q1 : Below w.heap.size w W6 := by rw [hW6]; exact ((m1.setCell (Nat.le_refl _) _).setCell (by simp) _).drew
  have q2 : W6.cell? ⟨w.heap.size, 0, none⟩ = some (.pointer (some ⟨b, 0, none⟩)) := by
    rw [hW6, World.cell?_drew, World.cell?_setCell_other _ _ _ _ (by simp)]; exact World.cell?_setCell_same _ _ _ m2
  have q3 : W6.cell? ⟨w.heap.size + 1, 0, none⟩ = some (.bool true) := by
    rw [hW6, World.cell?_drew]; exact World.cell?_setCell_same _ _ _ ((World.cell?_setCell_other _ _ _ _ (by simp)).trans m3)
  rw [← hW6]
  clear hW6 m1 m2 m3 m4 m5
  go_wp2_with fail
  refine leaves_cons (f := 32) (args := #[.pointer (some ⟨w.heap.size + 1 + 1, 0, none⟩), .pointer (some ⟨w.heap.size, 0, none⟩), .pointer (some ⟨w.heap.size + 1, 0, none⟩)]) (by simp) (by simp [go_sem]) ?_
  refine (idle32 _ _ _ _).mono ?_
  rintro e u' w'' ⟨rfl, rfl, rfl⟩
  simp [Leaves, settle, results, Tryd.results27, go_sem, q2, q3]
  exact q1

set_option maxRecDepth 100000 in
theorem first_placed_no (c : Int) (w : World) (hL : Laid w) :
    Calls Tryd.prog 27 #[.iface 48 (.agg #[.int .i64 c])] w fun e w' => e = .returned (.tuple #[.pointer none, .bool false]) ∧ Below w.heap.size w w' := by
  have hmf : ∀ (fn : Fn) (first cap : Array Value) (w : World), (Instr.makeFunc fn first cap).run Tryd.prog w = .ok (.func fn first cap) w := fun _ _ _ _ => rfl
  have hB3 : Below w.heap.size w (((w.alloc (.cells #[.pointer none] 52)).alloc (.cells #[.bool false] 4)).alloc (.cells #[.pointer none] 52)) := (((Below.refl _ _).alloc (Nat.le_refl _) _).alloc (by simp) _).alloc (by simp; omega) _
  have Hp := hide (hL.below hB3 hL.size)
  clear hL hB3
  go_enter_defers Tryd.func27, Tryd.ntmps27
  go_wp2_with fail
  refine (As_placed_miss c (.pointer none) ⟨w.heap.size, 0, none⟩ (((w.alloc (.cells #[.pointer none] 52)).alloc (.cells #[.bool false] 4)).alloc (.cells #[.pointer none] 52)) Hp.out (by simp [go_sem]) (by simp [go_sem])).mono ?_
  rintro e w' ⟨rfl, hb1⟩
  obtain ⟨k1, k2, k3, k4, k5, k6, k7⟩ := after_none hb1
  clear hb1
  go_wp2_with fail
  obtain ⟨W5, hW5⟩ : ∃ W5, W5 = w'.setCell ⟨w.heap.size + 1, 0, none⟩ (.bool false) := ⟨_, rfl⟩
  have m1 : Below w.heap.size w W5 := by rw [hW5]; exact k1.setCell (by simp) _
  have m2 : W5.cell? ⟨w.heap.size, 0, none⟩ = some (.pointer none) := by rw [hW5, World.cell?_setCell_other _ _ _ _ (by simp)]; exact k2
  have m3 : W5.cell? ⟨w.heap.size + 1, 0, none⟩ = some (.bool false) := by rw [hW5]; exact World.cell?_setCell_same _ _ _ k3
  have m4 : W5.frozen? ⟨w.heap.size, 0, none⟩ = false := by rw [hW5, World.frozen?_setCell]; exact k5
  have m5 : W5.frozen? ⟨w.heap.size + 1, 0, none⟩ = false := by rw [hW5, World.frozen?_setCell]; exact k6
  rw [← hW5]
  clear hW5 k1 k2 k3 k4 k5 k6
  go_region
  obtain ⟨W6, hW6⟩ : ∃ W6, W6 = ((W5.setCell ⟨w.heap.size, 0, none⟩ (.pointer none)).setCell ⟨w.heap.size + 1, 0, none⟩ (.bool false)).drew := ⟨_, rfl⟩
  have q1 : Below w.heap.size w W6 := by rw [hW6]; exact ((m1.setCell (Nat.le_refl _) _).setCell (by simp) _).drew
  have q2 : W6.cell? ⟨w.heap.size, 0, none⟩ = some (.pointer none) := by
    rw [hW6, World.cell?_drew, World.cell?_setCell_other _ _ _ _ (by simp)]; exact World.cell?_setCell_same _ _ _ m2
  have q3 : W6.cell? ⟨w.heap.size + 1, 0, none⟩ = some (.bool false) := by
    rw [hW6, World.cell?_drew]; exact World.cell?_setCell_same _ _ _ ((World.cell?_setCell_other _ _ _ _ (by simp)).trans m3)
  rw [← hW6]
  clear hW6 m1 m2 m3 m4 m5
  go_wp2_with fail
  refine leaves_cons (f := 32) (args := #[.pointer (some ⟨w.heap.size + 1 + 1, 0, none⟩), .pointer (some ⟨w.heap.size, 0, none⟩), .pointer (some ⟨w.heap.size + 1, 0, none⟩)]) (by simp) (by simp [go_sem]) ?_
  refine (idle32 _ _ _ _).mono ?_
  rintro e u' w'' ⟨rfl, rfl, rfl⟩
  simp [Leaves, settle, results, Tryd.results27, go_sem, q2, q3]
  exact q1

set_option maxRecDepth 100000 in
theorem first_placed_nil (w : World) :
    Calls Tryd.prog 27 #[.nilIface] w fun e w' => e = .returned (.tuple #[.pointer none, .bool false]) ∧ Below w.heap.size w w' := by
  have hmf : ∀ (fn : Fn) (first cap : Array Value) (w : World), (Instr.makeFunc fn first cap).run Tryd.prog w = .ok (.func fn first cap) w := fun _ _ _ _ => rfl
  go_enter_defers Tryd.func27, Tryd.ntmps27
  go_wp2_with fail
  refine (As_nil _ (((w.alloc (.cells #[.pointer none] 52)).alloc (.cells #[.bool false] 4)).alloc (.cells #[.pointer none] 52))).mono ?_
  rintro e w' ⟨rfl, hw'⟩
  obtain ⟨k1, k2, k3, k4, k5, k6, k7⟩ := after_none (w := w) (w1 := w') (by rw [hw']; exact Below.refl _ _)
  clear hw' 
  go_wp2_with fail
  obtain ⟨W5, hW5⟩ : ∃ W5, W5 = w'.setCell ⟨w.heap.size + 1, 0, none⟩ (.bool false) := ⟨_, rfl⟩
  have m1 : Below w.heap.size w W5 := by rw [hW5]; exact k1.setCell (by simp) _
  have m2 : W5.cell? ⟨w.heap.size, 0, none⟩ = some (.pointer none) := by rw [hW5, World.cell?_setCell_other _ _ _ _ (by simp)]; exact k2
  have m3 : W5.cell? ⟨w.heap.size + 1, 0, none⟩ = some (.bool false) := by rw [hW5]; exact World.cell?_setCell_same _ _ _ k3
  have m4 : W5.frozen? ⟨w.heap.size, 0, none⟩ = false := by rw [hW5, World.frozen?_setCell]; exact k5
  have m5 : W5.frozen? ⟨w.heap.size + 1, 0, none⟩ = false := by rw [hW5, World.frozen?_setCell]; exact k6
  rw [← hW5]
  clear hW5 k1 k2 k3 k4 k5 k6
  go_region
  obtain ⟨W6, hW6⟩ : ∃ W6, W6 = ((W5.setCell ⟨w.heap.size, 0, none⟩ (.pointer none)).setCell ⟨w.heap.size + 1, 0, none⟩ (.bool false)).drew := ⟨_, rfl⟩
  have q1 : Below w.heap.size w W6 := by rw [hW6]; exact ((m1.setCell (Nat.le_refl _) _).setCell (by simp) _).drew
  have q2 : W6.cell? ⟨w.heap.size, 0, none⟩ = some (.pointer none) := by
    rw [hW6, World.cell?_drew, World.cell?_setCell_other _ _ _ _ (by simp)]; exact World.cell?_setCell_same _ _ _ m2
  have q3 : W6.cell? ⟨w.heap.size + 1, 0, none⟩ = some (.bool false) := by
    rw [hW6, World.cell?_drew]; exact World.cell?_setCell_same _ _ _ ((World.cell?_setCell_other _ _ _ _ (by simp)).trans m3)
  rw [← hW6]
  clear hW6 m1 m2 m3 m4 m5
  go_wp2_with fail
  refine leaves_cons (f := 32) (args := #[.pointer (some ⟨w.heap.size + 1 + 1, 0, none⟩), .pointer (some ⟨w.heap.size, 0, none⟩), .pointer (some ⟨w.heap.size + 1, 0, none⟩)]) (by simp) (by simp [go_sem]) ?_
  refine (idle32 _ _ _ _).mono ?_
  rintro e u' w'' ⟨rfl, rfl, rfl⟩
  simp [Leaves, settle, results, Tryd.results27, go_sem, q2, q3]
  exact q1

set_option maxRecDepth 100000 in
theorem has_nil (d : Int) (w : World) :
    Calls Tryd.prog 26 #[.nilIface, .iface 48 (.agg #[.int .i64 d])] w fun e w' => e = .returned (.bool false) ∧ Below w.heap.size w w' := by
  have hmf : ∀ (fn : Fn) (first cap : Array Value) (w : World), (Instr.makeFunc fn first cap).run Tryd.prog w = .ok (.func fn first cap) w := fun _ _ _ _ => rfl
  go_enter_defers Tryd.func26, Tryd.ntmps26
  go_wp2_with (go_at_call 31; refine (Is_nil d _).mono ?_; rintro e w' ⟨rfl, rfl⟩)
  refine leaves_cons (f := 30) (args := #[.pointer (some ⟨w.heap.size, 0, none⟩)]) (by simp) (by simp [go_sem]) ?_
  refine (idle30 _ _).mono ?_
  rintro e u' w'' ⟨rfl, rfl, rfl⟩
  simp [Leaves, settle, results, Tryd.results26, go_sem]
  exact (Below.refl _ _).alloc (Nat.le_refl _) _
end Go.Proofs.YtnlmohegkmegcaaDoor
