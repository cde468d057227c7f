/- What a verb names. -/
import Derived.Test.YtimhkgpjfppkmaaDoorRq1
namespace Go.Proofs.YtimhkgpjfppkmaaDoor
open Go.RowKit Go.Shelf

def nodeB (v : Nat) : Bool := decide (1 ≤ v ∧ v ≤ 15)
def itemB (v : Nat) : Bool := decide (v = 9 ∨ v = 10)
def jidB (v : Nat) : Bool := decide (v = 6 ∨ v = 7 ∨ v = 8)
def roleB (v : Nat) : Bool := decide (v = 8)
def accB (v : Nat) : Bool := decide (v = 3)
def maxB (v : Nat) : Bool := decide (v = 3)
def depthB (v : Nat) : Bool := decide (v = 4)
def parB (v : Nat) : Bool := decide (v = 13)
def kindB (v : Nat) : Bool := decide (v = 1)
def textB (v : Nat) : Bool := decide (v = 9)
/-- What a verb names, as cells. -/
def thA (v : Nat) : Array Value := #[.bool (nodeB v), .bool (itemB v), .bool (jidB v), .bool (roleB v), .bool (accB v), .bool (maxB v), .bool (depthB v), .bool (parB v), .bool (kindB v), .bool (textB v)]
theorem at_setQ {w : World} {b i : Nat} {v : Value} {cs : Array Value} {t : TypeId} (h : w.heap[b]? = some (.cells cs t)) : (w.setCell ⟨b, i, none⟩ v).heap[b]? = some (.cells (cs.setIfInBounds i v) t) := by
  unfold World.setCell
  rw [Array.getElem?_modify, if_pos rfl, h]
  rfl
theorem keep_alloc {w : World} {b : Nat} {o o' : Obj} (h : w.heap[b]? = some o) : (w.alloc o').heap[b]? = some o := ((Below.refl _ w).alloc (Nat.le_refl _) o').block _ (Array.getElem?_eq_some_iff.1 h).1 |>.trans h
theorem results_th {fn : Func} {tmps : Array Value} {w : World} {r : Nat} {b0 b1 b2 b3 b4 b5 b6 b7 b8 b9 : Bool} (h : fn.results = #[.cell 2 57]) (hp : tmps[2]?.getD undef = .pointer (some ⟨r, 0, none⟩)) (hb : w.heap[r]? = some (.cells #[.bool b0, .bool b1, .bool b2, .bool b3, .bool b4, .bool b5, .bool b6, .bool b7, .bool b8, .bool b9] 57)) : (results fn tmps).run Tryd.prog w = .ok (.agg #[.bool b0, .bool b1, .bool b2, .bool b3, .bool b4, .bool b5, .bool b6, .bool b7, .bool b8, .bool b9]) w := by
  have c0 : w.cell? ⟨r, 0, none⟩ = some (.bool b0) := by simp [World.cell?, hb]
  have c1 : w.cell? ⟨r, 1, none⟩ = some (.bool b1) := by simp [World.cell?, hb]
  have c2 : w.cell? ⟨r, 2, none⟩ = some (.bool b2) := by simp [World.cell?, hb]
  have c3 : w.cell? ⟨r, 3, none⟩ = some (.bool b3) := by simp [World.cell?, hb]
  have c4 : w.cell? ⟨r, 4, none⟩ = some (.bool b4) := by simp [World.cell?, hb]
  have c5 : w.cell? ⟨r, 5, none⟩ = some (.bool b5) := by simp [World.cell?, hb]
  have c6 : w.cell? ⟨r, 6, none⟩ = some (.bool b6) := by simp [World.cell?, hb]
  have c7 : w.cell? ⟨r, 7, none⟩ = some (.bool b7) := by simp [World.cell?, hb]
  have c8 : w.cell? ⟨r, 8, none⟩ = some (.bool b8) := by simp [World.cell?, hb]
  have c9 : w.cell? ⟨r, 9, none⟩ = some (.bool b9) := by simp [World.cell?, hb]
  simp [results, h, hp, c0, c1, c2, c3, c4, c5, c6, c7, c8, c9, go_sem, Tryd.isAgg57, Tryd.sizeOf57]
set_option maxRecDepth 100000 in
set_option maxHeartbeats 2000000 in
theorem named_0 (w : World) : Calls Tryd.prog 22 #[.int .u8 0] w fun e w' => e = .returned (.agg (thA 0)) ∧ Below w.heap.size w w' := by
  obtain ⟨W0, hW0⟩ : ∃ W0, w.alloc (.cells #[.bool false, .bool false, .bool false, .bool false, .bool false, .bool false, .bool false, .bool false, .bool false, .bool false] 57) = W0 := ⟨_, rfl⟩
  have b0 : Below w.heap.size w W0 := by rw [← hW0]; exact (Below.refl _ w).alloc (Nat.le_refl _) _
  have HV := hide (verb_any 0 (by omega) W0)
  have HB := hide b0
  rw [← hW0] at HV
  have HW := hide hW0
  clear hW0 b0
  go_enter Tryd.func22, Tryd.ntmps22
  go_wp2_with fail
  refine HV.out.mono ?_
  rintro e w1 ⟨rfl, b1⟩
  have hW : w.alloc (.cells #[.bool false, .bool false, .bool false, .bool false, .bool false, .bool false, .bool false, .bool false, .bool false, .bool false] 57) = W0 := HW.out
  rw [hW] at b1
  rw [show verbB 0 = ⟨#[]⟩ from rfl]
  have f0 := World.alloc_heap_new w (.cells #[.bool false, .bool false, .bool false, .bool false, .bool false, .bool false, .bool false, .bool false, .bool false, .bool false] 57)
  rw [hW] at f0
  have f1 := (b1.block _ (Array.getElem?_eq_some_iff.1 f0).1).trans f0
  have hz : w.heap.size < w1.heap.size := (Array.getElem?_eq_some_iff.1 f1).1
  have HF := hide (And.intro f1 (HB.out.trans (b1.mono HB.out.size)))
  have c0 : w1.cell? ⟨w.heap.size, 0, none⟩ = some (.bool false) := by simp [World.cell?, f1]
  have c1 : w1.cell? ⟨w.heap.size, 1, none⟩ = some (.bool false) := by simp [World.cell?, f1]
  have c2 : w1.cell? ⟨w.heap.size, 2, none⟩ = some (.bool false) := by simp [World.cell?, f1]
  have c3 : w1.cell? ⟨w.heap.size, 3, none⟩ = some (.bool false) := by simp [World.cell?, f1]
  have c4 : w1.cell? ⟨w.heap.size, 4, none⟩ = some (.bool false) := by simp [World.cell?, f1]
  have c5 : w1.cell? ⟨w.heap.size, 5, none⟩ = some (.bool false) := by simp [World.cell?, f1]
  have c6 : w1.cell? ⟨w.heap.size, 6, none⟩ = some (.bool false) := by simp [World.cell?, f1]
  have c7 : w1.cell? ⟨w.heap.size, 7, none⟩ = some (.bool false) := by simp [World.cell?, f1]
  have c8 : w1.cell? ⟨w.heap.size, 8, none⟩ = some (.bool false) := by simp [World.cell?, f1]
  have c9 : w1.cell? ⟨w.heap.size, 9, none⟩ = some (.bool false) := by simp [World.cell?, f1]
  have z0 : w1.frozen? ⟨w.heap.size, 0, none⟩ = false := by simp [World.frozen?, f1]
  have z1 : w1.frozen? ⟨w.heap.size, 1, none⟩ = false := by simp [World.frozen?, f1]
  have z2 : w1.frozen? ⟨w.heap.size, 2, none⟩ = false := by simp [World.frozen?, f1]
  have z3 : w1.frozen? ⟨w.heap.size, 3, none⟩ = false := by simp [World.frozen?, f1]
  have z4 : w1.frozen? ⟨w.heap.size, 4, none⟩ = false := by simp [World.frozen?, f1]
  have z5 : w1.frozen? ⟨w.heap.size, 5, none⟩ = false := by simp [World.frozen?, f1]
  have z6 : w1.frozen? ⟨w.heap.size, 6, none⟩ = false := by simp [World.frozen?, f1]
  have z7 : w1.frozen? ⟨w.heap.size, 7, none⟩ = false := by simp [World.frozen?, f1]
  have z8 : w1.frozen? ⟨w.heap.size, 8, none⟩ = false := by simp [World.frozen?, f1]
  have z9 : w1.frozen? ⟨w.heap.size, 9, none⟩ = false := by simp [World.frozen?, f1]
  clear hW b1 f0 f1 HV HW HB
  go_wp2_with fail
  refine bodyPost_ret (results_th rfl rfl (keep_alloc (at_setQ (at_setQ (at_setQ (at_setQ (at_setQ (at_setQ (at_setQ (at_setQ (at_setQ (at_setQ (HF.out.1))))))))))))) rfl ⟨by first | rfl | (refine congrArg Ending.returned (congrArg Value.agg ?_); unfold thA nodeB itemB jidB roleB accB maxB depthB parB kindB textB; simp; omega), ?_⟩
  exact ((((((((((((HF.out.2).setCell (p := ⟨w.heap.size, 0, none⟩) (Nat.le_refl _) _).setCell (p := ⟨w.heap.size, 1, none⟩) (Nat.le_refl _) _).setCell (p := ⟨w.heap.size, 2, none⟩) (Nat.le_refl _) _).setCell (p := ⟨w.heap.size, 3, none⟩) (Nat.le_refl _) _).setCell (p := ⟨w.heap.size, 4, none⟩) (Nat.le_refl _) _).setCell (p := ⟨w.heap.size, 5, none⟩) (Nat.le_refl _) _).setCell (p := ⟨w.heap.size, 6, none⟩) (Nat.le_refl _) _).setCell (p := ⟨w.heap.size, 7, none⟩) (Nat.le_refl _) _).setCell (p := ⟨w.heap.size, 8, none⟩) (Nat.le_refl _) _).setCell (p := ⟨w.heap.size, 9, none⟩) (Nat.le_refl _) _)).alloc (by have := HF.out.2.size; simp; omega) _
set_option maxRecDepth 100000 in
set_option maxHeartbeats 2000000 in
theorem named_1 (w : World) : Calls Tryd.prog 22 #[.int .u8 1] w fun e w' => e = .returned (.agg (thA 1)) ∧ Below w.heap.size w w' := by
  obtain ⟨W0, hW0⟩ : ∃ W0, w.alloc (.cells #[.bool false, .bool false, .bool false, .bool false, .bool false, .bool false, .bool false, .bool false, .bool false, .bool false] 57) = W0 := ⟨_, rfl⟩
  have b0 : Below w.heap.size w W0 := by rw [← hW0]; exact (Below.refl _ w).alloc (Nat.le_refl _) _
  have HV := hide (verb_any 1 (by omega) W0)
  have HB := hide b0
  rw [← hW0] at HV
  have HW := hide hW0
  clear hW0 b0
  go_enter Tryd.func22, Tryd.ntmps22
  go_wp2_with fail
  refine HV.out.mono ?_
  rintro e w1 ⟨rfl, b1⟩
  have hW : w.alloc (.cells #[.bool false, .bool false, .bool false, .bool false, .bool false, .bool false, .bool false, .bool false, .bool false, .bool false] 57) = W0 := HW.out
  rw [hW] at b1
  rw [show verbB 1 = ⟨#[99, 114, 101, 97, 116, 101]⟩ from rfl]
  have f0 := World.alloc_heap_new w (.cells #[.bool false, .bool false, .bool false, .bool false, .bool false, .bool false, .bool false, .bool false, .bool false, .bool false] 57)
  rw [hW] at f0
  have f1 := (b1.block _ (Array.getElem?_eq_some_iff.1 f0).1).trans f0
  have hz : w.heap.size < w1.heap.size := (Array.getElem?_eq_some_iff.1 f1).1
  have HF := hide (And.intro f1 (HB.out.trans (b1.mono HB.out.size)))
  have c0 : w1.cell? ⟨w.heap.size, 0, none⟩ = some (.bool false) := by simp [World.cell?, f1]
  have c1 : w1.cell? ⟨w.heap.size, 1, none⟩ = some (.bool false) := by simp [World.cell?, f1]
  have c2 : w1.cell? ⟨w.heap.size, 2, none⟩ = some (.bool false) := by simp [World.cell?, f1]
  have c3 : w1.cell? ⟨w.heap.size, 3, none⟩ = some (.bool false) := by simp [World.cell?, f1]
  have c4 : w1.cell? ⟨w.heap.size, 4, none⟩ = some (.bool false) := by simp [World.cell?, f1]
  have c5 : w1.cell? ⟨w.heap.size, 5, none⟩ = some (.bool false) := by simp [World.cell?, f1]
  have c6 : w1.cell? ⟨w.heap.size, 6, none⟩ = some (.bool false) := by simp [World.cell?, f1]
  have c7 : w1.cell? ⟨w.heap.size, 7, none⟩ = some (.bool false) := by simp [World.cell?, f1]
  have c8 : w1.cell? ⟨w.heap.size, 8, none⟩ = some (.bool false) := by simp [World.cell?, f1]
  have c9 : w1.cell? ⟨w.heap.size, 9, none⟩ = some (.bool false) := by simp [World.cell?, f1]
  have z0 : w1.frozen? ⟨w.heap.size, 0, none⟩ = false := by simp [World.frozen?, f1]
  have z1 : w1.frozen? ⟨w.heap.size, 1, none⟩ = false := by simp [World.frozen?, f1]
  have z2 : w1.frozen? ⟨w.heap.size, 2, none⟩ = false := by simp [World.frozen?, f1]
  have z3 : w1.frozen? ⟨w.heap.size, 3, none⟩ = false := by simp [World.frozen?, f1]
  have z4 : w1.frozen? ⟨w.heap.size, 4, none⟩ = false := by simp [World.frozen?, f1]
  have z5 : w1.frozen? ⟨w.heap.size, 5, none⟩ = false := by simp [World.frozen?, f1]
  have z6 : w1.frozen? ⟨w.heap.size, 6, none⟩ = false := by simp [World.frozen?, f1]
  have z7 : w1.frozen? ⟨w.heap.size, 7, none⟩ = false := by simp [World.frozen?, f1]
  have z8 : w1.frozen? ⟨w.heap.size, 8, none⟩ = false := by simp [World.frozen?, f1]
  have z9 : w1.frozen? ⟨w.heap.size, 9, none⟩ = false := by simp [World.frozen?, f1]
  clear hW b1 f0 f1 HV HW HB
  go_wp2_with fail
  refine bodyPost_ret (results_th rfl rfl (keep_alloc (at_setQ (at_setQ (at_setQ (at_setQ (at_setQ (at_setQ (at_setQ (at_setQ (at_setQ (at_setQ (HF.out.1))))))))))))) rfl ⟨by first | rfl | (refine congrArg Ending.returned (congrArg Value.agg ?_); unfold thA nodeB itemB jidB roleB accB maxB depthB parB kindB textB; simp; omega), ?_⟩
  exact ((((((((((((HF.out.2).setCell (p := ⟨w.heap.size, 0, none⟩) (Nat.le_refl _) _).setCell (p := ⟨w.heap.size, 1, none⟩) (Nat.le_refl _) _).setCell (p := ⟨w.heap.size, 2, none⟩) (Nat.le_refl _) _).setCell (p := ⟨w.heap.size, 3, none⟩) (Nat.le_refl _) _).setCell (p := ⟨w.heap.size, 4, none⟩) (Nat.le_refl _) _).setCell (p := ⟨w.heap.size, 5, none⟩) (Nat.le_refl _) _).setCell (p := ⟨w.heap.size, 6, none⟩) (Nat.le_refl _) _).setCell (p := ⟨w.heap.size, 7, none⟩) (Nat.le_refl _) _).setCell (p := ⟨w.heap.size, 8, none⟩) (Nat.le_refl _) _).setCell (p := ⟨w.heap.size, 9, none⟩) (Nat.le_refl _) _)).alloc (by have := HF.out.2.size; simp; omega) _
set_option maxRecDepth 100000 in
set_option maxHeartbeats 2000000 in
theorem named_2 (w : World) : Calls Tryd.prog 22 #[.int .u8 2] w fun e w' => e = .returned (.agg (thA 2)) ∧ Below w.heap.size w w' := by
  obtain ⟨W0, hW0⟩ : ∃ W0, w.alloc (.cells #[.bool false, .bool false, .bool false, .bool false, .bool false, .bool false, .bool false, .bool false, .bool false, .bool false] 57) = W0 := ⟨_, rfl⟩
  have b0 : Below w.heap.size w W0 := by rw [← hW0]; exact (Below.refl _ w).alloc (Nat.le_refl _) _
  have HV := hide (verb_any 2 (by omega) W0)
  have HB := hide b0
  rw [← hW0] at HV
  have HW := hide hW0
  clear hW0 b0
  go_enter Tryd.func22, Tryd.ntmps22
  go_wp2_with fail
  refine HV.out.mono ?_
  rintro e w1 ⟨rfl, b1⟩
  have hW : w.alloc (.cells #[.bool false, .bool false, .bool false, .bool false, .bool false, .bool false, .bool false, .bool false, .bool false, .bool false] 57) = W0 := HW.out
  rw [hW] at b1
  rw [show verbB 2 = ⟨#[114, 101, 109, 111, 118, 101]⟩ from rfl]
  have f0 := World.alloc_heap_new w (.cells #[.bool false, .bool false, .bool false, .bool false, .bool false, .bool false, .bool false, .bool false, .bool false, .bool false] 57)
  rw [hW] at f0
  have f1 := (b1.block _ (Array.getElem?_eq_some_iff.1 f0).1).trans f0
  have hz : w.heap.size < w1.heap.size := (Array.getElem?_eq_some_iff.1 f1).1
  have HF := hide (And.intro f1 (HB.out.trans (b1.mono HB.out.size)))
  have c0 : w1.cell? ⟨w.heap.size, 0, none⟩ = some (.bool false) := by simp [World.cell?, f1]
  have c1 : w1.cell? ⟨w.heap.size, 1, none⟩ = some (.bool false) := by simp [World.cell?, f1]
  have c2 : w1.cell? ⟨w.heap.size, 2, none⟩ = some (.bool false) := by simp [World.cell?, f1]
  have c3 : w1.cell? ⟨w.heap.size, 3, none⟩ = some (.bool false) := by simp [World.cell?, f1]
  have c4 : w1.cell? ⟨w.heap.size, 4, none⟩ = some (.bool false) := by simp [World.cell?, f1]
  have c5 : w1.cell? ⟨w.heap.size, 5, none⟩ = some (.bool false) := by simp [World.cell?, f1]
  have c6 : w1.cell? ⟨w.heap.size, 6, none⟩ = some (.bool false) := by simp [World.cell?, f1]
  have c7 : w1.cell? ⟨w.heap.size, 7, none⟩ = some (.bool false) := by simp [World.cell?, f1]
  have c8 : w1.cell? ⟨w.heap.size, 8, none⟩ = some (.bool false) := by simp [World.cell?, f1]
  have c9 : w1.cell? ⟨w.heap.size, 9, none⟩ = some (.bool false) := by simp [World.cell?, f1]
  have z0 : w1.frozen? ⟨w.heap.size, 0, none⟩ = false := by simp [World.frozen?, f1]
  have z1 : w1.frozen? ⟨w.heap.size, 1, none⟩ = false := by simp [World.frozen?, f1]
  have z2 : w1.frozen? ⟨w.heap.size, 2, none⟩ = false := by simp [World.frozen?, f1]
  have z3 : w1.frozen? ⟨w.heap.size, 3, none⟩ = false := by simp [World.frozen?, f1]
  have z4 : w1.frozen? ⟨w.heap.size, 4, none⟩ = false := by simp [World.frozen?, f1]
  have z5 : w1.frozen? ⟨w.heap.size, 5, none⟩ = false := by simp [World.frozen?, f1]
  have z6 : w1.frozen? ⟨w.heap.size, 6, none⟩ = false := by simp [World.frozen?, f1]
  have z7 : w1.frozen? ⟨w.heap.size, 7, none⟩ = false := by simp [World.frozen?, f1]
  have z8 : w1.frozen? ⟨w.heap.size, 8, none⟩ = false := by simp [World.frozen?, f1]
  have z9 : w1.frozen? ⟨w.heap.size, 9, none⟩ = false := by simp [World.frozen?, f1]
  clear hW b1 f0 f1 HV HW HB
  go_wp2_with fail
  refine bodyPost_ret (results_th rfl rfl (keep_alloc (at_setQ (at_setQ (at_setQ (at_setQ (at_setQ (at_setQ (at_setQ (at_setQ (at_setQ (at_setQ (HF.out.1))))))))))))) rfl ⟨by first | rfl | (refine congrArg Ending.returned (congrArg Value.agg ?_); unfold thA nodeB itemB jidB roleB accB maxB depthB parB kindB textB; simp; omega), ?_⟩
  exact ((((((((((((HF.out.2).setCell (p := ⟨w.heap.size, 0, none⟩) (Nat.le_refl _) _).setCell (p := ⟨w.heap.size, 1, none⟩) (Nat.le_refl _) _).setCell (p := ⟨w.heap.size, 2, none⟩) (Nat.le_refl _) _).setCell (p := ⟨w.heap.size, 3, none⟩) (Nat.le_refl _) _).setCell (p := ⟨w.heap.size, 4, none⟩) (Nat.le_refl _) _).setCell (p := ⟨w.heap.size, 5, none⟩) (Nat.le_refl _) _).setCell (p := ⟨w.heap.size, 6, none⟩) (Nat.le_refl _) _).setCell (p := ⟨w.heap.size, 7, none⟩) (Nat.le_refl _) _).setCell (p := ⟨w.heap.size, 8, none⟩) (Nat.le_refl _) _).setCell (p := ⟨w.heap.size, 9, none⟩) (Nat.le_refl _) _)).alloc (by have := HF.out.2.size; simp; omega) _
set_option maxRecDepth 100000 in
set_option maxHeartbeats 2000000 in
theorem named_3 (w : World) : Calls Tryd.prog 22 #[.int .u8 3] w fun e w' => e = .returned (.agg (thA 3)) ∧ Below w.heap.size w w' := by
  obtain ⟨W0, hW0⟩ : ∃ W0, w.alloc (.cells #[.bool false, .bool false, .bool false, .bool false, .bool false, .bool false, .bool false, .bool false, .bool false, .bool false] 57) = W0 := ⟨_, rfl⟩
  have b0 : Below w.heap.size w W0 := by rw [← hW0]; exact (Below.refl _ w).alloc (Nat.le_refl _) _
  have HV := hide (verb_any 3 (by omega) W0)
  have HB := hide b0
  rw [← hW0] at HV
  have HW := hide hW0
  clear hW0 b0
  go_enter Tryd.func22, Tryd.ntmps22
  go_wp2_with fail
  refine HV.out.mono ?_
  rintro e w1 ⟨rfl, b1⟩
  have hW : w.alloc (.cells #[.bool false, .bool false, .bool false, .bool false, .bool false, .bool false, .bool false, .bool false, .bool false, .bool false] 57) = W0 := HW.out
  rw [hW] at b1
  rw [show verbB 3 = ⟨#[99, 111, 110, 102, 105, 103, 117, 114, 101]⟩ from rfl]
  have f0 := World.alloc_heap_new w (.cells #[.bool false, .bool false, .bool false, .bool false, .bool false, .bool false, .bool false, .bool false, .bool false, .bool false] 57)
  rw [hW] at f0
  have f1 := (b1.block _ (Array.getElem?_eq_some_iff.1 f0).1).trans f0
  have hz : w.heap.size < w1.heap.size := (Array.getElem?_eq_some_iff.1 f1).1
  have HF := hide (And.intro f1 (HB.out.trans (b1.mono HB.out.size)))
  have c0 : w1.cell? ⟨w.heap.size, 0, none⟩ = some (.bool false) := by simp [World.cell?, f1]
  have c1 : w1.cell? ⟨w.heap.size, 1, none⟩ = some (.bool false) := by simp [World.cell?, f1]
  have c2 : w1.cell? ⟨w.heap.size, 2, none⟩ = some (.bool false) := by simp [World.cell?, f1]
  have c3 : w1.cell? ⟨w.heap.size, 3, none⟩ = some (.bool false) := by simp [World.cell?, f1]
  have c4 : w1.cell? ⟨w.heap.size, 4, none⟩ = some (.bool false) := by simp [World.cell?, f1]
  have c5 : w1.cell? ⟨w.heap.size, 5, none⟩ = some (.bool false) := by simp [World.cell?, f1]
  have c6 : w1.cell? ⟨w.heap.size, 6, none⟩ = some (.bool false) := by simp [World.cell?, f1]
  have c7 : w1.cell? ⟨w.heap.size, 7, none⟩ = some (.bool false) := by simp [World.cell?, f1]
  have c8 : w1.cell? ⟨w.heap.size, 8, none⟩ = some (.bool false) := by simp [World.cell?, f1]
  have c9 : w1.cell? ⟨w.heap.size, 9, none⟩ = some (.bool false) := by simp [World.cell?, f1]
  have z0 : w1.frozen? ⟨w.heap.size, 0, none⟩ = false := by simp [World.frozen?, f1]
  have z1 : w1.frozen? ⟨w.heap.size, 1, none⟩ = false := by simp [World.frozen?, f1]
  have z2 : w1.frozen? ⟨w.heap.size, 2, none⟩ = false := by simp [World.frozen?, f1]
  have z3 : w1.frozen? ⟨w.heap.size, 3, none⟩ = false := by simp [World.frozen?, f1]
  have z4 : w1.frozen? ⟨w.heap.size, 4, none⟩ = false := by simp [World.frozen?, f1]
  have z5 : w1.frozen? ⟨w.heap.size, 5, none⟩ = false := by simp [World.frozen?, f1]
  have z6 : w1.frozen? ⟨w.heap.size, 6, none⟩ = false := by simp [World.frozen?, f1]
  have z7 : w1.frozen? ⟨w.heap.size, 7, none⟩ = false := by simp [World.frozen?, f1]
  have z8 : w1.frozen? ⟨w.heap.size, 8, none⟩ = false := by simp [World.frozen?, f1]
  have z9 : w1.frozen? ⟨w.heap.size, 9, none⟩ = false := by simp [World.frozen?, f1]
  clear hW b1 f0 f1 HV HW HB
  go_wp2_with fail
  refine bodyPost_ret (results_th rfl rfl (keep_alloc (at_setQ (at_setQ (at_setQ (at_setQ (at_setQ (at_setQ (at_setQ (at_setQ (at_setQ (at_setQ (HF.out.1))))))))))))) rfl ⟨by first | rfl | (refine congrArg Ending.returned (congrArg Value.agg ?_); unfold thA nodeB itemB jidB roleB accB maxB depthB parB kindB textB; simp; omega), ?_⟩
  exact ((((((((((((HF.out.2).setCell (p := ⟨w.heap.size, 0, none⟩) (Nat.le_refl _) _).setCell (p := ⟨w.heap.size, 1, none⟩) (Nat.le_refl _) _).setCell (p := ⟨w.heap.size, 2, none⟩) (Nat.le_refl _) _).setCell (p := ⟨w.heap.size, 3, none⟩) (Nat.le_refl _) _).setCell (p := ⟨w.heap.size, 4, none⟩) (Nat.le_refl _) _).setCell (p := ⟨w.heap.size, 5, none⟩) (Nat.le_refl _) _).setCell (p := ⟨w.heap.size, 6, none⟩) (Nat.le_refl _) _).setCell (p := ⟨w.heap.size, 7, none⟩) (Nat.le_refl _) _).setCell (p := ⟨w.heap.size, 8, none⟩) (Nat.le_refl _) _).setCell (p := ⟨w.heap.size, 9, none⟩) (Nat.le_refl _) _)).alloc (by have := HF.out.2.size; simp; omega) _
set_option maxRecDepth 100000 in
set_option maxHeartbeats 2000000 in
theorem named_4 (w : World) : Calls Tryd.prog 22 #[.int .u8 4] w fun e w' => e = .returned (.agg (thA 4)) ∧ Below w.heap.size w w' := by
  obtain ⟨W0, hW0⟩ : ∃ W0, w.alloc (.cells #[.bool false, .bool false, .bool false, .bool false, .bool false, .bool false, .bool false, .bool false, .bool false, .bool false] 57) = W0 := ⟨_, rfl⟩
  have b0 : Below w.heap.size w W0 := by rw [← hW0]; exact (Below.refl _ w).alloc (Nat.le_refl _) _
  have HV := hide (verb_any 4 (by omega) W0)
  have HB := hide b0
  rw [← hW0] at HV
  have HW := hide hW0
  clear hW0 b0
  go_enter Tryd.func22, Tryd.ntmps22
  go_wp2_with fail
  refine HV.out.mono ?_
  rintro e w1 ⟨rfl, b1⟩
  have hW : w.alloc (.cells #[.bool false, .bool false, .bool false, .bool false, .bool false, .bool false, .bool false, .bool false, .bool false, .bool false] 57) = W0 := HW.out
  rw [hW] at b1
  rw [show verbB 4 = ⟨#[115, 117, 98, 115, 99, 114, 105, 98, 101]⟩ from rfl]
  have f0 := World.alloc_heap_new w (.cells #[.bool false, .bool false, .bool false, .bool false, .bool false, .bool false, .bool false, .bool false, .bool false, .bool false] 57)
  rw [hW] at f0
  have f1 := (b1.block _ (Array.getElem?_eq_some_iff.1 f0).1).trans f0
  have hz : w.heap.size < w1.heap.size := (Array.getElem?_eq_some_iff.1 f1).1
  have HF := hide (And.intro f1 (HB.out.trans (b1.mono HB.out.size)))
  have c0 : w1.cell? ⟨w.heap.size, 0, none⟩ = some (.bool false) := by simp [World.cell?, f1]
  have c1 : w1.cell? ⟨w.heap.size, 1, none⟩ = some (.bool false) := by simp [World.cell?, f1]
  have c2 : w1.cell? ⟨w.heap.size, 2, none⟩ = some (.bool false) := by simp [World.cell?, f1]
  have c3 : w1.cell? ⟨w.heap.size, 3, none⟩ = some (.bool false) := by simp [World.cell?, f1]
  have c4 : w1.cell? ⟨w.heap.size, 4, none⟩ = some (.bool false) := by simp [World.cell?, f1]
  have c5 : w1.cell? ⟨w.heap.size, 5, none⟩ = some (.bool false) := by simp [World.cell?, f1]
  have c6 : w1.cell? ⟨w.heap.size, 6, none⟩ = some (.bool false) := by simp [World.cell?, f1]
  have c7 : w1.cell? ⟨w.heap.size, 7, none⟩ = some (.bool false) := by simp [World.cell?, f1]
  have c8 : w1.cell? ⟨w.heap.size, 8, none⟩ = some (.bool false) := by simp [World.cell?, f1]
  have c9 : w1.cell? ⟨w.heap.size, 9, none⟩ = some (.bool false) := by simp [World.cell?, f1]
  have z0 : w1.frozen? ⟨w.heap.size, 0, none⟩ = false := by simp [World.frozen?, f1]
  have z1 : w1.frozen? ⟨w.heap.size, 1, none⟩ = false := by simp [World.frozen?, f1]
  have z2 : w1.frozen? ⟨w.heap.size, 2, none⟩ = false := by simp [World.frozen?, f1]
  have z3 : w1.frozen? ⟨w.heap.size, 3, none⟩ = false := by simp [World.frozen?, f1]
  have z4 : w1.frozen? ⟨w.heap.size, 4, none⟩ = false := by simp [World.frozen?, f1]
  have z5 : w1.frozen? ⟨w.heap.size, 5, none⟩ = false := by simp [World.frozen?, f1]
  have z6 : w1.frozen? ⟨w.heap.size, 6, none⟩ = false := by simp [World.frozen?, f1]
  have z7 : w1.frozen? ⟨w.heap.size, 7, none⟩ = false := by simp [World.frozen?, f1]
  have z8 : w1.frozen? ⟨w.heap.size, 8, none⟩ = false := by simp [World.frozen?, f1]
  have z9 : w1.frozen? ⟨w.heap.size, 9, none⟩ = false := by simp [World.frozen?, f1]
  clear hW b1 f0 f1 HV HW HB
  go_wp2_with fail
  refine bodyPost_ret (results_th rfl rfl (keep_alloc (at_setQ (at_setQ (at_setQ (at_setQ (at_setQ (at_setQ (at_setQ (at_setQ (at_setQ (at_setQ (HF.out.1))))))))))))) rfl ⟨by first | rfl | (refine congrArg Ending.returned (congrArg Value.agg ?_); unfold thA nodeB itemB jidB roleB accB maxB depthB parB kindB textB; simp; omega), ?_⟩
  exact ((((((((((((HF.out.2).setCell (p := ⟨w.heap.size, 0, none⟩) (Nat.le_refl _) _).setCell (p := ⟨w.heap.size, 1, none⟩) (Nat.le_refl _) _).setCell (p := ⟨w.heap.size, 2, none⟩) (Nat.le_refl _) _).setCell (p := ⟨w.heap.size, 3, none⟩) (Nat.le_refl _) _).setCell (p := ⟨w.heap.size, 4, none⟩) (Nat.le_refl _) _).setCell (p := ⟨w.heap.size, 5, none⟩) (Nat.le_refl _) _).setCell (p := ⟨w.heap.size, 6, none⟩) (Nat.le_refl _) _).setCell (p := ⟨w.heap.size, 7, none⟩) (Nat.le_refl _) _).setCell (p := ⟨w.heap.size, 8, none⟩) (Nat.le_refl _) _).setCell (p := ⟨w.heap.size, 9, none⟩) (Nat.le_refl _) _)).alloc (by have := HF.out.2.size; simp; omega) _
set_option maxRecDepth 100000 in
set_option maxHeartbeats 2000000 in
theorem named_5 (w : World) : Calls Tryd.prog 22 #[.int .u8 5] w fun e w' => e = .returned (.agg (thA 5)) ∧ Below w.heap.size w w' := by
  obtain ⟨W0, hW0⟩ : ∃ W0, w.alloc (.cells #[.bool false, .bool false, .bool false, .bool false, .bool false, .bool false, .bool false, .bool false, .bool false, .bool false] 57) = W0 := ⟨_, rfl⟩
  have b0 : Below w.heap.size w W0 := by rw [← hW0]; exact (Below.refl _ w).alloc (Nat.le_refl _) _
  have HV := hide (verb_any 5 (by omega) W0)
  have HB := hide b0
  rw [← hW0] at HV
  have HW := hide hW0
  clear hW0 b0
  go_enter Tryd.func22, Tryd.ntmps22
  go_wp2_with fail
  refine HV.out.mono ?_
  rintro e w1 ⟨rfl, b1⟩
  have hW : w.alloc (.cells #[.bool false, .bool false, .bool false, .bool false, .bool false, .bool false, .bool false, .bool false, .bool false, .bool false] 57) = W0 := HW.out
  rw [hW] at b1
  rw [show verbB 5 = ⟨#[117, 110, 115, 117, 98, 115, 99, 114, 105, 98, 101]⟩ from rfl]
  have f0 := World.alloc_heap_new w (.cells #[.bool false, .bool false, .bool false, .bool false, .bool false, .bool false, .bool false, .bool false, .bool false, .bool false] 57)
  rw [hW] at f0
  have f1 := (b1.block _ (Array.getElem?_eq_some_iff.1 f0).1).trans f0
  have hz : w.heap.size < w1.heap.size := (Array.getElem?_eq_some_iff.1 f1).1
  have HF := hide (And.intro f1 (HB.out.trans (b1.mono HB.out.size)))
  have c0 : w1.cell? ⟨w.heap.size, 0, none⟩ = some (.bool false) := by simp [World.cell?, f1]
  have c1 : w1.cell? ⟨w.heap.size, 1, none⟩ = some (.bool false) := by simp [World.cell?, f1]
  have c2 : w1.cell? ⟨w.heap.size, 2, none⟩ = some (.bool false) := by simp [World.cell?, f1]
  have c3 : w1.cell? ⟨w.heap.size, 3, none⟩ = some (.bool false) := by simp [World.cell?, f1]
  have c4 : w1.cell? ⟨w.heap.size, 4, none⟩ = some (.bool false) := by simp [World.cell?, f1]
  have c5 : w1.cell? ⟨w.heap.size, 5, none⟩ = some (.bool false) := by simp [World.cell?, f1]
  have c6 : w1.cell? ⟨w.heap.size, 6, none⟩ = some (.bool false) := by simp [World.cell?, f1]
  have c7 : w1.cell? ⟨w.heap.size, 7, none⟩ = some (.bool false) := by simp [World.cell?, f1]
  have c8 : w1.cell? ⟨w.heap.size, 8, none⟩ = some (.bool false) := by simp [World.cell?, f1]
  have c9 : w1.cell? ⟨w.heap.size, 9, none⟩ = some (.bool false) := by simp [World.cell?, f1]
  have z0 : w1.frozen? ⟨w.heap.size, 0, none⟩ = false := by simp [World.frozen?, f1]
  have z1 : w1.frozen? ⟨w.heap.size, 1, none⟩ = false := by simp [World.frozen?, f1]
  have z2 : w1.frozen? ⟨w.heap.size, 2, none⟩ = false := by simp [World.frozen?, f1]
  have z3 : w1.frozen? ⟨w.heap.size, 3, none⟩ = false := by simp [World.frozen?, f1]
  have z4 : w1.frozen? ⟨w.heap.size, 4, none⟩ = false := by simp [World.frozen?, f1]
  have z5 : w1.frozen? ⟨w.heap.size, 5, none⟩ = false := by simp [World.frozen?, f1]
  have z6 : w1.frozen? ⟨w.heap.size, 6, none⟩ = false := by simp [World.frozen?, f1]
  have z7 : w1.frozen? ⟨w.heap.size, 7, none⟩ = false := by simp [World.frozen?, f1]
  have z8 : w1.frozen? ⟨w.heap.size, 8, none⟩ = false := by simp [World.frozen?, f1]
  have z9 : w1.frozen? ⟨w.heap.size, 9, none⟩ = false := by simp [World.frozen?, f1]
  clear hW b1 f0 f1 HV HW HB
  go_wp2_with fail
  refine bodyPost_ret (results_th rfl rfl (keep_alloc (at_setQ (at_setQ (at_setQ (at_setQ (at_setQ (at_setQ (at_setQ (at_setQ (at_setQ (at_setQ (HF.out.1))))))))))))) rfl ⟨by first | rfl | (refine congrArg Ending.returned (congrArg Value.agg ?_); unfold thA nodeB itemB jidB roleB accB maxB depthB parB kindB textB; simp; omega), ?_⟩
  exact ((((((((((((HF.out.2).setCell (p := ⟨w.heap.size, 0, none⟩) (Nat.le_refl _) _).setCell (p := ⟨w.heap.size, 1, none⟩) (Nat.le_refl _) _).setCell (p := ⟨w.heap.size, 2, none⟩) (Nat.le_refl _) _).setCell (p := ⟨w.heap.size, 3, none⟩) (Nat.le_refl _) _).setCell (p := ⟨w.heap.size, 4, none⟩) (Nat.le_refl _) _).setCell (p := ⟨w.heap.size, 5, none⟩) (Nat.le_refl _) _).setCell (p := ⟨w.heap.size, 6, none⟩) (Nat.le_refl _) _).setCell (p := ⟨w.heap.size, 7, none⟩) (Nat.le_refl _) _).setCell (p := ⟨w.heap.size, 8, none⟩) (Nat.le_refl _) _).setCell (p := ⟨w.heap.size, 9, none⟩) (Nat.le_refl _) _)).alloc (by have := HF.out.2.size; simp; omega) _
set_option maxRecDepth 100000 in
set_option maxHeartbeats 2000000 in
theorem named_6 (w : World) : Calls Tryd.prog 22 #[.int .u8 6] w fun e w' => e = .returned (.agg (thA 6)) ∧ Below w.heap.size w w' := by
  obtain ⟨W0, hW0⟩ : ∃ W0, w.alloc (.cells #[.bool false, .bool false, .bool false, .bool false, .bool false, .bool false, .bool false, .bool false, .bool false, .bool false] 57) = W0 := ⟨_, rfl⟩
  have b0 : Below w.heap.size w W0 := by rw [← hW0]; exact (Below.refl _ w).alloc (Nat.le_refl _) _
  have HV := hide (verb_any 6 (by omega) W0)
  have HB := hide b0
  rw [← hW0] at HV
  have HW := hide hW0
  clear hW0 b0
  go_enter Tryd.func22, Tryd.ntmps22
  go_wp2_with fail
  refine HV.out.mono ?_
  rintro e w1 ⟨rfl, b1⟩
  have hW : w.alloc (.cells #[.bool false, .bool false, .bool false, .bool false, .bool false, .bool false, .bool false, .bool false, .bool false, .bool false] 57) = W0 := HW.out
  rw [hW] at b1
  rw [show verbB 6 = ⟨#[97, 112, 112, 114, 111, 118, 101]⟩ from rfl]
  have f0 := World.alloc_heap_new w (.cells #[.bool false, .bool false, .bool false, .bool false, .bool false, .bool false, .bool false, .bool false, .bool false, .bool false] 57)
  rw [hW] at f0
  have f1 := (b1.block _ (Array.getElem?_eq_some_iff.1 f0).1).trans f0
  have hz : w.heap.size < w1.heap.size := (Array.getElem?_eq_some_iff.1 f1).1
  have HF := hide (And.intro f1 (HB.out.trans (b1.mono HB.out.size)))
  have c0 : w1.cell? ⟨w.heap.size, 0, none⟩ = some (.bool false) := by simp [World.cell?, f1]
  have c1 : w1.cell? ⟨w.heap.size, 1, none⟩ = some (.bool false) := by simp [World.cell?, f1]
  have c2 : w1.cell? ⟨w.heap.size, 2, none⟩ = some (.bool false) := by simp [World.cell?, f1]
  have c3 : w1.cell? ⟨w.heap.size, 3, none⟩ = some (.bool false) := by simp [World.cell?, f1]
  have c4 : w1.cell? ⟨w.heap.size, 4, none⟩ = some (.bool false) := by simp [World.cell?, f1]
  have c5 : w1.cell? ⟨w.heap.size, 5, none⟩ = some (.bool false) := by simp [World.cell?, f1]
  have c6 : w1.cell? ⟨w.heap.size, 6, none⟩ = some (.bool false) := by simp [World.cell?, f1]
  have c7 : w1.cell? ⟨w.heap.size, 7, none⟩ = some (.bool false) := by simp [World.cell?, f1]
  have c8 : w1.cell? ⟨w.heap.size, 8, none⟩ = some (.bool false) := by simp [World.cell?, f1]
  have c9 : w1.cell? ⟨w.heap.size, 9, none⟩ = some (.bool false) := by simp [World.cell?, f1]
  have z0 : w1.frozen? ⟨w.heap.size, 0, none⟩ = false := by simp [World.frozen?, f1]
  have z1 : w1.frozen? ⟨w.heap.size, 1, none⟩ = false := by simp [World.frozen?, f1]
  have z2 : w1.frozen? ⟨w.heap.size, 2, none⟩ = false := by simp [World.frozen?, f1]
  have z3 : w1.frozen? ⟨w.heap.size, 3, none⟩ = false := by simp [World.frozen?, f1]
  have z4 : w1.frozen? ⟨w.heap.size, 4, none⟩ = false := by simp [World.frozen?, f1]
  have z5 : w1.frozen? ⟨w.heap.size, 5, none⟩ = false := by simp [World.frozen?, f1]
  have z6 : w1.frozen? ⟨w.heap.size, 6, none⟩ = false := by simp [World.frozen?, f1]
  have z7 : w1.frozen? ⟨w.heap.size, 7, none⟩ = false := by simp [World.frozen?, f1]
  have z8 : w1.frozen? ⟨w.heap.size, 8, none⟩ = false := by simp [World.frozen?, f1]
  have z9 : w1.frozen? ⟨w.heap.size, 9, none⟩ = false := by simp [World.frozen?, f1]
  clear hW b1 f0 f1 HV HW HB
  go_wp2_with fail
  refine bodyPost_ret (results_th rfl rfl (keep_alloc (at_setQ (at_setQ (at_setQ (at_setQ (at_setQ (at_setQ (at_setQ (at_setQ (at_setQ (at_setQ (HF.out.1))))))))))))) rfl ⟨by first | rfl | (refine congrArg Ending.returned (congrArg Value.agg ?_); unfold thA nodeB itemB jidB roleB accB maxB depthB parB kindB textB; simp; omega), ?_⟩
  exact ((((((((((((HF.out.2).setCell (p := ⟨w.heap.size, 0, none⟩) (Nat.le_refl _) _).setCell (p := ⟨w.heap.size, 1, none⟩) (Nat.le_refl _) _).setCell (p := ⟨w.heap.size, 2, none⟩) (Nat.le_refl _) _).setCell (p := ⟨w.heap.size, 3, none⟩) (Nat.le_refl _) _).setCell (p := ⟨w.heap.size, 4, none⟩) (Nat.le_refl _) _).setCell (p := ⟨w.heap.size, 5, none⟩) (Nat.le_refl _) _).setCell (p := ⟨w.heap.size, 6, none⟩) (Nat.le_refl _) _).setCell (p := ⟨w.heap.size, 7, none⟩) (Nat.le_refl _) _).setCell (p := ⟨w.heap.size, 8, none⟩) (Nat.le_refl _) _).setCell (p := ⟨w.heap.size, 9, none⟩) (Nat.le_refl _) _)).alloc (by have := HF.out.2.size; simp; omega) _
set_option maxRecDepth 100000 in
set_option maxHeartbeats 2000000 in
theorem named_7 (w : World) : Calls Tryd.prog 22 #[.int .u8 7] w fun e w' => e = .returned (.agg (thA 7)) ∧ Below w.heap.size w w' := by
  obtain ⟨W0, hW0⟩ : ∃ W0, w.alloc (.cells #[.bool false, .bool false, .bool false, .bool false, .bool false, .bool false, .bool false, .bool false, .bool false, .bool false] 57) = W0 := ⟨_, rfl⟩
  have b0 : Below w.heap.size w W0 := by rw [← hW0]; exact (Below.refl _ w).alloc (Nat.le_refl _) _
  have HV := hide (verb_any 7 (by omega) W0)
  have HB := hide b0
  rw [← hW0] at HV
  have HW := hide hW0
  clear hW0 b0
  go_enter Tryd.func22, Tryd.ntmps22
  go_wp2_with fail
  refine HV.out.mono ?_
  rintro e w1 ⟨rfl, b1⟩
  have hW : w.alloc (.cells #[.bool false, .bool false, .bool false, .bool false, .bool false, .bool false, .bool false, .bool false, .bool false, .bool false] 57) = W0 := HW.out
  rw [hW] at b1
  rw [show verbB 7 = ⟨#[100, 101, 110, 121]⟩ from rfl]
  have f0 := World.alloc_heap_new w (.cells #[.bool false, .bool false, .bool false, .bool false, .bool false, .bool false, .bool false, .bool false, .bool false, .bool false] 57)
  rw [hW] at f0
  have f1 := (b1.block _ (Array.getElem?_eq_some_iff.1 f0).1).trans f0
  have hz : w.heap.size < w1.heap.size := (Array.getElem?_eq_some_iff.1 f1).1
  have HF := hide (And.intro f1 (HB.out.trans (b1.mono HB.out.size)))
  have c0 : w1.cell? ⟨w.heap.size, 0, none⟩ = some (.bool false) := by simp [World.cell?, f1]
  have c1 : w1.cell? ⟨w.heap.size, 1, none⟩ = some (.bool false) := by simp [World.cell?, f1]
  have c2 : w1.cell? ⟨w.heap.size, 2, none⟩ = some (.bool false) := by simp [World.cell?, f1]
  have c3 : w1.cell? ⟨w.heap.size, 3, none⟩ = some (.bool false) := by simp [World.cell?, f1]
  have c4 : w1.cell? ⟨w.heap.size, 4, none⟩ = some (.bool false) := by simp [World.cell?, f1]
  have c5 : w1.cell? ⟨w.heap.size, 5, none⟩ = some (.bool false) := by simp [World.cell?, f1]
  have c6 : w1.cell? ⟨w.heap.size, 6, none⟩ = some (.bool false) := by simp [World.cell?, f1]
  have c7 : w1.cell? ⟨w.heap.size, 7, none⟩ = some (.bool false) := by simp [World.cell?, f1]
  have c8 : w1.cell? ⟨w.heap.size, 8, none⟩ = some (.bool false) := by simp [World.cell?, f1]
  have c9 : w1.cell? ⟨w.heap.size, 9, none⟩ = some (.bool false) := by simp [World.cell?, f1]
  have z0 : w1.frozen? ⟨w.heap.size, 0, none⟩ = false := by simp [World.frozen?, f1]
  have z1 : w1.frozen? ⟨w.heap.size, 1, none⟩ = false := by simp [World.frozen?, f1]
  have z2 : w1.frozen? ⟨w.heap.size, 2, none⟩ = false := by simp [World.frozen?, f1]
  have z3 : w1.frozen? ⟨w.heap.size, 3, none⟩ = false := by simp [World.frozen?, f1]
  have z4 : w1.frozen? ⟨w.heap.size, 4, none⟩ = false := by simp [World.frozen?, f1]
  have z5 : w1.frozen? ⟨w.heap.size, 5, none⟩ = false := by simp [World.frozen?, f1]
  have z6 : w1.frozen? ⟨w.heap.size, 6, none⟩ = false := by simp [World.frozen?, f1]
  have z7 : w1.frozen? ⟨w.heap.size, 7, none⟩ = false := by simp [World.frozen?, f1]
  have z8 : w1.frozen? ⟨w.heap.size, 8, none⟩ = false := by simp [World.frozen?, f1]
  have z9 : w1.frozen? ⟨w.heap.size, 9, none⟩ = false := by simp [World.frozen?, f1]
  clear hW b1 f0 f1 HV HW HB
  go_wp2_with fail
  refine bodyPost_ret (results_th rfl rfl (keep_alloc (at_setQ (at_setQ (at_setQ (at_setQ (at_setQ (at_setQ (at_setQ (at_setQ (at_setQ (at_setQ (HF.out.1))))))))))))) rfl ⟨by first | rfl | (refine congrArg Ending.returned (congrArg Value.agg ?_); unfold thA nodeB itemB jidB roleB accB maxB depthB parB kindB textB; simp; omega), ?_⟩
  exact ((((((((((((HF.out.2).setCell (p := ⟨w.heap.size, 0, none⟩) (Nat.le_refl _) _).setCell (p := ⟨w.heap.size, 1, none⟩) (Nat.le_refl _) _).setCell (p := ⟨w.heap.size, 2, none⟩) (Nat.le_refl _) _).setCell (p := ⟨w.heap.size, 3, none⟩) (Nat.le_refl _) _).setCell (p := ⟨w.heap.size, 4, none⟩) (Nat.le_refl _) _).setCell (p := ⟨w.heap.size, 5, none⟩) (Nat.le_refl _) _).setCell (p := ⟨w.heap.size, 6, none⟩) (Nat.le_refl _) _).setCell (p := ⟨w.heap.size, 7, none⟩) (Nat.le_refl _) _).setCell (p := ⟨w.heap.size, 8, none⟩) (Nat.le_refl _) _).setCell (p := ⟨w.heap.size, 9, none⟩) (Nat.le_refl _) _)).alloc (by have := HF.out.2.size; simp; omega) _
set_option maxRecDepth 100000 in
set_option maxHeartbeats 2000000 in
theorem named_8 (w : World) : Calls Tryd.prog 22 #[.int .u8 8] w fun e w' => e = .returned (.agg (thA 8)) ∧ Below w.heap.size w w' := by
  obtain ⟨W0, hW0⟩ : ∃ W0, w.alloc (.cells #[.bool false, .bool false, .bool false, .bool false, .bool false, .bool false, .bool false, .bool false, .bool false, .bool false] 57) = W0 := ⟨_, rfl⟩
  have b0 : Below w.heap.size w W0 := by rw [← hW0]; exact (Below.refl _ w).alloc (Nat.le_refl _) _
  have HV := hide (verb_any 8 (by omega) W0)
  have HB := hide b0
  rw [← hW0] at HV
  have HW := hide hW0
  clear hW0 b0
  go_enter Tryd.func22, Tryd.ntmps22
  go_wp2_with fail
  refine HV.out.mono ?_
  rintro e w1 ⟨rfl, b1⟩
  have hW : w.alloc (.cells #[.bool false, .bool false, .bool false, .bool false, .bool false, .bool false, .bool false, .bool false, .bool false, .bool false] 57) = W0 := HW.out
  rw [hW] at b1
  rw [show verbB 8 = ⟨#[97, 102, 102, 105, 108, 105, 97, 116, 101]⟩ from rfl]
  have f0 := World.alloc_heap_new w (.cells #[.bool false, .bool false, .bool false, .bool false, .bool false, .bool false, .bool false, .bool false, .bool false, .bool false] 57)
  rw [hW] at f0
  have f1 := (b1.block _ (Array.getElem?_eq_some_iff.1 f0).1).trans f0
  have hz : w.heap.size < w1.heap.size := (Array.getElem?_eq_some_iff.1 f1).1
  have HF := hide (And.intro f1 (HB.out.trans (b1.mono HB.out.size)))
  have c0 : w1.cell? ⟨w.heap.size, 0, none⟩ = some (.bool false) := by simp [World.cell?, f1]
  have c1 : w1.cell? ⟨w.heap.size, 1, none⟩ = some (.bool false) := by simp [World.cell?, f1]
  have c2 : w1.cell? ⟨w.heap.size, 2, none⟩ = some (.bool false) := by simp [World.cell?, f1]
  have c3 : w1.cell? ⟨w.heap.size, 3, none⟩ = some (.bool false) := by simp [World.cell?, f1]
  have c4 : w1.cell? ⟨w.heap.size, 4, none⟩ = some (.bool false) := by simp [World.cell?, f1]
  have c5 : w1.cell? ⟨w.heap.size, 5, none⟩ = some (.bool false) := by simp [World.cell?, f1]
  have c6 : w1.cell? ⟨w.heap.size, 6, none⟩ = some (.bool false) := by simp [World.cell?, f1]
  have c7 : w1.cell? ⟨w.heap.size, 7, none⟩ = some (.bool false) := by simp [World.cell?, f1]
  have c8 : w1.cell? ⟨w.heap.size, 8, none⟩ = some (.bool false) := by simp [World.cell?, f1]
  have c9 : w1.cell? ⟨w.heap.size, 9, none⟩ = some (.bool false) := by simp [World.cell?, f1]
  have z0 : w1.frozen? ⟨w.heap.size, 0, none⟩ = false := by simp [World.frozen?, f1]
  have z1 : w1.frozen? ⟨w.heap.size, 1, none⟩ = false := by simp [World.frozen?, f1]
  have z2 : w1.frozen? ⟨w.heap.size, 2, none⟩ = false := by simp [World.frozen?, f1]
  have z3 : w1.frozen? ⟨w.heap.size, 3, none⟩ = false := by simp [World.frozen?, f1]
  have z4 : w1.frozen? ⟨w.heap.size, 4, none⟩ = false := by simp [World.frozen?, f1]
  have z5 : w1.frozen? ⟨w.heap.size, 5, none⟩ = false := by simp [World.frozen?, f1]
  have z6 : w1.frozen? ⟨w.heap.size, 6, none⟩ = false := by simp [World.frozen?, f1]
  have z7 : w1.frozen? ⟨w.heap.size, 7, none⟩ = false := by simp [World.frozen?, f1]
  have z8 : w1.frozen? ⟨w.heap.size, 8, none⟩ = false := by simp [World.frozen?, f1]
  have z9 : w1.frozen? ⟨w.heap.size, 9, none⟩ = false := by simp [World.frozen?, f1]
  clear hW b1 f0 f1 HV HW HB
  go_wp2_with fail
  refine bodyPost_ret (results_th rfl rfl (keep_alloc (at_setQ (at_setQ (at_setQ (at_setQ (at_setQ (at_setQ (at_setQ (at_setQ (at_setQ (at_setQ (HF.out.1))))))))))))) rfl ⟨by first | rfl | (refine congrArg Ending.returned (congrArg Value.agg ?_); unfold thA nodeB itemB jidB roleB accB maxB depthB parB kindB textB; simp; omega), ?_⟩
  exact ((((((((((((HF.out.2).setCell (p := ⟨w.heap.size, 0, none⟩) (Nat.le_refl _) _).setCell (p := ⟨w.heap.size, 1, none⟩) (Nat.le_refl _) _).setCell (p := ⟨w.heap.size, 2, none⟩) (Nat.le_refl _) _).setCell (p := ⟨w.heap.size, 3, none⟩) (Nat.le_refl _) _).setCell (p := ⟨w.heap.size, 4, none⟩) (Nat.le_refl _) _).setCell (p := ⟨w.heap.size, 5, none⟩) (Nat.le_refl _) _).setCell (p := ⟨w.heap.size, 6, none⟩) (Nat.le_refl _) _).setCell (p := ⟨w.heap.size, 7, none⟩) (Nat.le_refl _) _).setCell (p := ⟨w.heap.size, 8, none⟩) (Nat.le_refl _) _).setCell (p := ⟨w.heap.size, 9, none⟩) (Nat.le_refl _) _)).alloc (by have := HF.out.2.size; simp; omega) _
set_option maxRecDepth 100000 in
set_option maxHeartbeats 2000000 in
theorem named_9 (w : World) : Calls Tryd.prog 22 #[.int .u8 9] w fun e w' => e = .returned (.agg (thA 9)) ∧ Below w.heap.size w w' := by
  obtain ⟨W0, hW0⟩ : ∃ W0, w.alloc (.cells #[.bool false, .bool false, .bool false, .bool false, .bool false, .bool false, .bool false, .bool false, .bool false, .bool false] 57) = W0 := ⟨_, rfl⟩
  have b0 : Below w.heap.size w W0 := by rw [← hW0]; exact (Below.refl _ w).alloc (Nat.le_refl _) _
  have HV := hide (verb_any 9 (by omega) W0)
  have HB := hide b0
  rw [← hW0] at HV
  have HW := hide hW0
  clear hW0 b0
  go_enter Tryd.func22, Tryd.ntmps22
  go_wp2_with fail
  refine HV.out.mono ?_
  rintro e w1 ⟨rfl, b1⟩
  have hW : w.alloc (.cells #[.bool false, .bool false, .bool false, .bool false, .bool false, .bool false, .bool false, .bool false, .bool false, .bool false] 57) = W0 := HW.out
  rw [hW] at b1
  rw [show verbB 9 = ⟨#[112, 117, 98, 108, 105, 115, 104]⟩ from rfl]
  have f0 := World.alloc_heap_new w (.cells #[.bool false, .bool false, .bool false, .bool false, .bool false, .bool false, .bool false, .bool false, .bool false, .bool false] 57)
  rw [hW] at f0
  have f1 := (b1.block _ (Array.getElem?_eq_some_iff.1 f0).1).trans f0
  have hz : w.heap.size < w1.heap.size := (Array.getElem?_eq_some_iff.1 f1).1
  have HF := hide (And.intro f1 (HB.out.trans (b1.mono HB.out.size)))
  have c0 : w1.cell? ⟨w.heap.size, 0, none⟩ = some (.bool false) := by simp [World.cell?, f1]
  have c1 : w1.cell? ⟨w.heap.size, 1, none⟩ = some (.bool false) := by simp [World.cell?, f1]
  have c2 : w1.cell? ⟨w.heap.size, 2, none⟩ = some (.bool false) := by simp [World.cell?, f1]
  have c3 : w1.cell? ⟨w.heap.size, 3, none⟩ = some (.bool false) := by simp [World.cell?, f1]
  have c4 : w1.cell? ⟨w.heap.size, 4, none⟩ = some (.bool false) := by simp [World.cell?, f1]
  have c5 : w1.cell? ⟨w.heap.size, 5, none⟩ = some (.bool false) := by simp [World.cell?, f1]
  have c6 : w1.cell? ⟨w.heap.size, 6, none⟩ = some (.bool false) := by simp [World.cell?, f1]
  have c7 : w1.cell? ⟨w.heap.size, 7, none⟩ = some (.bool false) := by simp [World.cell?, f1]
  have c8 : w1.cell? ⟨w.heap.size, 8, none⟩ = some (.bool false) := by simp [World.cell?, f1]
  have c9 : w1.cell? ⟨w.heap.size, 9, none⟩ = some (.bool false) := by simp [World.cell?, f1]
  have z0 : w1.frozen? ⟨w.heap.size, 0, none⟩ = false := by simp [World.frozen?, f1]
  have z1 : w1.frozen? ⟨w.heap.size, 1, none⟩ = false := by simp [World.frozen?, f1]
  have z2 : w1.frozen? ⟨w.heap.size, 2, none⟩ = false := by simp [World.frozen?, f1]
  have z3 : w1.frozen? ⟨w.heap.size, 3, none⟩ = false := by simp [World.frozen?, f1]
  have z4 : w1.frozen? ⟨w.heap.size, 4, none⟩ = false := by simp [World.frozen?, f1]
  have z5 : w1.frozen? ⟨w.heap.size, 5, none⟩ = false := by simp [World.frozen?, f1]
  have z6 : w1.frozen? ⟨w.heap.size, 6, none⟩ = false := by simp [World.frozen?, f1]
  have z7 : w1.frozen? ⟨w.heap.size, 7, none⟩ = false := by simp [World.frozen?, f1]
  have z8 : w1.frozen? ⟨w.heap.size, 8, none⟩ = false := by simp [World.frozen?, f1]
  have z9 : w1.frozen? ⟨w.heap.size, 9, none⟩ = false := by simp [World.frozen?, f1]
  clear hW b1 f0 f1 HV HW HB
  go_wp2_with fail
  refine bodyPost_ret (results_th rfl rfl (keep_alloc (at_setQ (at_setQ (at_setQ (at_setQ (at_setQ (at_setQ (at_setQ (at_setQ (at_setQ (at_setQ (HF.out.1))))))))))))) rfl ⟨by first | rfl | (refine congrArg Ending.returned (congrArg Value.agg ?_); unfold thA nodeB itemB jidB roleB accB maxB depthB parB kindB textB; simp; omega), ?_⟩
  exact ((((((((((((HF.out.2).setCell (p := ⟨w.heap.size, 0, none⟩) (Nat.le_refl _) _).setCell (p := ⟨w.heap.size, 1, none⟩) (Nat.le_refl _) _).setCell (p := ⟨w.heap.size, 2, none⟩) (Nat.le_refl _) _).setCell (p := ⟨w.heap.size, 3, none⟩) (Nat.le_refl _) _).setCell (p := ⟨w.heap.size, 4, none⟩) (Nat.le_refl _) _).setCell (p := ⟨w.heap.size, 5, none⟩) (Nat.le_refl _) _).setCell (p := ⟨w.heap.size, 6, none⟩) (Nat.le_refl _) _).setCell (p := ⟨w.heap.size, 7, none⟩) (Nat.le_refl _) _).setCell (p := ⟨w.heap.size, 8, none⟩) (Nat.le_refl _) _).setCell (p := ⟨w.heap.size, 9, none⟩) (Nat.le_refl _) _)).alloc (by have := HF.out.2.size; simp; omega) _
set_option maxRecDepth 100000 in
set_option maxHeartbeats 2000000 in
theorem named_10 (w : World) : Calls Tryd.prog 22 #[.int .u8 10] w fun e w' => e = .returned (.agg (thA 10)) ∧ Below w.heap.size w w' := by
  obtain ⟨W0, hW0⟩ : ∃ W0, w.alloc (.cells #[.bool false, .bool false, .bool false, .bool false, .bool false, .bool false, .bool false, .bool false, .bool false, .bool false] 57) = W0 := ⟨_, rfl⟩
  have b0 : Below w.heap.size w W0 := by rw [← hW0]; exact (Below.refl _ w).alloc (Nat.le_refl _) _
  have HV := hide (verb_any 10 (by omega) W0)
  have HB := hide b0
  rw [← hW0] at HV
  have HW := hide hW0
  clear hW0 b0
  go_enter Tryd.func22, Tryd.ntmps22
  go_wp2_with fail
  refine HV.out.mono ?_
  rintro e w1 ⟨rfl, b1⟩
  have hW : w.alloc (.cells #[.bool false, .bool false, .bool false, .bool false, .bool false, .bool false, .bool false, .bool false, .bool false, .bool false] 57) = W0 := HW.out
  rw [hW] at b1
  rw [show verbB 10 = ⟨#[114, 101, 116, 114, 97, 99, 116]⟩ from rfl]
  have f0 := World.alloc_heap_new w (.cells #[.bool false, .bool false, .bool false, .bool false, .bool false, .bool false, .bool false, .bool false, .bool false, .bool false] 57)
  rw [hW] at f0
  have f1 := (b1.block _ (Array.getElem?_eq_some_iff.1 f0).1).trans f0
  have hz : w.heap.size < w1.heap.size := (Array.getElem?_eq_some_iff.1 f1).1
  have HF := hide (And.intro f1 (HB.out.trans (b1.mono HB.out.size)))
  have c0 : w1.cell? ⟨w.heap.size, 0, none⟩ = some (.bool false) := by simp [World.cell?, f1]
  have c1 : w1.cell? ⟨w.heap.size, 1, none⟩ = some (.bool false) := by simp [World.cell?, f1]
  have c2 : w1.cell? ⟨w.heap.size, 2, none⟩ = some (.bool false) := by simp [World.cell?, f1]
  have c3 : w1.cell? ⟨w.heap.size, 3, none⟩ = some (.bool false) := by simp [World.cell?, f1]
  have c4 : w1.cell? ⟨w.heap.size, 4, none⟩ = some (.bool false) := by simp [World.cell?, f1]
  have c5 : w1.cell? ⟨w.heap.size, 5, none⟩ = some (.bool false) := by simp [World.cell?, f1]
  have c6 : w1.cell? ⟨w.heap.size, 6, none⟩ = some (.bool false) := by simp [World.cell?, f1]
  have c7 : w1.cell? ⟨w.heap.size, 7, none⟩ = some (.bool false) := by simp [World.cell?, f1]
  have c8 : w1.cell? ⟨w.heap.size, 8, none⟩ = some (.bool false) := by simp [World.cell?, f1]
  have c9 : w1.cell? ⟨w.heap.size, 9, none⟩ = some (.bool false) := by simp [World.cell?, f1]
  have z0 : w1.frozen? ⟨w.heap.size, 0, none⟩ = false := by simp [World.frozen?, f1]
  have z1 : w1.frozen? ⟨w.heap.size, 1, none⟩ = false := by simp [World.frozen?, f1]
  have z2 : w1.frozen? ⟨w.heap.size, 2, none⟩ = false := by simp [World.frozen?, f1]
  have z3 : w1.frozen? ⟨w.heap.size, 3, none⟩ = false := by simp [World.frozen?, f1]
  have z4 : w1.frozen? ⟨w.heap.size, 4, none⟩ = false := by simp [World.frozen?, f1]
  have z5 : w1.frozen? ⟨w.heap.size, 5, none⟩ = false := by simp [World.frozen?, f1]
  have z6 : w1.frozen? ⟨w.heap.size, 6, none⟩ = false := by simp [World.frozen?, f1]
  have z7 : w1.frozen? ⟨w.heap.size, 7, none⟩ = false := by simp [World.frozen?, f1]
  have z8 : w1.frozen? ⟨w.heap.size, 8, none⟩ = false := by simp [World.frozen?, f1]
  have z9 : w1.frozen? ⟨w.heap.size, 9, none⟩ = false := by simp [World.frozen?, f1]
  clear hW b1 f0 f1 HV HW HB
  go_wp2_with fail
  refine bodyPost_ret (results_th rfl rfl (keep_alloc (at_setQ (at_setQ (at_setQ (at_setQ (at_setQ (at_setQ (at_setQ (at_setQ (at_setQ (at_setQ (HF.out.1))))))))))))) rfl ⟨by first | rfl | (refine congrArg Ending.returned (congrArg Value.agg ?_); unfold thA nodeB itemB jidB roleB accB maxB depthB parB kindB textB; simp; omega), ?_⟩
  exact ((((((((((((HF.out.2).setCell (p := ⟨w.heap.size, 0, none⟩) (Nat.le_refl _) _).setCell (p := ⟨w.heap.size, 1, none⟩) (Nat.le_refl _) _).setCell (p := ⟨w.heap.size, 2, none⟩) (Nat.le_refl _) _).setCell (p := ⟨w.heap.size, 3, none⟩) (Nat.le_refl _) _).setCell (p := ⟨w.heap.size, 4, none⟩) (Nat.le_refl _) _).setCell (p := ⟨w.heap.size, 5, none⟩) (Nat.le_refl _) _).setCell (p := ⟨w.heap.size, 6, none⟩) (Nat.le_refl _) _).setCell (p := ⟨w.heap.size, 7, none⟩) (Nat.le_refl _) _).setCell (p := ⟨w.heap.size, 8, none⟩) (Nat.le_refl _) _).setCell (p := ⟨w.heap.size, 9, none⟩) (Nat.le_refl _) _)).alloc (by have := HF.out.2.size; simp; omega) _
set_option maxRecDepth 100000 in
set_option maxHeartbeats 2000000 in
theorem named_11 (w : World) : Calls Tryd.prog 22 #[.int .u8 11] w fun e w' => e = .returned (.agg (thA 11)) ∧ Below w.heap.size w w' := by
  obtain ⟨W0, hW0⟩ : ∃ W0, w.alloc (.cells #[.bool false, .bool false, .bool false, .bool false, .bool false, .bool false, .bool false, .bool false, .bool false, .bool false] 57) = W0 := ⟨_, rfl⟩
  have b0 : Below w.heap.size w W0 := by rw [← hW0]; exact (Below.refl _ w).alloc (Nat.le_refl _) _
  have HV := hide (verb_any 11 (by omega) W0)
  have HB := hide b0
  rw [← hW0] at HV
  have HW := hide hW0
  clear hW0 b0
  go_enter Tryd.func22, Tryd.ntmps22
  go_wp2_with fail
  refine HV.out.mono ?_
  rintro e w1 ⟨rfl, b1⟩
  have hW : w.alloc (.cells #[.bool false, .bool false, .bool false, .bool false, .bool false, .bool false, .bool false, .bool false, .bool false, .bool false] 57) = W0 := HW.out
  rw [hW] at b1
  rw [show verbB 11 = ⟨#[112, 117, 114, 103, 101]⟩ from rfl]
  have f0 := World.alloc_heap_new w (.cells #[.bool false, .bool false, .bool false, .bool false, .bool false, .bool false, .bool false, .bool false, .bool false, .bool false] 57)
  rw [hW] at f0
  have f1 := (b1.block _ (Array.getElem?_eq_some_iff.1 f0).1).trans f0
  have hz : w.heap.size < w1.heap.size := (Array.getElem?_eq_some_iff.1 f1).1
  have HF := hide (And.intro f1 (HB.out.trans (b1.mono HB.out.size)))
  have c0 : w1.cell? ⟨w.heap.size, 0, none⟩ = some (.bool false) := by simp [World.cell?, f1]
  have c1 : w1.cell? ⟨w.heap.size, 1, none⟩ = some (.bool false) := by simp [World.cell?, f1]
  have c2 : w1.cell? ⟨w.heap.size, 2, none⟩ = some (.bool false) := by simp [World.cell?, f1]
  have c3 : w1.cell? ⟨w.heap.size, 3, none⟩ = some (.bool false) := by simp [World.cell?, f1]
  have c4 : w1.cell? ⟨w.heap.size, 4, none⟩ = some (.bool false) := by simp [World.cell?, f1]
  have c5 : w1.cell? ⟨w.heap.size, 5, none⟩ = some (.bool false) := by simp [World.cell?, f1]
  have c6 : w1.cell? ⟨w.heap.size, 6, none⟩ = some (.bool false) := by simp [World.cell?, f1]
  have c7 : w1.cell? ⟨w.heap.size, 7, none⟩ = some (.bool false) := by simp [World.cell?, f1]
  have c8 : w1.cell? ⟨w.heap.size, 8, none⟩ = some (.bool false) := by simp [World.cell?, f1]
  have c9 : w1.cell? ⟨w.heap.size, 9, none⟩ = some (.bool false) := by simp [World.cell?, f1]
  have z0 : w1.frozen? ⟨w.heap.size, 0, none⟩ = false := by simp [World.frozen?, f1]
  have z1 : w1.frozen? ⟨w.heap.size, 1, none⟩ = false := by simp [World.frozen?, f1]
  have z2 : w1.frozen? ⟨w.heap.size, 2, none⟩ = false := by simp [World.frozen?, f1]
  have z3 : w1.frozen? ⟨w.heap.size, 3, none⟩ = false := by simp [World.frozen?, f1]
  have z4 : w1.frozen? ⟨w.heap.size, 4, none⟩ = false := by simp [World.frozen?, f1]
  have z5 : w1.frozen? ⟨w.heap.size, 5, none⟩ = false := by simp [World.frozen?, f1]
  have z6 : w1.frozen? ⟨w.heap.size, 6, none⟩ = false := by simp [World.frozen?, f1]
  have z7 : w1.frozen? ⟨w.heap.size, 7, none⟩ = false := by simp [World.frozen?, f1]
  have z8 : w1.frozen? ⟨w.heap.size, 8, none⟩ = false := by simp [World.frozen?, f1]
  have z9 : w1.frozen? ⟨w.heap.size, 9, none⟩ = false := by simp [World.frozen?, f1]
  clear hW b1 f0 f1 HV HW HB
  go_wp2_with fail
  refine bodyPost_ret (results_th rfl rfl (keep_alloc (at_setQ (at_setQ (at_setQ (at_setQ (at_setQ (at_setQ (at_setQ (at_setQ (at_setQ (at_setQ (HF.out.1))))))))))))) rfl ⟨by first | rfl | (refine congrArg Ending.returned (congrArg Value.agg ?_); unfold thA nodeB itemB jidB roleB accB maxB depthB parB kindB textB; simp; omega), ?_⟩
  exact ((((((((((((HF.out.2).setCell (p := ⟨w.heap.size, 0, none⟩) (Nat.le_refl _) _).setCell (p := ⟨w.heap.size, 1, none⟩) (Nat.le_refl _) _).setCell (p := ⟨w.heap.size, 2, none⟩) (Nat.le_refl _) _).setCell (p := ⟨w.heap.size, 3, none⟩) (Nat.le_refl _) _).setCell (p := ⟨w.heap.size, 4, none⟩) (Nat.le_refl _) _).setCell (p := ⟨w.heap.size, 5, none⟩) (Nat.le_refl _) _).setCell (p := ⟨w.heap.size, 6, none⟩) (Nat.le_refl _) _).setCell (p := ⟨w.heap.size, 7, none⟩) (Nat.le_refl _) _).setCell (p := ⟨w.heap.size, 8, none⟩) (Nat.le_refl _) _).setCell (p := ⟨w.heap.size, 9, none⟩) (Nat.le_refl _) _)).alloc (by have := HF.out.2.size; simp; omega) _
set_option maxRecDepth 100000 in
set_option maxHeartbeats 2000000 in
theorem named_12 (w : World) : Calls Tryd.prog 22 #[.int .u8 12] w fun e w' => e = .returned (.agg (thA 12)) ∧ Below w.heap.size w w' := by
  obtain ⟨W0, hW0⟩ : ∃ W0, w.alloc (.cells #[.bool false, .bool false, .bool false, .bool false, .bool false, .bool false, .bool false, .bool false, .bool false, .bool false] 57) = W0 := ⟨_, rfl⟩
  have b0 : Below w.heap.size w W0 := by rw [← hW0]; exact (Below.refl _ w).alloc (Nat.le_refl _) _
  have HV := hide (verb_any 12 (by omega) W0)
  have HB := hide b0
  rw [← hW0] at HV
  have HW := hide hW0
  clear hW0 b0
  go_enter Tryd.func22, Tryd.ntmps22
  go_wp2_with fail
  refine HV.out.mono ?_
  rintro e w1 ⟨rfl, b1⟩
  have hW : w.alloc (.cells #[.bool false, .bool false, .bool false, .bool false, .bool false, .bool false, .bool false, .bool false, .bool false, .bool false] 57) = W0 := HW.out
  rw [hW] at b1
  rw [show verbB 12 = ⟨#[105, 116, 101, 109, 115]⟩ from rfl]
  have f0 := World.alloc_heap_new w (.cells #[.bool false, .bool false, .bool false, .bool false, .bool false, .bool false, .bool false, .bool false, .bool false, .bool false] 57)
  rw [hW] at f0
  have f1 := (b1.block _ (Array.getElem?_eq_some_iff.1 f0).1).trans f0
  have hz : w.heap.size < w1.heap.size := (Array.getElem?_eq_some_iff.1 f1).1
  have HF := hide (And.intro f1 (HB.out.trans (b1.mono HB.out.size)))
  have c0 : w1.cell? ⟨w.heap.size, 0, none⟩ = some (.bool false) := by simp [World.cell?, f1]
  have c1 : w1.cell? ⟨w.heap.size, 1, none⟩ = some (.bool false) := by simp [World.cell?, f1]
  have c2 : w1.cell? ⟨w.heap.size, 2, none⟩ = some (.bool false) := by simp [World.cell?, f1]
  have c3 : w1.cell? ⟨w.heap.size, 3, none⟩ = some (.bool false) := by simp [World.cell?, f1]
  have c4 : w1.cell? ⟨w.heap.size, 4, none⟩ = some (.bool false) := by simp [World.cell?, f1]
  have c5 : w1.cell? ⟨w.heap.size, 5, none⟩ = some (.bool false) := by simp [World.cell?, f1]
  have c6 : w1.cell? ⟨w.heap.size, 6, none⟩ = some (.bool false) := by simp [World.cell?, f1]
  have c7 : w1.cell? ⟨w.heap.size, 7, none⟩ = some (.bool false) := by simp [World.cell?, f1]
  have c8 : w1.cell? ⟨w.heap.size, 8, none⟩ = some (.bool false) := by simp [World.cell?, f1]
  have c9 : w1.cell? ⟨w.heap.size, 9, none⟩ = some (.bool false) := by simp [World.cell?, f1]
  have z0 : w1.frozen? ⟨w.heap.size, 0, none⟩ = false := by simp [World.frozen?, f1]
  have z1 : w1.frozen? ⟨w.heap.size, 1, none⟩ = false := by simp [World.frozen?, f1]
  have z2 : w1.frozen? ⟨w.heap.size, 2, none⟩ = false := by simp [World.frozen?, f1]
  have z3 : w1.frozen? ⟨w.heap.size, 3, none⟩ = false := by simp [World.frozen?, f1]
  have z4 : w1.frozen? ⟨w.heap.size, 4, none⟩ = false := by simp [World.frozen?, f1]
  have z5 : w1.frozen? ⟨w.heap.size, 5, none⟩ = false := by simp [World.frozen?, f1]
  have z6 : w1.frozen? ⟨w.heap.size, 6, none⟩ = false := by simp [World.frozen?, f1]
  have z7 : w1.frozen? ⟨w.heap.size, 7, none⟩ = false := by simp [World.frozen?, f1]
  have z8 : w1.frozen? ⟨w.heap.size, 8, none⟩ = false := by simp [World.frozen?, f1]
  have z9 : w1.frozen? ⟨w.heap.size, 9, none⟩ = false := by simp [World.frozen?, f1]
  clear hW b1 f0 f1 HV HW HB
  go_wp2_with fail
  refine bodyPost_ret (results_th rfl rfl (keep_alloc (at_setQ (at_setQ (at_setQ (at_setQ (at_setQ (at_setQ (at_setQ (at_setQ (at_setQ (at_setQ (HF.out.1))))))))))))) rfl ⟨by first | rfl | (refine congrArg Ending.returned (congrArg Value.agg ?_); unfold thA nodeB itemB jidB roleB accB maxB depthB parB kindB textB; simp; omega), ?_⟩
  exact ((((((((((((HF.out.2).setCell (p := ⟨w.heap.size, 0, none⟩) (Nat.le_refl _) _).setCell (p := ⟨w.heap.size, 1, none⟩) (Nat.le_refl _) _).setCell (p := ⟨w.heap.size, 2, none⟩) (Nat.le_refl _) _).setCell (p := ⟨w.heap.size, 3, none⟩) (Nat.le_refl _) _).setCell (p := ⟨w.heap.size, 4, none⟩) (Nat.le_refl _) _).setCell (p := ⟨w.heap.size, 5, none⟩) (Nat.le_refl _) _).setCell (p := ⟨w.heap.size, 6, none⟩) (Nat.le_refl _) _).setCell (p := ⟨w.heap.size, 7, none⟩) (Nat.le_refl _) _).setCell (p := ⟨w.heap.size, 8, none⟩) (Nat.le_refl _) _).setCell (p := ⟨w.heap.size, 9, none⟩) (Nat.le_refl _) _)).alloc (by have := HF.out.2.size; simp; omega) _
set_option maxRecDepth 100000 in
set_option maxHeartbeats 2000000 in
theorem named_13 (w : World) : Calls Tryd.prog 22 #[.int .u8 13] w fun e w' => e = .returned (.agg (thA 13)) ∧ Below w.heap.size w w' := by
  obtain ⟨W0, hW0⟩ : ∃ W0, w.alloc (.cells #[.bool false, .bool false, .bool false, .bool false, .bool false, .bool false, .bool false, .bool false, .bool false, .bool false] 57) = W0 := ⟨_, rfl⟩
  have b0 : Below w.heap.size w W0 := by rw [← hW0]; exact (Below.refl _ w).alloc (Nat.le_refl _) _
  have HV := hide (verb_any 13 (by omega) W0)
  have HB := hide b0
  rw [← hW0] at HV
  have HW := hide hW0
  clear hW0 b0
  go_enter Tryd.func22, Tryd.ntmps22
  go_wp2_with fail
  refine HV.out.mono ?_
  rintro e w1 ⟨rfl, b1⟩
  have hW : w.alloc (.cells #[.bool false, .bool false, .bool false, .bool false, .bool false, .bool false, .bool false, .bool false, .bool false, .bool false] 57) = W0 := HW.out
  rw [hW] at b1
  rw [show verbB 13 = ⟨#[97, 115, 115, 111, 99, 105, 97, 116, 101]⟩ from rfl]
  have f0 := World.alloc_heap_new w (.cells #[.bool false, .bool false, .bool false, .bool false, .bool false, .bool false, .bool false, .bool false, .bool false, .bool false] 57)
  rw [hW] at f0
  have f1 := (b1.block _ (Array.getElem?_eq_some_iff.1 f0).1).trans f0
  have hz : w.heap.size < w1.heap.size := (Array.getElem?_eq_some_iff.1 f1).1
  have HF := hide (And.intro f1 (HB.out.trans (b1.mono HB.out.size)))
  have c0 : w1.cell? ⟨w.heap.size, 0, none⟩ = some (.bool false) := by simp [World.cell?, f1]
  have c1 : w1.cell? ⟨w.heap.size, 1, none⟩ = some (.bool false) := by simp [World.cell?, f1]
  have c2 : w1.cell? ⟨w.heap.size, 2, none⟩ = some (.bool false) := by simp [World.cell?, f1]
  have c3 : w1.cell? ⟨w.heap.size, 3, none⟩ = some (.bool false) := by simp [World.cell?, f1]
  have c4 : w1.cell? ⟨w.heap.size, 4, none⟩ = some (.bool false) := by simp [World.cell?, f1]
  have c5 : w1.cell? ⟨w.heap.size, 5, none⟩ = some (.bool false) := by simp [World.cell?, f1]
  have c6 : w1.cell? ⟨w.heap.size, 6, none⟩ = some (.bool false) := by simp [World.cell?, f1]
  have c7 : w1.cell? ⟨w.heap.size, 7, none⟩ = some (.bool false) := by simp [World.cell?, f1]
  have c8 : w1.cell? ⟨w.heap.size, 8, none⟩ = some (.bool false) := by simp [World.cell?, f1]
  have c9 : w1.cell? ⟨w.heap.size, 9, none⟩ = some (.bool false) := by simp [World.cell?, f1]
  have z0 : w1.frozen? ⟨w.heap.size, 0, none⟩ = false := by simp [World.frozen?, f1]
  have z1 : w1.frozen? ⟨w.heap.size, 1, none⟩ = false := by simp [World.frozen?, f1]
  have z2 : w1.frozen? ⟨w.heap.size, 2, none⟩ = false := by simp [World.frozen?, f1]
  have z3 : w1.frozen? ⟨w.heap.size, 3, none⟩ = false := by simp [World.frozen?, f1]
  have z4 : w1.frozen? ⟨w.heap.size, 4, none⟩ = false := by simp [World.frozen?, f1]
  have z5 : w1.frozen? ⟨w.heap.size, 5, none⟩ = false := by simp [World.frozen?, f1]
  have z6 : w1.frozen? ⟨w.heap.size, 6, none⟩ = false := by simp [World.frozen?, f1]
  have z7 : w1.frozen? ⟨w.heap.size, 7, none⟩ = false := by simp [World.frozen?, f1]
  have z8 : w1.frozen? ⟨w.heap.size, 8, none⟩ = false := by simp [World.frozen?, f1]
  have z9 : w1.frozen? ⟨w.heap.size, 9, none⟩ = false := by simp [World.frozen?, f1]
  clear hW b1 f0 f1 HV HW HB
  go_wp2_with fail
  refine bodyPost_ret (results_th rfl rfl (keep_alloc (at_setQ (at_setQ (at_setQ (at_setQ (at_setQ (at_setQ (at_setQ (at_setQ (at_setQ (at_setQ (HF.out.1))))))))))))) rfl ⟨by first | rfl | (refine congrArg Ending.returned (congrArg Value.agg ?_); unfold thA nodeB itemB jidB roleB accB maxB depthB parB kindB textB; simp; omega), ?_⟩
  exact ((((((((((((HF.out.2).setCell (p := ⟨w.heap.size, 0, none⟩) (Nat.le_refl _) _).setCell (p := ⟨w.heap.size, 1, none⟩) (Nat.le_refl _) _).setCell (p := ⟨w.heap.size, 2, none⟩) (Nat.le_refl _) _).setCell (p := ⟨w.heap.size, 3, none⟩) (Nat.le_refl _) _).setCell (p := ⟨w.heap.size, 4, none⟩) (Nat.le_refl _) _).setCell (p := ⟨w.heap.size, 5, none⟩) (Nat.le_refl _) _).setCell (p := ⟨w.heap.size, 6, none⟩) (Nat.le_refl _) _).setCell (p := ⟨w.heap.size, 7, none⟩) (Nat.le_refl _) _).setCell (p := ⟨w.heap.size, 8, none⟩) (Nat.le_refl _) _).setCell (p := ⟨w.heap.size, 9, none⟩) (Nat.le_refl _) _)).alloc (by have := HF.out.2.size; simp; omega) _
set_option maxRecDepth 100000 in
set_option maxHeartbeats 2000000 in
theorem named_14 (w : World) : Calls Tryd.prog 22 #[.int .u8 14] w fun e w' => e = .returned (.agg (thA 14)) ∧ Below w.heap.size w w' := by
  obtain ⟨W0, hW0⟩ : ∃ W0, w.alloc (.cells #[.bool false, .bool false, .bool false, .bool false, .bool false, .bool false, .bool false, .bool false, .bool false, .bool false] 57) = W0 := ⟨_, rfl⟩
  have b0 : Below w.heap.size w W0 := by rw [← hW0]; exact (Below.refl _ w).alloc (Nat.le_refl _) _
  have HV := hide (verb_any 14 (by omega) W0)
  have HB := hide b0
  rw [← hW0] at HV
  have HW := hide hW0
  clear hW0 b0
  go_enter Tryd.func22, Tryd.ntmps22
  go_wp2_with fail
  refine HV.out.mono ?_
  rintro e w1 ⟨rfl, b1⟩
  have hW : w.alloc (.cells #[.bool false, .bool false, .bool false, .bool false, .bool false, .bool false, .bool false, .bool false, .bool false, .bool false] 57) = W0 := HW.out
  rw [hW] at b1
  rw [show verbB 14 = ⟨#[100, 105, 115, 115, 111, 99, 105, 97, 116, 101]⟩ from rfl]
  have f0 := World.alloc_heap_new w (.cells #[.bool false, .bool false, .bool false, .bool false, .bool false, .bool false, .bool false, .bool false, .bool false, .bool false] 57)
  rw [hW] at f0
  have f1 := (b1.block _ (Array.getElem?_eq_some_iff.1 f0).1).trans f0
  have hz : w.heap.size < w1.heap.size := (Array.getElem?_eq_some_iff.1 f1).1
  have HF := hide (And.intro f1 (HB.out.trans (b1.mono HB.out.size)))
  have c0 : w1.cell? ⟨w.heap.size, 0, none⟩ = some (.bool false) := by simp [World.cell?, f1]
  have c1 : w1.cell? ⟨w.heap.size, 1, none⟩ = some (.bool false) := by simp [World.cell?, f1]
  have c2 : w1.cell? ⟨w.heap.size, 2, none⟩ = some (.bool false) := by simp [World.cell?, f1]
  have c3 : w1.cell? ⟨w.heap.size, 3, none⟩ = some (.bool false) := by simp [World.cell?, f1]
  have c4 : w1.cell? ⟨w.heap.size, 4, none⟩ = some (.bool false) := by simp [World.cell?, f1]
  have c5 : w1.cell? ⟨w.heap.size, 5, none⟩ = some (.bool false) := by simp [World.cell?, f1]
  have c6 : w1.cell? ⟨w.heap.size, 6, none⟩ = some (.bool false) := by simp [World.cell?, f1]
  have c7 : w1.cell? ⟨w.heap.size, 7, none⟩ = some (.bool false) := by simp [World.cell?, f1]
  have c8 : w1.cell? ⟨w.heap.size, 8, none⟩ = some (.bool false) := by simp [World.cell?, f1]
  have c9 : w1.cell? ⟨w.heap.size, 9, none⟩ = some (.bool false) := by simp [World.cell?, f1]
  have z0 : w1.frozen? ⟨w.heap.size, 0, none⟩ = false := by simp [World.frozen?, f1]
  have z1 : w1.frozen? ⟨w.heap.size, 1, none⟩ = false := by simp [World.frozen?, f1]
  have z2 : w1.frozen? ⟨w.heap.size, 2, none⟩ = false := by simp [World.frozen?, f1]
  have z3 : w1.frozen? ⟨w.heap.size, 3, none⟩ = false := by simp [World.frozen?, f1]
  have z4 : w1.frozen? ⟨w.heap.size, 4, none⟩ = false := by simp [World.frozen?, f1]
  have z5 : w1.frozen? ⟨w.heap.size, 5, none⟩ = false := by simp [World.frozen?, f1]
  have z6 : w1.frozen? ⟨w.heap.size, 6, none⟩ = false := by simp [World.frozen?, f1]
  have z7 : w1.frozen? ⟨w.heap.size, 7, none⟩ = false := by simp [World.frozen?, f1]
  have z8 : w1.frozen? ⟨w.heap.size, 8, none⟩ = false := by simp [World.frozen?, f1]
  have z9 : w1.frozen? ⟨w.heap.size, 9, none⟩ = false := by simp [World.frozen?, f1]
  clear hW b1 f0 f1 HV HW HB
  go_wp2_with fail
  refine bodyPost_ret (results_th rfl rfl (keep_alloc (at_setQ (at_setQ (at_setQ (at_setQ (at_setQ (at_setQ (at_setQ (at_setQ (at_setQ (at_setQ (HF.out.1))))))))))))) rfl ⟨by first | rfl | (refine congrArg Ending.returned (congrArg Value.agg ?_); unfold thA nodeB itemB jidB roleB accB maxB depthB parB kindB textB; simp; omega), ?_⟩
  exact ((((((((((((HF.out.2).setCell (p := ⟨w.heap.size, 0, none⟩) (Nat.le_refl _) _).setCell (p := ⟨w.heap.size, 1, none⟩) (Nat.le_refl _) _).setCell (p := ⟨w.heap.size, 2, none⟩) (Nat.le_refl _) _).setCell (p := ⟨w.heap.size, 3, none⟩) (Nat.le_refl _) _).setCell (p := ⟨w.heap.size, 4, none⟩) (Nat.le_refl _) _).setCell (p := ⟨w.heap.size, 5, none⟩) (Nat.le_refl _) _).setCell (p := ⟨w.heap.size, 6, none⟩) (Nat.le_refl _) _).setCell (p := ⟨w.heap.size, 7, none⟩) (Nat.le_refl _) _).setCell (p := ⟨w.heap.size, 8, none⟩) (Nat.le_refl _) _).setCell (p := ⟨w.heap.size, 9, none⟩) (Nat.le_refl _) _)).alloc (by have := HF.out.2.size; simp; omega) _
set_option maxRecDepth 100000 in
set_option maxHeartbeats 2000000 in
theorem named_15 (w : World) : Calls Tryd.prog 22 #[.int .u8 15] w fun e w' => e = .returned (.agg (thA 15)) ∧ Below w.heap.size w w' := by
  obtain ⟨W0, hW0⟩ : ∃ W0, w.alloc (.cells #[.bool false, .bool false, .bool false, .bool false, .bool false, .bool false, .bool false, .bool false, .bool false, .bool false] 57) = W0 := ⟨_, rfl⟩
  have b0 : Below w.heap.size w W0 := by rw [← hW0]; exact (Below.refl _ w).alloc (Nat.le_refl _) _
  have HV := hide (verb_any 15 (by omega) W0)
  have HB := hide b0
  rw [← hW0] at HV
  have HW := hide hW0
  clear hW0 b0
  go_enter Tryd.func22, Tryd.ntmps22
  go_wp2_with fail
  refine HV.out.mono ?_
  rintro e w1 ⟨rfl, b1⟩
  have hW : w.alloc (.cells #[.bool false, .bool false, .bool false, .bool false, .bool false, .bool false, .bool false, .bool false, .bool false, .bool false] 57) = W0 := HW.out
  rw [hW] at b1
  rw [show verbB 15 = ⟨#[110, 111, 100, 101, 115]⟩ from rfl]
  have f0 := World.alloc_heap_new w (.cells #[.bool false, .bool false, .bool false, .bool false, .bool false, .bool false, .bool false, .bool false, .bool false, .bool false] 57)
  rw [hW] at f0
  have f1 := (b1.block _ (Array.getElem?_eq_some_iff.1 f0).1).trans f0
  have hz : w.heap.size < w1.heap.size := (Array.getElem?_eq_some_iff.1 f1).1
  have HF := hide (And.intro f1 (HB.out.trans (b1.mono HB.out.size)))
  have c0 : w1.cell? ⟨w.heap.size, 0, none⟩ = some (.bool false) := by simp [World.cell?, f1]
  have c1 : w1.cell? ⟨w.heap.size, 1, none⟩ = some (.bool false) := by simp [World.cell?, f1]
  have c2 : w1.cell? ⟨w.heap.size, 2, none⟩ = some (.bool false) := by simp [World.cell?, f1]
  have c3 : w1.cell? ⟨w.heap.size, 3, none⟩ = some (.bool false) := by simp [World.cell?, f1]
  have c4 : w1.cell? ⟨w.heap.size, 4, none⟩ = some (.bool false) := by simp [World.cell?, f1]
  have c5 : w1.cell? ⟨w.heap.size, 5, none⟩ = some (.bool false) := by simp [World.cell?, f1]
  have c6 : w1.cell? ⟨w.heap.size, 6, none⟩ = some (.bool false) := by simp [World.cell?, f1]
  have c7 : w1.cell? ⟨w.heap.size, 7, none⟩ = some (.bool false) := by simp [World.cell?, f1]
  have c8 : w1.cell? ⟨w.heap.size, 8, none⟩ = some (.bool false) := by simp [World.cell?, f1]
  have c9 : w1.cell? ⟨w.heap.size, 9, none⟩ = some (.bool false) := by simp [World.cell?, f1]
  have z0 : w1.frozen? ⟨w.heap.size, 0, none⟩ = false := by simp [World.frozen?, f1]
  have z1 : w1.frozen? ⟨w.heap.size, 1, none⟩ = false := by simp [World.frozen?, f1]
  have z2 : w1.frozen? ⟨w.heap.size, 2, none⟩ = false := by simp [World.frozen?, f1]
  have z3 : w1.frozen? ⟨w.heap.size, 3, none⟩ = false := by simp [World.frozen?, f1]
  have z4 : w1.frozen? ⟨w.heap.size, 4, none⟩ = false := by simp [World.frozen?, f1]
  have z5 : w1.frozen? ⟨w.heap.size, 5, none⟩ = false := by simp [World.frozen?, f1]
  have z6 : w1.frozen? ⟨w.heap.size, 6, none⟩ = false := by simp [World.frozen?, f1]
  have z7 : w1.frozen? ⟨w.heap.size, 7, none⟩ = false := by simp [World.frozen?, f1]
  have z8 : w1.frozen? ⟨w.heap.size, 8, none⟩ = false := by simp [World.frozen?, f1]
  have z9 : w1.frozen? ⟨w.heap.size, 9, none⟩ = false := by simp [World.frozen?, f1]
  clear hW b1 f0 f1 HV HW HB
  go_wp2_with fail
  refine bodyPost_ret (results_th rfl rfl (keep_alloc (at_setQ (at_setQ (at_setQ (at_setQ (at_setQ (at_setQ (at_setQ (at_setQ (at_setQ (at_setQ (HF.out.1))))))))))))) rfl ⟨by first | rfl | (refine congrArg Ending.returned (congrArg Value.agg ?_); unfold thA nodeB itemB jidB roleB accB maxB depthB parB kindB textB; simp; omega), ?_⟩
  exact ((((((((((((HF.out.2).setCell (p := ⟨w.heap.size, 0, none⟩) (Nat.le_refl _) _).setCell (p := ⟨w.heap.size, 1, none⟩) (Nat.le_refl _) _).setCell (p := ⟨w.heap.size, 2, none⟩) (Nat.le_refl _) _).setCell (p := ⟨w.heap.size, 3, none⟩) (Nat.le_refl _) _).setCell (p := ⟨w.heap.size, 4, none⟩) (Nat.le_refl _) _).setCell (p := ⟨w.heap.size, 5, none⟩) (Nat.le_refl _) _).setCell (p := ⟨w.heap.size, 6, none⟩) (Nat.le_refl _) _).setCell (p := ⟨w.heap.size, 7, none⟩) (Nat.le_refl _) _).setCell (p := ⟨w.heap.size, 8, none⟩) (Nat.le_refl _) _).setCell (p := ⟨w.heap.size, 9, none⟩) (Nat.le_refl _) _)).alloc (by have := HF.out.2.size; simp; omega) _
set_option maxRecDepth 100000 in
set_option maxHeartbeats 2000000 in
theorem named_more (v : Nat) (hv : 16 ≤ v) (hv2 : v ≤ 255) (w : World) : Calls Tryd.prog 22 #[.int .u8 v] w fun e w' => e = .returned (.agg (thA v)) ∧ Below w.heap.size w w' := by
  have hb16 : verbB v = ⟨#[]⟩ := by
    unfold verbB
    rw [List.getD_eq_getElem?_getD, List.getElem?_eq_none (show verbsL.length ≤ v by have : verbsL.length = 16 := rfl; omega)]
    rfl
  have q1 : ((v : Int) == 1) = false := by rw [beq_eq_false_iff_ne]; omega
  have q3 : ((v : Int) == 3) = false := by rw [beq_eq_false_iff_ne]; omega
  have q4 : ((v : Int) == 4) = false := by rw [beq_eq_false_iff_ne]; omega
  have q6 : ((v : Int) == 6) = false := by rw [beq_eq_false_iff_ne]; omega
  have q7 : ((v : Int) == 7) = false := by rw [beq_eq_false_iff_ne]; omega
  have q8 : ((v : Int) == 8) = false := by rw [beq_eq_false_iff_ne]; omega
  have q9 : ((v : Int) == 9) = false := by rw [beq_eq_false_iff_ne]; omega
  have q10 : ((v : Int) == 10) = false := by rw [beq_eq_false_iff_ne]; omega
  have q13 : ((v : Int) == 13) = false := by rw [beq_eq_false_iff_ne]; omega
  obtain ⟨W0, hW0⟩ : ∃ W0, w.alloc (.cells #[.bool false, .bool false, .bool false, .bool false, .bool false, .bool false, .bool false, .bool false, .bool false, .bool false] 57) = W0 := ⟨_, rfl⟩
  have b0 : Below w.heap.size w W0 := by rw [← hW0]; exact (Below.refl _ w).alloc (Nat.le_refl _) _
  have HV := hide (verb_any v hv2 W0)
  have HB := hide b0
  rw [← hW0] at HV
  have HW := hide hW0
  clear hW0 b0
  go_enter Tryd.func22, Tryd.ntmps22
  go_wp2_with fail
  refine HV.out.mono ?_
  rintro e w1 ⟨rfl, b1⟩
  have hW : w.alloc (.cells #[.bool false, .bool false, .bool false, .bool false, .bool false, .bool false, .bool false, .bool false, .bool false, .bool false] 57) = W0 := HW.out
  rw [hW] at b1
  rw [hb16]
  have f0 := World.alloc_heap_new w (.cells #[.bool false, .bool false, .bool false, .bool false, .bool false, .bool false, .bool false, .bool false, .bool false, .bool false] 57)
  rw [hW] at f0
  have f1 := (b1.block _ (Array.getElem?_eq_some_iff.1 f0).1).trans f0
  have hz : w.heap.size < w1.heap.size := (Array.getElem?_eq_some_iff.1 f1).1
  have HF := hide (And.intro f1 (HB.out.trans (b1.mono HB.out.size)))
  have c0 : w1.cell? ⟨w.heap.size, 0, none⟩ = some (.bool false) := by simp [World.cell?, f1]
  have c1 : w1.cell? ⟨w.heap.size, 1, none⟩ = some (.bool false) := by simp [World.cell?, f1]
  have c2 : w1.cell? ⟨w.heap.size, 2, none⟩ = some (.bool false) := by simp [World.cell?, f1]
  have c3 : w1.cell? ⟨w.heap.size, 3, none⟩ = some (.bool false) := by simp [World.cell?, f1]
  have c4 : w1.cell? ⟨w.heap.size, 4, none⟩ = some (.bool false) := by simp [World.cell?, f1]
  have c5 : w1.cell? ⟨w.heap.size, 5, none⟩ = some (.bool false) := by simp [World.cell?, f1]
  have c6 : w1.cell? ⟨w.heap.size, 6, none⟩ = some (.bool false) := by simp [World.cell?, f1]
  have c7 : w1.cell? ⟨w.heap.size, 7, none⟩ = some (.bool false) := by simp [World.cell?, f1]
  have c8 : w1.cell? ⟨w.heap.size, 8, none⟩ = some (.bool false) := by simp [World.cell?, f1]
  have c9 : w1.cell? ⟨w.heap.size, 9, none⟩ = some (.bool false) := by simp [World.cell?, f1]
  have z0 : w1.frozen? ⟨w.heap.size, 0, none⟩ = false := by simp [World.frozen?, f1]
  have z1 : w1.frozen? ⟨w.heap.size, 1, none⟩ = false := by simp [World.frozen?, f1]
  have z2 : w1.frozen? ⟨w.heap.size, 2, none⟩ = false := by simp [World.frozen?, f1]
  have z3 : w1.frozen? ⟨w.heap.size, 3, none⟩ = false := by simp [World.frozen?, f1]
  have z4 : w1.frozen? ⟨w.heap.size, 4, none⟩ = false := by simp [World.frozen?, f1]
  have z5 : w1.frozen? ⟨w.heap.size, 5, none⟩ = false := by simp [World.frozen?, f1]
  have z6 : w1.frozen? ⟨w.heap.size, 6, none⟩ = false := by simp [World.frozen?, f1]
  have z7 : w1.frozen? ⟨w.heap.size, 7, none⟩ = false := by simp [World.frozen?, f1]
  have z8 : w1.frozen? ⟨w.heap.size, 8, none⟩ = false := by simp [World.frozen?, f1]
  have z9 : w1.frozen? ⟨w.heap.size, 9, none⟩ = false := by simp [World.frozen?, f1]
  clear hW b1 f0 f1 HV HW HB
  go_wp2_with fail
  refine bodyPost_ret (results_th rfl rfl (keep_alloc (at_setQ (at_setQ (at_setQ (at_setQ (at_setQ (at_setQ (at_setQ (at_setQ (at_setQ (at_setQ (HF.out.1))))))))))))) rfl ⟨by first | rfl | (refine congrArg Ending.returned (congrArg Value.agg ?_); unfold thA nodeB itemB jidB roleB accB maxB depthB parB kindB textB; simp; omega), ?_⟩
  exact ((((((((((((HF.out.2).setCell (p := ⟨w.heap.size, 0, none⟩) (Nat.le_refl _) _).setCell (p := ⟨w.heap.size, 1, none⟩) (Nat.le_refl _) _).setCell (p := ⟨w.heap.size, 2, none⟩) (Nat.le_refl _) _).setCell (p := ⟨w.heap.size, 3, none⟩) (Nat.le_refl _) _).setCell (p := ⟨w.heap.size, 4, none⟩) (Nat.le_refl _) _).setCell (p := ⟨w.heap.size, 5, none⟩) (Nat.le_refl _) _).setCell (p := ⟨w.heap.size, 6, none⟩) (Nat.le_refl _) _).setCell (p := ⟨w.heap.size, 7, none⟩) (Nat.le_refl _) _).setCell (p := ⟨w.heap.size, 8, none⟩) (Nat.le_refl _) _).setCell (p := ⟨w.heap.size, 9, none⟩) (Nat.le_refl _) _)).alloc (by have := HF.out.2.size; simp; omega) _
theorem named_any (v : Nat) (hv : v ≤ 255) (w : World) : Calls Tryd.prog 22 #[.int .u8 v] w fun e w' => e = .returned (.agg (thA v)) ∧ Below w.heap.size w w' := by
  by_cases h : 16 ≤ v
  · exact named_more v h hv w
  · match v, h with
    | 0, _ => exact named_0 w
    | 1, _ => exact named_1 w
    | 2, _ => exact named_2 w
    | 3, _ => exact named_3 w
    | 4, _ => exact named_4 w
    | 5, _ => exact named_5 w
    | 6, _ => exact named_6 w
    | 7, _ => exact named_7 w
    | 8, _ => exact named_8 w
    | 9, _ => exact named_9 w
    | 10, _ => exact named_10 w
    | 11, _ => exact named_11 w
    | 12, _ => exact named_12 w
    | 13, _ => exact named_13 w
    | 14, _ => exact named_14 w
    | 15, _ => exact named_15 w
    | n + 16, h => exact absurd (by omega) h
end Go.Proofs.YtimhkgpjfppkmaaDoor
