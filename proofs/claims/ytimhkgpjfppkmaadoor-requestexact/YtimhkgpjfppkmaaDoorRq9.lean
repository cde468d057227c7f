/- What is taken out of an attribute. -/
import Derived.Test.YtimhkgpjfppkmaaDoorRq8
import Derived.Test.YtimhkgpjfppkmaaDoorGG
namespace Go.Proofs.YtimhkgpjfppkmaaDoor
open Go.RowKit Go.Shelf

/-- What a request is behind an attribute. -/
def TakeR (r : Rq) (a : ByteArray × ByteArray) (r' : Rq) : Prop :=
  if a.1 = ⟨#[110, 111, 100, 101]⟩ then r' = { r with node := a.2 }
  else if a.1 = ⟨#[105, 116, 101, 109]⟩ then r' = { r with item := a.2 }
  else if a.1 = ⟨#[106, 105, 100]⟩ then r' = { r with jid := a.2 }
  else if a.1 = ⟨#[114, 111, 108, 101]⟩ then ∃ k, k < 16 ∧ FindR rolesL a.2 k ∧ r' = { r with role := k }
  else if a.1 = ⟨#[97, 99, 99, 101, 115, 115]⟩ then ∃ k, k < 16 ∧ FindR accsL a.2 k ∧ r' = { r with acc := k }
  else if a.1 = ⟨#[109, 97, 120]⟩ then ∃ v, NumR a.2 v ∧ r' = { r with max := v }
  else if a.1 = ⟨#[100, 101, 112, 116, 104]⟩ then ∃ v, NumR a.2 v ∧ r' = { r with depth := v }
  else if a.1 = ⟨#[112, 97, 114, 101, 110, 116]⟩ then r' = { r with parent := a.2 }
  else if a.1 = ⟨#[116, 121, 112, 101]⟩ then ∃ k, k < 16 ∧ FindR typesL a.2 k ∧ r' = { r with coll := decide (k = 1) }
  else r' = r
/-- What take leaves. -/
def TakeP (b : Nat) (r : Rq) (a : ByteArray × ByteArray) (w w' : World) : Prop := (∃ r', TakeR r a r' ∧ w'.heap[b]? = some (.cells (rqA r') 26)) ∧ w.grownBy w' (some b)
theorem grown_setQ {w0 w : World} {b i : Nat} {v : Value} (h : w0.grownBy w (some b)) : w0.grownBy (w.setCell ⟨b, i, none⟩ v) (some b) :=
  ⟨h.os, h.tape, h.output, by have := h.size; simp; omega, fun k hk hne => by rw [Below.heap_setCell _ _ _ _ (fun e => hne (congrArg some e))]; exact h.block k hk hne⟩
theorem grown_belQ {w0 w : World} {b : Option Nat} (h : Below w0.heap.size w0 w) : w0.grownBy w b := ⟨h.os, h.tape, h.output, h.size, fun k hk _ => h.block k hk⟩
theorem ex_convRole {o : Oper} {a : Act} {w : World} {x : Operand} {k : Nat} (ho : o.op = .convert 3 23 x) (hx : a.eval x = .int .i64 k) (hk : k < 16) : (execOp a.eval o).run Tryd.prog w = .ok (.value (.int .u8 k)) w := by
  have hw : IntKind.u8.wrap (k : Int) = k := by show (k : Int) % 256 = k; omega
  unfold execOp
  simp only [ho, hx]
  go_simp
theorem ex_convAcc {o : Oper} {a : Act} {w : World} {x : Operand} {k : Nat} (ho : o.op = .convert 3 24 x) (hx : a.eval x = .int .i64 k) (hk : k < 16) : (execOp a.eval o).run Tryd.prog w = .ok (.value (.int .u8 k)) w := by
  have hw : IntKind.u8.wrap (k : Int) = k := by show (k : Int) % 256 = k; omega
  unfold execOp
  simp only [ho, hx]
  go_simp
theorem ex_eq1 {o : Oper} {a : Act} {w : World} {x y : Operand} {k : Nat} (ho : o.op = .binOp .eql 3 x y 3) (hx : a.eval x = .int .i64 k) (hy : a.eval y = .int .i64 1) : (execOp a.eval o).run Tryd.prog w = .ok (.value (.bool (decide (k = 1)))) w := by
  have hd : ((k : Int) == 1) = decide (k = 1) := by
    rw [Bool.eq_iff_iff, beq_iff_eq, decide_eq_true_eq]
    omega
  rw [← hd]
  unfold execOp
  simp only [ho, hx, hy]
  go_simp
theorem stRole {w : World} {p : Addr} {x y : Int} (hc : w.cell? p = some (.int .u8 x)) (hf : w.frozen? p = false) : (Instr.storeAt 23 (.pointer (some p)) (.int .u8 y)).run Tryd.prog w = .ok () (w.setCell p (.int .u8 y)) := by
  simp [Instr.storeAt, Instr.sureAddr, storeVar, hc, hf, go_sem]
theorem stAcc {w : World} {p : Addr} {x y : Int} (hc : w.cell? p = some (.int .u8 x)) (hf : w.frozen? p = false) : (Instr.storeAt 24 (.pointer (some p)) (.int .u8 y)).run Tryd.prog w = .ok () (w.setCell p (.int .u8 y)) := by
  simp [Instr.storeAt, Instr.sureAddr, storeVar, hc, hf, go_sem]
theorem stB {w : World} {p : Addr} {x y : Bool} (hc : w.cell? p = some (.bool x)) (hf : w.frozen? p = false) : (Instr.storeAt 4 (.pointer (some p)) (.bool y)).run Tryd.prog w = .ok () (w.setCell p (.bool y)) := by
  simp [Instr.storeAt, Instr.sureAddr, storeVar, hc, hf, go_sem]
theorem ldS {w : World} {p : Addr} {s : ByteArray} (hc : w.cell? p = some (.string s)) : (Instr.loadAt 9 (.pointer (some p))).run Tryd.prog w = .ok (.string s) w := by
  simp [Instr.loadAt, Instr.sureAddr, loadVar, Tryd.isAgg9, hc, go_sem]
set_option maxRecDepth 100000 in
set_option maxHeartbeats 4000000 in
theorem take_node (b : Nat) (r : Rq) (v : ByteArray) (w : World) (hb : w.heap[b]? = some (.cells (rqA r) 26)) :
    Calls Tryd.prog 42 #[.pointer (some ⟨b, 0, none⟩), .agg #[.string (⟨#[110, 111, 100, 101]⟩ : ByteArray), .string v]] w fun e w' => e = .returned (.tuple #[]) ∧ TakeP b r ((⟨#[110, 111, 100, 101]⟩ : ByteArray), v) w w' := by
  obtain ⟨W1, hW1⟩ : ∃ W1, w.alloc (.cells #[.string (⟨#[110, 111, 100, 101]⟩ : ByteArray), .string v] 49) = W1 := ⟨_, rfl⟩
  have b1 : Below w.heap.size w W1 := by rw [← hW1]; exact (Below.refl _ w).alloc (Nat.le_refl _) _
  have fa : W1.heap[w.heap.size]? = some (.cells #[.string (⟨#[110, 111, 100, 101]⟩ : ByteArray), .string v] 49) := by rw [← hW1]; exact World.alloc_heap_new _ _
  have hbl : b < w.heap.size := (Array.getElem?_eq_some_iff.1 hb).1
  have fb := (b1.block _ hbl).trans hb
  have a0 : W1.cell? ⟨w.heap.size, 0, none⟩ = some (.string (⟨#[110, 111, 100, 101]⟩ : ByteArray)) := by simp [World.cell?, fa]
  have a1 : W1.cell? ⟨w.heap.size, 1, none⟩ = some (.string v) := by simp [World.cell?, fa]
  have c := (rq_box fb).2.1
  have z : W1.frozen? ⟨b, 1, none⟩ = false := by simp only [World.frozen?, fb]; rfl
  have hP := hide (show TakeP b r ((⟨#[110, 111, 100, 101]⟩ : ByteArray), v) w (W1.setCell ⟨b, 1, none⟩ (.string v)) from ⟨⟨{ r with node := v }, by unfold TakeR; rw [if_pos (show ((⟨#[110, 111, 100, 101]⟩ : ByteArray), v).1 = (⟨#[110, 111, 100, 101]⟩ : ByteArray) from rfl)], at_setQ fb⟩, grown_setQ (grown_belQ b1)⟩)
  clear fa fb b1
  go_enter Tryd.func42, Tryd.ntmps42
  go_wp2_with fail
  exact bodyPost_end (results_no rfl) rfl ⟨rfl, hP.out⟩
set_option maxRecDepth 100000 in
set_option maxHeartbeats 4000000 in
theorem take_item (b : Nat) (r : Rq) (v : ByteArray) (w : World) (hb : w.heap[b]? = some (.cells (rqA r) 26)) :
    Calls Tryd.prog 42 #[.pointer (some ⟨b, 0, none⟩), .agg #[.string (⟨#[105, 116, 101, 109]⟩ : ByteArray), .string v]] w fun e w' => e = .returned (.tuple #[]) ∧ TakeP b r ((⟨#[105, 116, 101, 109]⟩ : ByteArray), v) w w' := by
  obtain ⟨W1, hW1⟩ : ∃ W1, w.alloc (.cells #[.string (⟨#[105, 116, 101, 109]⟩ : ByteArray), .string v] 49) = W1 := ⟨_, rfl⟩
  have b1 : Below w.heap.size w W1 := by rw [← hW1]; exact (Below.refl _ w).alloc (Nat.le_refl _) _
  have fa : W1.heap[w.heap.size]? = some (.cells #[.string (⟨#[105, 116, 101, 109]⟩ : ByteArray), .string v] 49) := by rw [← hW1]; exact World.alloc_heap_new _ _
  have hbl : b < w.heap.size := (Array.getElem?_eq_some_iff.1 hb).1
  have fb := (b1.block _ hbl).trans hb
  have a0 : W1.cell? ⟨w.heap.size, 0, none⟩ = some (.string (⟨#[105, 116, 101, 109]⟩ : ByteArray)) := by simp [World.cell?, fa]
  have a1 : W1.cell? ⟨w.heap.size, 1, none⟩ = some (.string v) := by simp [World.cell?, fa]
  have n0 : ((⟨#[105, 116, 101, 109]⟩ : ByteArray).toList == (⟨#[110, 111, 100, 101]⟩ : ByteArray).toList) = false := str_ne (by decide)
  have c := (rq_box fb).2.2.1
  have z : W1.frozen? ⟨b, 2, none⟩ = false := by simp only [World.frozen?, fb]; rfl
  have hP := hide (show TakeP b r ((⟨#[105, 116, 101, 109]⟩ : ByteArray), v) w (W1.setCell ⟨b, 2, none⟩ (.string v)) from ⟨⟨{ r with item := v }, by unfold TakeR; rw [if_neg (show ¬ ((⟨#[105, 116, 101, 109]⟩ : ByteArray), v).1 = ⟨#[110, 111, 100, 101]⟩ from (by decide : ¬ (⟨#[105, 116, 101, 109]⟩ : ByteArray) = (⟨#[110, 111, 100, 101]⟩ : ByteArray)))]; rw [if_pos (show ((⟨#[105, 116, 101, 109]⟩ : ByteArray), v).1 = (⟨#[105, 116, 101, 109]⟩ : ByteArray) from rfl)], at_setQ fb⟩, grown_setQ (grown_belQ b1)⟩)
  clear fa fb b1
  go_enter Tryd.func42, Tryd.ntmps42
  go_wp2_with fail
  exact bodyPost_end (results_no rfl) rfl ⟨rfl, hP.out⟩
set_option maxRecDepth 100000 in
set_option maxHeartbeats 4000000 in
theorem take_jid (b : Nat) (r : Rq) (v : ByteArray) (w : World) (hb : w.heap[b]? = some (.cells (rqA r) 26)) :
    Calls Tryd.prog 42 #[.pointer (some ⟨b, 0, none⟩), .agg #[.string (⟨#[106, 105, 100]⟩ : ByteArray), .string v]] w fun e w' => e = .returned (.tuple #[]) ∧ TakeP b r ((⟨#[106, 105, 100]⟩ : ByteArray), v) w w' := by
  obtain ⟨W1, hW1⟩ : ∃ W1, w.alloc (.cells #[.string (⟨#[106, 105, 100]⟩ : ByteArray), .string v] 49) = W1 := ⟨_, rfl⟩
  have b1 : Below w.heap.size w W1 := by rw [← hW1]; exact (Below.refl _ w).alloc (Nat.le_refl _) _
  have fa : W1.heap[w.heap.size]? = some (.cells #[.string (⟨#[106, 105, 100]⟩ : ByteArray), .string v] 49) := by rw [← hW1]; exact World.alloc_heap_new _ _
  have hbl : b < w.heap.size := (Array.getElem?_eq_some_iff.1 hb).1
  have fb := (b1.block _ hbl).trans hb
  have a0 : W1.cell? ⟨w.heap.size, 0, none⟩ = some (.string (⟨#[106, 105, 100]⟩ : ByteArray)) := by simp [World.cell?, fa]
  have a1 : W1.cell? ⟨w.heap.size, 1, none⟩ = some (.string v) := by simp [World.cell?, fa]
  have n0 : ((⟨#[106, 105, 100]⟩ : ByteArray).toList == (⟨#[110, 111, 100, 101]⟩ : ByteArray).toList) = false := str_ne (by decide)
  have n1 : ((⟨#[106, 105, 100]⟩ : ByteArray).toList == (⟨#[105, 116, 101, 109]⟩ : ByteArray).toList) = false := str_ne (by decide)
  have c := (rq_box fb).2.2.2.1
  have z : W1.frozen? ⟨b, 3, none⟩ = false := by simp only [World.frozen?, fb]; rfl
  have hP := hide (show TakeP b r ((⟨#[106, 105, 100]⟩ : ByteArray), v) w (W1.setCell ⟨b, 3, none⟩ (.string v)) from ⟨⟨{ r with jid := v }, by unfold TakeR; rw [if_neg (show ¬ ((⟨#[106, 105, 100]⟩ : ByteArray), v).1 = ⟨#[110, 111, 100, 101]⟩ from (by decide : ¬ (⟨#[106, 105, 100]⟩ : ByteArray) = (⟨#[110, 111, 100, 101]⟩ : ByteArray)))]; rw [if_neg (show ¬ ((⟨#[106, 105, 100]⟩ : ByteArray), v).1 = ⟨#[105, 116, 101, 109]⟩ from (by decide : ¬ (⟨#[106, 105, 100]⟩ : ByteArray) = (⟨#[105, 116, 101, 109]⟩ : ByteArray)))]; rw [if_pos (show ((⟨#[106, 105, 100]⟩ : ByteArray), v).1 = (⟨#[106, 105, 100]⟩ : ByteArray) from rfl)], at_setQ fb⟩, grown_setQ (grown_belQ b1)⟩)
  clear fa fb b1
  go_enter Tryd.func42, Tryd.ntmps42
  go_wp2_with fail
  exact bodyPost_end (results_no rfl) rfl ⟨rfl, hP.out⟩
set_option maxRecDepth 100000 in
set_option maxHeartbeats 4000000 in
theorem take_role (b : Nat) (r : Rq) (v : ByteArray) (w : World) (hb : w.heap[b]? = some (.cells (rqA r) 26)) :
    Calls Tryd.prog 42 #[.pointer (some ⟨b, 0, none⟩), .agg #[.string (⟨#[114, 111, 108, 101]⟩ : ByteArray), .string v]] w fun e w' => e = .returned (.tuple #[]) ∧ TakeP b r ((⟨#[114, 111, 108, 101]⟩ : ByteArray), v) w w' := by
  obtain ⟨W1, hW1⟩ : ∃ W1, w.alloc (.cells #[.string (⟨#[114, 111, 108, 101]⟩ : ByteArray), .string v] 49) = W1 := ⟨_, rfl⟩
  have b1 : Below w.heap.size w W1 := by rw [← hW1]; exact (Below.refl _ w).alloc (Nat.le_refl _) _
  have fa : W1.heap[w.heap.size]? = some (.cells #[.string (⟨#[114, 111, 108, 101]⟩ : ByteArray), .string v] 49) := by rw [← hW1]; exact World.alloc_heap_new _ _
  have hbl : b < w.heap.size := (Array.getElem?_eq_some_iff.1 hb).1
  have fb := (b1.block _ hbl).trans hb
  have a0 : W1.cell? ⟨w.heap.size, 0, none⟩ = some (.string (⟨#[114, 111, 108, 101]⟩ : ByteArray)) := by simp [World.cell?, fa]
  have a1 : W1.cell? ⟨w.heap.size, 1, none⟩ = some (.string v) := by simp [World.cell?, fa]
  have n0 : ((⟨#[114, 111, 108, 101]⟩ : ByteArray).toList == (⟨#[110, 111, 100, 101]⟩ : ByteArray).toList) = false := str_ne (by decide)
  have n1 : ((⟨#[114, 111, 108, 101]⟩ : ByteArray).toList == (⟨#[105, 116, 101, 109]⟩ : ByteArray).toList) = false := str_ne (by decide)
  have n2 : ((⟨#[114, 111, 108, 101]⟩ : ByteArray).toList == (⟨#[106, 105, 100]⟩ : ByteArray).toList) = false := str_ne (by decide)
  have HB := hide (And.intro fa (And.intro fb b1))
  clear fa fb b1
  go_enter Tryd.func42, Tryd.ntmps42
  go_wp2_with fail
  obtain ⟨V0, hV0⟩ : ∃ V, W1.drew = V := ⟨_, rfl⟩
  have hd : W1.drew.heap = W1.heap := rfl
  rw [hV0] at hd
  have fa0 := HB.out.1
  have fb0 := HB.out.2.1
  rw [← hd] at fa0 fb0
  have B0 : Below w.heap.size w V0 := by rw [← hV0]; exact HB.out.2.2.drew
  refine region_relA (S := fun V => V.heap[w.heap.size]? = some (.cells #[.string (⟨#[114, 111, 108, 101]⟩ : ByteArray), .string v] 49)) (fun a0 a W => ∃ xx : Nat → Value, TakeP b r ((⟨#[114, 111, 108, 101]⟩ : ByteArray), v) w W ∧ a = ⟨putA a0.tmps [29, 30, 31, 32, 33, 34, 35, 36] xx, a0.defers⟩) (by kernel_rfl) ?any ?fin
  case any =>
    rw [hV0]
    clear hV0
    refine anyH_take (i := 0) (v := .pointer (some ⟨b, 0, none⟩)) rfl (some 29) rfl (by kernel_rfl) (by kernel_rfl) (by kernel_rfl) (fun _ _ _ h => by cases h.1) rfl (fun w0 hw0 => by first | rfl | kernel_rfl) fa0 ?_
    simp only [Act.put, List.setIfInBounds_toArray, List.set_cons_zero, List.set_cons_succ]
    refine anyH_take (i := 2) (v := .pointer (some ⟨w.heap.size, 1, none⟩)) rfl (some 31) rfl (by kernel_rfl) (by kernel_rfl) (by kernel_rfl) (fun _ _ _ h => by cases h.1) rfl (fun w0 hw0 => by first | rfl | kernel_rfl) fa0 ?_
    simp only [Act.put, List.setIfInBounds_toArray, List.set_cons_zero, List.set_cons_succ]
    refine anyH_take (i := 3) (v := .string v) rfl (some 32) rfl (by kernel_rfl) (by kernel_rfl) (by kernel_rfl) (fun _ _ _ h => by cases h.1) rfl (fun w0 hw0 => ex_load rfl rfl (ldS (by simp [World.cell?, hw0]))) fa0 ?_
    simp only [Act.put, List.setIfInBounds_toArray, List.set_cons_zero, List.set_cons_succ]
    refine anyH_one (i := 1) (by kernel_rfl) ?_
    refine op_call rfl (some 30) rfl rfl #[] rfl (by simp) (fun _ _ => rfl) (roles_any V0) ?_
    rintro e V1 ⟨rfl, c1⟩
    have fa1 := (c1.block _ (Array.getElem?_eq_some_iff.1 fa0).1).trans fa0
    have fb1 := (c1.block _ (Array.getElem?_eq_some_iff.1 fb0).1).trans fb0
    have B1 := B0.trans (c1.mono B0.size)
    refine ⟨_, rfl, fa1, ?_⟩
    simp only [Act.put, List.setIfInBounds_toArray, List.set_cons_zero, List.set_cons_succ]
    refine anyH_one (i := 4) (by kernel_rfl) ?_
    refine op_call rfl (some 33) rfl rfl #[.agg (w16 rolesL), .string v] rfl (by simp [Act.eval]) (fun _ _ => rfl) (find_any rolesL rfl v V1) ?_
    rintro e V2 ⟨⟨k, hk, hF, rfl⟩, c2⟩
    have fa2 := (c2.block _ (Array.getElem?_eq_some_iff.1 fa1).1).trans fa1
    have fb2 := (c2.block _ (Array.getElem?_eq_some_iff.1 fb1).1).trans fb1
    have B2 := B1.trans (c2.mono B1.size)
    refine ⟨_, rfl, fa2, ?_⟩
    simp only [Act.put, List.setIfInBounds_toArray, List.set_cons_zero, List.set_cons_succ]
    refine anyH_take (i := 5) (v := .int .u8 k) rfl (some 34) rfl (by kernel_rfl) (by kernel_rfl) (by kernel_rfl) (fun _ _ _ h => by cases h.1) rfl (fun w0 hw0 => ex_convRole rfl rfl hk) fa2 ?_
    simp only [Act.put, List.setIfInBounds_toArray, List.set_cons_zero, List.set_cons_succ]
    refine anyH_take (i := 6) (v := .pointer (some ⟨b, 0, none⟩)) rfl (some 35) rfl (by kernel_rfl) (by kernel_rfl) (by kernel_rfl) (fun _ _ _ h => by cases h.1) rfl (fun w0 hw0 => by first | rfl | kernel_rfl) fa2 ?_
    simp only [Act.put, List.setIfInBounds_toArray, List.set_cons_zero, List.set_cons_succ]
    refine anyH_take (i := 7) (v := .pointer (some ⟨b, 4, none⟩)) rfl (some 36) rfl (by kernel_rfl) (by kernel_rfl) (by kernel_rfl) (fun _ _ _ h => by cases h.1) rfl (fun w0 hw0 => by first | rfl | kernel_rfl) fa2 ?_
    simp only [Act.put, List.setIfInBounds_toArray, List.set_cons_zero, List.set_cons_succ]
    have c := (rq_box fb2).2.2.2.2.1
    have z : V2.frozen? ⟨b, 4, none⟩ = false := by simp only [World.frozen?, fb2]; rfl
    have fa3 : (V2.setCell ⟨b, 4, none⟩ (.int .u8 k)).heap[w.heap.size]? = some (.cells #[.string (⟨#[114, 111, 108, 101]⟩ : ByteArray), .string v] 49) := by rw [Below.heap_setCell _ _ _ _ (fun e => by have e2 : w.heap.size = b := e; omega)]; exact fa2
    have hP : TakeP b r ((⟨#[114, 111, 108, 101]⟩ : ByteArray), v) w (V2.setCell ⟨b, 4, none⟩ (.int .u8 k)) := ⟨⟨{ r with role := k }, by unfold TakeR; rw [if_neg (show ¬ ((⟨#[114, 111, 108, 101]⟩ : ByteArray), v).1 = ⟨#[110, 111, 100, 101]⟩ from (by decide : ¬ (⟨#[114, 111, 108, 101]⟩ : ByteArray) = (⟨#[110, 111, 100, 101]⟩ : ByteArray)))]; rw [if_neg (show ¬ ((⟨#[114, 111, 108, 101]⟩ : ByteArray), v).1 = ⟨#[105, 116, 101, 109]⟩ from (by decide : ¬ (⟨#[114, 111, 108, 101]⟩ : ByteArray) = (⟨#[105, 116, 101, 109]⟩ : ByteArray)))]; rw [if_neg (show ¬ ((⟨#[114, 111, 108, 101]⟩ : ByteArray), v).1 = ⟨#[106, 105, 100]⟩ from (by decide : ¬ (⟨#[114, 111, 108, 101]⟩ : ByteArray) = (⟨#[106, 105, 100]⟩ : ByteArray)))]; rw [if_pos (show ((⟨#[114, 111, 108, 101]⟩ : ByteArray), v).1 = (⟨#[114, 111, 108, 101]⟩ : ByteArray) from rfl)]; exact ⟨k, hk, hF, rfl⟩, at_setQ fb2⟩, grown_setQ (grown_belQ B2)⟩
    refine anyH_one (i := 8) (by kernel_rfl) (op_store rfl rfl rfl (ex_store rfl rfl rfl (stRole c z)) ⟨fa3, ?_⟩)
    simp only [Act.put]
    exact wpAnyH_done (by kernel_rfl) ⟨rfl, fill hP (by kernel_rfl)⟩ _
  rintro a W ⟨xx, hP, rfl⟩
  clear hV0 hd fa0 fb0 B0 V0
  simp only [putA, List.foldl_cons, List.foldl_nil, List.setIfInBounds_toArray, List.set_cons_zero, List.set_cons_succ]
  have HP := hide hP
  clear hP
  go_wp2_with fail
  exact bodyPost_end (results_no rfl) rfl ⟨rfl, HP.out⟩
set_option maxRecDepth 100000 in
set_option maxHeartbeats 4000000 in
theorem take_access (b : Nat) (r : Rq) (v : ByteArray) (w : World) (hb : w.heap[b]? = some (.cells (rqA r) 26)) :
    Calls Tryd.prog 42 #[.pointer (some ⟨b, 0, none⟩), .agg #[.string (⟨#[97, 99, 99, 101, 115, 115]⟩ : ByteArray), .string v]] w fun e w' => e = .returned (.tuple #[]) ∧ TakeP b r ((⟨#[97, 99, 99, 101, 115, 115]⟩ : ByteArray), v) w w' := by
  obtain ⟨W1, hW1⟩ : ∃ W1, w.alloc (.cells #[.string (⟨#[97, 99, 99, 101, 115, 115]⟩ : ByteArray), .string v] 49) = W1 := ⟨_, rfl⟩
  have b1 : Below w.heap.size w W1 := by rw [← hW1]; exact (Below.refl _ w).alloc (Nat.le_refl _) _
  have fa : W1.heap[w.heap.size]? = some (.cells #[.string (⟨#[97, 99, 99, 101, 115, 115]⟩ : ByteArray), .string v] 49) := by rw [← hW1]; exact World.alloc_heap_new _ _
  have hbl : b < w.heap.size := (Array.getElem?_eq_some_iff.1 hb).1
  have fb := (b1.block _ hbl).trans hb
  have a0 : W1.cell? ⟨w.heap.size, 0, none⟩ = some (.string (⟨#[97, 99, 99, 101, 115, 115]⟩ : ByteArray)) := by simp [World.cell?, fa]
  have a1 : W1.cell? ⟨w.heap.size, 1, none⟩ = some (.string v) := by simp [World.cell?, fa]
  have n0 : ((⟨#[97, 99, 99, 101, 115, 115]⟩ : ByteArray).toList == (⟨#[110, 111, 100, 101]⟩ : ByteArray).toList) = false := str_ne (by decide)
  have n1 : ((⟨#[97, 99, 99, 101, 115, 115]⟩ : ByteArray).toList == (⟨#[105, 116, 101, 109]⟩ : ByteArray).toList) = false := str_ne (by decide)
  have n2 : ((⟨#[97, 99, 99, 101, 115, 115]⟩ : ByteArray).toList == (⟨#[106, 105, 100]⟩ : ByteArray).toList) = false := str_ne (by decide)
  have n3 : ((⟨#[97, 99, 99, 101, 115, 115]⟩ : ByteArray).toList == (⟨#[114, 111, 108, 101]⟩ : ByteArray).toList) = false := str_ne (by decide)
  have HB := hide (And.intro fa (And.intro fb b1))
  clear fa fb b1
  go_enter Tryd.func42, Tryd.ntmps42
  go_wp2_with fail
  obtain ⟨V0, hV0⟩ : ∃ V, W1.drew = V := ⟨_, rfl⟩
  have hd : W1.drew.heap = W1.heap := rfl
  rw [hV0] at hd
  have fa0 := HB.out.1
  have fb0 := HB.out.2.1
  rw [← hd] at fa0 fb0
  have B0 : Below w.heap.size w V0 := by rw [← hV0]; exact HB.out.2.2.drew
  refine region_relA (S := fun V => V.heap[w.heap.size]? = some (.cells #[.string (⟨#[97, 99, 99, 101, 115, 115]⟩ : ByteArray), .string v] 49)) (fun a0 a W => ∃ xx : Nat → Value, TakeP b r ((⟨#[97, 99, 99, 101, 115, 115]⟩ : ByteArray), v) w W ∧ a = ⟨putA a0.tmps [39, 40, 41, 42, 43, 44, 45, 46] xx, a0.defers⟩) (by kernel_rfl) ?any ?fin
  case any =>
    rw [hV0]
    clear hV0
    refine anyH_take (i := 0) (v := .pointer (some ⟨b, 0, none⟩)) rfl (some 39) rfl (by kernel_rfl) (by kernel_rfl) (by kernel_rfl) (fun _ _ _ h => by cases h.1) rfl (fun w0 hw0 => by first | rfl | kernel_rfl) fa0 ?_
    simp only [Act.put, List.setIfInBounds_toArray, List.set_cons_zero, List.set_cons_succ]
    refine anyH_take (i := 2) (v := .pointer (some ⟨w.heap.size, 1, none⟩)) rfl (some 41) rfl (by kernel_rfl) (by kernel_rfl) (by kernel_rfl) (fun _ _ _ h => by cases h.1) rfl (fun w0 hw0 => by first | rfl | kernel_rfl) fa0 ?_
    simp only [Act.put, List.setIfInBounds_toArray, List.set_cons_zero, List.set_cons_succ]
    refine anyH_take (i := 3) (v := .string v) rfl (some 42) rfl (by kernel_rfl) (by kernel_rfl) (by kernel_rfl) (fun _ _ _ h => by cases h.1) rfl (fun w0 hw0 => ex_load rfl rfl (ldS (by simp [World.cell?, hw0]))) fa0 ?_
    simp only [Act.put, List.setIfInBounds_toArray, List.set_cons_zero, List.set_cons_succ]
    refine anyH_one (i := 1) (by kernel_rfl) ?_
    refine op_call rfl (some 40) rfl rfl #[] rfl (by simp) (fun _ _ => rfl) (accesses_any V0) ?_
    rintro e V1 ⟨rfl, c1⟩
    have fa1 := (c1.block _ (Array.getElem?_eq_some_iff.1 fa0).1).trans fa0
    have fb1 := (c1.block _ (Array.getElem?_eq_some_iff.1 fb0).1).trans fb0
    have B1 := B0.trans (c1.mono B0.size)
    refine ⟨_, rfl, fa1, ?_⟩
    simp only [Act.put, List.setIfInBounds_toArray, List.set_cons_zero, List.set_cons_succ]
    refine anyH_one (i := 4) (by kernel_rfl) ?_
    refine op_call rfl (some 43) rfl rfl #[.agg (w16 accsL), .string v] rfl (by simp [Act.eval]) (fun _ _ => rfl) (find_any accsL rfl v V1) ?_
    rintro e V2 ⟨⟨k, hk, hF, rfl⟩, c2⟩
    have fa2 := (c2.block _ (Array.getElem?_eq_some_iff.1 fa1).1).trans fa1
    have fb2 := (c2.block _ (Array.getElem?_eq_some_iff.1 fb1).1).trans fb1
    have B2 := B1.trans (c2.mono B1.size)
    refine ⟨_, rfl, fa2, ?_⟩
    simp only [Act.put, List.setIfInBounds_toArray, List.set_cons_zero, List.set_cons_succ]
    refine anyH_take (i := 5) (v := .int .u8 k) rfl (some 44) rfl (by kernel_rfl) (by kernel_rfl) (by kernel_rfl) (fun _ _ _ h => by cases h.1) rfl (fun w0 hw0 => ex_convAcc rfl rfl hk) fa2 ?_
    simp only [Act.put, List.setIfInBounds_toArray, List.set_cons_zero, List.set_cons_succ]
    refine anyH_take (i := 6) (v := .pointer (some ⟨b, 0, none⟩)) rfl (some 45) rfl (by kernel_rfl) (by kernel_rfl) (by kernel_rfl) (fun _ _ _ h => by cases h.1) rfl (fun w0 hw0 => by first | rfl | kernel_rfl) fa2 ?_
    simp only [Act.put, List.setIfInBounds_toArray, List.set_cons_zero, List.set_cons_succ]
    refine anyH_take (i := 7) (v := .pointer (some ⟨b, 5, none⟩)) rfl (some 46) rfl (by kernel_rfl) (by kernel_rfl) (by kernel_rfl) (fun _ _ _ h => by cases h.1) rfl (fun w0 hw0 => by first | rfl | kernel_rfl) fa2 ?_
    simp only [Act.put, List.setIfInBounds_toArray, List.set_cons_zero, List.set_cons_succ]
    have c := (rq_box fb2).2.2.2.2.2.1
    have z : V2.frozen? ⟨b, 5, none⟩ = false := by simp only [World.frozen?, fb2]; rfl
    have fa3 : (V2.setCell ⟨b, 5, none⟩ (.int .u8 k)).heap[w.heap.size]? = some (.cells #[.string (⟨#[97, 99, 99, 101, 115, 115]⟩ : ByteArray), .string v] 49) := by rw [Below.heap_setCell _ _ _ _ (fun e => by have e2 : w.heap.size = b := e; omega)]; exact fa2
    have hP : TakeP b r ((⟨#[97, 99, 99, 101, 115, 115]⟩ : ByteArray), v) w (V2.setCell ⟨b, 5, none⟩ (.int .u8 k)) := ⟨⟨{ r with acc := k }, by unfold TakeR; rw [if_neg (show ¬ ((⟨#[97, 99, 99, 101, 115, 115]⟩ : ByteArray), v).1 = ⟨#[110, 111, 100, 101]⟩ from (by decide : ¬ (⟨#[97, 99, 99, 101, 115, 115]⟩ : ByteArray) = (⟨#[110, 111, 100, 101]⟩ : ByteArray)))]; rw [if_neg (show ¬ ((⟨#[97, 99, 99, 101, 115, 115]⟩ : ByteArray), v).1 = ⟨#[105, 116, 101, 109]⟩ from (by decide : ¬ (⟨#[97, 99, 99, 101, 115, 115]⟩ : ByteArray) = (⟨#[105, 116, 101, 109]⟩ : ByteArray)))]; rw [if_neg (show ¬ ((⟨#[97, 99, 99, 101, 115, 115]⟩ : ByteArray), v).1 = ⟨#[106, 105, 100]⟩ from (by decide : ¬ (⟨#[97, 99, 99, 101, 115, 115]⟩ : ByteArray) = (⟨#[106, 105, 100]⟩ : ByteArray)))]; rw [if_neg (show ¬ ((⟨#[97, 99, 99, 101, 115, 115]⟩ : ByteArray), v).1 = ⟨#[114, 111, 108, 101]⟩ from (by decide : ¬ (⟨#[97, 99, 99, 101, 115, 115]⟩ : ByteArray) = (⟨#[114, 111, 108, 101]⟩ : ByteArray)))]; rw [if_pos (show ((⟨#[97, 99, 99, 101, 115, 115]⟩ : ByteArray), v).1 = (⟨#[97, 99, 99, 101, 115, 115]⟩ : ByteArray) from rfl)]; exact ⟨k, hk, hF, rfl⟩, at_setQ fb2⟩, grown_setQ (grown_belQ B2)⟩
    refine anyH_one (i := 8) (by kernel_rfl) (op_store rfl rfl rfl (ex_store rfl rfl rfl (stAcc c z)) ⟨fa3, ?_⟩)
    simp only [Act.put]
    exact wpAnyH_done (by kernel_rfl) ⟨rfl, fill hP (by kernel_rfl)⟩ _
  rintro a W ⟨xx, hP, rfl⟩
  clear hV0 hd fa0 fb0 B0 V0
  simp only [putA, List.foldl_cons, List.foldl_nil, List.setIfInBounds_toArray, List.set_cons_zero, List.set_cons_succ]
  have HP := hide hP
  clear hP
  go_wp2_with fail
  exact bodyPost_end (results_no rfl) rfl ⟨rfl, HP.out⟩
set_option maxRecDepth 100000 in
set_option maxHeartbeats 4000000 in
theorem take_max (b : Nat) (r : Rq) (v : ByteArray) (w : World) (hb : w.heap[b]? = some (.cells (rqA r) 26)) (hs : v.size ≤ 281474976710656) (hg : GlobE w) :
    Calls Tryd.prog 42 #[.pointer (some ⟨b, 0, none⟩), .agg #[.string (⟨#[109, 97, 120]⟩ : ByteArray), .string v]] w fun e w' => e = .returned (.tuple #[]) ∧ TakeP b r ((⟨#[109, 97, 120]⟩ : ByteArray), v) w w' := by
  obtain ⟨W1, hW1⟩ : ∃ W1, w.alloc (.cells #[.string (⟨#[109, 97, 120]⟩ : ByteArray), .string v] 49) = W1 := ⟨_, rfl⟩
  have b1 : Below w.heap.size w W1 := by rw [← hW1]; exact (Below.refl _ w).alloc (Nat.le_refl _) _
  have fa : W1.heap[w.heap.size]? = some (.cells #[.string (⟨#[109, 97, 120]⟩ : ByteArray), .string v] 49) := by rw [← hW1]; exact World.alloc_heap_new _ _
  have hbl : b < w.heap.size := (Array.getElem?_eq_some_iff.1 hb).1
  have fb := (b1.block _ hbl).trans hb
  have a0 : W1.cell? ⟨w.heap.size, 0, none⟩ = some (.string (⟨#[109, 97, 120]⟩ : ByteArray)) := by simp [World.cell?, fa]
  have a1 : W1.cell? ⟨w.heap.size, 1, none⟩ = some (.string v) := by simp [World.cell?, fa]
  have n0 : ((⟨#[109, 97, 120]⟩ : ByteArray).toList == (⟨#[110, 111, 100, 101]⟩ : ByteArray).toList) = false := str_ne (by decide)
  have n1 : ((⟨#[109, 97, 120]⟩ : ByteArray).toList == (⟨#[105, 116, 101, 109]⟩ : ByteArray).toList) = false := str_ne (by decide)
  have n2 : ((⟨#[109, 97, 120]⟩ : ByteArray).toList == (⟨#[106, 105, 100]⟩ : ByteArray).toList) = false := str_ne (by decide)
  have n3 : ((⟨#[109, 97, 120]⟩ : ByteArray).toList == (⟨#[114, 111, 108, 101]⟩ : ByteArray).toList) = false := str_ne (by decide)
  have n4 : ((⟨#[109, 97, 120]⟩ : ByteArray).toList == (⟨#[97, 99, 99, 101, 115, 115]⟩ : ByteArray).toList) = false := str_ne (by decide)
  have HN := hide (number_any v hs W1 (hg.below b1))
  have HB := hide (And.intro fb b1)
  clear fa fb b1 hg
  go_enter Tryd.func42, Tryd.ntmps42
  go_wp2_with fail
  refine HN.out.mono ?_
  rintro e w2 ⟨⟨x, hx, rfl⟩, b2⟩
  have hbl1 : b < W1.heap.size := (Array.getElem?_eq_some_iff.1 HB.out.1).1
  have fb2 := (b2.block _ hbl1).trans HB.out.1
  have c := (rq_box fb2).2.2.2.2.2.2.1
  have z : w2.frozen? ⟨b, 6, none⟩ = false := by simp only [World.frozen?, fb2]; rfl
  have hP := hide (show TakeP b r ((⟨#[109, 97, 120]⟩ : ByteArray), v) w (w2.setCell ⟨b, 6, none⟩ (.int .i64 x)) from ⟨⟨{ r with max := x }, by unfold TakeR; rw [if_neg (show ¬ ((⟨#[109, 97, 120]⟩ : ByteArray), v).1 = ⟨#[110, 111, 100, 101]⟩ from (by decide : ¬ (⟨#[109, 97, 120]⟩ : ByteArray) = (⟨#[110, 111, 100, 101]⟩ : ByteArray)))]; rw [if_neg (show ¬ ((⟨#[109, 97, 120]⟩ : ByteArray), v).1 = ⟨#[105, 116, 101, 109]⟩ from (by decide : ¬ (⟨#[109, 97, 120]⟩ : ByteArray) = (⟨#[105, 116, 101, 109]⟩ : ByteArray)))]; rw [if_neg (show ¬ ((⟨#[109, 97, 120]⟩ : ByteArray), v).1 = ⟨#[106, 105, 100]⟩ from (by decide : ¬ (⟨#[109, 97, 120]⟩ : ByteArray) = (⟨#[106, 105, 100]⟩ : ByteArray)))]; rw [if_neg (show ¬ ((⟨#[109, 97, 120]⟩ : ByteArray), v).1 = ⟨#[114, 111, 108, 101]⟩ from (by decide : ¬ (⟨#[109, 97, 120]⟩ : ByteArray) = (⟨#[114, 111, 108, 101]⟩ : ByteArray)))]; rw [if_neg (show ¬ ((⟨#[109, 97, 120]⟩ : ByteArray), v).1 = ⟨#[97, 99, 99, 101, 115, 115]⟩ from (by decide : ¬ (⟨#[109, 97, 120]⟩ : ByteArray) = (⟨#[97, 99, 99, 101, 115, 115]⟩ : ByteArray)))]; rw [if_pos (show ((⟨#[109, 97, 120]⟩ : ByteArray), v).1 = (⟨#[109, 97, 120]⟩ : ByteArray) from rfl)]; exact ⟨x, hx, rfl⟩, at_setQ fb2⟩, grown_setQ (grown_belQ (HB.out.2.trans (b2.mono HB.out.2.size)))⟩)
  clear fb2 b2 hx
  go_wp2_with fail
  exact bodyPost_end (results_no rfl) rfl ⟨rfl, hP.out⟩
set_option maxRecDepth 100000 in
set_option maxHeartbeats 4000000 in
theorem take_depth (b : Nat) (r : Rq) (v : ByteArray) (w : World) (hb : w.heap[b]? = some (.cells (rqA r) 26)) (hs : v.size ≤ 281474976710656) (hg : GlobE w) :
    Calls Tryd.prog 42 #[.pointer (some ⟨b, 0, none⟩), .agg #[.string (⟨#[100, 101, 112, 116, 104]⟩ : ByteArray), .string v]] w fun e w' => e = .returned (.tuple #[]) ∧ TakeP b r ((⟨#[100, 101, 112, 116, 104]⟩ : ByteArray), v) w w' := by
  obtain ⟨W1, hW1⟩ : ∃ W1, w.alloc (.cells #[.string (⟨#[100, 101, 112, 116, 104]⟩ : ByteArray), .string v] 49) = W1 := ⟨_, rfl⟩
  have b1 : Below w.heap.size w W1 := by rw [← hW1]; exact (Below.refl _ w).alloc (Nat.le_refl _) _
  have fa : W1.heap[w.heap.size]? = some (.cells #[.string (⟨#[100, 101, 112, 116, 104]⟩ : ByteArray), .string v] 49) := by rw [← hW1]; exact World.alloc_heap_new _ _
  have hbl : b < w.heap.size := (Array.getElem?_eq_some_iff.1 hb).1
  have fb := (b1.block _ hbl).trans hb
  have a0 : W1.cell? ⟨w.heap.size, 0, none⟩ = some (.string (⟨#[100, 101, 112, 116, 104]⟩ : ByteArray)) := by simp [World.cell?, fa]
  have a1 : W1.cell? ⟨w.heap.size, 1, none⟩ = some (.string v) := by simp [World.cell?, fa]
  have n0 : ((⟨#[100, 101, 112, 116, 104]⟩ : ByteArray).toList == (⟨#[110, 111, 100, 101]⟩ : ByteArray).toList) = false := str_ne (by decide)
  have n1 : ((⟨#[100, 101, 112, 116, 104]⟩ : ByteArray).toList == (⟨#[105, 116, 101, 109]⟩ : ByteArray).toList) = false := str_ne (by decide)
  have n2 : ((⟨#[100, 101, 112, 116, 104]⟩ : ByteArray).toList == (⟨#[106, 105, 100]⟩ : ByteArray).toList) = false := str_ne (by decide)
  have n3 : ((⟨#[100, 101, 112, 116, 104]⟩ : ByteArray).toList == (⟨#[114, 111, 108, 101]⟩ : ByteArray).toList) = false := str_ne (by decide)
  have n4 : ((⟨#[100, 101, 112, 116, 104]⟩ : ByteArray).toList == (⟨#[97, 99, 99, 101, 115, 115]⟩ : ByteArray).toList) = false := str_ne (by decide)
  have n5 : ((⟨#[100, 101, 112, 116, 104]⟩ : ByteArray).toList == (⟨#[109, 97, 120]⟩ : ByteArray).toList) = false := str_ne (by decide)
  have HN := hide (number_any v hs W1 (hg.below b1))
  have HB := hide (And.intro fb b1)
  clear fa fb b1 hg
  go_enter Tryd.func42, Tryd.ntmps42
  go_wp2_with fail
  refine HN.out.mono ?_
  rintro e w2 ⟨⟨x, hx, rfl⟩, b2⟩
  have hbl1 : b < W1.heap.size := (Array.getElem?_eq_some_iff.1 HB.out.1).1
  have fb2 := (b2.block _ hbl1).trans HB.out.1
  have c := (rq_box fb2).2.2.2.2.2.2.2.1
  have z : w2.frozen? ⟨b, 7, none⟩ = false := by simp only [World.frozen?, fb2]; rfl
  have hP := hide (show TakeP b r ((⟨#[100, 101, 112, 116, 104]⟩ : ByteArray), v) w (w2.setCell ⟨b, 7, none⟩ (.int .i64 x)) from ⟨⟨{ r with depth := x }, by unfold TakeR; rw [if_neg (show ¬ ((⟨#[100, 101, 112, 116, 104]⟩ : ByteArray), v).1 = ⟨#[110, 111, 100, 101]⟩ from (by decide : ¬ (⟨#[100, 101, 112, 116, 104]⟩ : ByteArray) = (⟨#[110, 111, 100, 101]⟩ : ByteArray)))]; rw [if_neg (show ¬ ((⟨#[100, 101, 112, 116, 104]⟩ : ByteArray), v).1 = ⟨#[105, 116, 101, 109]⟩ from (by decide : ¬ (⟨#[100, 101, 112, 116, 104]⟩ : ByteArray) = (⟨#[105, 116, 101, 109]⟩ : ByteArray)))]; rw [if_neg (show ¬ ((⟨#[100, 101, 112, 116, 104]⟩ : ByteArray), v).1 = ⟨#[106, 105, 100]⟩ from (by decide : ¬ (⟨#[100, 101, 112, 116, 104]⟩ : ByteArray) = (⟨#[106, 105, 100]⟩ : ByteArray)))]; rw [if_neg (show ¬ ((⟨#[100, 101, 112, 116, 104]⟩ : ByteArray), v).1 = ⟨#[114, 111, 108, 101]⟩ from (by decide : ¬ (⟨#[100, 101, 112, 116, 104]⟩ : ByteArray) = (⟨#[114, 111, 108, 101]⟩ : ByteArray)))]; rw [if_neg (show ¬ ((⟨#[100, 101, 112, 116, 104]⟩ : ByteArray), v).1 = ⟨#[97, 99, 99, 101, 115, 115]⟩ from (by decide : ¬ (⟨#[100, 101, 112, 116, 104]⟩ : ByteArray) = (⟨#[97, 99, 99, 101, 115, 115]⟩ : ByteArray)))]; rw [if_neg (show ¬ ((⟨#[100, 101, 112, 116, 104]⟩ : ByteArray), v).1 = ⟨#[109, 97, 120]⟩ from (by decide : ¬ (⟨#[100, 101, 112, 116, 104]⟩ : ByteArray) = (⟨#[109, 97, 120]⟩ : ByteArray)))]; rw [if_pos (show ((⟨#[100, 101, 112, 116, 104]⟩ : ByteArray), v).1 = (⟨#[100, 101, 112, 116, 104]⟩ : ByteArray) from rfl)]; exact ⟨x, hx, rfl⟩, at_setQ fb2⟩, grown_setQ (grown_belQ (HB.out.2.trans (b2.mono HB.out.2.size)))⟩)
  clear fb2 b2 hx
  go_wp2_with fail
  exact bodyPost_end (results_no rfl) rfl ⟨rfl, hP.out⟩
set_option maxRecDepth 100000 in
set_option maxHeartbeats 4000000 in
theorem take_parent (b : Nat) (r : Rq) (v : ByteArray) (w : World) (hb : w.heap[b]? = some (.cells (rqA r) 26)) :
    Calls Tryd.prog 42 #[.pointer (some ⟨b, 0, none⟩), .agg #[.string (⟨#[112, 97, 114, 101, 110, 116]⟩ : ByteArray), .string v]] w fun e w' => e = .returned (.tuple #[]) ∧ TakeP b r ((⟨#[112, 97, 114, 101, 110, 116]⟩ : ByteArray), v) w w' := by
  obtain ⟨W1, hW1⟩ : ∃ W1, w.alloc (.cells #[.string (⟨#[112, 97, 114, 101, 110, 116]⟩ : ByteArray), .string v] 49) = W1 := ⟨_, rfl⟩
  have b1 : Below w.heap.size w W1 := by rw [← hW1]; exact (Below.refl _ w).alloc (Nat.le_refl _) _
  have fa : W1.heap[w.heap.size]? = some (.cells #[.string (⟨#[112, 97, 114, 101, 110, 116]⟩ : ByteArray), .string v] 49) := by rw [← hW1]; exact World.alloc_heap_new _ _
  have hbl : b < w.heap.size := (Array.getElem?_eq_some_iff.1 hb).1
  have fb := (b1.block _ hbl).trans hb
  have a0 : W1.cell? ⟨w.heap.size, 0, none⟩ = some (.string (⟨#[112, 97, 114, 101, 110, 116]⟩ : ByteArray)) := by simp [World.cell?, fa]
  have a1 : W1.cell? ⟨w.heap.size, 1, none⟩ = some (.string v) := by simp [World.cell?, fa]
  have n0 : ((⟨#[112, 97, 114, 101, 110, 116]⟩ : ByteArray).toList == (⟨#[110, 111, 100, 101]⟩ : ByteArray).toList) = false := str_ne (by decide)
  have n1 : ((⟨#[112, 97, 114, 101, 110, 116]⟩ : ByteArray).toList == (⟨#[105, 116, 101, 109]⟩ : ByteArray).toList) = false := str_ne (by decide)
  have n2 : ((⟨#[112, 97, 114, 101, 110, 116]⟩ : ByteArray).toList == (⟨#[106, 105, 100]⟩ : ByteArray).toList) = false := str_ne (by decide)
  have n3 : ((⟨#[112, 97, 114, 101, 110, 116]⟩ : ByteArray).toList == (⟨#[114, 111, 108, 101]⟩ : ByteArray).toList) = false := str_ne (by decide)
  have n4 : ((⟨#[112, 97, 114, 101, 110, 116]⟩ : ByteArray).toList == (⟨#[97, 99, 99, 101, 115, 115]⟩ : ByteArray).toList) = false := str_ne (by decide)
  have n5 : ((⟨#[112, 97, 114, 101, 110, 116]⟩ : ByteArray).toList == (⟨#[109, 97, 120]⟩ : ByteArray).toList) = false := str_ne (by decide)
  have n6 : ((⟨#[112, 97, 114, 101, 110, 116]⟩ : ByteArray).toList == (⟨#[100, 101, 112, 116, 104]⟩ : ByteArray).toList) = false := str_ne (by decide)
  have c := (rq_box fb).2.2.2.2.2.2.2.2.1
  have z : W1.frozen? ⟨b, 8, none⟩ = false := by simp only [World.frozen?, fb]; rfl
  have hP := hide (show TakeP b r ((⟨#[112, 97, 114, 101, 110, 116]⟩ : ByteArray), v) w (W1.setCell ⟨b, 8, none⟩ (.string v)) from ⟨⟨{ r with parent := v }, by unfold TakeR; rw [if_neg (show ¬ ((⟨#[112, 97, 114, 101, 110, 116]⟩ : ByteArray), v).1 = ⟨#[110, 111, 100, 101]⟩ from (by decide : ¬ (⟨#[112, 97, 114, 101, 110, 116]⟩ : ByteArray) = (⟨#[110, 111, 100, 101]⟩ : ByteArray)))]; rw [if_neg (show ¬ ((⟨#[112, 97, 114, 101, 110, 116]⟩ : ByteArray), v).1 = ⟨#[105, 116, 101, 109]⟩ from (by decide : ¬ (⟨#[112, 97, 114, 101, 110, 116]⟩ : ByteArray) = (⟨#[105, 116, 101, 109]⟩ : ByteArray)))]; rw [if_neg (show ¬ ((⟨#[112, 97, 114, 101, 110, 116]⟩ : ByteArray), v).1 = ⟨#[106, 105, 100]⟩ from (by decide : ¬ (⟨#[112, 97, 114, 101, 110, 116]⟩ : ByteArray) = (⟨#[106, 105, 100]⟩ : ByteArray)))]; rw [if_neg (show ¬ ((⟨#[112, 97, 114, 101, 110, 116]⟩ : ByteArray), v).1 = ⟨#[114, 111, 108, 101]⟩ from (by decide : ¬ (⟨#[112, 97, 114, 101, 110, 116]⟩ : ByteArray) = (⟨#[114, 111, 108, 101]⟩ : ByteArray)))]; rw [if_neg (show ¬ ((⟨#[112, 97, 114, 101, 110, 116]⟩ : ByteArray), v).1 = ⟨#[97, 99, 99, 101, 115, 115]⟩ from (by decide : ¬ (⟨#[112, 97, 114, 101, 110, 116]⟩ : ByteArray) = (⟨#[97, 99, 99, 101, 115, 115]⟩ : ByteArray)))]; rw [if_neg (show ¬ ((⟨#[112, 97, 114, 101, 110, 116]⟩ : ByteArray), v).1 = ⟨#[109, 97, 120]⟩ from (by decide : ¬ (⟨#[112, 97, 114, 101, 110, 116]⟩ : ByteArray) = (⟨#[109, 97, 120]⟩ : ByteArray)))]; rw [if_neg (show ¬ ((⟨#[112, 97, 114, 101, 110, 116]⟩ : ByteArray), v).1 = ⟨#[100, 101, 112, 116, 104]⟩ from (by decide : ¬ (⟨#[112, 97, 114, 101, 110, 116]⟩ : ByteArray) = (⟨#[100, 101, 112, 116, 104]⟩ : ByteArray)))]; rw [if_pos (show ((⟨#[112, 97, 114, 101, 110, 116]⟩ : ByteArray), v).1 = (⟨#[112, 97, 114, 101, 110, 116]⟩ : ByteArray) from rfl)], at_setQ fb⟩, grown_setQ (grown_belQ b1)⟩)
  clear fa fb b1
  go_enter Tryd.func42, Tryd.ntmps42
  go_wp2_with fail
  exact bodyPost_end (results_no rfl) rfl ⟨rfl, hP.out⟩
set_option maxRecDepth 100000 in
set_option maxHeartbeats 4000000 in
theorem take_type (b : Nat) (r : Rq) (v : ByteArray) (w : World) (hb : w.heap[b]? = some (.cells (rqA r) 26)) :
    Calls Tryd.prog 42 #[.pointer (some ⟨b, 0, none⟩), .agg #[.string (⟨#[116, 121, 112, 101]⟩ : ByteArray), .string v]] w fun e w' => e = .returned (.tuple #[]) ∧ TakeP b r ((⟨#[116, 121, 112, 101]⟩ : ByteArray), v) w w' := by
  obtain ⟨W1, hW1⟩ : ∃ W1, w.alloc (.cells #[.string (⟨#[116, 121, 112, 101]⟩ : ByteArray), .string v] 49) = W1 := ⟨_, rfl⟩
  have b1 : Below w.heap.size w W1 := by rw [← hW1]; exact (Below.refl _ w).alloc (Nat.le_refl _) _
  have fa : W1.heap[w.heap.size]? = some (.cells #[.string (⟨#[116, 121, 112, 101]⟩ : ByteArray), .string v] 49) := by rw [← hW1]; exact World.alloc_heap_new _ _
  have hbl : b < w.heap.size := (Array.getElem?_eq_some_iff.1 hb).1
  have fb := (b1.block _ hbl).trans hb
  have a0 : W1.cell? ⟨w.heap.size, 0, none⟩ = some (.string (⟨#[116, 121, 112, 101]⟩ : ByteArray)) := by simp [World.cell?, fa]
  have a1 : W1.cell? ⟨w.heap.size, 1, none⟩ = some (.string v) := by simp [World.cell?, fa]
  have n0 : ((⟨#[116, 121, 112, 101]⟩ : ByteArray).toList == (⟨#[110, 111, 100, 101]⟩ : ByteArray).toList) = false := str_ne (by decide)
  have n1 : ((⟨#[116, 121, 112, 101]⟩ : ByteArray).toList == (⟨#[105, 116, 101, 109]⟩ : ByteArray).toList) = false := str_ne (by decide)
  have n2 : ((⟨#[116, 121, 112, 101]⟩ : ByteArray).toList == (⟨#[106, 105, 100]⟩ : ByteArray).toList) = false := str_ne (by decide)
  have n3 : ((⟨#[116, 121, 112, 101]⟩ : ByteArray).toList == (⟨#[114, 111, 108, 101]⟩ : ByteArray).toList) = false := str_ne (by decide)
  have n4 : ((⟨#[116, 121, 112, 101]⟩ : ByteArray).toList == (⟨#[97, 99, 99, 101, 115, 115]⟩ : ByteArray).toList) = false := str_ne (by decide)
  have n5 : ((⟨#[116, 121, 112, 101]⟩ : ByteArray).toList == (⟨#[109, 97, 120]⟩ : ByteArray).toList) = false := str_ne (by decide)
  have n6 : ((⟨#[116, 121, 112, 101]⟩ : ByteArray).toList == (⟨#[100, 101, 112, 116, 104]⟩ : ByteArray).toList) = false := str_ne (by decide)
  have n7 : ((⟨#[116, 121, 112, 101]⟩ : ByteArray).toList == (⟨#[112, 97, 114, 101, 110, 116]⟩ : ByteArray).toList) = false := str_ne (by decide)
  have HB := hide (And.intro fa (And.intro fb b1))
  clear fa fb b1
  go_enter Tryd.func42, Tryd.ntmps42
  go_wp2_with fail
  obtain ⟨V0, hV0⟩ : ∃ V, W1.drew = V := ⟨_, rfl⟩
  have hd : W1.drew.heap = W1.heap := rfl
  rw [hV0] at hd
  have fa0 := HB.out.1
  have fb0 := HB.out.2.1
  rw [← hd] at fa0 fb0
  have B0 : Below w.heap.size w V0 := by rw [← hV0]; exact HB.out.2.2.drew
  refine region_relA (S := fun V => V.heap[w.heap.size]? = some (.cells #[.string (⟨#[116, 121, 112, 101]⟩ : ByteArray), .string v] 49)) (fun a0 a W => ∃ xx : Nat → Value, TakeP b r ((⟨#[116, 121, 112, 101]⟩ : ByteArray), v) w W ∧ a = ⟨putA a0.tmps [72, 73, 74, 75, 76, 77, 78, 79] xx, a0.defers⟩) (by kernel_rfl) ?any ?fin
  case any =>
    rw [hV0]
    clear hV0
    refine anyH_take (i := 0) (v := .pointer (some ⟨b, 0, none⟩)) rfl (some 72) rfl (by kernel_rfl) (by kernel_rfl) (by kernel_rfl) (fun _ _ _ h => by cases h.1) rfl (fun w0 hw0 => by first | rfl | kernel_rfl) fa0 ?_
    simp only [Act.put, List.setIfInBounds_toArray, List.set_cons_zero, List.set_cons_succ]
    refine anyH_take (i := 2) (v := .pointer (some ⟨w.heap.size, 1, none⟩)) rfl (some 74) rfl (by kernel_rfl) (by kernel_rfl) (by kernel_rfl) (fun _ _ _ h => by cases h.1) rfl (fun w0 hw0 => by first | rfl | kernel_rfl) fa0 ?_
    simp only [Act.put, List.setIfInBounds_toArray, List.set_cons_zero, List.set_cons_succ]
    refine anyH_take (i := 3) (v := .string v) rfl (some 75) rfl (by kernel_rfl) (by kernel_rfl) (by kernel_rfl) (fun _ _ _ h => by cases h.1) rfl (fun w0 hw0 => ex_load rfl rfl (ldS (by simp [World.cell?, hw0]))) fa0 ?_
    simp only [Act.put, List.setIfInBounds_toArray, List.set_cons_zero, List.set_cons_succ]
    refine anyH_one (i := 1) (by kernel_rfl) ?_
    refine op_call rfl (some 73) rfl rfl #[] rfl (by simp) (fun _ _ => rfl) (types_any V0) ?_
    rintro e V1 ⟨rfl, c1⟩
    have fa1 := (c1.block _ (Array.getElem?_eq_some_iff.1 fa0).1).trans fa0
    have fb1 := (c1.block _ (Array.getElem?_eq_some_iff.1 fb0).1).trans fb0
    have B1 := B0.trans (c1.mono B0.size)
    refine ⟨_, rfl, fa1, ?_⟩
    simp only [Act.put, List.setIfInBounds_toArray, List.set_cons_zero, List.set_cons_succ]
    refine anyH_one (i := 4) (by kernel_rfl) ?_
    refine op_call rfl (some 76) rfl rfl #[.agg (w16 typesL), .string v] rfl (by simp [Act.eval]) (fun _ _ => rfl) (find_any typesL rfl v V1) ?_
    rintro e V2 ⟨⟨k, hk, hF, rfl⟩, c2⟩
    have fa2 := (c2.block _ (Array.getElem?_eq_some_iff.1 fa1).1).trans fa1
    have fb2 := (c2.block _ (Array.getElem?_eq_some_iff.1 fb1).1).trans fb1
    have B2 := B1.trans (c2.mono B1.size)
    refine ⟨_, rfl, fa2, ?_⟩
    simp only [Act.put, List.setIfInBounds_toArray, List.set_cons_zero, List.set_cons_succ]
    refine anyH_take (i := 5) (v := .bool (decide (k = 1))) rfl (some 77) rfl (by kernel_rfl) (by kernel_rfl) (by kernel_rfl) (fun _ _ _ h => by cases h.1) rfl (fun w0 hw0 => ex_eq1 rfl rfl rfl) fa2 ?_
    simp only [Act.put, List.setIfInBounds_toArray, List.set_cons_zero, List.set_cons_succ]
    refine anyH_take (i := 6) (v := .pointer (some ⟨b, 0, none⟩)) rfl (some 78) rfl (by kernel_rfl) (by kernel_rfl) (by kernel_rfl) (fun _ _ _ h => by cases h.1) rfl (fun w0 hw0 => by first | rfl | kernel_rfl) fa2 ?_
    simp only [Act.put, List.setIfInBounds_toArray, List.set_cons_zero, List.set_cons_succ]
    refine anyH_take (i := 7) (v := .pointer (some ⟨b, 9, none⟩)) rfl (some 79) rfl (by kernel_rfl) (by kernel_rfl) (by kernel_rfl) (fun _ _ _ h => by cases h.1) rfl (fun w0 hw0 => by first | rfl | kernel_rfl) fa2 ?_
    simp only [Act.put, List.setIfInBounds_toArray, List.set_cons_zero, List.set_cons_succ]
    have c := (rq_box fb2).2.2.2.2.2.2.2.2.2.1
    have z : V2.frozen? ⟨b, 9, none⟩ = false := by simp only [World.frozen?, fb2]; rfl
    have fa3 : (V2.setCell ⟨b, 9, none⟩ (.bool (decide (k = 1)))).heap[w.heap.size]? = some (.cells #[.string (⟨#[116, 121, 112, 101]⟩ : ByteArray), .string v] 49) := by rw [Below.heap_setCell _ _ _ _ (fun e => by have e2 : w.heap.size = b := e; omega)]; exact fa2
    have hP : TakeP b r ((⟨#[116, 121, 112, 101]⟩ : ByteArray), v) w (V2.setCell ⟨b, 9, none⟩ (.bool (decide (k = 1)))) := ⟨⟨{ r with coll := decide (k = 1) }, by unfold TakeR; rw [if_neg (show ¬ ((⟨#[116, 121, 112, 101]⟩ : ByteArray), v).1 = ⟨#[110, 111, 100, 101]⟩ from (by decide : ¬ (⟨#[116, 121, 112, 101]⟩ : ByteArray) = (⟨#[110, 111, 100, 101]⟩ : ByteArray)))]; rw [if_neg (show ¬ ((⟨#[116, 121, 112, 101]⟩ : ByteArray), v).1 = ⟨#[105, 116, 101, 109]⟩ from (by decide : ¬ (⟨#[116, 121, 112, 101]⟩ : ByteArray) = (⟨#[105, 116, 101, 109]⟩ : ByteArray)))]; rw [if_neg (show ¬ ((⟨#[116, 121, 112, 101]⟩ : ByteArray), v).1 = ⟨#[106, 105, 100]⟩ from (by decide : ¬ (⟨#[116, 121, 112, 101]⟩ : ByteArray) = (⟨#[106, 105, 100]⟩ : ByteArray)))]; rw [if_neg (show ¬ ((⟨#[116, 121, 112, 101]⟩ : ByteArray), v).1 = ⟨#[114, 111, 108, 101]⟩ from (by decide : ¬ (⟨#[116, 121, 112, 101]⟩ : ByteArray) = (⟨#[114, 111, 108, 101]⟩ : ByteArray)))]; rw [if_neg (show ¬ ((⟨#[116, 121, 112, 101]⟩ : ByteArray), v).1 = ⟨#[97, 99, 99, 101, 115, 115]⟩ from (by decide : ¬ (⟨#[116, 121, 112, 101]⟩ : ByteArray) = (⟨#[97, 99, 99, 101, 115, 115]⟩ : ByteArray)))]; rw [if_neg (show ¬ ((⟨#[116, 121, 112, 101]⟩ : ByteArray), v).1 = ⟨#[109, 97, 120]⟩ from (by decide : ¬ (⟨#[116, 121, 112, 101]⟩ : ByteArray) = (⟨#[109, 97, 120]⟩ : ByteArray)))]; rw [if_neg (show ¬ ((⟨#[116, 121, 112, 101]⟩ : ByteArray), v).1 = ⟨#[100, 101, 112, 116, 104]⟩ from (by decide : ¬ (⟨#[116, 121, 112, 101]⟩ : ByteArray) = (⟨#[100, 101, 112, 116, 104]⟩ : ByteArray)))]; rw [if_neg (show ¬ ((⟨#[116, 121, 112, 101]⟩ : ByteArray), v).1 = ⟨#[112, 97, 114, 101, 110, 116]⟩ from (by decide : ¬ (⟨#[116, 121, 112, 101]⟩ : ByteArray) = (⟨#[112, 97, 114, 101, 110, 116]⟩ : ByteArray)))]; rw [if_pos (show ((⟨#[116, 121, 112, 101]⟩ : ByteArray), v).1 = (⟨#[116, 121, 112, 101]⟩ : ByteArray) from rfl)]; exact ⟨k, hk, hF, rfl⟩, at_setQ fb2⟩, grown_setQ (grown_belQ B2)⟩
    refine anyH_one (i := 8) (by kernel_rfl) (op_store rfl rfl rfl (ex_store rfl rfl rfl (stB c z)) ⟨fa3, ?_⟩)
    simp only [Act.put]
    exact wpAnyH_done (by kernel_rfl) ⟨rfl, fill hP (by kernel_rfl)⟩ _
  rintro a W ⟨xx, hP, rfl⟩
  clear hV0 hd fa0 fb0 B0 V0
  simp only [putA, List.foldl_cons, List.foldl_nil, List.setIfInBounds_toArray, List.set_cons_zero, List.set_cons_succ]
  have HP := hide hP
  clear hP
  go_wp2_with fail
  exact bodyPost_end (results_no rfl) rfl ⟨rfl, HP.out⟩
set_option maxRecDepth 100000 in
set_option maxHeartbeats 4000000 in
theorem take_none (b : Nat) (r : Rq) (nm : ByteArray) (h0 : nm ≠ ⟨#[110, 111, 100, 101]⟩) (h1 : nm ≠ ⟨#[105, 116, 101, 109]⟩) (h2 : nm ≠ ⟨#[106, 105, 100]⟩) (h3 : nm ≠ ⟨#[114, 111, 108, 101]⟩) (h4 : nm ≠ ⟨#[97, 99, 99, 101, 115, 115]⟩) (h5 : nm ≠ ⟨#[109, 97, 120]⟩) (h6 : nm ≠ ⟨#[100, 101, 112, 116, 104]⟩) (h7 : nm ≠ ⟨#[112, 97, 114, 101, 110, 116]⟩) (h8 : nm ≠ ⟨#[116, 121, 112, 101]⟩) (v : ByteArray) (w : World) (hb : w.heap[b]? = some (.cells (rqA r) 26)) :
    Calls Tryd.prog 42 #[.pointer (some ⟨b, 0, none⟩), .agg #[.string nm, .string v]] w fun e w' => e = .returned (.tuple #[]) ∧ TakeP b r (nm, v) w w' := by
  obtain ⟨W1, hW1⟩ : ∃ W1, w.alloc (.cells #[.string nm, .string v] 49) = W1 := ⟨_, rfl⟩
  have b1 : Below w.heap.size w W1 := by rw [← hW1]; exact (Below.refl _ w).alloc (Nat.le_refl _) _
  have fa : W1.heap[w.heap.size]? = some (.cells #[.string nm, .string v] 49) := by rw [← hW1]; exact World.alloc_heap_new _ _
  have hbl : b < w.heap.size := (Array.getElem?_eq_some_iff.1 hb).1
  have fb := (b1.block _ hbl).trans hb
  have a0 : W1.cell? ⟨w.heap.size, 0, none⟩ = some (.string nm) := by simp [World.cell?, fa]
  have a1 : W1.cell? ⟨w.heap.size, 1, none⟩ = some (.string v) := by simp [World.cell?, fa]
  have n0 : (nm.toList == [110, 111, 100, 101]) = false := by rw [← show (⟨#[110, 111, 100, 101]⟩ : ByteArray).toList = [110, 111, 100, 101] from by rw [ByteArray.toList_eq]]; exact str_ne h0
  have n1 : (nm.toList == [105, 116, 101, 109]) = false := by rw [← show (⟨#[105, 116, 101, 109]⟩ : ByteArray).toList = [105, 116, 101, 109] from by rw [ByteArray.toList_eq]]; exact str_ne h1
  have n2 : (nm.toList == [106, 105, 100]) = false := by rw [← show (⟨#[106, 105, 100]⟩ : ByteArray).toList = [106, 105, 100] from by rw [ByteArray.toList_eq]]; exact str_ne h2
  have n3 : (nm.toList == [114, 111, 108, 101]) = false := by rw [← show (⟨#[114, 111, 108, 101]⟩ : ByteArray).toList = [114, 111, 108, 101] from by rw [ByteArray.toList_eq]]; exact str_ne h3
  have n4 : (nm.toList == [97, 99, 99, 101, 115, 115]) = false := by rw [← show (⟨#[97, 99, 99, 101, 115, 115]⟩ : ByteArray).toList = [97, 99, 99, 101, 115, 115] from by rw [ByteArray.toList_eq]]; exact str_ne h4
  have n5 : (nm.toList == [109, 97, 120]) = false := by rw [← show (⟨#[109, 97, 120]⟩ : ByteArray).toList = [109, 97, 120] from by rw [ByteArray.toList_eq]]; exact str_ne h5
  have n6 : (nm.toList == [100, 101, 112, 116, 104]) = false := by rw [← show (⟨#[100, 101, 112, 116, 104]⟩ : ByteArray).toList = [100, 101, 112, 116, 104] from by rw [ByteArray.toList_eq]]; exact str_ne h6
  have n7 : (nm.toList == [112, 97, 114, 101, 110, 116]) = false := by rw [← show (⟨#[112, 97, 114, 101, 110, 116]⟩ : ByteArray).toList = [112, 97, 114, 101, 110, 116] from by rw [ByteArray.toList_eq]]; exact str_ne h7
  have n8 : (nm.toList == [116, 121, 112, 101]) = false := by rw [← show (⟨#[116, 121, 112, 101]⟩ : ByteArray).toList = [116, 121, 112, 101] from by rw [ByteArray.toList_eq]]; exact str_ne h8
  have hP := hide (show TakeP b r (nm, v) w W1 from ⟨⟨r, by unfold TakeR; rw [if_neg (show ¬ (nm, v).1 = ⟨#[110, 111, 100, 101]⟩ from h0)]; rw [if_neg (show ¬ (nm, v).1 = ⟨#[105, 116, 101, 109]⟩ from h1)]; rw [if_neg (show ¬ (nm, v).1 = ⟨#[106, 105, 100]⟩ from h2)]; rw [if_neg (show ¬ (nm, v).1 = ⟨#[114, 111, 108, 101]⟩ from h3)]; rw [if_neg (show ¬ (nm, v).1 = ⟨#[97, 99, 99, 101, 115, 115]⟩ from h4)]; rw [if_neg (show ¬ (nm, v).1 = ⟨#[109, 97, 120]⟩ from h5)]; rw [if_neg (show ¬ (nm, v).1 = ⟨#[100, 101, 112, 116, 104]⟩ from h6)]; rw [if_neg (show ¬ (nm, v).1 = ⟨#[112, 97, 114, 101, 110, 116]⟩ from h7)]; rw [if_neg (show ¬ (nm, v).1 = ⟨#[116, 121, 112, 101]⟩ from h8)]; , fb⟩, grown_belQ b1⟩)
  clear fa fb b1 h0 h1 h2 h3 h4 h5 h6 h7 h8
  go_enter Tryd.func42, Tryd.ntmps42
  go_wp2_with fail
  exact bodyPost_end (results_no rfl) rfl ⟨rfl, hP.out⟩
theorem take_any (b : Nat) (r : Rq) (nm v : ByteArray) (w : World) (hb : w.heap[b]? = some (.cells (rqA r) 26)) (hs : v.size ≤ 281474976710656) (hg : GlobE w) :
    Calls Tryd.prog 42 #[.pointer (some ⟨b, 0, none⟩), .agg #[.string nm, .string v]] w fun e w' => e = .returned (.tuple #[]) ∧ TakeP b r (nm, v) w w' := by
  by_cases h0 : nm = ⟨#[110, 111, 100, 101]⟩
  · subst h0
    exact take_node b r v w hb
  by_cases h1 : nm = ⟨#[105, 116, 101, 109]⟩
  · subst h1
    exact take_item b r v w hb
  by_cases h2 : nm = ⟨#[106, 105, 100]⟩
  · subst h2
    exact take_jid b r v w hb
  by_cases h3 : nm = ⟨#[114, 111, 108, 101]⟩
  · subst h3
    exact take_role b r v w hb
  by_cases h4 : nm = ⟨#[97, 99, 99, 101, 115, 115]⟩
  · subst h4
    exact take_access b r v w hb
  by_cases h5 : nm = ⟨#[109, 97, 120]⟩
  · subst h5
    exact take_max b r v w hb hs hg
  by_cases h6 : nm = ⟨#[100, 101, 112, 116, 104]⟩
  · subst h6
    exact take_depth b r v w hb hs hg
  by_cases h7 : nm = ⟨#[112, 97, 114, 101, 110, 116]⟩
  · subst h7
    exact take_parent b r v w hb
  by_cases h8 : nm = ⟨#[116, 121, 112, 101]⟩
  · subst h8
    exact take_type b r v w hb
  exact take_none b r nm h0 h1 h2 h3 h4 h5 h6 h7 h8 v w hb
end Go.Proofs.YtimhkgpjfppkmaaDoor
