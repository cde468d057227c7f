/- Regions that draw their order, inside of a loop's round. Regions that draw: more steps. Stanzas: Failed. -/
import Derived.Test.YtpknifioflagaaaDoorXJ
import Derived.OrdersHeld
import Derived.OrdersIn
import Derived.Test.YtpknifioflagaaaDoorXI
namespace Go.Proofs.YtpknifioflagaaaDoor
open Go Go.RowKit
variable {P : Program} {n l : Nat}

theorem opIn_of_op {o : Oper} {a : Act} {w : World} {K : Act → World → Prop} {Q : Exit → Act → World → Prop} (_hc : ∀ c, o.op ≠ .call c) (hd : ∀ c, o.op ≠ .defer c) (h : o.wp P a w K Q) : o.wpIn (Fence.wide.inRound l) n P a w K Q := by
  refine ⟨fun f _ => trivial, ?_⟩
  rw [Oper.semAt_plain _ _ _ hd]
  unfold Oper.wp at h
  cases hr : (execOp a.eval o).run P w with
  | halt x w' =>
    rw [hr] at h
    cases x <;> first | exact h | exact h.elim
  | ok x w' =>
    rw [hr] at h
    cases x with
    | value v => exact h
    | skip => exact h
    | defer d => exact h
    | enter f args => exact ⟨fun e => by simp [Fence.inRound, Fence.wide] at e, CallsIn.inRound l (callsIn_wide.2 h)⟩
    | row r args => exact ⟨fun e => by simp [Fence.inRound, Fence.wide] at e, fun c cs _ => let ⟨v, w', r, s⟩ := h c cs; ⟨v, w', r, stepsIn_wide.2 s⟩⟩
    | _ => exact h.elim
/-- No calls, nothing put off. -/
def plainOps (ops : Array Oper) : Bool := ops.all fun o => match o.op with | .call _ => false | .defer _ => false | _ => true
theorem plainOps_at {ops : Array Oper} (h : plainOps ops = true) {i : Nat} {o : Oper} (hi : ops[i]? = some o) : (∀ c, o.op ≠ .call c) ∧ (∀ c, o.op ≠ .defer c) := by
  have := Array.all_eq_true_iff_forall_mem.1 h o (Array.mem_of_getElem? hi)
  exact ⟨fun c e => by simp [e] at this, fun c e => by simp [e] at this⟩
theorem anyIn_of_any {md : Region.Mode} {ops : Array Oper} {Q : Exit → Act → World → Prop} (hp : plainOps ops = true) (hQ : ¬ LetsOut Q) : ∀ (fuel : Nat) (listed : Array Bool) (a : Act) (w : World), wpAny P md ops Q fuel listed a w → wpAnyIn (Fence.wide.inRound l) n P md ops Q fuel listed a w
  | 0, _, _, _, h => h
  | fuel + 1, listed, a, w, h => by
    refine ⟨h.1, fun i hi => ?_⟩
    have h1 := h.2 i hi
    unfold wpOp at h1
    unfold wpOpIn
    cases ho : ops[i]? with
    | none =>
      simp only [ho] at h1
      exact anyIn_of_any hp hQ fuel _ _ _ h1
    | some o =>
      simp only [ho] at h1
      simp only
      obtain ⟨k1, k2⟩ := plainOps_at hp ho
      by_cases hw : Region.wanted o (yielded ops a.tmps) = true
      · simp only [hw, if_true] at h1 ⊢
        rcases h1 with h1 | h1
        · exact opIn_of_op k1 k2 (Oper.wp_mono (fun a w => anyIn_of_any hp hQ fuel _ a w) h1)
        · exact absurd h1.2 hQ
      · simp only [hw, if_false, Bool.false_eq_true] at h1 ⊢
        exact ⟨fun f _ => trivial, anyIn_of_any hp hQ fuel _ _ _ h1⟩
/-- A region that draws and ends in one way alone, inside of a round. -/
theorem region_round {id : Nat} {ops : Array Oper} {Q : Exit → Act → World → Prop} {S : World → Prop} {a : Act} {w : World} (A : Act) (W0 : World) (hm : P.follows .mixedOrders = true) (hp : plainOps ops = true)
    (h : wpAnyH P .any ops (fun e a w' => e = .normal ∧ a = A ∧ w' = W0) S ops.size (Array.replicate ops.size false) a w.drew) (hq : Q .normal A W0) : (Code.region id ops true).wpIn (Fence.wide.inRound l) n P Q a w :=
  wpIn_mono (wpIn_region_any hm (anyIn_of_any hp (by rintro ⟨a, w, e, _⟩; cases e) _ _ _ _ (wpAny_of_held _ _ _ _ h))) (by rintro e a w ⟨rfl, rfl, rfl⟩; exact hq)
/-- One operation alone may come up. -/
theorem anyH_val {md : Region.Mode} {ops : Array Oper} {Q : Exit → Act → World → Prop} {S : World → Prop} {i fuel : Nat} {o : Oper} {listed : Array Bool} {a : Act} {w w' : World} {v : Value} (hr : Region.ready md ops listed = [i]) (hi : ops[i]? = some o) (dst : Option Tmp) (hdst : o.dst = dst) (hw : Region.wanted o (yielded ops a.tmps) = true) (hrun : (execOp a.eval o).run P w = .ok (.value v) w') (hS : S w') (h : wpAnyH P md ops Q S fuel (listed.setIfInBounds i true) (a.put dst v) w') : wpAnyH P md ops Q S (fuel + 1) listed a w := by
  subst hdst
  refine wpAnyH_all hr (by simp) fun j hj => ?_
  obtain rfl : j = i := by simpa using hj
  unfold wpOp
  simp only [hi, hw, if_true]
  refine .inl ?_
  unfold Oper.wp
  rw [hrun]
  exact ⟨hS, h⟩
theorem anyH_skip {md : Region.Mode} {ops : Array Oper} {Q : Exit → Act → World → Prop} {S : World → Prop} {i fuel : Nat} {o : Oper} {listed : Array Bool} {a : Act} {w w' : World} (hr : Region.ready md ops listed = [i]) (hi : ops[i]? = some o) (dst : Option Tmp) (hdst : o.dst = dst) (hw : Region.wanted o (yielded ops a.tmps) = true) (hrun : (execOp a.eval o).run P w = .ok .skip w') (hS : S w') (h : wpAnyH P md ops Q S fuel (listed.setIfInBounds i true) (a.put dst undef) w') : wpAnyH P md ops Q S (fuel + 1) listed a w := by
  subst hdst
  refine wpAnyH_all hr (by simp) fun j hj => ?_
  obtain rfl : j = i := by simpa using hj
  unfold wpOp
  simp only [hi, hw, if_true]
  refine .inl ?_
  unfold Oper.wp
  rw [hrun]
  exact ⟨hS, h⟩
/-- What reads alone, and yields the same wherever S holds, may come first. -/
theorem anyH_take {ops : Array Oper} {Q : Exit → Act → World → Prop} {S : World → Prop} {i fuel : Nat} {o : Oper} {listed : Array Bool} {a : Act} {w : World} {v : Value} (hi : ops[i]? = some o) (dst : Option Tmp) (hdst : o.dst = dst) (hs : Region.noSelect ops = true) (hf : Region.free .any ops listed i = true) (hr : (Region.ready .any ops listed).contains i = true) (hQ : ∀ c a w, ¬ Q (.panic c) a w) (hw : Region.wanted o (yielded ops a.tmps) = true) (hrun : ∀ w, S w → (execOp a.eval o).run P w = .ok (.value v) w) (hS : S w) (h : wpAnyH P .any ops Q S fuel (listed.setIfInBounds i true) (a.put dst v) w) : wpAnyH P .any ops Q S (fuel + 1) listed a w :=
  wpAnyH_take hi hs hf hr (fun _ _ _ h => absurd h (hQ _ _ _)) (.inl ⟨hw, hrun⟩) hS (hdst ▸ h)
/-- A region that draws, by what holds behind it. -/
theorem region_rel {id : Nat} {ops : Array Oper} {Q : Exit → Act → World → Prop} {S : World → Prop} {a : Act} {w : World} (R : Act → World → Prop) (hm : P.follows .mixedOrders = true)
    (h : wpAnyH P .any ops (fun e a w' => e = .normal ∧ R a w') S ops.size (Array.replicate ops.size false) a w.drew) (hq : ∀ a w', R a w' → Q .normal a w') : (Code.region id ops true).wp P Q a w :=
  wp_mono (wp_region_held hm h) (by rintro e a w ⟨rfl, h⟩; exact hq _ _ h)
/-- Two may come up. -/
theorem anyH_two {md : Region.Mode} {ops : Array Oper} {Q : Exit → Act → World → Prop} {S : World → Prop} {i j fuel : Nat} {listed : Array Bool} {a : Act} {w : World} (hr : Region.ready md ops listed = [i, j]) (h1 : wpOp P ops Q i (fun a' w' => S w' ∧ wpAnyH P md ops Q S fuel (listed.setIfInBounds i true) a' w') a w) (h2 : wpOp P ops Q j (fun a' w' => S w' ∧ wpAnyH P md ops Q S fuel (listed.setIfInBounds j true) a' w') a w) : wpAnyH P md ops Q S (fuel + 1) listed a w := by
  refine wpAnyH_all hr (by simp) fun k hk => ?_
  have hk' : k = i ∨ k = j := by simpa using hk
  rcases hk' with rfl | rfl
  · exact h1
  · exact h2
theorem anyH_three {md : Region.Mode} {ops : Array Oper} {Q : Exit → Act → World → Prop} {S : World → Prop} {i j k fuel : Nat} {listed : Array Bool} {a : Act} {w : World} (hr : Region.ready md ops listed = [i, j, k]) (h1 : wpOp P ops Q i (fun a' w' => S w' ∧ wpAnyH P md ops Q S fuel (listed.setIfInBounds i true) a' w') a w) (h2 : wpOp P ops Q j (fun a' w' => S w' ∧ wpAnyH P md ops Q S fuel (listed.setIfInBounds j true) a' w') a w) (h3 : wpOp P ops Q k (fun a' w' => S w' ∧ wpAnyH P md ops Q S fuel (listed.setIfInBounds k true) a' w') a w) : wpAnyH P md ops Q S (fuel + 1) listed a w := by
  refine wpAnyH_all hr (by simp) fun x hx => ?_
  have hx' : x = i ∨ x = j ∨ x = k := by simpa using hx
  rcases hx' with rfl | rfl | rfl
  · exact h1
  · exact h2
  · exact h3
theorem op_val {ops : Array Oper} {Q : Exit → Act → World → Prop} {i : Nat} {o : Oper} {a : Act} {w w' : World} {v : Value} {K : Act → World → Prop} (hi : ops[i]? = some o) (dst : Option Tmp) (hdst : o.dst = dst) (hw : Region.wanted o (yielded ops a.tmps) = true) (hrun : (execOp a.eval o).run P w = .ok (.value v) w') (h : K (a.put dst v) w') : wpOp P ops Q i K a w := by
  subst hdst
  unfold wpOp
  simp only [hi, hw, if_true]
  refine .inl ?_
  unfold Oper.wp
  rw [hrun]
  exact h
end Go.Proofs.YtpknifioflagaaaDoor
namespace Go.Proofs.YtpknifioflagaaaDoor
open Go Go.RowKit
variable {P : Program} {ops : Array Oper} {Q : Exit → Act → World → Prop} {S S' : World → Prop} {md : Region.Mode}

/-- What is asked of the world may be more from here on. -/
theorem anyH_mono (hS : ∀ w, S' w → S w) : ∀ (fuel : Nat) (listed : Array Bool) (a : Act) (w : World), wpAnyH P md ops Q S' fuel listed a w → wpAnyH P md ops Q S fuel listed a w
  | 0, _, _, _, h => h
  | fuel + 1, _, _, _, h => ⟨h.1, fun i hi => wpOp_mono (fun a' w' h' => ⟨hS _ h'.1, anyH_mono hS fuel _ a' w' h'.2⟩) (h.2 i hi)⟩
theorem anyH_more {fuel : Nat} {listed : Array Bool} {a : Act} {w : World} (S' : World → Prop) (hS : ∀ w, S' w → S w) (h : wpAnyH P md ops Q S' fuel listed a w) : wpAnyH P md ops Q S fuel listed a w := anyH_mono hS _ _ _ _ h
/-- One alone may come up, and it is a call or the like. -/
theorem anyH_one {i fuel : Nat} {listed : Array Bool} {a : Act} {w : World} (hr : Region.ready md ops listed = [i]) (h1 : wpOp P ops Q i (fun a' w' => S w' ∧ wpAnyH P md ops Q S fuel (listed.setIfInBounds i true) a' w') a w) : wpAnyH P md ops Q S (fuel + 1) listed a w := by
  refine wpAnyH_all hr (by simp) fun k hk => ?_
  obtain rfl : k = i := by simpa using hk
  exact h1
/-- What is not wanted may come first. -/
theorem anyH_off {i fuel : Nat} {o : Oper} {listed : Array Bool} {a : Act} {w : World} (hi : ops[i]? = some o) (dst : Option Tmp) (hdst : o.dst = dst) (hs : Region.noSelect ops = true) (hf : Region.free .any ops listed i = true) (hr : (Region.ready .any ops listed).contains i = true) (hQ : ∀ c a w, ¬ Q (.panic c) a w) (hw : Region.wanted o (yielded ops a.tmps) = false) (hS : S w) (h : wpAnyH P .any ops Q S fuel (listed.setIfInBounds i true) (a.put dst undef) w) : wpAnyH P .any ops Q S (fuel + 1) listed a w :=
  wpAnyH_take hi hs hf hr (fun _ _ _ h => absurd h (hQ _ _ _)) (.inr ⟨hw, rfl⟩) hS (hdst ▸ h)
/-- A call that may come up. -/
theorem op_call {i f : Nat} {o : Oper} {a : Act} {w : World} {K : Act → World → Prop} {args : Array Operand} {tys : Array TypeId} {R : Ending → World → Prop} (hi : ops[i]? = some o) (dst : Option Tmp) (hdst : o.dst = dst) (hw : Region.wanted o (yielded ops a.tmps) = true) (vs : Array Value)
    (hop : o.op = .call { callee := .value (.func f), args := args, argTypes := tys }) (hvs : args.map a.eval = vs) (hgo : ∀ xs V, (callFunc f xs).run P V = .ok (.enter f xs) V) (hC : Calls P f vs w R) (hK : ∀ e w', R e w' → ∃ v, e = .returned v ∧ K (a.put dst v) w') : wpOp P ops Q i K a w := by
  subst hdst
  unfold wpOp
  simp only [hi, hw, if_true]
  refine .inl ?_
  unfold Oper.wp
  simp [execOp, hop, resolve, invoke, hvs, hgo, Oper.upon, Act.eval, Deferred.ofValue, go_sem]
  refine hC.mono ?_
  intro e w' hR
  obtain ⟨u, rfl, hk⟩ := hK e w' hR
  exact hk
end Go.Proofs.YtpknifioflagaaaDoor
namespace Go.Proofs.YtpknifioflagaaaDoor
open Go.RowKit Go.Shelf

theorem hp_lt {w : World} {b : Nat} {o : Obj} (h : w.heap[b]? = some o) : b < w.heap.size := (Array.getElem?_eq_some_iff.1 h).1
theorem run_load_cell {T : TypeId} {d : TypeDesc} {w : World} {b i : Nat} {v : Value} (hu : Tryd.prog.underlying T = some d) (hd : d.isRow = false) (hc : w.cell? ⟨b, i, none⟩ = some v) : (Instr.loadAt T (.pointer (some ⟨b, i, none⟩))).run Tryd.prog w = .ok v w := by
  have ha : (isAgg T).run Tryd.prog w = .ok false w := by
    unfold isAgg
    rw [Sem.run_bind, run_underlying hu w]
    cases d <;> simp_all
  simp [Instr.loadAt, Instr.sureAddr, loadVar, ha, hc, go_sem]
theorem run_load_tok {w : World} {b i : Nat} {v0 v1 v2 v3 : Value} (c0 : w.cell? ⟨b, i, none⟩ = some v0) (c1 : w.cell? ⟨b, i + 1, none⟩ = some v1) (c2 : w.cell? ⟨b, i + 2, none⟩ = some v2) (c3 : w.cell? ⟨b, i + 3, none⟩ = some v3) : (Instr.loadAt 56 (.pointer (some ⟨b, i, none⟩))).run Tryd.prog w = .ok (.agg #[v0, v1, v2, v3]) w := by
  have a := Tryd.isAgg56
  have z := Tryd.sizeOf56
  simp [Instr.loadAt, Instr.sureAddr, loadVar, loadCellsFrom, a, z, c0, c1, c2, c3, go_sem, Addr.add]
theorem set4 {w : World} {b : Nat} {v0 v1 v2 v3 : Value} {T : TypeId} (h : w.heap[b]? = some (.cells #[v0, v1, v2, v3] T)) (a0 a1 a2 a3 : Value) : ((((w.setCell ⟨b, 0, none⟩ a0).setCell ⟨b, 1, none⟩ a1).setCell ⟨b, 2, none⟩ a2).setCell ⟨b, 3, none⟩ a3).heap[b]? = some (.cells #[a0, a1, a2, a3] T) :=
  heap_setCell_same _ _ 3 _ _ a3 (heap_setCell_same _ _ 2 _ _ a2 (heap_setCell_same _ _ 1 _ _ a1 (heap_setCell_same _ _ 0 _ _ a0 h)))
theorem below4 {B b : Nat} {a w : World} (h : Below B a w) (hb : B ≤ b) (a0 a1 a2 a3 : Value) : Below B a ((((w.setCell ⟨b, 0, none⟩ a0).setCell ⟨b, 1, none⟩ a1).setCell ⟨b, 2, none⟩ a2).setCell ⟨b, 3, none⟩ a3) :=
  (((h.setCell (p := ⟨b, 0, none⟩) hb _).setCell (p := ⟨b, 1, none⟩) hb _).setCell (p := ⟨b, 2, none⟩) hb _).setCell (p := ⟨b, 3, none⟩) hb _
theorem other4 {w : World} {b j : Nat} (a0 a1 a2 a3 : Value) (hj : j ≠ b) : ((((w.setCell ⟨b, 0, none⟩ a0).setCell ⟨b, 1, none⟩ a1).setCell ⟨b, 2, none⟩ a2).setCell ⟨b, 3, none⟩ a3).heap[j]? = w.heap[j]? :=
  (Below.heap_setCell _ _ _ _ hj).trans ((Below.heap_setCell _ _ _ _ hj).trans ((Below.heap_setCell _ _ _ _ hj).trans (Below.heap_setCell _ _ _ _ hj)))
theorem run_store_tok {w : World} {b : Nat} {v0 v1 v2 v3 : Value} {T : TypeId} (h : w.heap[b]? = some (.cells #[v0, v1, v2, v3] T)) (kd : Int) (nm : ByteArray) (sa : Option Addr) (sn sc : Nat) (tx : ByteArray) : (Instr.storeAt 56 (.pointer (some ⟨b, 0, none⟩)) (.agg #[.int .u8 kd, .string nm, .slice sa sn sc, .string tx])).run Tryd.prog w = .ok () ((((w.setCell ⟨b, 0, none⟩ (.int .u8 kd)).setCell ⟨b, 1, none⟩ (.string nm)).setCell ⟨b, 2, none⟩ (.slice sa sn sc)).setCell ⟨b, 3, none⟩ (.string tx)) := by
  have a := Tryd.isAgg56
  have z := Tryd.sizeOf56
  have f : ∀ i, w.frozen? ⟨b, i, none⟩ = false := fun i => by simp [World.frozen?, h]
  obtain ⟨c0, c1, c2, c3⟩ := cells4 h
  go_simp
theorem ex_indexT {o : Oper} {a : Act} {w : World} {x y : Operand} {b off m cap k : Nat} (ho : o.op = .indexAddr 23 x y) (hx : a.eval x = .slice (some ⟨b, off, none⟩) m cap) (hy : a.eval y = .int .i64 k) (hk : k < m) : (execOp a.eval o).run Tryd.prog w = .ok (.value (.pointer (some ⟨b, off + k * 4, none⟩))) w := by
  have hk1 : (k : Int) < m := by omega
  unfold execOp
  simp only [ho, hx, hy]
  go_simp
theorem ex_field5 {o : Oper} {a : Act} {w : World} {x : Operand} {b : Nat} (ho : o.op = .fieldAddr 25 x 5) (hx : a.eval x = .pointer (some ⟨b, 0, none⟩)) : (execOp a.eval o).run Tryd.prog w = .ok (.value (.pointer (some ⟨b, 5, none⟩))) w := by
  unfold execOp
  simp only [ho, hx]
  go_simp
theorem op_run {P : Program} {ops : Array Oper} {Q : Exit → Act → World → Prop} {i : Nat} {o : Oper} {a : Act} {w w' : World} {v : Value} {K : Act → World → Prop} (hi : ops[i]? = some o) (dst : Option Tmp) (hdst : o.dst = dst) (hw : Region.wanted o (yielded ops a.tmps) = true) (hrun : (execOp a.eval o).run P w = .ok (.value v) w') (hK : K (a.put dst v) w') : wpOp P ops Q i K a w := by
  subst hdst
  unfold wpOp
  simp only [hi, hw, if_true]
  refine .inl ?_
  unfold Oper.wp
  rw [hrun]
  exact hK
/-- A store that may come up. -/
theorem op_store {P : Program} {ops : Array Oper} {Q : Exit → Act → World → Prop} {i : Nat} {o : Oper} {a : Act} {w w' : World} {K : Act → World → Prop} (hi : ops[i]? = some o) (hdst : o.dst = none) (hw : Region.wanted o (yielded ops a.tmps) = true) (hrun : (execOp a.eval o).run P w = .ok .skip w') (hK : K (a.put none undef) w') : wpOp P ops Q i K a w := by
  unfold wpOp
  simp only [hi, hw, if_true]
  refine .inl ?_
  unfold Oper.wp
  rw [hrun]
  rw [← hdst] at hK
  exact hK
/-- What Failed answers. -/
def FailT (ty : ByteArray) (ts : List Tok) (s : ByteArray) : Prop := ty = ty_error ∧ ∃ t0 t1, ts[0]? = some t0 ∧ ts[1]? = some t1 ∧ t0.kind = 1 ∧ t0.name = ty_error ∧ t1.kind = 1 ∧ s = t1.name
set_option maxRecDepth 100000 in
set_option maxHeartbeats 4000000 in
theorem failed_any (k : Int) (ty fr tt id : ByteArray) (pa : Option Addr) (pc : Nat) (ts : List Tok) (av : Nat → Option Addr × Nat) (w : World) (hT : TokMem w.heap.size w pa ts av) (hl : RowsLaid w) :
    Calls Tryd.prog 20 #[.agg #[.int .u8 k, .string ty, .string fr, .string tt, .string id, .slice pa ts.length pc]] w fun e w' => ((∃ s, FailT ty ts s ∧ ParseEnds s e) ∨ ((¬ ∃ s, FailT ty ts s) ∧ e = .returned (.tuple #[.int .i64 0, .bool false]))) ∧ Below w.heap.size w w' := by
  obtain ⟨Wa, hWa, aa, ba, za⟩ := newV w 25 #[.int .u8 k, .string ty, .string fr, .string tt, .string id, .slice pa ts.length pc]
  have hlen := hT.1
  obtain ⟨m, hml⟩ : ∃ m, ts.length = m := ⟨_, rfl⟩
  rw [hml] at aa hWa hlen ⊢
  obtain ⟨x0, x1, x2, x3, x4, x5⟩ := cells6 aa
  by_cases hty : ty = ty_error
  · subst hty
    have z1 : (ty_error.toList == [101, 114, 114, 111, 114]) = true := by rw [ByteArray.toList_eq]; rfl
    by_cases h2 : 2 ≤ m
    · have h2i : ¬ ((m : Int) < 2) := by omega
      obtain ⟨t0, ht0⟩ : ∃ t, ts[0]? = some t := ⟨ts[0]'(by omega), by simp⟩
      obtain ⟨t1, ht1⟩ : ∃ t, ts[1]? = some t := ⟨ts[1]'(by omega), by simp⟩
      obtain ⟨_, _, _, _, _, b, off, rfl, hbw, p0, p1, p2, p3⟩ := (hT.below ba).2 0 t0 ht0
      obtain ⟨_, _, _, _, _, b', off', e', _, q0, q1, q2, q3⟩ := (hT.below ba).2 1 t1 ht1
      cases e'
      have H0 := hide (And.intro hT (And.intro hl (And.intro aa (And.intro ba (And.intro hml (And.intro ht0 ht1))))))
      clear hT hl aa ba hml
      go_enter Tryd.func20, Tryd.ntmps20
      go_wp2_with fail
      obtain ⟨V0, hV0⟩ : ∃ V0, Wa.drew = V0 := ⟨_, rfl⟩
      have hV : ∀ j : Nat, V0.heap[j]? = Wa.heap[j]? := fun j => by rw [← hV0]; rfl
      have hVz : V0.heap.size = Wa.heap.size := by rw [← hV0]; rfl
      have BV : Below w.heap.size w V0 := by rw [← hV0]; exact H0.out.2.2.2.1.drew
      have hb0 : w.heap.size < V0.heap.size := by omega
      have hbl : b < V0.heap.size := by omega
      have cV : ∀ i : Nat, V0.cell? ⟨b, i, none⟩ = Wa.cell? ⟨b, i, none⟩ := fun i => by simp [World.cell?, hV]
      have x5 : V0.cell? ⟨w.heap.size, 5, none⟩ = some (.slice (some ⟨b, off, none⟩) m pc) := by simp only [World.cell?, hV]; exact x5
      rw [← cV] at p0 p1 p2 p3 q0 q1 q2 q3
      refine region_rel (S := fun W => Below V0.heap.size V0 W) (fun a W => ∃ (b4 b5 : Nat) (x2 x3 x6 x7 x8 x9 x10 x11 x12 x13 x14 x15 x16 x17 x18 x19 x20 x21 x22 x23 x24 x25 x26 x27 x28 x29 x30 x31 x32 x33 x34 x35 x36 x37 x38 x39 x40 : Value), W.heap[b4]? = some (.cells #[.int .u8 t0.kind, .string t0.name, .slice (av 0).1 t0.attrs.length (av 0).2, .string t0.text] 56) ∧ W.heap[b5]? = some (.cells #[.int .u8 t1.kind, .string t1.name, .slice (av 1).1 t1.attrs.length (av 1).2, .string t1.text] 56) ∧ Below V0.heap.size V0 W ∧ a = { tmps := #[.agg #[.int .u8 k, .string ty_error, .string fr, .string tt, .string id, .slice (some ⟨b, off, none⟩) m pc], .pointer (some ⟨w.heap.size, 0, none⟩), x2, x3, .pointer (some ⟨b4, 0, none⟩), .pointer (some ⟨b5, 0, none⟩), x6, x7, x8, x9, x10, x11, x12, x13, x14, x15, x16, x17, x18, x19, x20, x21, x22, x23, x24, x25, x26, x27, x28, x29, x30, x31, x32, x33, x34, x35, x36, x37, x38, x39, x40], defers := [] }) (by kernel_rfl) ?reg ?beh
      case reg =>
        rw [hV0]
        have S0 : Below V0.heap.size V0 V0 := Below.refl _ _
        have BV0 := S0
        refine anyH_take (i := 0) (v := .pointer (some ⟨w.heap.size, 5, none⟩)) rfl (some 15) rfl (by kernel_rfl) (by kernel_rfl) (by kernel_rfl) (fun _ _ _ h => by cases h.1) rfl (fun w0 hw0 => ex_field5 rfl rfl) S0 ?_
        simp only [Act.put, List.setIfInBounds_toArray, List.set_cons_zero, List.set_cons_succ]
        refine anyH_take (i := 1) (v := .slice (some ⟨b, off, none⟩) m pc) rfl (some 16) rfl (by kernel_rfl) (by kernel_rfl) (by kernel_rfl) (fun _ _ _ h => by cases h.1) rfl (fun w0 hw0 => ex_load rfl rfl (run_load_cell Tryd.underlying23 rfl ((hw0.cell (p := ⟨w.heap.size, _, none⟩) hb0).trans x5))) S0 ?_
        simp only [Act.put, List.setIfInBounds_toArray, List.set_cons_zero, List.set_cons_succ]
        refine anyH_take (i := 2) (v := .pointer (some ⟨b, off + 0 * 4, none⟩)) rfl (some 17) rfl (by kernel_rfl) (by kernel_rfl) (by kernel_rfl) (fun _ _ _ h => by cases h.1) rfl (fun w0 hw0 => ex_indexT rfl rfl rfl (by omega)) S0 ?_
        simp only [Act.put, List.setIfInBounds_toArray, List.set_cons_zero, List.set_cons_succ]
        refine anyH_take (i := 3) (v := .agg #[.int .u8 t0.kind, .string t0.name, .slice (av 0).1 t0.attrs.length (av 0).2, .string t0.text]) rfl (some 18) rfl (by kernel_rfl) (by kernel_rfl) (by kernel_rfl) (fun _ _ _ h => by cases h.1) rfl (fun w0 hw0 => ex_load rfl rfl (run_load_tok ((hw0.cell (p := ⟨b, _, none⟩) hbl).trans p0) ((hw0.cell (p := ⟨b, _, none⟩) hbl).trans p1) ((hw0.cell (p := ⟨b, _, none⟩) hbl).trans p2) ((hw0.cell (p := ⟨b, _, none⟩) hbl).trans p3))) S0 ?_
        simp only [Act.put, List.setIfInBounds_toArray, List.set_cons_zero, List.set_cons_succ]
        refine anyH_take (i := 4) (v := .pointer (some ⟨w.heap.size, 5, none⟩)) rfl (some 19) rfl (by kernel_rfl) (by kernel_rfl) (by kernel_rfl) (fun _ _ _ h => by cases h.1) rfl (fun w0 hw0 => ex_field5 rfl rfl) S0 ?_
        simp only [Act.put, List.setIfInBounds_toArray, List.set_cons_zero, List.set_cons_succ]
        refine anyH_take (i := 5) (v := .slice (some ⟨b, off, none⟩) m pc) rfl (some 20) rfl (by kernel_rfl) (by kernel_rfl) (by kernel_rfl) (fun _ _ _ h => by cases h.1) rfl (fun w0 hw0 => ex_load rfl rfl (run_load_cell Tryd.underlying23 rfl ((hw0.cell (p := ⟨w.heap.size, _, none⟩) hb0).trans x5))) S0 ?_
        simp only [Act.put, List.setIfInBounds_toArray, List.set_cons_zero, List.set_cons_succ]
        refine anyH_take (i := 6) (v := .pointer (some ⟨b, off + 1 * 4, none⟩)) rfl (some 21) rfl (by kernel_rfl) (by kernel_rfl) (by kernel_rfl) (fun _ _ _ h => by cases h.1) rfl (fun w0 hw0 => ex_indexT rfl rfl rfl (by omega)) S0 ?_
        simp only [Act.put, List.setIfInBounds_toArray, List.set_cons_zero, List.set_cons_succ]
        refine anyH_take (i := 7) (v := .agg #[.int .u8 t1.kind, .string t1.name, .slice (av 1).1 t1.attrs.length (av 1).2, .string t1.text]) rfl (some 22) rfl (by kernel_rfl) (by kernel_rfl) (by kernel_rfl) (fun _ _ _ h => by cases h.1) rfl (fun w0 hw0 => ex_load rfl rfl (run_load_tok ((hw0.cell (p := ⟨b, _, none⟩) hbl).trans q0) ((hw0.cell (p := ⟨b, _, none⟩) hbl).trans q1) ((hw0.cell (p := ⟨b, _, none⟩) hbl).trans q2) ((hw0.cell (p := ⟨b, _, none⟩) hbl).trans q3))) S0 ?_
        simp only [Act.put, List.setIfInBounds_toArray, List.set_cons_zero, List.set_cons_succ]
        refine anyH_two (i := 8) (j := 9) (by kernel_rfl) ?_ ?_
        · refine op_run rfl (some 4) rfl rfl (ex_alloc rfl (run_alloc_long infoTok V0)) ?_
          obtain ⟨V1, hV1⟩ : ∃ W, V0.alloc (.cells #[.int .u8 0, .string ⟨#[]⟩, .slice none 0 0, .string ⟨#[]⟩] 56) = W := ⟨_, rfl⟩
          have bV1 : Below V0.heap.size V0 V1 := by rw [← hV1]; exact (Below.refl _ V0).alloc (Nat.le_refl _) _
          have fV1 : V1.heap[V0.heap.size]? = some (.cells #[.int .u8 0, .string ⟨#[]⟩, .slice none 0 0, .string ⟨#[]⟩] 56) := by rw [← hV1]; exact heap_alloc_new V0 _
          have zV1 : V1.heap.size = V0.heap.size + 1 := by rw [← hV1]; simp
          rw [hV1]
          have BV1 : Below V0.heap.size V0 V1 := BV0.trans (bV1.mono BV0.size)
          refine ⟨BV1, ?_⟩
          simp only [Act.put, List.setIfInBounds_toArray, List.set_cons_zero, List.set_cons_succ]
          have nV1 := fV1
          refine anyH_one (i := 9) (by kernel_rfl) ?_
          refine op_run rfl (some 5) rfl rfl (ex_alloc rfl (run_alloc_long infoTok V1)) ?_
          obtain ⟨V2, hV2⟩ : ∃ W, V1.alloc (.cells #[.int .u8 0, .string ⟨#[]⟩, .slice none 0 0, .string ⟨#[]⟩] 56) = W := ⟨_, rfl⟩
          have bV2 : Below V1.heap.size V1 V2 := by rw [← hV2]; exact (Below.refl _ V1).alloc (Nat.le_refl _) _
          have fV2 : V2.heap[V1.heap.size]? = some (.cells #[.int .u8 0, .string ⟨#[]⟩, .slice none 0 0, .string ⟨#[]⟩] 56) := by rw [← hV2]; exact heap_alloc_new V1 _
          have zV2 : V2.heap.size = V1.heap.size + 1 := by rw [← hV2]; simp
          rw [hV2]
          have BV2 : Below V0.heap.size V0 V2 := BV1.trans (bV2.mono BV1.size)
          refine ⟨BV2, ?_⟩
          simp only [Act.put, List.setIfInBounds_toArray, List.set_cons_zero, List.set_cons_succ]
          have nV2 : V2.heap[V0.heap.size]? = some (.cells #[.int .u8 0, .string ⟨#[]⟩, .slice none 0 0, .string ⟨#[]⟩] 56) := (bV2.block _ (hp_lt nV1)).trans nV1
          have gV2 := fV2
          obtain ⟨V3, hV3⟩ : ∃ W, ((((V2.setCell ⟨V0.heap.size, 0, none⟩ (.int .u8 t0.kind)).setCell ⟨V0.heap.size, 1, none⟩ (.string t0.name)).setCell ⟨V0.heap.size, 2, none⟩ (.slice (av 0).1 t0.attrs.length (av 0).2)).setCell ⟨V0.heap.size, 3, none⟩ (.string t0.text)) = W := ⟨_, rfl⟩
          have fV3 : V3.heap[V0.heap.size]? = some (.cells #[.int .u8 t0.kind, .string t0.name, .slice (av 0).1 t0.attrs.length (av 0).2, .string t0.text] 56) := by rw [← hV3]; exact set4 nV2 _ _ _ _
          have BV3 : Below V0.heap.size V0 V3 := by rw [← hV3]; exact below4 BV2 (by omega) _ _ _ _
          have zV3 : V3.heap.size = V2.heap.size := by rw [← hV3]; simp
          have gV3 : V3.heap[V1.heap.size]? = some (.cells #[.int .u8 0, .string ⟨#[]⟩, .slice none 0 0, .string ⟨#[]⟩] 56) := by rw [← hV3]; exact (other4 _ _ _ _ (by omega)).trans gV2
          refine anyH_one (i := 10) (by kernel_rfl) ?_
          refine op_store rfl rfl rfl (ex_store (u := .agg #[.int .u8 t0.kind, .string t0.name, .slice (av 0).1 t0.attrs.length (av 0).2, .string t0.text]) rfl rfl rfl (run_store_tok nV2 _ _ _ _ _ _)) ?_
          rw [hV3]
          refine ⟨BV3, ?_⟩
          simp only [Act.put]
          have nV3 := fV3
          obtain ⟨V4, hV4⟩ : ∃ W, ((((V3.setCell ⟨V1.heap.size, 0, none⟩ (.int .u8 t1.kind)).setCell ⟨V1.heap.size, 1, none⟩ (.string t1.name)).setCell ⟨V1.heap.size, 2, none⟩ (.slice (av 1).1 t1.attrs.length (av 1).2)).setCell ⟨V1.heap.size, 3, none⟩ (.string t1.text)) = W := ⟨_, rfl⟩
          have fV4 : V4.heap[V1.heap.size]? = some (.cells #[.int .u8 t1.kind, .string t1.name, .slice (av 1).1 t1.attrs.length (av 1).2, .string t1.text] 56) := by rw [← hV4]; exact set4 gV3 _ _ _ _
          have BV4 : Below V0.heap.size V0 V4 := by rw [← hV4]; exact below4 BV3 (by omega) _ _ _ _
          have zV4 : V4.heap.size = V3.heap.size := by rw [← hV4]; simp
          have nV4 : V4.heap[V0.heap.size]? = some (.cells #[.int .u8 t0.kind, .string t0.name, .slice (av 0).1 t0.attrs.length (av 0).2, .string t0.text] 56) := by rw [← hV4]; exact (other4 _ _ _ _ (by omega)).trans nV3
          refine anyH_one (i := 11) (by kernel_rfl) ?_
          refine op_store rfl rfl rfl (ex_store (u := .agg #[.int .u8 t1.kind, .string t1.name, .slice (av 1).1 t1.attrs.length (av 1).2, .string t1.text]) rfl rfl rfl (run_store_tok gV3 _ _ _ _ _ _)) ?_
          rw [hV4]
          refine ⟨BV4, ?_⟩
          simp only [Act.put]
          have gV4 := fV4
          exact wpAnyH_done (by kernel_rfl) ⟨rfl, V0.heap.size, V1.heap.size, _, _, _, _, _, _, _, _, _, _, _, _, _, _, _, _, _, _, _, _, _, _, _, _, _, _, _, _, _, _, _, _, _, _, _, _, _, nV4, gV4, BV4, rfl⟩ _
        · refine op_run rfl (some 5) rfl rfl (ex_alloc rfl (run_alloc_long infoTok V0)) ?_
          obtain ⟨V1, hV1⟩ : ∃ W, V0.alloc (.cells #[.int .u8 0, .string ⟨#[]⟩, .slice none 0 0, .string ⟨#[]⟩] 56) = W := ⟨_, rfl⟩
          have bV1 : Below V0.heap.size V0 V1 := by rw [← hV1]; exact (Below.refl _ V0).alloc (Nat.le_refl _) _
          have fV1 : V1.heap[V0.heap.size]? = some (.cells #[.int .u8 0, .string ⟨#[]⟩, .slice none 0 0, .string ⟨#[]⟩] 56) := by rw [← hV1]; exact heap_alloc_new V0 _
          have zV1 : V1.heap.size = V0.heap.size + 1 := by rw [← hV1]; simp
          rw [hV1]
          have BV1 : Below V0.heap.size V0 V1 := BV0.trans (bV1.mono BV0.size)
          refine ⟨BV1, ?_⟩
          simp only [Act.put, List.setIfInBounds_toArray, List.set_cons_zero, List.set_cons_succ]
          have gV1 := fV1
          refine anyH_one (i := 8) (by kernel_rfl) ?_
          refine op_run rfl (some 4) rfl rfl (ex_alloc rfl (run_alloc_long infoTok V1)) ?_
          obtain ⟨V2, hV2⟩ : ∃ W, V1.alloc (.cells #[.int .u8 0, .string ⟨#[]⟩, .slice none 0 0, .string ⟨#[]⟩] 56) = W := ⟨_, rfl⟩
          have bV2 : Below V1.heap.size V1 V2 := by rw [← hV2]; exact (Below.refl _ V1).alloc (Nat.le_refl _) _
          have fV2 : V2.heap[V1.heap.size]? = some (.cells #[.int .u8 0, .string ⟨#[]⟩, .slice none 0 0, .string ⟨#[]⟩] 56) := by rw [← hV2]; exact heap_alloc_new V1 _
          have zV2 : V2.heap.size = V1.heap.size + 1 := by rw [← hV2]; simp
          rw [hV2]
          have BV2 : Below V0.heap.size V0 V2 := BV1.trans (bV2.mono BV1.size)
          refine ⟨BV2, ?_⟩
          simp only [Act.put, List.setIfInBounds_toArray, List.set_cons_zero, List.set_cons_succ]
          have gV2 : V2.heap[V0.heap.size]? = some (.cells #[.int .u8 0, .string ⟨#[]⟩, .slice none 0 0, .string ⟨#[]⟩] 56) := (bV2.block _ (hp_lt gV1)).trans gV1
          have nV2 := fV2
          obtain ⟨V3, hV3⟩ : ∃ W, ((((V2.setCell ⟨V1.heap.size, 0, none⟩ (.int .u8 t0.kind)).setCell ⟨V1.heap.size, 1, none⟩ (.string t0.name)).setCell ⟨V1.heap.size, 2, none⟩ (.slice (av 0).1 t0.attrs.length (av 0).2)).setCell ⟨V1.heap.size, 3, none⟩ (.string t0.text)) = W := ⟨_, rfl⟩
          have fV3 : V3.heap[V1.heap.size]? = some (.cells #[.int .u8 t0.kind, .string t0.name, .slice (av 0).1 t0.attrs.length (av 0).2, .string t0.text] 56) := by rw [← hV3]; exact set4 nV2 _ _ _ _
          have BV3 : Below V0.heap.size V0 V3 := by rw [← hV3]; exact below4 BV2 (by omega) _ _ _ _
          have zV3 : V3.heap.size = V2.heap.size := by rw [← hV3]; simp
          have gV3 : V3.heap[V0.heap.size]? = some (.cells #[.int .u8 0, .string ⟨#[]⟩, .slice none 0 0, .string ⟨#[]⟩] 56) := by rw [← hV3]; exact (other4 _ _ _ _ (by omega)).trans gV2
          refine anyH_one (i := 10) (by kernel_rfl) ?_
          refine op_store rfl rfl rfl (ex_store (u := .agg #[.int .u8 t0.kind, .string t0.name, .slice (av 0).1 t0.attrs.length (av 0).2, .string t0.text]) rfl rfl rfl (run_store_tok nV2 _ _ _ _ _ _)) ?_
          rw [hV3]
          refine ⟨BV3, ?_⟩
          simp only [Act.put]
          have nV3 := fV3
          obtain ⟨V4, hV4⟩ : ∃ W, ((((V3.setCell ⟨V0.heap.size, 0, none⟩ (.int .u8 t1.kind)).setCell ⟨V0.heap.size, 1, none⟩ (.string t1.name)).setCell ⟨V0.heap.size, 2, none⟩ (.slice (av 1).1 t1.attrs.length (av 1).2)).setCell ⟨V0.heap.size, 3, none⟩ (.string t1.text)) = W := ⟨_, rfl⟩
          have fV4 : V4.heap[V0.heap.size]? = some (.cells #[.int .u8 t1.kind, .string t1.name, .slice (av 1).1 t1.attrs.length (av 1).2, .string t1.text] 56) := by rw [← hV4]; exact set4 gV3 _ _ _ _
          have BV4 : Below V0.heap.size V0 V4 := by rw [← hV4]; exact below4 BV3 (by omega) _ _ _ _
          have zV4 : V4.heap.size = V3.heap.size := by rw [← hV4]; simp
          have nV4 : V4.heap[V1.heap.size]? = some (.cells #[.int .u8 t0.kind, .string t0.name, .slice (av 0).1 t0.attrs.length (av 0).2, .string t0.text] 56) := by rw [← hV4]; exact (other4 _ _ _ _ (by omega)).trans nV3
          refine anyH_one (i := 11) (by kernel_rfl) ?_
          refine op_store rfl rfl rfl (ex_store (u := .agg #[.int .u8 t1.kind, .string t1.name, .slice (av 1).1 t1.attrs.length (av 1).2, .string t1.text]) rfl rfl rfl (run_store_tok gV3 _ _ _ _ _ _)) ?_
          rw [hV4]
          refine ⟨BV4, ?_⟩
          simp only [Act.put]
          have gV4 := fV4
          exact wpAnyH_done (by kernel_rfl) ⟨rfl, V1.heap.size, V0.heap.size, _, _, _, _, _, _, _, _, _, _, _, _, _, _, _, _, _, _, _, _, _, _, _, _, _, _, _, _, _, _, _, _, _, _, _, _, _, nV4, gV4, BV4, rfl⟩ _
      case beh =>
        rintro a W ⟨b4, b5, x2, x3, x6, x7, x8, x9, x10, x11, x12, x13, x14, x15, x16, x17, x18, x19, x20, x21, x22, x23, x24, x25, x26, x27, x28, x29, x30, x31, x32, x33, x34, x35, x36, x37, x38, x39, x40, f4, f5, hB, rfl⟩
        obtain ⟨y0, y1, y2, y3⟩ := cells4 f4
        obtain ⟨u0, u1, u2, u3⟩ := cells4 f5
        have BW : Below w.heap.size w W := BV.trans (hB.mono BV.size)
        obtain ⟨hT, hl, aa, ba, hml, ht0, ht1⟩ := H0.out
        have hlW : RowsLaid W := hl.below BW hl.size
        have HP := hide (parse_any t1.name W hlW)
        have HB := hide BW
        have HT := hide (And.intro ht0 ht1)
        have hk0 : ∀ n : Nat, (((n : Int)) == 1) = decide (n = 1) := fun n => by
          by_cases h : n = 1
          · subst h; rfl
          · rw [decide_eq_false h, beq_eq_false_iff_ne]; omega
        clear f4 f5 hB BW hlW hT hl aa ba hml ht0 ht1 p0 p1 p2 p3 q0 q1 q2 q3 cV hV x5
        by_cases e0 : t0.kind = 1
        · rw [e0, show ((1 : Nat) : Int) = 1 from rfl] at y0
          by_cases e1 : t0.name = ty_error
          · have n1 : (t0.name.toList == [101, 114, 114, 111, 114]) = true := by rw [e1]; exact z1
            by_cases e2 : t1.kind = 1
            · rw [e2, show ((1 : Nat) : Int) = 1 from rfl] at u0
              have HF := hide (show FailT ty_error ts t1.name from ⟨rfl, t0, t1, HT.out.1, HT.out.2, e0, e1, e2, rfl⟩)
              clear e0 e1 e2 hk0
              go_wp2_with (go_at_call 42; refine HP.out.mono ?_; rintro e w3 ⟨⟨kk, k1, k2, k3, rfl⟩ | ⟨kn, rfl⟩, b3⟩)
              · go_ret2
                exact ⟨.inl ⟨_, HF.out, .inl ⟨kk, k1, k2, k3, rfl⟩⟩, HB.out.trans (b3.mono HB.out.size)⟩
              · go_ret2
                exact ⟨.inl ⟨_, HF.out, .inr ⟨kn, rfl⟩⟩, HB.out.trans (b3.mono HB.out.size)⟩
            · have n2 : (((t1.kind : Nat) : Int) == 1) = false := by rw [hk0]; exact decide_eq_false e2
              have HF := hide (show ¬ ∃ s, FailT ty_error ts s from fun ⟨s, _, a, b, h0, h1, _, _, h, _⟩ => (by rw [HT.out.2] at h1; cases h1; exact e2 h))
              clear e0 e1 e2 hk0
              go_wp2_with fail
              go_ret2
              exact ⟨.inr ⟨HF.out, rfl⟩, HB.out⟩
          · have n1 : (t0.name.toList == [101, 114, 114, 111, 114]) = false := by rw [show ([101, 114, 114, 111, 114] : List UInt8) = ty_error.toList by rw [ByteArray.toList_eq]; rfl]; exact str_ne e1
            have HF := hide (show ¬ ∃ s, FailT ty_error ts s from fun ⟨s, _, a, b, h0, _, _, h, _⟩ => (by rw [HT.out.1] at h0; cases h0; exact e1 h))
            clear e0 e1 hk0
            go_wp2_with fail
            go_ret2
            exact ⟨.inr ⟨HF.out, rfl⟩, HB.out⟩
        · have n0 : (((t0.kind : Nat) : Int) == 1) = false := by rw [hk0]; exact decide_eq_false e0
          have HF := hide (show ¬ ∃ s, FailT ty_error ts s from fun ⟨s, _, a, b, h0, _, h, _⟩ => (by rw [HT.out.1] at h0; cases h0; exact e0 h))
          clear e0 hk0
          go_wp2_with fail
          all_goals go_ret2
          all_goals exact ⟨.inr ⟨HF.out, rfl⟩, HB.out⟩
    · have h2i : (m : Int) < 2 := by omega
      have HF := hide (And.intro (show ¬ ∃ s, FailT ty_error ts s from fun ⟨s, _, a, b, _, h1, _⟩ => (by have := (List.getElem?_eq_some_iff.1 h1).1; omega)) ba)
      clear hT hl aa ba hml h2
      go_enter Tryd.func20, Tryd.ntmps20
      go_wp2_with fail
      go_ret2
      exact ⟨.inr ⟨HF.out.1, rfl⟩, HF.out.2⟩
  · have z1 : (ty.toList == [101, 114, 114, 111, 114]) = false := by rw [show ([101, 114, 114, 111, 114] : List UInt8) = ty_error.toList by rw [ByteArray.toList_eq]; rfl]; exact str_ne hty
    have HF := hide (And.intro (show ¬ ∃ s, FailT ty ts s from fun ⟨s, h, _⟩ => hty h) ba)
    clear hT hl aa ba hml hty
    go_enter Tryd.func20, Tryd.ntmps20
    go_wp2_with fail
    go_ret2
    exact ⟨.inr ⟨HF.out.1, rfl⟩, HF.out.2⟩
end Go.Proofs.YtpknifioflagaaaDoor
