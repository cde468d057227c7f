/- errors.Unwrap, errors.as over a chain. -/
import Derived.Test.YtnlmohegkmegcaaDoorFacts
import Derived.Test.YtnlmohegkmegcaaDoorSmall
import Derived.Deep.LoopGhost
namespace Go.Proofs.YtnlmohegkmegcaaDoor
open Go.RowKit Go.Extern.Stop Go.Stop Go.Extern

theorem Tryd.hasUnwrap52 (v : Value) (xT : TypeId) (w : World) : (Instr.typeAssert (.iface 52 v) xT 57 true).run Tryd.prog w = .ok (.tuple #[.iface 52 v, .bool true]) w := run_typeAssert_hasB Tryd.underlying57 (by kernel_rfl) v xT w
theorem Tryd.noUnwrap48 (v : Value) (xT : TypeId) (w : World) : (Instr.typeAssert (.iface 48 v) xT 57 true).run Tryd.prog w = .ok (.tuple #[.nilIface, .bool false]) w := run_typeAssert_lacksB Tryd.underlying57 (by kernel_rfl) (by kernel_rfl) v xT w
theorem Tryd.noUnwraps48 (v : Value) (xT : TypeId) (w : World) : (Instr.typeAssert (.iface 48 v) xT 85 true).run Tryd.prog w = .ok (.tuple #[.nilIface, .bool false]) w := run_typeAssert_lacksB Tryd.underlying85 (by kernel_rfl) (by kernel_rfl) v xT w
theorem Tryd.noAs48 (v : Value) (xT : TypeId) (w : World) : (Instr.typeAssert (.iface 48 v) xT 82 true).run Tryd.prog w = .ok (.tuple #[.nilIface, .bool false]) w := run_typeAssert_lacksB Tryd.underlying82 (by kernel_rfl) (by kernel_rfl) v xT w
theorem Tryd.noAs52 (v : Value) (xT : TypeId) (w : World) : (Instr.typeAssert (.iface 52 v) xT 82 true).run Tryd.prog w = .ok (.tuple #[.nilIface, .bool false]) w := run_typeAssert_lacksB Tryd.underlying82 (by kernel_rfl) (by kernel_rfl) v xT w
theorem Tryd.noIs48 (v : Value) (xT : TypeId) (w : World) : (Instr.typeAssert (.iface 48 v) xT 88 true).run Tryd.prog w = .ok (.tuple #[.nilIface, .bool false]) w := run_typeAssert_lacksB Tryd.underlying88 (by kernel_rfl) (by kernel_rfl) v xT w
theorem Tryd.noIs52 (v : Value) (xT : TypeId) (w : World) : (Instr.typeAssert (.iface 52 v) xT 88 true).run Tryd.prog w = .ok (.tuple #[.nilIface, .bool false]) w := run_typeAssert_lacksB Tryd.underlying88 (by kernel_rfl) (by kernel_rfl) v xT w

theorem unwrapMethod (b : Nat) (v : Value) (w : World) (h : w.cell? ⟨b, 0, none⟩ = some v) : Calls Tryd.prog 60 #[.pointer (some ⟨b, 0, none⟩)] w fun e w' => e = .returned v ∧ w' = w := by
  go_enter Tryd.func60, Tryd.ntmps60
  go_wp2
  go_ret
  exact ⟨rfl, rfl⟩
theorem Tryd.methodUnwrap (h : Value) (w : World) : (Go.method 221 52 h "Unwrap").run Tryd.prog w = .ok (60, h) w := by kernel_rfl
set_option maxRecDepth 100000 in
theorem unwrap_any (b : Nat) (v : Value) (w : World) (h : w.cell? ⟨b, 0, none⟩ = some v) : Calls Tryd.prog 23 #[.iface 52 (.pointer (some ⟨b, 0, none⟩))] w fun e w' => e = .returned v ∧ w' = w := by
  have a1 := Tryd.hasUnwrap52
  go_enter Tryd.func23, Tryd.ntmps23
  have a2 := Tryd.methodUnwrap
  go_wp2_with (go_at_call 60; refine (unwrapMethod b v _ h).mono ?_; rintro e w' ⟨rfl, rfl⟩)
  go_ret
  exact ⟨rfl, rfl⟩


set_option maxRecDepth 100000 in
set_option maxHeartbeats 4000000 in
theorem as_made (c : Int) (ps : List Int) (v old : Value) (t tv : Addr) (w : World) (hch : Chain w c ps v) (htv : w.cell? tv = some (.pointer (some t))) (ht : w.cell? t = some old) (hf : w.frozen? t = false) :
   Calls Tryd.prog 36 #[v, .iface 61 (.pointer (some t)), .agg #[.pointer (some ⟨2, 61, none⟩), .pointer (some tv), .int .u64 150], .iface 78 (.agg #[.pointer (some ⟨2, 48, none⟩)])] w fun e w' => e = .returned (.bool true) ∧ ∃ w1, Below w.heap.size w w1 ∧ w' = w1.setCell t (.int .i64 c) := by
  have h37 := @run_callFunc_extern Tryd.prog 37 _ ReflectliteType.typeOf Tryd.func37 (by kernel_rfl) (by kernel_rfl) (by kernel_rfl) (by kernel_rfl)
  have h65 := @run_callFunc_extern Tryd.prog 65 _ (ReflectliteType.relation "AssignableTo" ReflectliteType.assignableTo) Tryd.func65 (by kernel_rfl) (by kernel_rfl) (by kernel_rfl) (by kernel_rfl)
  have h39 := @run_callFunc_extern Tryd.prog 39 _ (ReflectliteValue.method (ReflectliteValue.valueError "reflectlite.Value.Elem" 0) ReflectliteValue.elem) Tryd.func39 (by kernel_rfl) (by kernel_rfl) (by kernel_rfl) (by kernel_rfl)
  have h40 := @run_callFunc_extern Tryd.prog 40 _ ReflectliteValue.set Tryd.func40 (by kernel_rfl) (by kernel_rfl) (by kernel_rfl) (by kernel_rfl)
  have h33 := @run_callFunc_extern Tryd.prog 33 _ (fun args => ReflectliteValue.unpack (args.getD 0 (.tuple #[]))) Tryd.func33 (by kernel_rfl) (by kernel_rfl) (by kernel_rfl) (by kernel_rfl)
  have a1 := Tryd.hasUnwrap52
  have a2 := Tryd.methodUnwrap
  have a3 := Tryd.noAs52
  have a4 := Tryd.methodAssignableTo
  have a5 := Tryd.typeOf48
  have a6 := Tryd.typeOf52
  have a7 := Tryd.assign4848
  have a8 := Tryd.assign5248
  have a9 := Tryd.valueOf48
  go_enter Tryd.func36, Tryd.ntmps36
  go_wp2_with fail
  go_loopg [0] (ps.length + 1) (fun k v wr => ∃ ps', k = ps'.length + 1 ∧ Chain w c ps' v ∧ wr = w.alloc (.cells #[.pointer (some ⟨2, 61, none⟩), .pointer (some tv), .int .u64 150] 66))
  case atStart => exact ⟨ps, rfl, hch, rfl⟩
  case round =>
    obtain ⟨ps', hk, hch', hw⟩ := hrel
    subst hw
    cases ps' with
    | nil =>
      have hv : _ = Value.iface 48 (.agg #[.int .i64 c]) := hch'
      subst hv
      have hl1 := lt_of_cell htv
      have hl2 := lt_of_cell ht
      have e1 := Tryd.elemV61 tv t (w.alloc (.cells #[.pointer (some ⟨2, 61, none⟩), .pointer (some tv), .int .u64 150] 66)) (by rw [World.cell?_alloc_lt _ _ tv hl1]; exact htv)
      have e2 := Tryd.set48 t ⟨w.heap.size + 1, 0, none⟩ c old ((w.alloc (.cells #[.pointer (some ⟨2, 61, none⟩), .pointer (some tv), .int .u64 150] 66)).alloc (.cells #[.int .i64 c] 48))
        (by rw [World.cell?_alloc_at _ _ _ _ (by simp)]; rfl)
        (by rw [World.cell?_alloc_lt _ _ t (by simp; omega), World.cell?_alloc_lt _ _ t hl2]; exact ht)
        (by rw [World.frozen?_alloc_old _ _ t (by simp; omega), World.frozen?_alloc_old _ _ t (Nat.ne_of_lt hl2)]; exact hf)
      go_wp2_with fail
      go_ret
      exact ⟨rfl, _, ((Below.refl _ _).alloc (Nat.le_refl _) _).alloc (by simp) _, rfl⟩
    | cons p qs =>
      obtain ⟨b, v', rfl, h1, h2, h3⟩ := hch'
      have h1' : (w.alloc (.cells #[.pointer (some ⟨2, 61, none⟩), .pointer (some tv), .int .u64 150] 66)).cell? ⟨b, 0, none⟩ = some v' := by
        rw [World.cell?_alloc_lt _ _ _ (lt_of_cell h1)]; exact h1
      have hnn : ∃ T x, v' = .iface T x := by
        cases qs with
        | nil => exact ⟨_, _, h3⟩
        | cons q rs => obtain ⟨b2, v2, h4, _⟩ := h3; exact ⟨_, _, h4⟩
      obtain ⟨T, x, rfl⟩ := hnn
      have H3 : Hid (Chain w c qs (.iface T x)) := h3
      have Hk : Hid (gk = (p :: qs).length + 1) := hk
      clear h3 hk hch
      go_wp2_with (go_at_call 60; refine (unwrapMethod b (.iface T x) _ h1').mono ?_; rintro e w' ⟨rfl, rfl⟩)
      go_roundg (qs.length + 1)
      case measure => have := Hk.out; simp at this; omega
      case rel => exact ⟨qs, rfl, H3.out, rfl⟩

set_option maxRecDepth 100000 in
set_option maxHeartbeats 4000000 in
theorem as_placed_hit (b : Nat) (old : Value) (t tv : Addr) (w : World) (htv : w.cell? tv = some (.pointer (some t))) (ht : w.cell? t = some old) (hf : w.frozen? t = false) :
   Calls Tryd.prog 36 #[.iface 52 (.pointer (some ⟨b, 0, none⟩)), .iface 62 (.pointer (some t)), .agg #[.pointer (some ⟨2, 62, none⟩), .pointer (some tv), .int .u64 150], .iface 78 (.agg #[.pointer (some ⟨2, 52, none⟩)])] w fun e w' => e = .returned (.bool true) ∧ ∃ w1, Below w.heap.size w w1 ∧ w' = w1.setCell t (.pointer (some ⟨b, 0, none⟩)) := by
  have h37 := @run_callFunc_extern Tryd.prog 37 _ ReflectliteType.typeOf Tryd.func37 (by kernel_rfl) (by kernel_rfl) (by kernel_rfl) (by kernel_rfl)
  have h65 := @run_callFunc_extern Tryd.prog 65 _ (ReflectliteType.relation "AssignableTo" ReflectliteType.assignableTo) Tryd.func65 (by kernel_rfl) (by kernel_rfl) (by kernel_rfl) (by kernel_rfl)
  have h39 := @run_callFunc_extern Tryd.prog 39 _ (ReflectliteValue.method (ReflectliteValue.valueError "reflectlite.Value.Elem" 0) ReflectliteValue.elem) Tryd.func39 (by kernel_rfl) (by kernel_rfl) (by kernel_rfl) (by kernel_rfl)
  have h40 := @run_callFunc_extern Tryd.prog 40 _ ReflectliteValue.set Tryd.func40 (by kernel_rfl) (by kernel_rfl) (by kernel_rfl) (by kernel_rfl)
  have h33 := @run_callFunc_extern Tryd.prog 33 _ (fun args => ReflectliteValue.unpack (args.getD 0 (.tuple #[]))) Tryd.func33 (by kernel_rfl) (by kernel_rfl) (by kernel_rfl) (by kernel_rfl)
  have a4 := Tryd.methodAssignableTo
  have a6 := Tryd.typeOf52
  have a8 := Tryd.assign5252
  have a9 := Tryd.valueOf52
  have hl1 := lt_of_cell htv
  have hl2 := lt_of_cell ht
  have e1 := Tryd.elemV62 tv t (w.alloc (.cells #[.pointer (some ⟨2, 62, none⟩), .pointer (some tv), .int .u64 150] 66)) (by rw [World.cell?_alloc_lt _ _ tv hl1]; exact htv)
  have e2 := Tryd.set52 t ⟨w.heap.size + 1, 0, none⟩ ⟨b, 0, none⟩ old ((w.alloc (.cells #[.pointer (some ⟨2, 62, none⟩), .pointer (some tv), .int .u64 150] 66)).alloc (.cells #[.pointer (some ⟨b, 0, none⟩)] 52))
    (by rw [World.cell?_alloc_at _ _ _ _ (by simp)]; rfl)
    (by rw [World.cell?_alloc_lt _ _ t (by simp; omega), World.cell?_alloc_lt _ _ t hl2]; exact ht)
    (by rw [World.frozen?_alloc_old _ _ t (by simp; omega), World.frozen?_alloc_old _ _ t (Nat.ne_of_lt hl2)]; exact hf)
  go_enter Tryd.func36, Tryd.ntmps36
  go_wp2_with fail
  refine wp_loop_rounds 1 ?_
  rw [rounds_succ]
  go_wp2_with fail
  go_ret
  exact ⟨rfl, _, ((Below.refl _ _).alloc (Nat.le_refl _) _).alloc (by simp) _, rfl⟩

set_option maxRecDepth 100000 in
set_option maxHeartbeats 4000000 in
theorem as_placed_miss (c : Int) (t tv : Addr) (w : World) :
   Calls Tryd.prog 36 #[.iface 48 (.agg #[.int .i64 c]), .iface 62 (.pointer (some t)), .agg #[.pointer (some ⟨2, 62, none⟩), .pointer (some tv), .int .u64 150], .iface 78 (.agg #[.pointer (some ⟨2, 52, none⟩)])] w fun e w' => e = .returned (.bool false) ∧ Below w.heap.size w w' := by
  have h37 := @run_callFunc_extern Tryd.prog 37 _ ReflectliteType.typeOf Tryd.func37 (by kernel_rfl) (by kernel_rfl) (by kernel_rfl) (by kernel_rfl)
  have h65 := @run_callFunc_extern Tryd.prog 65 _ (ReflectliteType.relation "AssignableTo" ReflectliteType.assignableTo) Tryd.func65 (by kernel_rfl) (by kernel_rfl) (by kernel_rfl) (by kernel_rfl)
  have a1 := Tryd.noUnwrap48
  have a2 := Tryd.noUnwraps48
  have a3 := Tryd.noAs48
  have a4 := Tryd.methodAssignableTo
  have a6 := Tryd.typeOf48
  have a8 := Tryd.assign4852
  go_enter Tryd.func36, Tryd.ntmps36
  go_wp2_with fail
  refine wp_loop_rounds 1 ?_
  rw [rounds_succ]
  go_wp2_with fail
  go_ret
  exact ⟨rfl, (Below.refl _ _).alloc (Nat.le_refl _) _⟩

theorem As_nil (t : Value) (w : World) :
    Calls Tryd.prog 29 #[.nilIface, t] w fun e w' => e = .returned (.bool false) ∧ w' = w := by
  go_enter Tryd.func29, Tryd.ntmps29
  go_wp2
  go_ret
  exact ⟨rfl, rfl⟩
end Go.Proofs.YtnlmohegkmegcaaDoor
