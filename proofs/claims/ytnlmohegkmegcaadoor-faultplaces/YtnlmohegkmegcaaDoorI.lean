/- errors.Is over a chain, at a target that Make makes. -/
import Derived.Test.YtnlmohegkmegcaaDoorE
import Derived.Laws.StructEq
namespace Go.Proofs.YtnlmohegkmegcaaDoor
open Go.RowKit Go.Extern.Stop Go.Stop Go.Extern

theorem eqIface (d : Nat) {P : Program} (w : World) {ti tn : TypeId} {ms : Array (String × TypeId)} {i : TypeInfo} (x y : Value)
    (hi : P.underlying ti = some (.interface ms)) (hinfo : P.info? tn = some i) (hcomp : i.comparable = true) :
    (Op.equalIn (d + 1) ti (.iface tn x) (.iface tn y)).run P w = (Op.equalIn d tn x y).run P w := by
  simp [Op.equalIn, run_underlying hi, typeInfo, hinfo, hcomp]
theorem fields48 : Tryd.prog.underlying 48 = some (.struct (Tryd.prog.fieldsOf 48)) := by kernel_rfl
theorem held48 : Tryd.prog.stoodInHeld 48 = false := by kernel_rfl
theorem part22 (a : Int) (w : World) : (part 22 #[.int .i64 a] 0).run Tryd.prog w = .ok (.int .i64 a) w := by kernel_rfl
theorem f48 : (Tryd.prog.fieldsOf 48).toList.map (fun f => (f.type, f.offset, f.name)) = [(22, 0, "cond")] := by kernel_rfl
theorem eqFields48 (a b : Int) (w : World) : (Op.eqFields 9998 #[.int .i64 a] #[.int .i64 b] (Tryd.prog.fieldsOf 48).toList).run Tryd.prog w = .ok (a == b) w := by
  have h := f48
  generalize (Tryd.prog.fieldsOf 48).toList = l at h ⊢
  cases l with
  | nil => simp at h
  | cons f r =>
    cases r with
    | cons g r => simp at h
    | nil =>
      simp only [List.map_cons, List.map_nil, List.cons.injEq, Prod.mk.injEq, and_true] at h
      obtain ⟨h2, h3, h4⟩ := h
      simp [Op.eqFields, h2, h3, h4, part22, run_equalIn_int w 9997 22 .i64 .i64 _ _ Tryd.underlying22]
      cases h5 : (a == b) <;> simp_all
theorem info48 : (Tryd.prog.info? 48).map (·.comparable) = some true := by kernel_rfl
theorem eqMade (a b : Int) (w : World) : (binOp .eql 29 (.iface 48 (.agg #[.int .i64 a])) (.iface 48 (.agg #[.int .i64 b]))).run Tryd.prog w = .ok (.bool (a == b)) w := by
  obtain ⟨i, hi, hc⟩ := Option.map_eq_some_iff.1 info48
  simp only [binOp]
  simp [Op.equal, Op.maxDepth, eqIface 9999 w _ _ Tryd.underlying29 hi hc, run_equalIn_struct w 9998 48 _ _ fields48 held48, eqFields48]
theorem neMade (a : Addr) (b : Int) (w : World) : (binOp .eql 29 (.iface 52 (.pointer (some a))) (.iface 48 (.agg #[.int .i64 b]))).run Tryd.prog w = .ok (.bool false) w := by
  kernel_rfl

set_option maxRecDepth 100000 in
set_option maxHeartbeats 4000000 in
theorem is_chain (c d : Int) (ps : List Int) (v : Value) (w : World) (hch : Chain w c ps v) :
   Calls Tryd.prog 38 #[v, .iface 48 (.agg #[.int .i64 d]), .bool true] w fun e w' => e = .returned (.bool (c == d)) ∧ w' = w := by
  have a1 := Tryd.hasUnwrap52
  have a2 := Tryd.methodUnwrap
  have a3 := Tryd.noIs52
  have a4 := Tryd.noIs48
  have a5 := Tryd.noUnwrap48
  have a6 := Tryd.noUnwraps48
  have a7 := eqMade
  have a8 := neMade
  go_enter Tryd.func38, Tryd.ntmps38
  go_wp2_with fail
  go_loopg [0] (ps.length + 1) (fun k v wr => ∃ ps', k = ps'.length + 1 ∧ Chain w c ps' v ∧ wr = w)
  case atStart => exact ⟨ps, rfl, hch, rfl⟩
  case round =>
    obtain ⟨ps', hk, hch', hw⟩ := hrel
    subst hw
    cases ps' with
    | nil =>
      have hv : _ = Value.iface 48 (.agg #[.int .i64 c]) := hch'
      subst hv
      cases h : (c == d) with
      | true =>
        go_wp2_with fail
        go_ret
        exact ⟨by rw [h]; rfl, rfl⟩
      | false =>
        go_wp2_with fail
        go_ret
        exact ⟨by rw [h]; rfl, rfl⟩
    | cons p qs =>
      obtain ⟨b, v', rfl, h1, h2, h3⟩ := hch'
      have hnn : ∃ T x, v' = .iface T x := by
        cases qs with
        | nil => exact ⟨_, _, h3⟩
        | cons q rs => obtain ⟨b2, v2, h4, _⟩ := h3; exact ⟨_, _, h4⟩
      obtain ⟨T, x, rfl⟩ := hnn
      have H3 : Hid (Chain wr c qs (.iface T x)) := h3
      have Hk : Hid (gk = (p :: qs).length + 1) := hk
      clear h3 hk hch
      go_wp2_with (go_at_call 60; refine (unwrapMethod b (.iface T x) _ h1).mono ?_; rintro e w' ⟨rfl, rfl⟩)
      go_roundg (qs.length + 1)
      case measure => have := Hk.out; simp at this; omega
      case rel => exact ⟨qs, rfl, H3.out, rfl⟩

theorem Is_nil (d : Int) (w : World) : Calls Tryd.prog 31 #[.nilIface, .iface 48 (.agg #[.int .i64 d])] w fun e w' => e = .returned (.bool false) ∧ w' = w := by
  have a1 : ∀ w : World, (binOp .eql 29 .nilIface (.iface 48 (.agg #[.int .i64 d]))).run Tryd.prog w = .ok (.bool false) w := fun w => by kernel_rfl
  go_enter Tryd.func31, Tryd.ntmps31
  go_wp2
  go_ret
  exact ⟨rfl, rfl⟩

set_option maxRecDepth 100000 in
set_option maxHeartbeats 4000000 in
theorem Is_chain (c d : Int) (ps : List Int) (v : Value) (w : World) (hch : Chain w c ps v) :
   Calls Tryd.prog 31 #[v, .iface 48 (.agg #[.int .i64 d])] w fun e w' => e = .returned (.bool (c == d)) ∧ w' = w := by
  have h37 := @run_callFunc_extern Tryd.prog 37 _ ReflectliteType.typeOf Tryd.func37 (by kernel_rfl) (by kernel_rfl) (by kernel_rfl) (by kernel_rfl)
  have h66 := @run_callFunc_extern Tryd.prog 66 _ rlComparable Tryd.func66 (by kernel_rfl) (by kernel_rfl) (by kernel_rfl) (by kernel_rfl)
  have a1 := Tryd.methodComparable
  have a2 := Tryd.comparable48
  have a3 := Tryd.typeOf48
  have Hc : Hid (Chain w c ps v) := hch
  have hnn : ∃ T x, v = .iface T x := by
    cases ps with
    | nil => exact ⟨_, _, hch⟩
    | cons q rs => obtain ⟨b2, v2, h4, _⟩ := hch; exact ⟨_, _, h4⟩
  clear hch
  obtain ⟨T, x, rfl⟩ := hnn
  go_enter Tryd.func31, Tryd.ntmps31
  go_wp2_with (go_at_call 38; refine (is_chain c d ps (.iface T x) _ Hc.out).mono ?_; rintro e w' ⟨rfl, rfl⟩)
  go_ret
  exact ⟨rfl, rfl⟩
end Go.Proofs.YtnlmohegkmegcaaDoor
