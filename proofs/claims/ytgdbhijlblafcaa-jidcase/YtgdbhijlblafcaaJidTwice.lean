/- JidTwice: what is bare, or small, stays so: whatever the address. -/
import Derived.Test.YtgdbhijlblafcaaJ7
import Derived.Test.YtgdbhijlblafcaaDR
namespace Go.Proofs.Ytgdbhijlblafcaa
open Go.RowKit

set_option maxRecDepth 100000 in
/-- A call: a step of a region that draws. -/
theorem step_live {ops : Array Oper} {o : Oper} {a : Act} {w : World} {K : Act → World → Prop} {Q : Exit → Act → World → Prop} {E : Prop} (hw : Region.wanted o (yielded ops a.tmps) = true) 
    (hop : o.op = Op.call { callee := Callee.value (.func 7), args := #[], argTypes := #[] }) {R : Ending → World → Prop} (hC : Calls Try.prog 7 #[] w R) (hK : ∀ e w', R e w' → ∃ v, e = .returned v ∧ K (a.put o.dst v) w') :
    if Region.wanted o (yielded ops a.tmps) = true then Oper.wp Try.prog o a w K Q else E := by
  rw [if_pos hw]
  have _f := Try.func7
  unfold Oper.wp
  simp only [execOp, hop, resolve, invoke]
  go_simp
  refine hC.mono ?_
  intro e w' hR
  obtain ⟨u, rfl, hk⟩ := hK e w' hR
  exact hk
set_option maxRecDepth 100000 in
/-- A call: a step of a region that draws. -/
theorem step_bare {ops : Array Oper} {o : Oper} {a : Act} {w : World} {K : Act → World → Prop} {Q : Exit → Act → World → Prop} {E : Prop} (hw : Region.wanted o (yielded ops a.tmps) = true) (t : Nat) (ty : TypeId)
    (hop : o.op = Op.call { callee := Callee.value (.func 5), args := #[.tmp t], argTypes := #[ty] }) (v : Value) (hx : a.tmps[t]?.getD undef = v) {R : Ending → World → Prop} (hC : Calls Try.prog 5 #[v] w R) (hK : ∀ e w', R e w' → ∃ v, e = .returned v ∧ K (a.put o.dst v) w') :
    if Region.wanted o (yielded ops a.tmps) = true then Oper.wp Try.prog o a w K Q else E := by
  rw [if_pos hw]
  have _f := Try.func5
  unfold Oper.wp
  simp only [execOp, hop, resolve, invoke]
  go_simp
  refine hC.mono ?_
  intro e w' hR
  obtain ⟨u, rfl, hk⟩ := hK e w' hR
  exact hk
set_option maxRecDepth 100000 in
/-- A call: a step of a region that draws. -/
theorem step_normal {ops : Array Oper} {o : Oper} {a : Act} {w : World} {K : Act → World → Prop} {Q : Exit → Act → World → Prop} {E : Prop} (hw : Region.wanted o (yielded ops a.tmps) = true) (t : Nat) (ty : TypeId)
    (hop : o.op = Op.call { callee := Callee.value (.func 6), args := #[.tmp t], argTypes := #[ty] }) (v : Value) (hx : a.tmps[t]?.getD undef = v) {R : Ending → World → Prop} (hC : Calls Try.prog 6 #[v] w R) (hK : ∀ e w', R e w' → ∃ v, e = .returned v ∧ K (a.put o.dst v) w') :
    if Region.wanted o (yielded ops a.tmps) = true then Oper.wp Try.prog o a w K Q else E := by
  rw [if_pos hw]
  have _f := Try.func6
  unfold Oper.wp
  simp only [execOp, hop, resolve, invoke]
  go_simp
  refine hC.mono ?_
  intro e w' hR
  obtain ⟨u, rfl, hk⟩ := hK e w' hR
  exact hk
set_option maxRecDepth 100000 in
/-- A call: a step of a region that draws. -/
theorem step_right {ops : Array Oper} {o : Oper} {a : Act} {w : World} {K : Act → World → Prop} {Q : Exit → Act → World → Prop} {E : Prop} (hw : Region.wanted o (yielded ops a.tmps) = true) (t : Nat) (ty : TypeId)
    (hop : o.op = Op.call { callee := Callee.value (.func 8), args := #[.tmp t], argTypes := #[ty] }) (v : Value) (hx : a.tmps[t]?.getD undef = v) {R : Ending → World → Prop} (hC : Calls Try.prog 8 #[v] w R) (hK : ∀ e w', R e w' → ∃ v, e = .returned v ∧ K (a.put o.dst v) w') :
    if Region.wanted o (yielded ops a.tmps) = true then Oper.wp Try.prog o a w K Q else E := by
  rw [if_pos hw]
  have _f := Try.func8
  unfold Oper.wp
  simp only [execOp, hop, resolve, invoke]
  go_simp
  refine hC.mono ?_
  intro e w' hR
  obtain ⟨u, rfl, hk⟩ := hK e w' hR
  exact hk
/-- A call that may come up. -/
theorem op_bare {ops : Array Oper} {Q : Exit → Act → World → Prop} {i : Nat} {o : Oper} {a : Act} {w : World} {K : Act → World → Prop} (hi : ops[i]? = some o) (dst : Option Tmp) (hdst : o.dst = dst) (hw : Region.wanted o (yielded ops a.tmps) = true) (t : Nat) (ty : TypeId)
    (hop : o.op = Op.call { callee := Callee.value (.func 5), args := #[.tmp t], argTypes := #[ty] }) (v : Value) (hx : a.tmps[t]?.getD undef = v) {R : Ending → World → Prop} (hC : Calls Try.prog 5 #[v] w R) (hK : ∀ e w', R e w' → ∃ v, e = .returned v ∧ K (a.put dst v) w') : wpOp Try.prog ops Q i K a w := by
  subst hdst
  have h := step_bare (E := True) (Q := Q) hw t ty hop v hx hC hK
  rw [if_pos hw] at h
  unfold wpOp
  simp only [hi, hw, if_true]
  exact .inl h
/-- A call that may come up. -/
theorem op_normal {ops : Array Oper} {Q : Exit → Act → World → Prop} {i : Nat} {o : Oper} {a : Act} {w : World} {K : Act → World → Prop} (hi : ops[i]? = some o) (dst : Option Tmp) (hdst : o.dst = dst) (hw : Region.wanted o (yielded ops a.tmps) = true) (t : Nat) (ty : TypeId)
    (hop : o.op = Op.call { callee := Callee.value (.func 6), args := #[.tmp t], argTypes := #[ty] }) (v : Value) (hx : a.tmps[t]?.getD undef = v) {R : Ending → World → Prop} (hC : Calls Try.prog 6 #[v] w R) (hK : ∀ e w', R e w' → ∃ v, e = .returned v ∧ K (a.put dst v) w') : wpOp Try.prog ops Q i K a w := by
  subst hdst
  have h := step_normal (E := True) (Q := Q) hw t ty hop v hx hC hK
  rw [if_pos hw] at h
  unfold wpOp
  simp only [hi, hw, if_true]
  exact .inl h
/-- A call that may come up. -/
theorem op_right {ops : Array Oper} {Q : Exit → Act → World → Prop} {i : Nat} {o : Oper} {a : Act} {w : World} {K : Act → World → Prop} (hi : ops[i]? = some o) (dst : Option Tmp) (hdst : o.dst = dst) (hw : Region.wanted o (yielded ops a.tmps) = true) (t : Nat) (ty : TypeId)
    (hop : o.op = Op.call { callee := Callee.value (.func 8), args := #[.tmp t], argTypes := #[ty] }) (v : Value) (hx : a.tmps[t]?.getD undef = v) {R : Ending → World → Prop} (hC : Calls Try.prog 8 #[v] w R) (hK : ∀ e w', R e w' → ∃ v, e = .returned v ∧ K (a.put dst v) w') : wpOp Try.prog ops Q i K a w := by
  subst hdst
  have h := step_right (E := True) (Q := Q) hw t ty hop v hx hC hK
  rw [if_pos hw] at h
  unfold wpOp
  simp only [hi, hw, if_true]
  exact .inl h
/-- A call that may come up. -/
theorem op_live {ops : Array Oper} {Q : Exit → Act → World → Prop} {i : Nat} {o : Oper} {a : Act} {w : World} {K : Act → World → Prop} (hi : ops[i]? = some o) (dst : Option Tmp) (hdst : o.dst = dst) (hw : Region.wanted o (yielded ops a.tmps) = true)
    (hop : o.op = Op.call { callee := Callee.value (.func 7), args := #[], argTypes := #[] }) {R : Ending → World → Prop} (hC : Calls Try.prog 7 #[] w R) (hK : ∀ e w', R e w' → ∃ v, e = .returned v ∧ K (a.put dst v) w') : wpOp Try.prog ops Q i K a w := by
  subst hdst
  have h := step_live (E := True) (Q := Q) hw hop hC hK
  rw [if_pos hw] at h
  unfold wpOp
  simp only [hi, hw, if_true]
  exact .inl h
theorem anyH_one {P : Program} {md : Region.Mode} {ops : Array Oper} {Q : Exit → Act → World → Prop} {S : World → Prop} {i fuel : Nat} {listed : Array Bool} {a : Act} {w : World} (hr : Region.ready md ops listed = [i]) (h1 : wpOp P ops Q i (fun a' w' => S w' ∧ wpAnyH P md ops Q S fuel (listed.setIfInBounds i true) a' w') a w) : wpAnyH P md ops Q S (fuel + 1) listed a w := by
  refine wpAnyH_all hr (by simp) fun k hk => ?_
  obtain rfl : k = i := by simpa using hk
  exact h1
theorem infoJ : (Try.prog.info? 23).map (fun i => (i.zero, i.size, i.bytes)) = some (some (.agg #[.string ⟨#[]⟩, .string ⟨#[]⟩, .string ⟨#[]⟩]), 3, 48) := by kernel_rfl
/-- What stands when both have been made. -/
structure Tri (w W : World) (p q : Nat) (cj cp cq : Array Value) : Prop where
  blw : Below w.heap.size w W
  lt : w.heap.size < W.heap.size
  lp : p < W.heap.size
  lq : q < W.heap.size
  S : W.heap[w.heap.size]? = some (.cells cj 23) ∧ W.heap[p]? = some (.cells cp 23) ∧ W.heap[q]? = some (.cells cq 23)
theorem Tri.call {w W W' : World} {p q : Nat} {cj cp cq : Array Value} (h : Tri w W p q cj cp cq) (hb : Below W.heap.size W W') : Tri w W' p q cj cp cq :=
  have hs := hb.size
  have hl := h.lt
  have h2 := h.lp
  have h3 := h.lq
  ⟨h.blw.trans (hb.mono (by omega)), by omega, by omega, by omega, (hb.block _ hl).trans h.S.1, (hb.block _ h2).trans h.S.2.1, (hb.block _ h3).trans h.S.2.2⟩
theorem eqJ (x y z : ByteArray) (w : World) : (binOp .eql 23 (.agg #[.string x, .string y, .string z]) (.agg #[.string x, .string y, .string z])).run Try.prog w = .ok (.bool true) w := by
  have u := Try.underlying23
  go_simp
theorem eqGuardJ (x y : Operand) (a b : Array Value) (w : World) : (eqGuard .eql 23 x y (.agg a) (.agg b)).run Try.prog w = .ok () w := by
  unfold eqGuard
  simp [go_sem]
theorem ex_eqJ {o : Oper} {a : Act} {w : World} {T' : TypeId} {x y : Operand} {l d r : ByteArray} (ho : o.op = .binOp .eql 23 x y T') (hx : a.eval x = .agg #[.string l, .string d, .string r]) (hy : a.eval y = .agg #[.string l, .string d, .string r]) : (execOp a.eval o).run Try.prog w = .ok (.value (.bool true)) w := by
  unfold execOp
  simp only [ho, hx, hy]
  simp only [Sem.run_bind, eqGuardJ, eqJ, Result.andThen_ok, Sem.run_pure]
theorem op_off {P : Program} {ops : Array Oper} {Q : Exit → Act → World → Prop} {i : Nat} {o : Oper} {a : Act} {w : World} {K : Act → World → Prop} (hi : ops[i]? = some o) (dst : Option Tmp) (hdst : o.dst = dst) (hw : Region.wanted o (yielded ops a.tmps) = false) (h : K (a.put dst undef) w) : wpOp P ops Q i K a w := by
  subst hdst
  unfold wpOp
  simp only [hi, hw, Bool.false_eq_true, if_false]
  exact h
/-- What stands while two addresses are made beside the first. -/
structure TwI (w W : World) (o3 o4 : Option Nat) (lo dom res : ByteArray) : Prop where
  blw : Below w.heap.size w W
  lt : w.heap.size < W.heap.size
  j : W.heap[w.heap.size]? = some (.cells #[.string lo, .string dom, .string res] 23)
  a3 : ∀ p, o3 = some p → w.heap.size < p ∧ p < W.heap.size ∧ W.heap[p]? = some (.cells #[.string ⟨#[]⟩, .string ⟨#[]⟩, .string ⟨#[]⟩] 23)
  a4 : ∀ p, o4 = some p → w.heap.size < p ∧ p < W.heap.size ∧ W.heap[p]? = some (.cells #[.string ⟨#[]⟩, .string ⟨#[]⟩, .string ⟨#[]⟩] 23)
  ne : ∀ p, o3 = some p → o4 ≠ some p
theorem TwI.call {w W W' : World} {o3 o4 : Option Nat} {lo dom res : ByteArray} (h : TwI w W o3 o4 lo dom res) (hb : Below W.heap.size W W') : TwI w W' o3 o4 lo dom res :=
  have hs := hb.size
  have hl := h.lt
  ⟨h.blw.trans (hb.mono (by omega)), by omega, (hb.block _ hl).trans h.j, fun p e => ⟨(h.a3 p e).1, Nat.lt_of_lt_of_le (h.a3 p e).2.1 hs, (hb.block _ (h.a3 p e).2.1).trans (h.a3 p e).2.2⟩, fun p e => ⟨(h.a4 p e).1, Nat.lt_of_lt_of_le (h.a4 p e).2.1 hs, (hb.block _ (h.a4 p e).2.1).trans (h.a4 p e).2.2⟩, h.ne⟩
theorem TwI.al3 {w W : World} {o4 : Option Nat} {lo dom res : ByteArray} (h : TwI w W none o4 lo dom res) : TwI w (W.alloc (.cells #[.string ⟨#[]⟩, .string ⟨#[]⟩, .string ⟨#[]⟩] 23)) (some W.heap.size) o4 lo dom res := by
  have k := h.call (W' := W.alloc (.cells #[.string ⟨#[]⟩, .string ⟨#[]⟩, .string ⟨#[]⟩] 23)) ((Below.refl _ W).alloc (Nat.le_refl _) _)
  refine ⟨k.blw, k.lt, k.j, ?_, k.a4, ?_⟩
  · rintro p ⟨⟩
    exact ⟨h.lt, by simp, World.alloc_heap_new _ _⟩
  · rintro p ⟨⟩ e
    have := (h.a4 _ e).2.1
    omega
theorem TwI.al4 {w W : World} {o3 : Option Nat} {lo dom res : ByteArray} (h : TwI w W o3 none lo dom res) : TwI w (W.alloc (.cells #[.string ⟨#[]⟩, .string ⟨#[]⟩, .string ⟨#[]⟩] 23)) o3 (some W.heap.size) lo dom res := by
  have k := h.call (W' := W.alloc (.cells #[.string ⟨#[]⟩, .string ⟨#[]⟩, .string ⟨#[]⟩] 23)) ((Below.refl _ W).alloc (Nat.le_refl _) _)
  refine ⟨k.blw, k.lt, k.j, k.a3, ?_, ?_⟩
  · rintro p ⟨⟩
    exact ⟨h.lt, by simp, World.alloc_heap_new _ _⟩
  · rintro p e ⟨⟩
    have := (h.a3 _ e).2.1
    omega
theorem one3 (a b c : ByteArray) : #[Value.string a, .string b, .string c].all (·.oneCell') = true := by first | kernel_rfl | simp [Value.oneCell'] | decide
theorem low_size (b c : ByteArray) (h : (⟨(b.data.toList.map lowB).toArray⟩ : ByteArray) = c) : c.size = b.size := by
  subst h
  show ((b.data.toList.map lowB).toArray).size = b.data.size
  rw [List.size_toArray, List.length_map, Array.length_toList]
theorem low_twice (b c : ByteArray) (h : (⟨(b.data.toList.map lowB).toArray⟩ : ByteArray) = c) : (⟨(c.data.toList.map lowB).toArray⟩ : ByteArray) = c := by
  subst h
  have e : ((b.data.toList.map lowB).toArray).toList.map lowB = b.data.toList.map lowB := by
    rw [List.toList_toArray, List.map_map]
    exact List.map_congr_left (fun x _ => lowB_lowB x)
  show (⟨(((b.data.toList.map lowB).toArray).toList.map lowB).toArray⟩ : ByteArray) = _
  rw [e]
/-- A store of an address where one lies. -/
theorem run_storeJ {w : World} {b : Nat} {x y z x' y' z' : Value} (hb : w.heap[b]? = some (.cells #[x, y, z] 23)) (h1 : #[x', y', z'].all (·.oneCell') = true) : ∃ w', (Instr.storeAt 23 (.pointer (some ⟨b, 0, none⟩)) (.agg #[x', y', z'])).run Try.prog w = .ok () w' ∧ w'.heap[b]? = some (.cells #[x', y', z'] 23) ∧ (∀ j, j ≠ b → w'.heap[j]? = w.heap[j]?) ∧ w'.heap.size = w.heap.size ∧ Below b w w' := by
  have h3 : (storeVar 23 ⟨b, 0, none⟩ (.agg #[x', y', z'])).run Try.prog w = .ok () (w.setRow b #[x', y', z']) := run_storeVar_row w b 23 23 #[x, y, z] #[x', y', z'] hb (by kernel_rfl) rfl h1
  refine ⟨w.setRow b #[x', y', z'], ?_, ?_, ?_, ?_, ?_⟩
  · simp only [Instr.storeAt, Instr.sureAddr, Sem.run_bind, Sem.run_pure, Result.andThen_ok, h3]
  · exact setRow_heap w b _ _ _ _ hb
  · exact fun j hj => setRow_other w b j _ hj
  · simp
  · exact ⟨rfl, rfl, rfl, by simp, fun k hk => setRow_other w b k _ (by omega)⟩

set_option maxRecDepth 100000 in
set_option maxHeartbeats 16000000 in
theorem jidTwice_any (lo dom res : ByteArray) (w : World) (hs : lo.size + dom.size + res.size + 2 ≤ 9223372036854775807) (hm : MaxG w) (h1 : 0 < w.heap.size) : Calls Try.prog 3 #[.agg #[.string lo, .string dom, .string res]] w fun e w' => e = .returned (.bool true) ∧ Below w.heap.size w w' := by
  have HM := hide hm
  clear hm
  obtain ⟨Wa, hWa, aa, ba, za⟩ := newJ w (.string lo) (.string dom) (.string res)
  have H0 := hide (And.intro aa ba)
  clear aa ba
  obtain ⟨l1, hl1⟩ : ∃ l1, (⟨(lo.data.toList.map lowB).toArray⟩ : ByteArray) = l1 := ⟨_, rfl⟩
  obtain ⟨d1, hd1⟩ : ∃ d1, (⟨(dom.data.toList.map lowB).toArray⟩ : ByteArray) = d1 := ⟨_, rfl⟩
  have zl := low_size lo l1 hl1
  have zd := low_size dom d1 hd1
  have el := low_twice lo l1 hl1
  have ed := low_twice dom d1 hd1
  have hn1 : ∀ w : World, Calls Try.prog 6 #[.agg #[.string lo, .string dom, .string res]] w fun e w' => e = .returned (.agg #[.string l1, .string d1, .string res]) ∧ Below w.heap.size w w' := fun w => by rw [← hl1, ← hd1]; exact normal_any lo dom res w (by omega) (by omega)
  have hn2 : ∀ w : World, Calls Try.prog 6 #[.agg #[.string l1, .string d1, .string res]] w fun e w' => e = .returned (.agg #[.string l1, .string d1, .string res]) ∧ Below w.heap.size w w' := fun w => by have := normal_any l1 d1 res w (by omega) (by omega); rw [el, ed] at this; exact this
  have hn3 : ∀ w : World, Calls Try.prog 6 #[.agg #[.string lo, .string dom, .string emp]] w fun e w' => e = .returned (.agg #[.string l1, .string d1, .string emp]) ∧ Below w.heap.size w w' := fun w => by rw [← hl1, ← hd1]; exact normal_any lo dom emp w (by omega) (by omega)
  obtain ⟨rb, hrb⟩ : ∃ rb, decide (RightJ (jl lo dom res)) = rb := ⟨_, rfl⟩
  have hr1 : ∀ v : World, MaxG v → 0 < v.heap.size → Calls Try.prog 8 #[.agg #[.string lo, .string dom, .string res]] v fun e w' => e = .returned (.bool rb) ∧ Below v.heap.size v w' := fun v a b => by rw [← hrb]; exact right_any lo dom res v hs a b
  have hrb2 : rb = true → (∀ v : World, MaxG v → 0 < v.heap.size → Calls Try.prog 8 #[.agg #[.string lo, .string dom, .string emp]] v fun e w' => e = .returned (.bool true) ∧ Below v.heap.size v w') ∧ (∀ v : World, MaxG v → 0 < v.heap.size → Calls Try.prog 8 #[.agg #[.string l1, .string d1, .string res]] v fun e w' => e = .returned (.bool true) ∧ Below v.heap.size v w') := by
    intro e
    have hR : RightJ (jl lo dom res) := of_decide_eq_true (hrb.trans e)
    refine ⟨fun v a b => ?_, fun v a b => ?_⟩
    · have := right_any lo dom emp v (by show lo.size + dom.size + 0 + 2 ≤ _; omega) a b
      rw [decide_eq_true (show RightJ (jl lo dom emp) from right_bare hR)] at this
      exact this
    · have := right_any l1 d1 res v (by omega) a b
      rw [decide_eq_true (show RightJ (jl l1 d1 res) by rw [← hl1, ← hd1]; exact (right_map ptB_low (jl lo dom res)).2 hR)] at this
      exact this
  have HNN := hide hn1
  have HC := hide (And.intro hn2 (And.intro hn3 True.intro))
  have HR := hide hr1
  have HRB := hide hrb2
  clear hn1 hn2 hn3 hr1 hrb hrb2 hl1 hd1 el ed
  have hu := Try.underlying23
  go_enter Try.func3, Try.ntmps3
  go_wp2_with fail
  refine region_rel (S := (fun W : World => W.heap[w.heap.size]? = some (.cells #[.string lo, .string dom, .string res] 23))) (fun a W => ∃ p q x5 x7, (Below w.heap.size w W ∧ w.heap.size < p ∧ w.heap.size < q ∧ p < W.heap.size ∧ q < W.heap.size ∧ W.heap[w.heap.size]? = some (.cells #[.string lo, .string dom, .string res] 23) ∧ W.heap[p]? = some (.cells #[.string lo, .string dom, .string emp] 23) ∧ W.heap[q]? = some (.cells #[.string l1, .string d1, .string res] 23)) ∧ a = { tmps := #[.agg #[.string lo, .string dom, .string res], .pointer (some ⟨w.heap.size, 0, none⟩), .bool false, .pointer (some ⟨p, 0, none⟩), .pointer (some ⟨q, 0, none⟩), x5, .agg #[.string lo, .string dom, .string emp], x7, .agg #[.string l1, .string d1, .string res], undef, undef, undef, undef, undef, undef, undef, undef, undef, undef, undef, undef, undef, undef, undef, undef, undef, undef, undef, undef, undef, undef, undef, undef, undef, undef, undef, undef, undef, undef, undef, undef, undef], defers := [] }) (by kernel_rfl) ?any ?fin
  case any =>
    have I0 : TwI w Wa.drew none none lo dom res := ⟨H0.out.2.drew, (by show w.heap.size < Wa.heap.size; omega), H0.out.1, (fun _ e => by cases e), (fun _ e => by cases e), (fun _ e => by cases e)⟩
    refine anyH_take (i := 0) (v := .agg #[.string lo, .string dom, .string res]) rfl (some 5) rfl (by kernel_rfl) (by kernel_rfl) (by kernel_rfl) (fun _ _ _ h => by cases h.1) rfl (fun w0 hw0 => ex_load rfl rfl (run_load_row infoJ hu rfl rfl hw0)) I0.j ?_
    simp only [Act.put, List.setIfInBounds_toArray, List.set_cons_zero, List.set_cons_succ]
    refine anyH_take (i := 2) (v := .agg #[.string lo, .string dom, .string res]) rfl (some 7) rfl (by kernel_rfl) (by kernel_rfl) (by kernel_rfl) (fun _ _ _ h => by cases h.1) rfl (fun w0 hw0 => ex_load rfl rfl (run_load_row infoJ hu rfl rfl hw0)) I0.j ?_
    simp only [Act.put, List.setIfInBounds_toArray, List.set_cons_zero, List.set_cons_succ]
    obtain ⟨X0, hX0⟩ : ∃ X0, Wa.drew = X0 := ⟨_, rfl⟩
    rw [hX0] at I0 ⊢
    clear hX0
    have HN := HNN.out
    refine anyH_three (i := 1) (j := 4) (k := 5) (by kernel_rfl) ?_ ?_ ?_
    · refine op_bare rfl (some 6) rfl rfl 5 23 rfl (.agg #[.string lo, .string dom, .string res]) rfl (bare_any lo dom res _) ?_
      rintro e X1 ⟨he, hb⟩
      have I1 := I0.call hb
      refine ⟨_, he, I1.j, ?_⟩
      clear he hb
      simp only [Act.put, List.setIfInBounds_toArray, List.set_cons_zero, List.set_cons_succ]
      refine anyH_three (i := 3) (j := 4) (k := 5) (by kernel_rfl) ?_ ?_ ?_
      · refine op_normal rfl (some 8) rfl rfl 7 23 rfl (.agg #[.string lo, .string dom, .string res]) rfl (HN _) ?_
        rintro e X2 ⟨he, hb⟩
        have I2 := I1.call hb
        refine ⟨_, he, I2.j, ?_⟩
        clear he hb
        simp only [Act.put, List.setIfInBounds_toArray, List.set_cons_zero, List.set_cons_succ]
        refine anyH_two (i := 4) (j := 5) (by kernel_rfl) ?_ ?_
        · have I3 := I2.al3
          refine op_val (v := .pointer (some ⟨X2.heap.size, 0, none⟩)) rfl (some 3) rfl rfl (ex_alloc rfl (run_alloc_long infoJ X2)) ⟨I3.j, ?_⟩
          simp only [Act.put, List.setIfInBounds_toArray, List.set_cons_zero, List.set_cons_succ]
          obtain ⟨X3, hX3⟩ : ∃ X3, X2.alloc (.cells #[.string ⟨#[]⟩, .string ⟨#[]⟩, .string ⟨#[]⟩] 23) = X3 := ⟨_, rfl⟩
          rw [hX3] at I3 ⊢
          clear hX3
          refine anyH_one (i := 5) (by kernel_rfl) ?_
          · have I4 := I3.al4
            refine op_val (v := .pointer (some ⟨X3.heap.size, 0, none⟩)) rfl (some 4) rfl rfl (ex_alloc rfl (run_alloc_long infoJ X3)) ⟨I4.j, ?_⟩
            simp only [Act.put, List.setIfInBounds_toArray, List.set_cons_zero, List.set_cons_succ]
            obtain ⟨X4, hX4⟩ : ∃ X4, X3.alloc (.cells #[.string ⟨#[]⟩, .string ⟨#[]⟩, .string ⟨#[]⟩] 23) = X4 := ⟨_, rfl⟩
            rw [hX4] at I4 ⊢
            clear hX4
            obtain ⟨h1, h2, h3⟩ := I4.a3 X2.heap.size rfl
            obtain ⟨k1, k2, k3⟩ := I4.a4 X3.heap.size rfl
            have hne : X2.heap.size ≠ X3.heap.size := fun e => I4.ne X2.heap.size rfl (by rw [e])
            obtain ⟨Y, hY1, hY2, hY3, hY4, hY5⟩ := run_storeJ (x' := .string lo) (y' := .string dom) (z' := .string emp) h3 (one3 _ _ _)
            obtain ⟨V, hV1, hV2, hV3, hV4, hV5⟩ := run_storeJ (x' := .string l1) (y' := .string d1) (z' := .string res) ((hY3 X3.heap.size (fun e => hne e.symm)).trans k3) (one3 _ _ _)
            refine anyH_skip (i := 6) (w' := Y) (by kernel_rfl) rfl none rfl rfl (ex_store rfl rfl rfl hY1) ((hY3 _ (by omega)).trans I4.j) ?_
            refine anyH_skip (i := 7) (w' := V) (by kernel_rfl) rfl none rfl rfl (ex_store rfl rfl rfl hV1) ((hV3 _ (by omega)).trans ((hY3 _ (by omega)).trans I4.j)) ?_
            refine wpAnyH_done (by kernel_rfl) ⟨rfl, X2.heap.size, X3.heap.size, _, _, ⟨(I4.blw.trans (hY5.mono (by omega))).trans (hV5.mono (by omega)), h1, k1, by omega, by omega, (hV3 _ (by omega)).trans ((hY3 _ (by omega)).trans I4.j), (hV3 X2.heap.size hne).trans hY2, hV2⟩, rfl⟩ _
        · have I5 := I2.al4
          refine op_val (v := .pointer (some ⟨X2.heap.size, 0, none⟩)) rfl (some 4) rfl rfl (ex_alloc rfl (run_alloc_long infoJ X2)) ⟨I5.j, ?_⟩
          simp only [Act.put, List.setIfInBounds_toArray, List.set_cons_zero, List.set_cons_succ]
          obtain ⟨X5, hX5⟩ : ∃ X5, X2.alloc (.cells #[.string ⟨#[]⟩, .string ⟨#[]⟩, .string ⟨#[]⟩] 23) = X5 := ⟨_, rfl⟩
          rw [hX5] at I5 ⊢
          clear hX5
          refine anyH_one (i := 4) (by kernel_rfl) ?_
          · have I6 := I5.al3
            refine op_val (v := .pointer (some ⟨X5.heap.size, 0, none⟩)) rfl (some 3) rfl rfl (ex_alloc rfl (run_alloc_long infoJ X5)) ⟨I6.j, ?_⟩
            simp only [Act.put, List.setIfInBounds_toArray, List.set_cons_zero, List.set_cons_succ]
            obtain ⟨X6, hX6⟩ : ∃ X6, X5.alloc (.cells #[.string ⟨#[]⟩, .string ⟨#[]⟩, .string ⟨#[]⟩] 23) = X6 := ⟨_, rfl⟩
            rw [hX6] at I6 ⊢
            clear hX6
            obtain ⟨h1, h2, h3⟩ := I6.a3 X5.heap.size rfl
            obtain ⟨k1, k2, k3⟩ := I6.a4 X2.heap.size rfl
            have hne : X5.heap.size ≠ X2.heap.size := fun e => I6.ne X5.heap.size rfl (by rw [e])
            obtain ⟨Y, hY1, hY2, hY3, hY4, hY5⟩ := run_storeJ (x' := .string lo) (y' := .string dom) (z' := .string emp) h3 (one3 _ _ _)
            obtain ⟨V, hV1, hV2, hV3, hV4, hV5⟩ := run_storeJ (x' := .string l1) (y' := .string d1) (z' := .string res) ((hY3 X2.heap.size (fun e => hne e.symm)).trans k3) (one3 _ _ _)
            refine anyH_skip (i := 6) (w' := Y) (by kernel_rfl) rfl none rfl rfl (ex_store rfl rfl rfl hY1) ((hY3 _ (by omega)).trans I6.j) ?_
            refine anyH_skip (i := 7) (w' := V) (by kernel_rfl) rfl none rfl rfl (ex_store rfl rfl rfl hV1) ((hV3 _ (by omega)).trans ((hY3 _ (by omega)).trans I6.j)) ?_
            refine wpAnyH_done (by kernel_rfl) ⟨rfl, X5.heap.size, X2.heap.size, _, _, ⟨(I6.blw.trans (hY5.mono (by omega))).trans (hV5.mono (by omega)), h1, k1, by omega, by omega, (hV3 _ (by omega)).trans ((hY3 _ (by omega)).trans I6.j), (hV3 X5.heap.size hne).trans hY2, hV2⟩, rfl⟩ _
      · have I7 := I1.al3
        refine op_val (v := .pointer (some ⟨X1.heap.size, 0, none⟩)) rfl (some 3) rfl rfl (ex_alloc rfl (run_alloc_long infoJ X1)) ⟨I7.j, ?_⟩
        simp only [Act.put, List.setIfInBounds_toArray, List.set_cons_zero, List.set_cons_succ]
        obtain ⟨X7, hX7⟩ : ∃ X7, X1.alloc (.cells #[.string ⟨#[]⟩, .string ⟨#[]⟩, .string ⟨#[]⟩] 23) = X7 := ⟨_, rfl⟩
        rw [hX7] at I7 ⊢
        clear hX7
        refine anyH_two (i := 3) (j := 5) (by kernel_rfl) ?_ ?_
        · refine op_normal rfl (some 8) rfl rfl 7 23 rfl (.agg #[.string lo, .string dom, .string res]) rfl (HN _) ?_
          rintro e X8 ⟨he, hb⟩
          have I8 := I7.call hb
          refine ⟨_, he, I8.j, ?_⟩
          clear he hb
          simp only [Act.put, List.setIfInBounds_toArray, List.set_cons_zero, List.set_cons_succ]
          refine anyH_one (i := 5) (by kernel_rfl) ?_
          · have I9 := I8.al4
            refine op_val (v := .pointer (some ⟨X8.heap.size, 0, none⟩)) rfl (some 4) rfl rfl (ex_alloc rfl (run_alloc_long infoJ X8)) ⟨I9.j, ?_⟩
            simp only [Act.put, List.setIfInBounds_toArray, List.set_cons_zero, List.set_cons_succ]
            obtain ⟨X9, hX9⟩ : ∃ X9, X8.alloc (.cells #[.string ⟨#[]⟩, .string ⟨#[]⟩, .string ⟨#[]⟩] 23) = X9 := ⟨_, rfl⟩
            rw [hX9] at I9 ⊢
            clear hX9
            obtain ⟨h1, h2, h3⟩ := I9.a3 X1.heap.size rfl
            obtain ⟨k1, k2, k3⟩ := I9.a4 X8.heap.size rfl
            have hne : X1.heap.size ≠ X8.heap.size := fun e => I9.ne X1.heap.size rfl (by rw [e])
            obtain ⟨Y, hY1, hY2, hY3, hY4, hY5⟩ := run_storeJ (x' := .string lo) (y' := .string dom) (z' := .string emp) h3 (one3 _ _ _)
            obtain ⟨V, hV1, hV2, hV3, hV4, hV5⟩ := run_storeJ (x' := .string l1) (y' := .string d1) (z' := .string res) ((hY3 X8.heap.size (fun e => hne e.symm)).trans k3) (one3 _ _ _)
            refine anyH_skip (i := 6) (w' := Y) (by kernel_rfl) rfl none rfl rfl (ex_store rfl rfl rfl hY1) ((hY3 _ (by omega)).trans I9.j) ?_
            refine anyH_skip (i := 7) (w' := V) (by kernel_rfl) rfl none rfl rfl (ex_store rfl rfl rfl hV1) ((hV3 _ (by omega)).trans ((hY3 _ (by omega)).trans I9.j)) ?_
            refine wpAnyH_done (by kernel_rfl) ⟨rfl, X1.heap.size, X8.heap.size, _, _, ⟨(I9.blw.trans (hY5.mono (by omega))).trans (hV5.mono (by omega)), h1, k1, by omega, by omega, (hV3 _ (by omega)).trans ((hY3 _ (by omega)).trans I9.j), (hV3 X1.heap.size hne).trans hY2, hV2⟩, rfl⟩ _
        · have I10 := I7.al4
          refine op_val (v := .pointer (some ⟨X7.heap.size, 0, none⟩)) rfl (some 4) rfl rfl (ex_alloc rfl (run_alloc_long infoJ X7)) ⟨I10.j, ?_⟩
          simp only [Act.put, List.setIfInBounds_toArray, List.set_cons_zero, List.set_cons_succ]
          obtain ⟨X10, hX10⟩ : ∃ X10, X7.alloc (.cells #[.string ⟨#[]⟩, .string ⟨#[]⟩, .string ⟨#[]⟩] 23) = X10 := ⟨_, rfl⟩
          rw [hX10] at I10 ⊢
          clear hX10
          refine anyH_one (i := 3) (by kernel_rfl) ?_
          · refine op_normal rfl (some 8) rfl rfl 7 23 rfl (.agg #[.string lo, .string dom, .string res]) rfl (HN _) ?_
            rintro e X11 ⟨he, hb⟩
            have I11 := I10.call hb
            refine ⟨_, he, I11.j, ?_⟩
            clear he hb
            simp only [Act.put, List.setIfInBounds_toArray, List.set_cons_zero, List.set_cons_succ]
            obtain ⟨h1, h2, h3⟩ := I11.a3 X1.heap.size rfl
            obtain ⟨k1, k2, k3⟩ := I11.a4 X7.heap.size rfl
            have hne : X1.heap.size ≠ X7.heap.size := fun e => I11.ne X1.heap.size rfl (by rw [e])
            obtain ⟨Y, hY1, hY2, hY3, hY4, hY5⟩ := run_storeJ (x' := .string lo) (y' := .string dom) (z' := .string emp) h3 (one3 _ _ _)
            obtain ⟨V, hV1, hV2, hV3, hV4, hV5⟩ := run_storeJ (x' := .string l1) (y' := .string d1) (z' := .string res) ((hY3 X7.heap.size (fun e => hne e.symm)).trans k3) (one3 _ _ _)
            refine anyH_skip (i := 6) (w' := Y) (by kernel_rfl) rfl none rfl rfl (ex_store rfl rfl rfl hY1) ((hY3 _ (by omega)).trans I11.j) ?_
            refine anyH_skip (i := 7) (w' := V) (by kernel_rfl) rfl none rfl rfl (ex_store rfl rfl rfl hV1) ((hV3 _ (by omega)).trans ((hY3 _ (by omega)).trans I11.j)) ?_
            refine wpAnyH_done (by kernel_rfl) ⟨rfl, X1.heap.size, X7.heap.size, _, _, ⟨(I11.blw.trans (hY5.mono (by omega))).trans (hV5.mono (by omega)), h1, k1, by omega, by omega, (hV3 _ (by omega)).trans ((hY3 _ (by omega)).trans I11.j), (hV3 X1.heap.size hne).trans hY2, hV2⟩, rfl⟩ _
      · have I12 := I1.al4
        refine op_val (v := .pointer (some ⟨X1.heap.size, 0, none⟩)) rfl (some 4) rfl rfl (ex_alloc rfl (run_alloc_long infoJ X1)) ⟨I12.j, ?_⟩
        simp only [Act.put, List.setIfInBounds_toArray, List.set_cons_zero, List.set_cons_succ]
        obtain ⟨X12, hX12⟩ : ∃ X12, X1.alloc (.cells #[.string ⟨#[]⟩, .string ⟨#[]⟩, .string ⟨#[]⟩] 23) = X12 := ⟨_, rfl⟩
        rw [hX12] at I12 ⊢
        clear hX12
        refine anyH_two (i := 3) (j := 4) (by kernel_rfl) ?_ ?_
        · refine op_normal rfl (some 8) rfl rfl 7 23 rfl (.agg #[.string lo, .string dom, .string res]) rfl (HN _) ?_
          rintro e X13 ⟨he, hb⟩
          have I13 := I12.call hb
          refine ⟨_, he, I13.j, ?_⟩
          clear he hb
          simp only [Act.put, List.setIfInBounds_toArray, List.set_cons_zero, List.set_cons_succ]
          refine anyH_one (i := 4) (by kernel_rfl) ?_
          · have I14 := I13.al3
            refine op_val (v := .pointer (some ⟨X13.heap.size, 0, none⟩)) rfl (some 3) rfl rfl (ex_alloc rfl (run_alloc_long infoJ X13)) ⟨I14.j, ?_⟩
            simp only [Act.put, List.setIfInBounds_toArray, List.set_cons_zero, List.set_cons_succ]
            obtain ⟨X14, hX14⟩ : ∃ X14, X13.alloc (.cells #[.string ⟨#[]⟩, .string ⟨#[]⟩, .string ⟨#[]⟩] 23) = X14 := ⟨_, rfl⟩
            rw [hX14] at I14 ⊢
            clear hX14
            obtain ⟨h1, h2, h3⟩ := I14.a3 X13.heap.size rfl
            obtain ⟨k1, k2, k3⟩ := I14.a4 X1.heap.size rfl
            have hne : X13.heap.size ≠ X1.heap.size := fun e => I14.ne X13.heap.size rfl (by rw [e])
            obtain ⟨Y, hY1, hY2, hY3, hY4, hY5⟩ := run_storeJ (x' := .string lo) (y' := .string dom) (z' := .string emp) h3 (one3 _ _ _)
            obtain ⟨V, hV1, hV2, hV3, hV4, hV5⟩ := run_storeJ (x' := .string l1) (y' := .string d1) (z' := .string res) ((hY3 X1.heap.size (fun e => hne e.symm)).trans k3) (one3 _ _ _)
            refine anyH_skip (i := 6) (w' := Y) (by kernel_rfl) rfl none rfl rfl (ex_store rfl rfl rfl hY1) ((hY3 _ (by omega)).trans I14.j) ?_
            refine anyH_skip (i := 7) (w' := V) (by kernel_rfl) rfl none rfl rfl (ex_store rfl rfl rfl hV1) ((hV3 _ (by omega)).trans ((hY3 _ (by omega)).trans I14.j)) ?_
            refine wpAnyH_done (by kernel_rfl) ⟨rfl, X13.heap.size, X1.heap.size, _, _, ⟨(I14.blw.trans (hY5.mono (by omega))).trans (hV5.mono (by omega)), h1, k1, by omega, by omega, (hV3 _ (by omega)).trans ((hY3 _ (by omega)).trans I14.j), (hV3 X13.heap.size hne).trans hY2, hV2⟩, rfl⟩ _
        · have I15 := I12.al3
          refine op_val (v := .pointer (some ⟨X12.heap.size, 0, none⟩)) rfl (some 3) rfl rfl (ex_alloc rfl (run_alloc_long infoJ X12)) ⟨I15.j, ?_⟩
          simp only [Act.put, List.setIfInBounds_toArray, List.set_cons_zero, List.set_cons_succ]
          obtain ⟨X15, hX15⟩ : ∃ X15, X12.alloc (.cells #[.string ⟨#[]⟩, .string ⟨#[]⟩, .string ⟨#[]⟩] 23) = X15 := ⟨_, rfl⟩
          rw [hX15] at I15 ⊢
          clear hX15
          refine anyH_one (i := 3) (by kernel_rfl) ?_
          · refine op_normal rfl (some 8) rfl rfl 7 23 rfl (.agg #[.string lo, .string dom, .string res]) rfl (HN _) ?_
            rintro e X16 ⟨he, hb⟩
            have I16 := I15.call hb
            refine ⟨_, he, I16.j, ?_⟩
            clear he hb
            simp only [Act.put, List.setIfInBounds_toArray, List.set_cons_zero, List.set_cons_succ]
            obtain ⟨h1, h2, h3⟩ := I16.a3 X12.heap.size rfl
            obtain ⟨k1, k2, k3⟩ := I16.a4 X1.heap.size rfl
            have hne : X12.heap.size ≠ X1.heap.size := fun e => I16.ne X12.heap.size rfl (by rw [e])
            obtain ⟨Y, hY1, hY2, hY3, hY4, hY5⟩ := run_storeJ (x' := .string lo) (y' := .string dom) (z' := .string emp) h3 (one3 _ _ _)
            obtain ⟨V, hV1, hV2, hV3, hV4, hV5⟩ := run_storeJ (x' := .string l1) (y' := .string d1) (z' := .string res) ((hY3 X1.heap.size (fun e => hne e.symm)).trans k3) (one3 _ _ _)
            refine anyH_skip (i := 6) (w' := Y) (by kernel_rfl) rfl none rfl rfl (ex_store rfl rfl rfl hY1) ((hY3 _ (by omega)).trans I16.j) ?_
            refine anyH_skip (i := 7) (w' := V) (by kernel_rfl) rfl none rfl rfl (ex_store rfl rfl rfl hV1) ((hV3 _ (by omega)).trans ((hY3 _ (by omega)).trans I16.j)) ?_
            refine wpAnyH_done (by kernel_rfl) ⟨rfl, X12.heap.size, X1.heap.size, _, _, ⟨(I16.blw.trans (hY5.mono (by omega))).trans (hV5.mono (by omega)), h1, k1, by omega, by omega, (hV3 _ (by omega)).trans ((hY3 _ (by omega)).trans I16.j), (hV3 X12.heap.size hne).trans hY2, hV2⟩, rfl⟩ _
    · have I17 := I0.al3
      refine op_val (v := .pointer (some ⟨X0.heap.size, 0, none⟩)) rfl (some 3) rfl rfl (ex_alloc rfl (run_alloc_long infoJ X0)) ⟨I17.j, ?_⟩
      simp only [Act.put, List.setIfInBounds_toArray, List.set_cons_zero, List.set_cons_succ]
      obtain ⟨X17, hX17⟩ : ∃ X17, X0.alloc (.cells #[.string ⟨#[]⟩, .string ⟨#[]⟩, .string ⟨#[]⟩] 23) = X17 := ⟨_, rfl⟩
      rw [hX17] at I17 ⊢
      clear hX17
      refine anyH_two (i := 1) (j := 5) (by kernel_rfl) ?_ ?_
      · refine op_bare rfl (some 6) rfl rfl 5 23 rfl (.agg #[.string lo, .string dom, .string res]) rfl (bare_any lo dom res _) ?_
        rintro e X18 ⟨he, hb⟩
        have I18 := I17.call hb
        refine ⟨_, he, I18.j, ?_⟩
        clear he hb
        simp only [Act.put, List.setIfInBounds_toArray, List.set_cons_zero, List.set_cons_succ]
        refine anyH_two (i := 3) (j := 5) (by kernel_rfl) ?_ ?_
        · refine op_normal rfl (some 8) rfl rfl 7 23 rfl (.agg #[.string lo, .string dom, .string res]) rfl (HN _) ?_
          rintro e X19 ⟨he, hb⟩
          have I19 := I18.call hb
          refine ⟨_, he, I19.j, ?_⟩
          clear he hb
          simp only [Act.put, List.setIfInBounds_toArray, List.set_cons_zero, List.set_cons_succ]
          refine anyH_one (i := 5) (by kernel_rfl) ?_
          · have I20 := I19.al4
            refine op_val (v := .pointer (some ⟨X19.heap.size, 0, none⟩)) rfl (some 4) rfl rfl (ex_alloc rfl (run_alloc_long infoJ X19)) ⟨I20.j, ?_⟩
            simp only [Act.put, List.setIfInBounds_toArray, List.set_cons_zero, List.set_cons_succ]
            obtain ⟨X20, hX20⟩ : ∃ X20, X19.alloc (.cells #[.string ⟨#[]⟩, .string ⟨#[]⟩, .string ⟨#[]⟩] 23) = X20 := ⟨_, rfl⟩
            rw [hX20] at I20 ⊢
            clear hX20
            obtain ⟨h1, h2, h3⟩ := I20.a3 X0.heap.size rfl
            obtain ⟨k1, k2, k3⟩ := I20.a4 X19.heap.size rfl
            have hne : X0.heap.size ≠ X19.heap.size := fun e => I20.ne X0.heap.size rfl (by rw [e])
            obtain ⟨Y, hY1, hY2, hY3, hY4, hY5⟩ := run_storeJ (x' := .string lo) (y' := .string dom) (z' := .string emp) h3 (one3 _ _ _)
            obtain ⟨V, hV1, hV2, hV3, hV4, hV5⟩ := run_storeJ (x' := .string l1) (y' := .string d1) (z' := .string res) ((hY3 X19.heap.size (fun e => hne e.symm)).trans k3) (one3 _ _ _)
            refine anyH_skip (i := 6) (w' := Y) (by kernel_rfl) rfl none rfl rfl (ex_store rfl rfl rfl hY1) ((hY3 _ (by omega)).trans I20.j) ?_
            refine anyH_skip (i := 7) (w' := V) (by kernel_rfl) rfl none rfl rfl (ex_store rfl rfl rfl hV1) ((hV3 _ (by omega)).trans ((hY3 _ (by omega)).trans I20.j)) ?_
            refine wpAnyH_done (by kernel_rfl) ⟨rfl, X0.heap.size, X19.heap.size, _, _, ⟨(I20.blw.trans (hY5.mono (by omega))).trans (hV5.mono (by omega)), h1, k1, by omega, by omega, (hV3 _ (by omega)).trans ((hY3 _ (by omega)).trans I20.j), (hV3 X0.heap.size hne).trans hY2, hV2⟩, rfl⟩ _
        · have I21 := I18.al4
          refine op_val (v := .pointer (some ⟨X18.heap.size, 0, none⟩)) rfl (some 4) rfl rfl (ex_alloc rfl (run_alloc_long infoJ X18)) ⟨I21.j, ?_⟩
          simp only [Act.put, List.setIfInBounds_toArray, List.set_cons_zero, List.set_cons_succ]
          obtain ⟨X21, hX21⟩ : ∃ X21, X18.alloc (.cells #[.string ⟨#[]⟩, .string ⟨#[]⟩, .string ⟨#[]⟩] 23) = X21 := ⟨_, rfl⟩
          rw [hX21] at I21 ⊢
          clear hX21
          refine anyH_one (i := 3) (by kernel_rfl) ?_
          · refine op_normal rfl (some 8) rfl rfl 7 23 rfl (.agg #[.string lo, .string dom, .string res]) rfl (HN _) ?_
            rintro e X22 ⟨he, hb⟩
            have I22 := I21.call hb
            refine ⟨_, he, I22.j, ?_⟩
            clear he hb
            simp only [Act.put, List.setIfInBounds_toArray, List.set_cons_zero, List.set_cons_succ]
            obtain ⟨h1, h2, h3⟩ := I22.a3 X0.heap.size rfl
            obtain ⟨k1, k2, k3⟩ := I22.a4 X18.heap.size rfl
            have hne : X0.heap.size ≠ X18.heap.size := fun e => I22.ne X0.heap.size rfl (by rw [e])
            obtain ⟨Y, hY1, hY2, hY3, hY4, hY5⟩ := run_storeJ (x' := .string lo) (y' := .string dom) (z' := .string emp) h3 (one3 _ _ _)
            obtain ⟨V, hV1, hV2, hV3, hV4, hV5⟩ := run_storeJ (x' := .string l1) (y' := .string d1) (z' := .string res) ((hY3 X18.heap.size (fun e => hne e.symm)).trans k3) (one3 _ _ _)
            refine anyH_skip (i := 6) (w' := Y) (by kernel_rfl) rfl none rfl rfl (ex_store rfl rfl rfl hY1) ((hY3 _ (by omega)).trans I22.j) ?_
            refine anyH_skip (i := 7) (w' := V) (by kernel_rfl) rfl none rfl rfl (ex_store rfl rfl rfl hV1) ((hV3 _ (by omega)).trans ((hY3 _ (by omega)).trans I22.j)) ?_
            refine wpAnyH_done (by kernel_rfl) ⟨rfl, X0.heap.size, X18.heap.size, _, _, ⟨(I22.blw.trans (hY5.mono (by omega))).trans (hV5.mono (by omega)), h1, k1, by omega, by omega, (hV3 _ (by omega)).trans ((hY3 _ (by omega)).trans I22.j), (hV3 X0.heap.size hne).trans hY2, hV2⟩, rfl⟩ _
      · have I23 := I17.al4
        refine op_val (v := .pointer (some ⟨X17.heap.size, 0, none⟩)) rfl (some 4) rfl rfl (ex_alloc rfl (run_alloc_long infoJ X17)) ⟨I23.j, ?_⟩
        simp only [Act.put, List.setIfInBounds_toArray, List.set_cons_zero, List.set_cons_succ]
        obtain ⟨X23, hX23⟩ : ∃ X23, X17.alloc (.cells #[.string ⟨#[]⟩, .string ⟨#[]⟩, .string ⟨#[]⟩] 23) = X23 := ⟨_, rfl⟩
        rw [hX23] at I23 ⊢
        clear hX23
        refine anyH_one (i := 1) (by kernel_rfl) ?_
        · refine op_bare rfl (some 6) rfl rfl 5 23 rfl (.agg #[.string lo, .string dom, .string res]) rfl (bare_any lo dom res _) ?_
          rintro e X24 ⟨he, hb⟩
          have I24 := I23.call hb
          refine ⟨_, he, I24.j, ?_⟩
          clear he hb
          simp only [Act.put, List.setIfInBounds_toArray, List.set_cons_zero, List.set_cons_succ]
          refine anyH_one (i := 3) (by kernel_rfl) ?_
          · refine op_normal rfl (some 8) rfl rfl 7 23 rfl (.agg #[.string lo, .string dom, .string res]) rfl (HN _) ?_
            rintro e X25 ⟨he, hb⟩
            have I25 := I24.call hb
            refine ⟨_, he, I25.j, ?_⟩
            clear he hb
            simp only [Act.put, List.setIfInBounds_toArray, List.set_cons_zero, List.set_cons_succ]
            obtain ⟨h1, h2, h3⟩ := I25.a3 X0.heap.size rfl
            obtain ⟨k1, k2, k3⟩ := I25.a4 X17.heap.size rfl
            have hne : X0.heap.size ≠ X17.heap.size := fun e => I25.ne X0.heap.size rfl (by rw [e])
            obtain ⟨Y, hY1, hY2, hY3, hY4, hY5⟩ := run_storeJ (x' := .string lo) (y' := .string dom) (z' := .string emp) h3 (one3 _ _ _)
            obtain ⟨V, hV1, hV2, hV3, hV4, hV5⟩ := run_storeJ (x' := .string l1) (y' := .string d1) (z' := .string res) ((hY3 X17.heap.size (fun e => hne e.symm)).trans k3) (one3 _ _ _)
            refine anyH_skip (i := 6) (w' := Y) (by kernel_rfl) rfl none rfl rfl (ex_store rfl rfl rfl hY1) ((hY3 _ (by omega)).trans I25.j) ?_
            refine anyH_skip (i := 7) (w' := V) (by kernel_rfl) rfl none rfl rfl (ex_store rfl rfl rfl hV1) ((hV3 _ (by omega)).trans ((hY3 _ (by omega)).trans I25.j)) ?_
            refine wpAnyH_done (by kernel_rfl) ⟨rfl, X0.heap.size, X17.heap.size, _, _, ⟨(I25.blw.trans (hY5.mono (by omega))).trans (hV5.mono (by omega)), h1, k1, by omega, by omega, (hV3 _ (by omega)).trans ((hY3 _ (by omega)).trans I25.j), (hV3 X0.heap.size hne).trans hY2, hV2⟩, rfl⟩ _
    · have I26 := I0.al4
      refine op_val (v := .pointer (some ⟨X0.heap.size, 0, none⟩)) rfl (some 4) rfl rfl (ex_alloc rfl (run_alloc_long infoJ X0)) ⟨I26.j, ?_⟩
      simp only [Act.put, List.setIfInBounds_toArray, List.set_cons_zero, List.set_cons_succ]
      obtain ⟨X26, hX26⟩ : ∃ X26, X0.alloc (.cells #[.string ⟨#[]⟩, .string ⟨#[]⟩, .string ⟨#[]⟩] 23) = X26 := ⟨_, rfl⟩
      rw [hX26] at I26 ⊢
      clear hX26
      refine anyH_two (i := 1) (j := 4) (by kernel_rfl) ?_ ?_
      · refine op_bare rfl (some 6) rfl rfl 5 23 rfl (.agg #[.string lo, .string dom, .string res]) rfl (bare_any lo dom res _) ?_
        rintro e X27 ⟨he, hb⟩
        have I27 := I26.call hb
        refine ⟨_, he, I27.j, ?_⟩
        clear he hb
        simp only [Act.put, List.setIfInBounds_toArray, List.set_cons_zero, List.set_cons_succ]
        refine anyH_two (i := 3) (j := 4) (by kernel_rfl) ?_ ?_
        · refine op_normal rfl (some 8) rfl rfl 7 23 rfl (.agg #[.string lo, .string dom, .string res]) rfl (HN _) ?_
          rintro e X28 ⟨he, hb⟩
          have I28 := I27.call hb
          refine ⟨_, he, I28.j, ?_⟩
          clear he hb
          simp only [Act.put, List.setIfInBounds_toArray, List.set_cons_zero, List.set_cons_succ]
          refine anyH_one (i := 4) (by kernel_rfl) ?_
          · have I29 := I28.al3
            refine op_val (v := .pointer (some ⟨X28.heap.size, 0, none⟩)) rfl (some 3) rfl rfl (ex_alloc rfl (run_alloc_long infoJ X28)) ⟨I29.j, ?_⟩
            simp only [Act.put, List.setIfInBounds_toArray, List.set_cons_zero, List.set_cons_succ]
            obtain ⟨X29, hX29⟩ : ∃ X29, X28.alloc (.cells #[.string ⟨#[]⟩, .string ⟨#[]⟩, .string ⟨#[]⟩] 23) = X29 := ⟨_, rfl⟩
            rw [hX29] at I29 ⊢
            clear hX29
            obtain ⟨h1, h2, h3⟩ := I29.a3 X28.heap.size rfl
            obtain ⟨k1, k2, k3⟩ := I29.a4 X0.heap.size rfl
            have hne : X28.heap.size ≠ X0.heap.size := fun e => I29.ne X28.heap.size rfl (by rw [e])
            obtain ⟨Y, hY1, hY2, hY3, hY4, hY5⟩ := run_storeJ (x' := .string lo) (y' := .string dom) (z' := .string emp) h3 (one3 _ _ _)
            obtain ⟨V, hV1, hV2, hV3, hV4, hV5⟩ := run_storeJ (x' := .string l1) (y' := .string d1) (z' := .string res) ((hY3 X0.heap.size (fun e => hne e.symm)).trans k3) (one3 _ _ _)
            refine anyH_skip (i := 6) (w' := Y) (by kernel_rfl) rfl none rfl rfl (ex_store rfl rfl rfl hY1) ((hY3 _ (by omega)).trans I29.j) ?_
            refine anyH_skip (i := 7) (w' := V) (by kernel_rfl) rfl none rfl rfl (ex_store rfl rfl rfl hV1) ((hV3 _ (by omega)).trans ((hY3 _ (by omega)).trans I29.j)) ?_
            refine wpAnyH_done (by kernel_rfl) ⟨rfl, X28.heap.size, X0.heap.size, _, _, ⟨(I29.blw.trans (hY5.mono (by omega))).trans (hV5.mono (by omega)), h1, k1, by omega, by omega, (hV3 _ (by omega)).trans ((hY3 _ (by omega)).trans I29.j), (hV3 X28.heap.size hne).trans hY2, hV2⟩, rfl⟩ _
        · have I30 := I27.al3
          refine op_val (v := .pointer (some ⟨X27.heap.size, 0, none⟩)) rfl (some 3) rfl rfl (ex_alloc rfl (run_alloc_long infoJ X27)) ⟨I30.j, ?_⟩
          simp only [Act.put, List.setIfInBounds_toArray, List.set_cons_zero, List.set_cons_succ]
          obtain ⟨X30, hX30⟩ : ∃ X30, X27.alloc (.cells #[.string ⟨#[]⟩, .string ⟨#[]⟩, .string ⟨#[]⟩] 23) = X30 := ⟨_, rfl⟩
          rw [hX30] at I30 ⊢
          clear hX30
          refine anyH_one (i := 3) (by kernel_rfl) ?_
          · refine op_normal rfl (some 8) rfl rfl 7 23 rfl (.agg #[.string lo, .string dom, .string res]) rfl (HN _) ?_
            rintro e X31 ⟨he, hb⟩
            have I31 := I30.call hb
            refine ⟨_, he, I31.j, ?_⟩
            clear he hb
            simp only [Act.put, List.setIfInBounds_toArray, List.set_cons_zero, List.set_cons_succ]
            obtain ⟨h1, h2, h3⟩ := I31.a3 X27.heap.size rfl
            obtain ⟨k1, k2, k3⟩ := I31.a4 X0.heap.size rfl
            have hne : X27.heap.size ≠ X0.heap.size := fun e => I31.ne X27.heap.size rfl (by rw [e])
            obtain ⟨Y, hY1, hY2, hY3, hY4, hY5⟩ := run_storeJ (x' := .string lo) (y' := .string dom) (z' := .string emp) h3 (one3 _ _ _)
            obtain ⟨V, hV1, hV2, hV3, hV4, hV5⟩ := run_storeJ (x' := .string l1) (y' := .string d1) (z' := .string res) ((hY3 X0.heap.size (fun e => hne e.symm)).trans k3) (one3 _ _ _)
            refine anyH_skip (i := 6) (w' := Y) (by kernel_rfl) rfl none rfl rfl (ex_store rfl rfl rfl hY1) ((hY3 _ (by omega)).trans I31.j) ?_
            refine anyH_skip (i := 7) (w' := V) (by kernel_rfl) rfl none rfl rfl (ex_store rfl rfl rfl hV1) ((hV3 _ (by omega)).trans ((hY3 _ (by omega)).trans I31.j)) ?_
            refine wpAnyH_done (by kernel_rfl) ⟨rfl, X27.heap.size, X0.heap.size, _, _, ⟨(I31.blw.trans (hY5.mono (by omega))).trans (hV5.mono (by omega)), h1, k1, by omega, by omega, (hV3 _ (by omega)).trans ((hY3 _ (by omega)).trans I31.j), (hV3 X27.heap.size hne).trans hY2, hV2⟩, rfl⟩ _
      · have I32 := I26.al3
        refine op_val (v := .pointer (some ⟨X26.heap.size, 0, none⟩)) rfl (some 3) rfl rfl (ex_alloc rfl (run_alloc_long infoJ X26)) ⟨I32.j, ?_⟩
        simp only [Act.put, List.setIfInBounds_toArray, List.set_cons_zero, List.set_cons_succ]
        obtain ⟨X32, hX32⟩ : ∃ X32, X26.alloc (.cells #[.string ⟨#[]⟩, .string ⟨#[]⟩, .string ⟨#[]⟩] 23) = X32 := ⟨_, rfl⟩
        rw [hX32] at I32 ⊢
        clear hX32
        refine anyH_one (i := 1) (by kernel_rfl) ?_
        · refine op_bare rfl (some 6) rfl rfl 5 23 rfl (.agg #[.string lo, .string dom, .string res]) rfl (bare_any lo dom res _) ?_
          rintro e X33 ⟨he, hb⟩
          have I33 := I32.call hb
          refine ⟨_, he, I33.j, ?_⟩
          clear he hb
          simp only [Act.put, List.setIfInBounds_toArray, List.set_cons_zero, List.set_cons_succ]
          refine anyH_one (i := 3) (by kernel_rfl) ?_
          · refine op_normal rfl (some 8) rfl rfl 7 23 rfl (.agg #[.string lo, .string dom, .string res]) rfl (HN _) ?_
            rintro e X34 ⟨he, hb⟩
            have I34 := I33.call hb
            refine ⟨_, he, I34.j, ?_⟩
            clear he hb
            simp only [Act.put, List.setIfInBounds_toArray, List.set_cons_zero, List.set_cons_succ]
            obtain ⟨h1, h2, h3⟩ := I34.a3 X26.heap.size rfl
            obtain ⟨k1, k2, k3⟩ := I34.a4 X0.heap.size rfl
            have hne : X26.heap.size ≠ X0.heap.size := fun e => I34.ne X26.heap.size rfl (by rw [e])
            obtain ⟨Y, hY1, hY2, hY3, hY4, hY5⟩ := run_storeJ (x' := .string lo) (y' := .string dom) (z' := .string emp) h3 (one3 _ _ _)
            obtain ⟨V, hV1, hV2, hV3, hV4, hV5⟩ := run_storeJ (x' := .string l1) (y' := .string d1) (z' := .string res) ((hY3 X0.heap.size (fun e => hne e.symm)).trans k3) (one3 _ _ _)
            refine anyH_skip (i := 6) (w' := Y) (by kernel_rfl) rfl none rfl rfl (ex_store rfl rfl rfl hY1) ((hY3 _ (by omega)).trans I34.j) ?_
            refine anyH_skip (i := 7) (w' := V) (by kernel_rfl) rfl none rfl rfl (ex_store rfl rfl rfl hV1) ((hV3 _ (by omega)).trans ((hY3 _ (by omega)).trans I34.j)) ?_
            refine wpAnyH_done (by kernel_rfl) ⟨rfl, X26.heap.size, X0.heap.size, _, _, ⟨(I34.blw.trans (hY5.mono (by omega))).trans (hV5.mono (by omega)), h1, k1, by omega, by omega, (hV3 _ (by omega)).trans ((hY3 _ (by omega)).trans I34.j), (hV3 X26.heap.size hne).trans hY2, hV2⟩, rfl⟩ _
  case fin =>
    rintro a w2 ⟨p, q, x5, x7, ⟨hb2, kp, kq, lp, lq, g1, g2, g3⟩, rfl⟩
    have hz2 := hb2.size
    cases rb with
    | false =>
      go_wp2_with fail
      refine region_rel (S := (fun W : World => W.heap[w.heap.size]? = some (.cells #[.string lo, .string dom, .string res] 23) ∧ W.heap[p]? = some (.cells #[.string lo, .string dom, .string emp] 23) ∧ W.heap[q]? = some (.cells #[.string l1, .string d1, .string res] 23))) (fun a W => ∃ y9 y10 y11 y12 y13 y14 y15 y16 y17 y18 y19 y20 y21 y22 y23 y24 y25 y26 y27 y28 y29 y30 y31 y32 y33 y34 y35 y36 y37 y38 y39 y40 y41 : Value, a = { tmps := #[.agg #[.string lo, .string dom, .string res], .pointer (some ⟨w.heap.size, 0, none⟩), .bool true, .pointer (some ⟨p, 0, none⟩), .pointer (some ⟨q, 0, none⟩), x5, .agg #[.string lo, .string dom, .string emp], x7, .agg #[.string l1, .string d1, .string res], y9, y10, y11, y12, y13, y14, y15, y16, y17, y18, y19, y20, y21, y22, y23, y24, y25, y26, y27, y28, y29, y30, y31, y32, y33, y34, y35, y36, y37, y38, y39, y40, y41], defers := [] } ∧ Below w.heap.size w W) (by kernel_rfl) ?any2 ?fin2
      case any2 =>
        have K0 : Tri w w2.drew p q #[.string lo, .string dom, .string res] #[.string lo, .string dom, .string emp] #[.string l1, .string d1, .string res] := ⟨hb2.drew, (by show w.heap.size < w2.heap.size; omega), lp, lq, g1, g2, g3⟩
        obtain ⟨X0, hX0⟩ : ∃ X0, w2.drew = X0 := ⟨_, rfl⟩
        rw [hX0] at K0 ⊢
        clear hX0
        refine anyH_one (i := 0) (by kernel_rfl) ?_
        refine op_live rfl (some 9) rfl rfl rfl (live_any _ (HM.out.below K0.blw h1) (by have := K0.lt; omega)) ?_
        rintro e X1 ⟨he, hb⟩
        have K1 := K0.call hb
        refine ⟨_, he, K1.S, ?_⟩
        clear he hb
        simp only [Act.put, List.setIfInBounds_toArray, List.set_cons_zero, List.set_cons_succ]
        refine anyH_val (i := 1) (v := .bool true) (w' := X1) (by kernel_rfl) rfl (some 10) rfl rfl (by first | rfl | kernel_rfl) K1.S ?_
        simp only [Act.put, List.setIfInBounds_toArray, List.set_cons_zero, List.set_cons_succ]
        refine anyH_take (i := 2) (v := .agg #[.string lo, .string dom, .string emp]) rfl (some 11) rfl (by kernel_rfl) (by kernel_rfl) (by kernel_rfl) (fun _ _ _ h => by cases h.1) (by first | rfl | kernel_rfl) (fun w0 hw0 => ex_load rfl rfl (run_load_row infoJ hu rfl rfl hw0.2.1)) K1.S ?_
        simp only [Act.put, List.setIfInBounds_toArray, List.set_cons_zero, List.set_cons_succ]
        refine anyH_take (i := 4) (v := .agg #[.string lo, .string dom, .string emp]) rfl (some 13) rfl (by kernel_rfl) (by kernel_rfl) (by kernel_rfl) (fun _ _ _ h => by cases h.1) (by first | rfl | kernel_rfl) (fun w0 hw0 => ex_load rfl rfl (run_load_row infoJ hu rfl rfl hw0.2.1)) K1.S ?_
        simp only [Act.put, List.setIfInBounds_toArray, List.set_cons_zero, List.set_cons_succ]
        refine anyH_one (i := 3) (by kernel_rfl) ?_
        refine op_bare rfl (some 12) rfl (by first | rfl | kernel_rfl) 11 23 rfl (.agg #[.string lo, .string dom, .string emp]) rfl (bare_any lo dom emp _) ?_
        rintro e X2 ⟨he, hb⟩
        have K2 := K1.call hb
        refine ⟨_, he, K2.S, ?_⟩
        clear he hb
        simp only [Act.put, List.setIfInBounds_toArray, List.set_cons_zero, List.set_cons_succ]
        refine anyH_val (i := 5) (v := .bool true) (w' := X2) (by kernel_rfl) rfl (some 14) rfl (by first | rfl | kernel_rfl) (ex_eqJ rfl rfl rfl) K2.S ?_
        simp only [Act.put, List.setIfInBounds_toArray, List.set_cons_zero, List.set_cons_succ]
        refine anyH_val (i := 6) (v := .bool true) (w' := X2) (by kernel_rfl) rfl (some 15) rfl rfl (by first | rfl | kernel_rfl) K2.S ?_
        simp only [Act.put, List.setIfInBounds_toArray, List.set_cons_zero, List.set_cons_succ]
        refine anyH_val (i := 7) (v := .bool true) (w' := X2) (by kernel_rfl) rfl (some 16) rfl rfl (by first | rfl | kernel_rfl) K2.S ?_
        simp only [Act.put, List.setIfInBounds_toArray, List.set_cons_zero, List.set_cons_succ]
        refine anyH_take (i := 8) (v := .agg #[.string l1, .string d1, .string res]) rfl (some 17) rfl (by kernel_rfl) (by kernel_rfl) (by kernel_rfl) (fun _ _ _ h => by cases h.1) (by first | rfl | kernel_rfl) (fun w0 hw0 => ex_load rfl rfl (run_load_row infoJ hu rfl rfl hw0.2.2)) K2.S ?_
        simp only [Act.put, List.setIfInBounds_toArray, List.set_cons_zero, List.set_cons_succ]
        refine anyH_take (i := 10) (v := .agg #[.string l1, .string d1, .string res]) rfl (some 19) rfl (by kernel_rfl) (by kernel_rfl) (by kernel_rfl) (fun _ _ _ h => by cases h.1) (by first | rfl | kernel_rfl) (fun w0 hw0 => ex_load rfl rfl (run_load_row infoJ hu rfl rfl hw0.2.2)) K2.S ?_
        simp only [Act.put, List.setIfInBounds_toArray, List.set_cons_zero, List.set_cons_succ]
        refine anyH_one (i := 9) (by kernel_rfl) ?_
        refine op_normal rfl (some 18) rfl (by first | rfl | kernel_rfl) 17 23 rfl (.agg #[.string l1, .string d1, .string res]) rfl (HC.out.1 _) ?_
        rintro e X3 ⟨he, hb⟩
        have K3 := K2.call hb
        refine ⟨_, he, K3.S, ?_⟩
        clear he hb
        simp only [Act.put, List.setIfInBounds_toArray, List.set_cons_zero, List.set_cons_succ]
        refine anyH_val (i := 11) (v := .bool true) (w' := X3) (by kernel_rfl) rfl (some 20) rfl (by first | rfl | kernel_rfl) (ex_eqJ rfl rfl rfl) K3.S ?_
        simp only [Act.put, List.setIfInBounds_toArray, List.set_cons_zero, List.set_cons_succ]
        refine anyH_val (i := 12) (v := .bool true) (w' := X3) (by kernel_rfl) rfl (some 21) rfl rfl (by first | rfl | kernel_rfl) K3.S ?_
        simp only [Act.put, List.setIfInBounds_toArray, List.set_cons_zero, List.set_cons_succ]
        refine anyH_val (i := 13) (v := .bool true) (w' := X3) (by kernel_rfl) rfl (some 22) rfl rfl (by first | rfl | kernel_rfl) K3.S ?_
        simp only [Act.put, List.setIfInBounds_toArray, List.set_cons_zero, List.set_cons_succ]
        refine anyH_take (i := 14) (v := .agg #[.string l1, .string d1, .string res]) rfl (some 23) rfl (by kernel_rfl) (by kernel_rfl) (by kernel_rfl) (fun _ _ _ h => by cases h.1) (by first | rfl | kernel_rfl) (fun w0 hw0 => ex_load rfl rfl (run_load_row infoJ hu rfl rfl hw0.2.2)) K3.S ?_
        simp only [Act.put, List.setIfInBounds_toArray, List.set_cons_zero, List.set_cons_succ]
        refine anyH_take (i := 16) (v := .agg #[.string lo, .string dom, .string emp]) rfl (some 25) rfl (by kernel_rfl) (by kernel_rfl) (by kernel_rfl) (fun _ _ _ h => by cases h.1) (by first | rfl | kernel_rfl) (fun w0 hw0 => ex_load rfl rfl (run_load_row infoJ hu rfl rfl hw0.2.1)) K3.S ?_
        simp only [Act.put, List.setIfInBounds_toArray, List.set_cons_zero, List.set_cons_succ]
        refine anyH_one (i := 15) (by kernel_rfl) ?_
        refine op_bare rfl (some 24) rfl (by first | rfl | kernel_rfl) 23 23 rfl (.agg #[.string l1, .string d1, .string res]) rfl (bare_any l1 d1 res _) ?_
        rintro e X4 ⟨he, hb⟩
        have K4 := K3.call hb
        refine ⟨_, he, K4.S, ?_⟩
        clear he hb
        simp only [Act.put, List.setIfInBounds_toArray, List.set_cons_zero, List.set_cons_succ]
        refine anyH_one (i := 17) (by kernel_rfl) ?_
        refine op_normal rfl (some 26) rfl (by first | rfl | kernel_rfl) 25 23 rfl (.agg #[.string lo, .string dom, .string emp]) rfl (HC.out.2.1 _) ?_
        rintro e X5 ⟨he, hb⟩
        have K5 := K4.call hb
        refine ⟨_, he, K5.S, ?_⟩
        clear he hb
        simp only [Act.put, List.setIfInBounds_toArray, List.set_cons_zero, List.set_cons_succ]
        refine anyH_val (i := 18) (v := .bool true) (w' := X5) (by kernel_rfl) rfl (some 27) rfl (by first | rfl | kernel_rfl) (ex_eqJ rfl rfl rfl) K5.S ?_
        simp only [Act.put, List.setIfInBounds_toArray, List.set_cons_zero, List.set_cons_succ]
        refine anyH_val (i := 19) (v := .bool true) (w' := X5) (by kernel_rfl) rfl (some 28) rfl rfl (by first | rfl | kernel_rfl) K5.S ?_
        simp only [Act.put, List.setIfInBounds_toArray, List.set_cons_zero, List.set_cons_succ]
        refine anyH_val (i := 20) (v := .bool true) (w' := X5) (by kernel_rfl) rfl (some 29) rfl rfl (by first | rfl | kernel_rfl) K5.S ?_
        simp only [Act.put, List.setIfInBounds_toArray, List.set_cons_zero, List.set_cons_succ]
        refine anyH_take (i := 21) (v := .agg #[.string lo, .string dom, .string res]) rfl (some 30) rfl (by kernel_rfl) (by kernel_rfl) (by kernel_rfl) (fun _ _ _ h => by cases h.1) (by first | rfl | kernel_rfl) (fun w0 hw0 => ex_load rfl rfl (run_load_row infoJ hu rfl rfl hw0.1)) K5.S ?_
        simp only [Act.put, List.setIfInBounds_toArray, List.set_cons_zero, List.set_cons_succ]
        refine anyH_one (i := 22) (by kernel_rfl) ?_
        refine op_right rfl (some 31) rfl (by first | rfl | kernel_rfl) 30 23 rfl (.agg #[.string lo, .string dom, .string res]) rfl (HR.out _ (HM.out.below K5.blw h1) (by have := K5.lt; omega)) ?_
        rintro e X6 ⟨he, hb⟩
        have K6 := K5.call hb
        refine ⟨_, he, K6.S, ?_⟩
        clear he hb
        simp only [Act.put, List.setIfInBounds_toArray, List.set_cons_zero, List.set_cons_succ]
        refine anyH_val (i := 23) (v := .bool true) (w' := X6) (by kernel_rfl) rfl (some 32) rfl (by first | rfl | kernel_rfl) (by first | rfl | kernel_rfl) K6.S ?_
        simp only [Act.put, List.setIfInBounds_toArray, List.set_cons_zero, List.set_cons_succ]
        refine anyH_val (i := 24) (v := .bool true) (w' := X6) (by kernel_rfl) rfl (some 33) rfl (by first | rfl | kernel_rfl) (by first | rfl | kernel_rfl) K6.S ?_
        simp only [Act.put, List.setIfInBounds_toArray, List.set_cons_zero, List.set_cons_succ]
        refine anyH_one (i := 25) (by kernel_rfl) (op_off rfl (some 34) rfl (by first | rfl | kernel_rfl) ⟨K6.S, ?_⟩)
        simp only [Act.put, List.setIfInBounds_toArray, List.set_cons_zero, List.set_cons_succ]
        refine anyH_one (i := 26) (by kernel_rfl) (op_off rfl (some 35) rfl (by first | rfl | kernel_rfl) ⟨K6.S, ?_⟩)
        simp only [Act.put, List.setIfInBounds_toArray, List.set_cons_zero, List.set_cons_succ]
        refine anyH_one (i := 27) (by kernel_rfl) (op_off rfl (some 36) rfl (by first | rfl | kernel_rfl) ⟨K6.S, ?_⟩)
        simp only [Act.put, List.setIfInBounds_toArray, List.set_cons_zero, List.set_cons_succ]
        refine anyH_one (i := 28) (by kernel_rfl) (op_off rfl (some 37) rfl (by first | rfl | kernel_rfl) ⟨K6.S, ?_⟩)
        simp only [Act.put, List.setIfInBounds_toArray, List.set_cons_zero, List.set_cons_succ]
        refine anyH_one (i := 29) (by kernel_rfl) (op_off rfl (some 38) rfl (by first | rfl | kernel_rfl) ⟨K6.S, ?_⟩)
        simp only [Act.put, List.setIfInBounds_toArray, List.set_cons_zero, List.set_cons_succ]
        refine anyH_one (i := 30) (by kernel_rfl) (op_off rfl (some 39) rfl (by first | rfl | kernel_rfl) ⟨K6.S, ?_⟩)
        simp only [Act.put, List.setIfInBounds_toArray, List.set_cons_zero, List.set_cons_succ]
        refine anyH_val (i := 31) (v := .bool true) (w' := X6) (by kernel_rfl) rfl (some 40) rfl (by first | rfl | kernel_rfl) (by first | rfl | kernel_rfl) K6.S ?_
        simp only [Act.put, List.setIfInBounds_toArray, List.set_cons_zero, List.set_cons_succ]
        refine anyH_val (i := 32) (v := .bool true) (w' := X6) (by kernel_rfl) rfl (some 41) rfl rfl (by first | rfl | kernel_rfl) K6.S ?_
        simp only [Act.put, List.setIfInBounds_toArray, List.set_cons_zero, List.set_cons_succ]
        refine anyH_val (i := 33) (v := .bool true) (w' := X6) (by kernel_rfl) rfl (some 2) rfl rfl (by first | rfl | kernel_rfl) K6.S ?_
        simp only [Act.put, List.setIfInBounds_toArray, List.set_cons_zero, List.set_cons_succ]
        exact wpAnyH_done (by kernel_rfl) ⟨rfl, _, _, _, _, _, _, _, _, _, _, _, _, _, _, _, _, _, _, _, _, _, _, _, _, _, _, _, _, _, _, _, _, _, rfl, K6.blw⟩ _
      case fin2 =>
        rintro a W ⟨y9, y10, y11, y12, y13, y14, y15, y16, y17, y18, y19, y20, y21, y22, y23, y24, y25, y26, y27, y28, y29, y30, y31, y32, y33, y34, y35, y36, y37, y38, y39, y40, y41, rfl, hB⟩
        go_wp2_with fail
        go_ret
        exact ⟨rfl, hB⟩
    | true =>
      have HR2 := hide (HRB.out rfl)
      go_wp2_with fail
      refine region_rel (S := (fun W : World => W.heap[w.heap.size]? = some (.cells #[.string lo, .string dom, .string res] 23) ∧ W.heap[p]? = some (.cells #[.string lo, .string dom, .string emp] 23) ∧ W.heap[q]? = some (.cells #[.string l1, .string d1, .string res] 23))) (fun a W => ∃ y9 y10 y11 y12 y13 y14 y15 y16 y17 y18 y19 y20 y21 y22 y23 y24 y25 y26 y27 y28 y29 y30 y31 y32 y33 y34 y35 y36 y37 y38 y39 y40 y41 : Value, a = { tmps := #[.agg #[.string lo, .string dom, .string res], .pointer (some ⟨w.heap.size, 0, none⟩), .bool true, .pointer (some ⟨p, 0, none⟩), .pointer (some ⟨q, 0, none⟩), x5, .agg #[.string lo, .string dom, .string emp], x7, .agg #[.string l1, .string d1, .string res], y9, y10, y11, y12, y13, y14, y15, y16, y17, y18, y19, y20, y21, y22, y23, y24, y25, y26, y27, y28, y29, y30, y31, y32, y33, y34, y35, y36, y37, y38, y39, y40, y41], defers := [] } ∧ Below w.heap.size w W) (by kernel_rfl) ?any2 ?fin2
      case any2 =>
        have K0 : Tri w w2.drew p q #[.string lo, .string dom, .string res] #[.string lo, .string dom, .string emp] #[.string l1, .string d1, .string res] := ⟨hb2.drew, (by show w.heap.size < w2.heap.size; omega), lp, lq, g1, g2, g3⟩
        obtain ⟨X0, hX0⟩ : ∃ X0, w2.drew = X0 := ⟨_, rfl⟩
        rw [hX0] at K0 ⊢
        clear hX0
        refine anyH_one (i := 0) (by kernel_rfl) ?_
        refine op_live rfl (some 9) rfl rfl rfl (live_any _ (HM.out.below K0.blw h1) (by have := K0.lt; omega)) ?_
        rintro e X1 ⟨he, hb⟩
        have K1 := K0.call hb
        refine ⟨_, he, K1.S, ?_⟩
        clear he hb
        simp only [Act.put, List.setIfInBounds_toArray, List.set_cons_zero, List.set_cons_succ]
        refine anyH_val (i := 1) (v := .bool true) (w' := X1) (by kernel_rfl) rfl (some 10) rfl rfl (by first | rfl | kernel_rfl) K1.S ?_
        simp only [Act.put, List.setIfInBounds_toArray, List.set_cons_zero, List.set_cons_succ]
        refine anyH_take (i := 2) (v := .agg #[.string lo, .string dom, .string emp]) rfl (some 11) rfl (by kernel_rfl) (by kernel_rfl) (by kernel_rfl) (fun _ _ _ h => by cases h.1) (by first | rfl | kernel_rfl) (fun w0 hw0 => ex_load rfl rfl (run_load_row infoJ hu rfl rfl hw0.2.1)) K1.S ?_
        simp only [Act.put, List.setIfInBounds_toArray, List.set_cons_zero, List.set_cons_succ]
        refine anyH_take (i := 4) (v := .agg #[.string lo, .string dom, .string emp]) rfl (some 13) rfl (by kernel_rfl) (by kernel_rfl) (by kernel_rfl) (fun _ _ _ h => by cases h.1) (by first | rfl | kernel_rfl) (fun w0 hw0 => ex_load rfl rfl (run_load_row infoJ hu rfl rfl hw0.2.1)) K1.S ?_
        simp only [Act.put, List.setIfInBounds_toArray, List.set_cons_zero, List.set_cons_succ]
        refine anyH_one (i := 3) (by kernel_rfl) ?_
        refine op_bare rfl (some 12) rfl (by first | rfl | kernel_rfl) 11 23 rfl (.agg #[.string lo, .string dom, .string emp]) rfl (bare_any lo dom emp _) ?_
        rintro e X2 ⟨he, hb⟩
        have K2 := K1.call hb
        refine ⟨_, he, K2.S, ?_⟩
        clear he hb
        simp only [Act.put, List.setIfInBounds_toArray, List.set_cons_zero, List.set_cons_succ]
        refine anyH_val (i := 5) (v := .bool true) (w' := X2) (by kernel_rfl) rfl (some 14) rfl (by first | rfl | kernel_rfl) (ex_eqJ rfl rfl rfl) K2.S ?_
        simp only [Act.put, List.setIfInBounds_toArray, List.set_cons_zero, List.set_cons_succ]
        refine anyH_val (i := 6) (v := .bool true) (w' := X2) (by kernel_rfl) rfl (some 15) rfl rfl (by first | rfl | kernel_rfl) K2.S ?_
        simp only [Act.put, List.setIfInBounds_toArray, List.set_cons_zero, List.set_cons_succ]
        refine anyH_val (i := 7) (v := .bool true) (w' := X2) (by kernel_rfl) rfl (some 16) rfl rfl (by first | rfl | kernel_rfl) K2.S ?_
        simp only [Act.put, List.setIfInBounds_toArray, List.set_cons_zero, List.set_cons_succ]
        refine anyH_take (i := 8) (v := .agg #[.string l1, .string d1, .string res]) rfl (some 17) rfl (by kernel_rfl) (by kernel_rfl) (by kernel_rfl) (fun _ _ _ h => by cases h.1) (by first | rfl | kernel_rfl) (fun w0 hw0 => ex_load rfl rfl (run_load_row infoJ hu rfl rfl hw0.2.2)) K2.S ?_
        simp only [Act.put, List.setIfInBounds_toArray, List.set_cons_zero, List.set_cons_succ]
        refine anyH_take (i := 10) (v := .agg #[.string l1, .string d1, .string res]) rfl (some 19) rfl (by kernel_rfl) (by kernel_rfl) (by kernel_rfl) (fun _ _ _ h => by cases h.1) (by first | rfl | kernel_rfl) (fun w0 hw0 => ex_load rfl rfl (run_load_row infoJ hu rfl rfl hw0.2.2)) K2.S ?_
        simp only [Act.put, List.setIfInBounds_toArray, List.set_cons_zero, List.set_cons_succ]
        refine anyH_one (i := 9) (by kernel_rfl) ?_
        refine op_normal rfl (some 18) rfl (by first | rfl | kernel_rfl) 17 23 rfl (.agg #[.string l1, .string d1, .string res]) rfl (HC.out.1 _) ?_
        rintro e X3 ⟨he, hb⟩
        have K3 := K2.call hb
        refine ⟨_, he, K3.S, ?_⟩
        clear he hb
        simp only [Act.put, List.setIfInBounds_toArray, List.set_cons_zero, List.set_cons_succ]
        refine anyH_val (i := 11) (v := .bool true) (w' := X3) (by kernel_rfl) rfl (some 20) rfl (by first | rfl | kernel_rfl) (ex_eqJ rfl rfl rfl) K3.S ?_
        simp only [Act.put, List.setIfInBounds_toArray, List.set_cons_zero, List.set_cons_succ]
        refine anyH_val (i := 12) (v := .bool true) (w' := X3) (by kernel_rfl) rfl (some 21) rfl rfl (by first | rfl | kernel_rfl) K3.S ?_
        simp only [Act.put, List.setIfInBounds_toArray, List.set_cons_zero, List.set_cons_succ]
        refine anyH_val (i := 13) (v := .bool true) (w' := X3) (by kernel_rfl) rfl (some 22) rfl rfl (by first | rfl | kernel_rfl) K3.S ?_
        simp only [Act.put, List.setIfInBounds_toArray, List.set_cons_zero, List.set_cons_succ]
        refine anyH_take (i := 14) (v := .agg #[.string l1, .string d1, .string res]) rfl (some 23) rfl (by kernel_rfl) (by kernel_rfl) (by kernel_rfl) (fun _ _ _ h => by cases h.1) (by first | rfl | kernel_rfl) (fun w0 hw0 => ex_load rfl rfl (run_load_row infoJ hu rfl rfl hw0.2.2)) K3.S ?_
        simp only [Act.put, List.setIfInBounds_toArray, List.set_cons_zero, List.set_cons_succ]
        refine anyH_take (i := 16) (v := .agg #[.string lo, .string dom, .string emp]) rfl (some 25) rfl (by kernel_rfl) (by kernel_rfl) (by kernel_rfl) (fun _ _ _ h => by cases h.1) (by first | rfl | kernel_rfl) (fun w0 hw0 => ex_load rfl rfl (run_load_row infoJ hu rfl rfl hw0.2.1)) K3.S ?_
        simp only [Act.put, List.setIfInBounds_toArray, List.set_cons_zero, List.set_cons_succ]
        refine anyH_one (i := 15) (by kernel_rfl) ?_
        refine op_bare rfl (some 24) rfl (by first | rfl | kernel_rfl) 23 23 rfl (.agg #[.string l1, .string d1, .string res]) rfl (bare_any l1 d1 res _) ?_
        rintro e X4 ⟨he, hb⟩
        have K4 := K3.call hb
        refine ⟨_, he, K4.S, ?_⟩
        clear he hb
        simp only [Act.put, List.setIfInBounds_toArray, List.set_cons_zero, List.set_cons_succ]
        refine anyH_one (i := 17) (by kernel_rfl) ?_
        refine op_normal rfl (some 26) rfl (by first | rfl | kernel_rfl) 25 23 rfl (.agg #[.string lo, .string dom, .string emp]) rfl (HC.out.2.1 _) ?_
        rintro e X5 ⟨he, hb⟩
        have K5 := K4.call hb
        refine ⟨_, he, K5.S, ?_⟩
        clear he hb
        simp only [Act.put, List.setIfInBounds_toArray, List.set_cons_zero, List.set_cons_succ]
        refine anyH_val (i := 18) (v := .bool true) (w' := X5) (by kernel_rfl) rfl (some 27) rfl (by first | rfl | kernel_rfl) (ex_eqJ rfl rfl rfl) K5.S ?_
        simp only [Act.put, List.setIfInBounds_toArray, List.set_cons_zero, List.set_cons_succ]
        refine anyH_val (i := 19) (v := .bool true) (w' := X5) (by kernel_rfl) rfl (some 28) rfl rfl (by first | rfl | kernel_rfl) K5.S ?_
        simp only [Act.put, List.setIfInBounds_toArray, List.set_cons_zero, List.set_cons_succ]
        refine anyH_val (i := 20) (v := .bool true) (w' := X5) (by kernel_rfl) rfl (some 29) rfl rfl (by first | rfl | kernel_rfl) K5.S ?_
        simp only [Act.put, List.setIfInBounds_toArray, List.set_cons_zero, List.set_cons_succ]
        refine anyH_take (i := 21) (v := .agg #[.string lo, .string dom, .string res]) rfl (some 30) rfl (by kernel_rfl) (by kernel_rfl) (by kernel_rfl) (fun _ _ _ h => by cases h.1) (by first | rfl | kernel_rfl) (fun w0 hw0 => ex_load rfl rfl (run_load_row infoJ hu rfl rfl hw0.1)) K5.S ?_
        simp only [Act.put, List.setIfInBounds_toArray, List.set_cons_zero, List.set_cons_succ]
        refine anyH_one (i := 22) (by kernel_rfl) ?_
        refine op_right rfl (some 31) rfl (by first | rfl | kernel_rfl) 30 23 rfl (.agg #[.string lo, .string dom, .string res]) rfl (HR.out _ (HM.out.below K5.blw h1) (by have := K5.lt; omega)) ?_
        rintro e X6 ⟨he, hb⟩
        have K6 := K5.call hb
        refine ⟨_, he, K6.S, ?_⟩
        clear he hb
        simp only [Act.put, List.setIfInBounds_toArray, List.set_cons_zero, List.set_cons_succ]
        refine anyH_val (i := 23) (v := .bool false) (w' := X6) (by kernel_rfl) rfl (some 32) rfl (by first | rfl | kernel_rfl) (by first | rfl | kernel_rfl) K6.S ?_
        simp only [Act.put, List.setIfInBounds_toArray, List.set_cons_zero, List.set_cons_succ]
        refine anyH_val (i := 24) (v := .bool false) (w' := X6) (by kernel_rfl) rfl (some 33) rfl (by first | rfl | kernel_rfl) (by first | rfl | kernel_rfl) K6.S ?_
        simp only [Act.put, List.setIfInBounds_toArray, List.set_cons_zero, List.set_cons_succ]
        refine anyH_take (i := 25) (v := .agg #[.string lo, .string dom, .string emp]) rfl (some 34) rfl (by kernel_rfl) (by kernel_rfl) (by kernel_rfl) (fun _ _ _ h => by cases h.1) (by first | rfl | kernel_rfl) (fun w0 hw0 => ex_load rfl rfl (run_load_row infoJ hu rfl rfl hw0.2.1)) K6.S ?_
        simp only [Act.put, List.setIfInBounds_toArray, List.set_cons_zero, List.set_cons_succ]
        refine anyH_one (i := 26) (by kernel_rfl) ?_
        refine op_right rfl (some 35) rfl (by first | rfl | kernel_rfl) 34 23 rfl (.agg #[.string lo, .string dom, .string emp]) rfl (HR2.out.1 _ (HM.out.below K6.blw h1) (by have := K6.lt; omega)) ?_
        rintro e X7 ⟨he, hb⟩
        have K7 := K6.call hb
        refine ⟨_, he, K7.S, ?_⟩
        clear he hb
        simp only [Act.put, List.setIfInBounds_toArray, List.set_cons_zero, List.set_cons_succ]
        refine anyH_val (i := 27) (v := .bool true) (w' := X7) (by kernel_rfl) rfl (some 36) rfl (by first | rfl | kernel_rfl) (by first | rfl | kernel_rfl) K7.S ?_
        simp only [Act.put, List.setIfInBounds_toArray, List.set_cons_zero, List.set_cons_succ]
        refine anyH_take (i := 28) (v := .agg #[.string l1, .string d1, .string res]) rfl (some 37) rfl (by kernel_rfl) (by kernel_rfl) (by kernel_rfl) (fun _ _ _ h => by cases h.1) (by first | rfl | kernel_rfl) (fun w0 hw0 => ex_load rfl rfl (run_load_row infoJ hu rfl rfl hw0.2.2)) K7.S ?_
        simp only [Act.put, List.setIfInBounds_toArray, List.set_cons_zero, List.set_cons_succ]
        refine anyH_one (i := 29) (by kernel_rfl) ?_
        refine op_right rfl (some 38) rfl (by first | rfl | kernel_rfl) 37 23 rfl (.agg #[.string l1, .string d1, .string res]) rfl (HR2.out.2 _ (HM.out.below K7.blw h1) (by have := K7.lt; omega)) ?_
        rintro e X8 ⟨he, hb⟩
        have K8 := K7.call hb
        refine ⟨_, he, K8.S, ?_⟩
        clear he hb
        simp only [Act.put, List.setIfInBounds_toArray, List.set_cons_zero, List.set_cons_succ]
        refine anyH_val (i := 30) (v := .bool true) (w' := X8) (by kernel_rfl) rfl (some 39) rfl (by first | rfl | kernel_rfl) (by first | rfl | kernel_rfl) K8.S ?_
        simp only [Act.put, List.setIfInBounds_toArray, List.set_cons_zero, List.set_cons_succ]
        refine anyH_val (i := 31) (v := .bool true) (w' := X8) (by kernel_rfl) rfl (some 40) rfl (by first | rfl | kernel_rfl) (by first | rfl | kernel_rfl) K8.S ?_
        simp only [Act.put, List.setIfInBounds_toArray, List.set_cons_zero, List.set_cons_succ]
        refine anyH_val (i := 32) (v := .bool true) (w' := X8) (by kernel_rfl) rfl (some 41) rfl rfl (by first | rfl | kernel_rfl) K8.S ?_
        simp only [Act.put, List.setIfInBounds_toArray, List.set_cons_zero, List.set_cons_succ]
        refine anyH_val (i := 33) (v := .bool true) (w' := X8) (by kernel_rfl) rfl (some 2) rfl rfl (by first | rfl | kernel_rfl) K8.S ?_
        simp only [Act.put, List.setIfInBounds_toArray, List.set_cons_zero, List.set_cons_succ]
        exact wpAnyH_done (by kernel_rfl) ⟨rfl, _, _, _, _, _, _, _, _, _, _, _, _, _, _, _, _, _, _, _, _, _, _, _, _, _, _, _, _, _, _, _, _, _, rfl, K8.blw⟩ _
      case fin2 =>
        rintro a W ⟨y9, y10, y11, y12, y13, y14, y15, y16, y17, y18, y19, y20, y21, y22, y23, y24, y25, y26, y27, y28, y29, y30, y31, y32, y33, y34, y35, y36, y37, y38, y39, y40, y41, rfl, hB⟩
        go_wp2_with fail
        go_ret
        exact ⟨rfl, hB⟩
end Go.Proofs.Ytgdbhijlblafcaa
