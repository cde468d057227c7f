/- JidForms: an address without its resource, and with small letters: whatever the address. -/
import Derived.Test.YtcghnojhcmiolaaJ7
namespace Go.Proofs.Ytcghnojhcmiolaa
open Go.RowKit

set_option maxRecDepth 100000 in
/-- A call: a step of a region that draws. -/
theorem step_live {ops : Array Oper} {o : Oper} {a : Act} {w : World} {K : Act → World → Prop} {Q : Exit → Act → World → Prop} {E : Prop} (hw : Region.wanted o (yielded ops a.tmps) = true) 
    (hop : o.op = Op.call { callee := Callee.value (.func 11), args := #[], argTypes := #[] }) {R : Ending → World → Prop} (hC : Calls Try.prog 11 #[] w R) (hK : ∀ e w', R e w' → ∃ v, e = .returned v ∧ K (a.put o.dst v) w') :
    if Region.wanted o (yielded ops a.tmps) = true then Oper.wp Try.prog o a w K Q else E := by
  rw [if_pos hw]
  have _f := Try.func11
  unfold Oper.wp
  simp only [execOp, hop, resolve, invoke]
  go_simp
  refine hC.mono ?_
  intro e w' hR
  obtain ⟨u, rfl, hk⟩ := hK e w' hR
  exact hk
set_option maxRecDepth 100000 in
/-- A call: a step of a region that draws. -/
theorem step_bare {ops : Array Oper} {o : Oper} {a : Act} {w : World} {K : Act → World → Prop} {Q : Exit → Act → World → Prop} {E : Prop} (hw : Region.wanted o (yielded ops a.tmps) = true) (t : Nat) (ty : TypeId)
    (hop : o.op = Op.call { callee := Callee.value (.func 16), args := #[.tmp t], argTypes := #[ty] }) (v : Value) (hx : a.tmps[t]?.getD undef = v) {R : Ending → World → Prop} (hC : Calls Try.prog 16 #[v] w R) (hK : ∀ e w', R e w' → ∃ v, e = .returned v ∧ K (a.put o.dst v) w') :
    if Region.wanted o (yielded ops a.tmps) = true then Oper.wp Try.prog o a w K Q else E := by
  rw [if_pos hw]
  have _f := Try.func16
  unfold Oper.wp
  simp only [execOp, hop, resolve, invoke]
  go_simp
  refine hC.mono ?_
  intro e w' hR
  obtain ⟨u, rfl, hk⟩ := hK e w' hR
  exact hk
set_option maxRecDepth 100000 in
/-- A call: a step of a region that draws. -/
theorem step_refbare {ops : Array Oper} {o : Oper} {a : Act} {w : World} {K : Act → World → Prop} {Q : Exit → Act → World → Prop} {E : Prop} (hw : Region.wanted o (yielded ops a.tmps) = true) (t : Nat) (ty : TypeId)
    (hop : o.op = Op.call { callee := Callee.value (.func 17), args := #[.tmp t], argTypes := #[ty] }) (v : Value) (hx : a.tmps[t]?.getD undef = v) {R : Ending → World → Prop} (hC : Calls Try.prog 17 #[v] w R) (hK : ∀ e w', R e w' → ∃ v, e = .returned v ∧ K (a.put o.dst v) w') :
    if Region.wanted o (yielded ops a.tmps) = true then Oper.wp Try.prog o a w K Q else E := by
  rw [if_pos hw]
  have _f := Try.func17
  unfold Oper.wp
  simp only [execOp, hop, resolve, invoke]
  go_simp
  refine hC.mono ?_
  intro e w' hR
  obtain ⟨u, rfl, hk⟩ := hK e w' hR
  exact hk
set_option maxRecDepth 100000 in
/-- A call: a step of a region that draws. -/
theorem step_normal {ops : Array Oper} {o : Oper} {a : Act} {w : World} {K : Act → World → Prop} {Q : Exit → Act → World → Prop} {E : Prop} (hw : Region.wanted o (yielded ops a.tmps) = true) (t : Nat) (ty : TypeId)
    (hop : o.op = Op.call { callee := Callee.value (.func 18), args := #[.tmp t], argTypes := #[ty] }) (v : Value) (hx : a.tmps[t]?.getD undef = v) {R : Ending → World → Prop} (hC : Calls Try.prog 18 #[v] w R) (hK : ∀ e w', R e w' → ∃ v, e = .returned v ∧ K (a.put o.dst v) w') :
    if Region.wanted o (yielded ops a.tmps) = true then Oper.wp Try.prog o a w K Q else E := by
  rw [if_pos hw]
  have _f := Try.func18
  unfold Oper.wp
  simp only [execOp, hop, resolve, invoke]
  go_simp
  refine hC.mono ?_
  intro e w' hR
  obtain ⟨u, rfl, hk⟩ := hK e w' hR
  exact hk
set_option maxRecDepth 100000 in
/-- A call: a step of a region that draws. -/
theorem step_refnormal {ops : Array Oper} {o : Oper} {a : Act} {w : World} {K : Act → World → Prop} {Q : Exit → Act → World → Prop} {E : Prop} (hw : Region.wanted o (yielded ops a.tmps) = true) (t : Nat) (ty : TypeId)
    (hop : o.op = Op.call { callee := Callee.value (.func 19), args := #[.tmp t], argTypes := #[ty] }) (v : Value) (hx : a.tmps[t]?.getD undef = v) {R : Ending → World → Prop} (hC : Calls Try.prog 19 #[v] w R) (hK : ∀ e w', R e w' → ∃ v, e = .returned v ∧ K (a.put o.dst v) w') :
    if Region.wanted o (yielded ops a.tmps) = true then Oper.wp Try.prog o a w K Q else E := by
  rw [if_pos hw]
  have _f := Try.func19
  unfold Oper.wp
  simp only [execOp, hop, resolve, invoke]
  go_simp
  refine hC.mono ?_
  intro e w' hR
  obtain ⟨u, rfl, hk⟩ := hK e w' hR
  exact hk

set_option maxRecDepth 100000 in
set_option maxHeartbeats 4000000 in
theorem jidForms_any (lo dom res : ByteArray) (w : World) (hlo : lo.size ≤ 9223372036854775807) (hdom : dom.size ≤ 9223372036854775807) (hm : MaxG w) (h1 : 0 < w.heap.size) : Calls Try.prog 5 #[.agg #[.string lo, .string dom, .string res]] w fun e w' => e = .returned (.bool true) ∧ Below w.heap.size w w' := by
  have HM := hide hm
  clear hm
  obtain ⟨Wa, hWa, aa, ba, za⟩ := newJ w (.string lo) (.string dom) (.string res)
  obtain ⟨c0, c1, c2, _⟩ := cells3 aa
  have H0 := hide (And.intro aa ba)
  clear aa ba
  obtain ⟨l1, hl1⟩ : ∃ l1, (⟨(lo.data.toList.map lowB).toArray⟩ : ByteArray) = l1 := ⟨_, rfl⟩
  obtain ⟨d1, hd1⟩ : ∃ d1, (⟨(dom.data.toList.map lowB).toArray⟩ : ByteArray) = d1 := ⟨_, rfl⟩
  have hn1 : ∀ w : World, Calls Try.prog 18 #[.agg #[.string lo, .string dom, .string res]] w fun e w' => e = .returned (.agg #[.string l1, .string d1, .string res]) ∧ Below w.heap.size w w' := fun w => by rw [← hl1, ← hd1]; exact normal_any lo dom res w hlo hdom
  have hn2 : ∀ w : World, Calls Try.prog 19 #[.agg #[.string lo, .string dom, .string res]] w fun e w' => e = .returned (.agg #[.string l1, .string d1, .string res]) ∧ Below w.heap.size w w' := fun w => by rw [← hl1, ← hd1]; exact refnormal_any lo dom res w hlo hdom
  have HN := hide (And.intro hn1 hn2)
  clear hn1 hn2 hl1 hd1
  go_enter Try.func5, Try.ntmps5
  go_wp2_with fail
  go_region_law
    (first | (refine step_live (by first | rfl | simp [Region.wanted, yielded]) rfl (live_any _ (HM.out.below H0.out.2.drew h1) (by show _ < Wa.heap.size; omega)) ?_; rintro e w1 ⟨he, hb⟩; refine ⟨_, he, ?_⟩; clear he; have z1 : Wa.heap.size ≤ w1.heap.size := hb.size; have g1 : w1.heap[w.heap.size]? = _ := (hb.block w.heap.size (by show w.heap.size < Wa.heap.size; omega)).trans H0.out.1; have g2 : Below w.heap.size w w1 := H0.out.2.drew.trans (hb.mono (by show w.heap.size ≤ Wa.heap.size; omega)); clear c0 c1 c2; obtain ⟨c0, c1, c2, _, _, _⟩ := cells3 g1; have H1 := hide (And.intro g1 g2); clear g1 g2 hb) | (refine step_bare (by first | rfl | simp [Region.wanted, yielded]) 5 _ rfl (.agg #[.string lo, .string dom, .string res]) rfl (bare_any lo dom res _) ?_; rintro e w2 ⟨he, hb⟩; refine ⟨_, he, ?_⟩; clear he; have z2 : w1.heap.size ≤ w2.heap.size := hb.size; have g1 : w2.heap[w.heap.size]? = _ := (hb.block w.heap.size (by show w.heap.size < w1.heap.size; omega)).trans H1.out.1; have g2 : Below w.heap.size w w2 := H1.out.2.trans (hb.mono (by show w.heap.size ≤ w1.heap.size; omega)); clear c0 c1 c2; obtain ⟨c0, c1, c2, _, _, _⟩ := cells3 g1; have H2 := hide (And.intro g1 g2); clear g1 g2 hb) | (refine step_refbare (by first | rfl | simp [Region.wanted, yielded]) 7 _ rfl (.agg #[.string lo, .string dom, .string res]) rfl (refbare_any lo dom res _) ?_; rintro e w3 ⟨he, hb⟩; refine ⟨_, he, ?_⟩; clear he; have z3 : w2.heap.size ≤ w3.heap.size := hb.size; have g1 : w3.heap[w.heap.size]? = _ := (hb.block w.heap.size (by show w.heap.size < w2.heap.size; omega)).trans H2.out.1; have g2 : Below w.heap.size w w3 := H2.out.2.trans (hb.mono (by show w.heap.size ≤ w2.heap.size; omega)); clear c0 c1 c2; obtain ⟨c0, c1, c2, _, _, _⟩ := cells3 g1; have H3 := hide (And.intro g1 g2); clear g1 g2 hb) | (refine step_normal (by first | rfl | simp [Region.wanted, yielded]) 12 _ rfl (.agg #[.string lo, .string dom, .string res]) rfl (HN.out.1 _) ?_; rintro e w4 ⟨he, hb⟩; refine ⟨_, he, ?_⟩; clear he; have z4 : w3.heap.size ≤ w4.heap.size := hb.size; have g1 : w4.heap[w.heap.size]? = _ := (hb.block w.heap.size (by show w.heap.size < w3.heap.size; omega)).trans H3.out.1; have g2 : Below w.heap.size w w4 := H3.out.2.trans (hb.mono (by show w.heap.size ≤ w3.heap.size; omega)); clear c0 c1 c2; obtain ⟨c0, c1, c2, _, _, _⟩ := cells3 g1; have H4 := hide (And.intro g1 g2); clear g1 g2 hb) | (refine step_refnormal (by first | rfl | simp [Region.wanted, yielded]) 14 _ rfl (.agg #[.string lo, .string dom, .string res]) rfl (HN.out.2 _) ?_; rintro e w5 ⟨he, hb⟩; refine ⟨_, he, ?_⟩; clear he; have z5 : w4.heap.size ≤ w5.heap.size := hb.size; have g1 : w5.heap[w.heap.size]? = _ := (hb.block w.heap.size (by show w.heap.size < w4.heap.size; omega)).trans H4.out.1; have g2 : Below w.heap.size w w5 := H4.out.2.trans (hb.mono (by show w.heap.size ≤ w4.heap.size; omega)); clear c0 c1 c2; obtain ⟨c0, c1, c2, _, _, _⟩ := cells3 g1; have H5 := hide (And.intro g1 g2); clear g1 g2 hb))
  all_goals
    go_wp2_with fail
    go_ret
    exact ⟨rfl, H5.out.2⟩
end Go.Proofs.Ytcghnojhcmiolaa
