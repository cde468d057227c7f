/- JidPrints: an address's text, and whether it is right: whatever the address. -/
import Derived.Test.YtcghnojhcmiolaaJ9
import Derived.Deep.RegionLawGrows
namespace Go.Proofs.Ytcghnojhcmiolaa
open Go.RowKit

set_option maxRecDepth 100000 in
/-- A call: a step of a region that draws. -/
theorem step_right {ops : Array Oper} {o : Oper} {a : Act} {w : World} {K : Act → World → Prop} {Q : Exit → Act → World → Prop} {E : Prop} (hw : Region.wanted o (yielded ops a.tmps) = true) (t : Nat) (ty : TypeId)
    (hop : o.op = Op.call { callee := Callee.value (.func 14), args := #[.tmp t], argTypes := #[ty] }) (v : Value) (hx : a.tmps[t]?.getD undef = v) {R : Ending → World → Prop} (hC : Calls Try.prog 14 #[v] w R) (hK : ∀ e w', R e w' → ∃ v, e = .returned v ∧ K (a.put o.dst v) w') :
    if Region.wanted o (yielded ops a.tmps) = true then Oper.wp Try.prog o a w K Q else E := by
  rw [if_pos hw]
  have _f := Try.func14
  unfold Oper.wp
  simp only [execOp, hop, resolve, invoke]
  go_simp
  refine hC.mono ?_
  intro e w' hR
  obtain ⟨u, rfl, hk⟩ := hK e w' hR
  exact hk
set_option maxRecDepth 100000 in
/-- A call: a step of a region that draws. -/
theorem step_refright {ops : Array Oper} {o : Oper} {a : Act} {w : World} {K : Act → World → Prop} {Q : Exit → Act → World → Prop} {E : Prop} (hw : Region.wanted o (yielded ops a.tmps) = true) (t : Nat) (ty : TypeId)
    (hop : o.op = Op.call { callee := Callee.value (.func 15), args := #[.tmp t], argTypes := #[ty] }) (v : Value) (hx : a.tmps[t]?.getD undef = v) {R : Ending → World → Prop} (hC : Calls Try.prog 15 #[v] w R) (hK : ∀ e w', R e w' → ∃ v, e = .returned v ∧ K (a.put o.dst v) w') :
    if Region.wanted o (yielded ops a.tmps) = true then Oper.wp Try.prog o a w K Q else E := by
  rw [if_pos hw]
  have _f := Try.func15
  unfold Oper.wp
  simp only [execOp, hop, resolve, invoke]
  go_simp
  refine hC.mono ?_
  intro e w' hR
  obtain ⟨u, rfl, hk⟩ := hK e w' hR
  exact hk
set_option maxRecDepth 100000 in
/-- A call: a step of a region that draws. -/
theorem step_live2 {ops : Array Oper} {o : Oper} {a : Act} {w : World} {K : Act → World → Prop} {Q : Exit → Act → World → Prop} {E : Prop} (hw : Region.wanted o (yielded ops a.tmps) = true) 
    (hop : o.op = Op.call { callee := Callee.value (.func 11), args := #[], argTypes := #[] }) {R : Ending → World → Prop} (hC : Calls Try.prog 11 #[] w R) (hK : ∀ e w', R e w' → ∃ v, e = .returned v ∧ K (a.put o.dst v) w') :
    if Region.wanted o (yielded ops a.tmps) = true then Oper.wp Try.prog o a w K Q else E := by
  rw [if_pos hw]
  have _f := Try.func11
  unfold Oper.wp
  simp only [execOp, hop, resolve, invoke]
  go_simp
  refine hC.mono ?_
  intro e w' hR
  obtain ⟨u, rfl, hk⟩ := hK e w' hR
  exact hk

set_option maxRecDepth 100000 in
set_option maxHeartbeats 16000000 in
theorem jidPrints_any (lo dom res : ByteArray) (w : World) (hs : lo.size + dom.size + res.size + 2 ≤ 9223372036854775807) (hm : MaxG w) (h1 : 0 < w.heap.size) : Calls Try.prog 4 #[.agg #[.string lo, .string dom, .string res]] w fun e w' => e = .returned (.bool true) ∧ Below w.heap.size w w' := by
  have HM := hide hm
  clear hm
  obtain ⟨Wa, hWa, aa, ba, za⟩ := newJ w (.string lo) (.string dom) (.string res)
  obtain ⟨c0, c1, c2, _⟩ := cells3 aa
  have hp := hide (print_any lo dom res Wa hs (HM.out.below ba h1) (by omega))
  have H0 := hide (And.intro aa ba)
  clear aa ba
  obtain ⟨x, c, hx⟩ : ∃ (x : ByteArray) (c : Int), ∀ e : Ending, ((RightJ (jl lo dom res) ∧ e = Ending.returned (.tuple #[.string (joinB lo dom res), .int .i64 0])) ∨ (¬ RightJ (jl lo dom res) ∧ e = .returned (.tuple #[.string emp, .int .i64 3]))) → e = .returned (.tuple #[.string x, .int .i64 c]) := by
    by_cases hR : RightJ (jl lo dom res)
    · refine ⟨joinB lo dom res, 0, ?_⟩
      rintro e (⟨_, rfl⟩ | ⟨h, _⟩)
      · rfl
      · exact absurd hR h
    · refine ⟨emp, 3, ?_⟩
      rintro e (⟨h, _⟩ | ⟨_, rfl⟩)
      · exact absurd h hR
      · rfl
  have HX := hide hx
  clear hx
  go_enter Try.func4, Try.ntmps4
  go_wp2_with fail
  refine hp.out.mono ?_
  rintro e w1 ⟨he, hb1⟩
  obtain rfl := HX.out e he
  have hz1 := hb1.size
  have a1 := (hb1.block w.heap.size (by omega)).trans H0.out.1
  have hp2 := hide (refprint_any lo dom res w1 hs)
  have H1 := hide (And.intro a1 (H0.out.2.trans (hb1.mono (by omega))))
  clear c0 c1 c2
  obtain ⟨c0, c1, c2, _⟩ := cells3 a1
  clear hb1 a1 he hp
  go_wp2_with fail
  refine hp2.out.mono ?_
  rintro e w2 ⟨he, hb2⟩
  obtain rfl := HX.out e he
  have hz2 := hb2.size
  have a2 := (hb2.block w.heap.size (by omega)).trans H1.out.1
  have G0 := hide (And.intro a2 (H1.out.2.trans (hb2.mono (by omega))))
  clear c0 c1 c2
  obtain ⟨c0, c1, c2, _⟩ := cells3 a2
  clear hb2 a2 he hp2
  obtain ⟨rb, hrb⟩ : ∃ rb, decide (RightJ (jl lo dom res)) = rb := ⟨_, rfl⟩
  have hr1 : ∀ v : World, MaxG v → 0 < v.heap.size → Calls Try.prog 14 #[.agg #[.string lo, .string dom, .string res]] v fun e w' => e = .returned (.bool rb) ∧ Below v.heap.size v w' := fun v a b => by rw [← hrb]; exact right_any lo dom res v hs a b
  have hr2 : ∀ v : World, Calls Try.prog 15 #[.agg #[.string lo, .string dom, .string res]] v fun e w' => e = .returned (.bool rb) ∧ Below v.heap.size v w' := fun v => by rw [← hrb]; exact refright_any lo dom res v hs
  have HR := hide (And.intro hr1 hr2)
  clear hr1 hr2 hrb
  go_wp2_with fail
  go_region_law
    (first | (refine step_live2 (by first | rfl | simp [Region.wanted, yielded]) rfl (live_any _ (HM.out.below G0.out.2.drew h1) (by show _ < w2.heap.size; omega)) ?_; rintro e v1 ⟨he, hb⟩; refine ⟨_, he, ?_⟩; clear he; have y1 : w2.heap.size ≤ v1.heap.size := hb.size; have g1 : v1.heap[w.heap.size]? = _ := (hb.block w.heap.size (by show w.heap.size < w2.heap.size; omega)).trans G0.out.1; have g2 : Below w.heap.size w v1 := G0.out.2.drew.trans (hb.mono (by show w.heap.size ≤ w2.heap.size; omega)); clear c0 c1 c2; obtain ⟨c0, c1, c2, _, _, _⟩ := cells3 g1; have G1 := hide (And.intro g1 g2); clear g1 g2 hb) | (refine step_right (by first | rfl | simp [Region.wanted, yielded]) 29 _ rfl (.agg #[.string lo, .string dom, .string res]) rfl (HR.out.1 _ (HM.out.below G1.out.2 h1) (by omega)) ?_; rintro e v2 ⟨he, hb⟩; refine ⟨_, he, ?_⟩; clear he; have y2 : v1.heap.size ≤ v2.heap.size := hb.size; have g1 : v2.heap[w.heap.size]? = _ := (hb.block w.heap.size (by show w.heap.size < v1.heap.size; omega)).trans G1.out.1; have g2 : Below w.heap.size w v2 := G1.out.2.trans (hb.mono (by show w.heap.size ≤ v1.heap.size; omega)); clear c0 c1 c2; obtain ⟨c0, c1, c2, _, _, _⟩ := cells3 g1; have G2 := hide (And.intro g1 g2); clear g1 g2 hb) | (refine step_refright (by first | rfl | simp [Region.wanted, yielded]) 31 _ rfl (.agg #[.string lo, .string dom, .string res]) rfl (HR.out.2 _) ?_; rintro e v3 ⟨he, hb⟩; refine ⟨_, he, ?_⟩; clear he; have y3 : v2.heap.size ≤ v3.heap.size := hb.size; have g1 : v3.heap[w.heap.size]? = _ := (hb.block w.heap.size (by show w.heap.size < v2.heap.size; omega)).trans G2.out.1; have g2 : Below w.heap.size w v3 := G2.out.2.trans (hb.mono (by show w.heap.size ≤ v2.heap.size; omega)); clear c0 c1 c2; obtain ⟨c0, c1, c2, _, _, _⟩ := cells3 g1; have G3 := hide (And.intro g1 g2); clear g1 g2 hb))
  all_goals
    go_wp2_with fail
    go_ret
    exact ⟨by cases rb <;> rfl, G3.out.2⟩
end Go.Proofs.Ytcghnojhcmiolaa
