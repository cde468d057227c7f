/- Addresses: their normal form. -/
import Derived.Test.YtffjmkngdjbjlaaDoorJ6
import Derived.Deep.RegionLawGrows
namespace Go.Proofs.YtffjmkngdjbjlaaDoor
open Go.RowKit

set_option maxRecDepth 100000 in
/-- A call: a step of a region that draws. -/
theorem step_small {ops : Array Oper} {o : Oper} {a : Act} {w : World} {K : Act → World → Prop} {Q : Exit → Act → World → Prop} {E : Prop} (hg : o.guard = none) (t : Nat) (ty : TypeId)
    (hop : o.op = Op.call { callee := Callee.value (.func 107), args := #[.tmp t], argTypes := #[ty] }) (v : Value) (hx : a.tmps[t]?.getD undef = v) {R : Ending → World → Prop} (hC : Calls Tryd.prog 107 #[v] w R) (hK : ∀ e w', R e w' → ∃ v, e = .returned v ∧ K (a.put o.dst v) w') :
    if Region.wanted o (yielded ops a.tmps) = true then Oper.wp Tryd.prog o a w K Q else E := by
  have hw : Region.wanted o (yielded ops a.tmps) = true := by simp [Region.wanted, hg]
  rw [if_pos hw]
  have _f := Tryd.func107
  unfold Oper.wp
  simp only [execOp, hop, resolve, invoke]
  go_simp
  refine hC.mono ?_
  intro e w' hR
  obtain ⟨u, rfl, hk⟩ := hK e w' hR
  exact hk
theorem size_map (s : ByteArray) (f : UInt8 → UInt8) : (⟨(s.data.toList.map f).toArray⟩ : ByteArray).size = s.size := by
  show (s.data.toList.map f).toArray.size = _
  rw [List.size_toArray, List.length_map, size_list]
set_option maxRecDepth 100000 in
set_option maxHeartbeats 4000000 in
theorem normal_any (lo dom res : ByteArray) (w : World) (hlo : lo.size ≤ 9223372036854775807) (hdom : dom.size ≤ 9223372036854775807) : Calls Tryd.prog 82 #[.agg #[.string lo, .string dom, .string res]] w fun e w' => e = .returned (.agg #[.string ⟨(lo.data.toList.map lowB).toArray⟩, .string ⟨(dom.data.toList.map lowB).toArray⟩, .string res]) ∧ Below w.heap.size w w' := by
  obtain ⟨Wa, hWa, aa, ba, za⟩ := newJ w (.string lo) (.string dom) (.string res)
  obtain ⟨Wb, hWb, ab, bb, zb⟩ := newJ Wa (.string ⟨#[]⟩) (.string ⟨#[]⟩) (.string ⟨#[]⟩)
  rw [za] at ab
  have ac := (bb.block w.heap.size (by omega)).trans aa
  obtain ⟨c0, c1, c2, _⟩ := cells3 ac
  have HH := hide (And.intro ac (And.intro ab (ba.trans (bb.mono (by omega)))))
  clear aa ba ab bb ac
  obtain ⟨l1, hl1⟩ : ∃ l1, (⟨(lo.data.toList.map lowB).toArray⟩ : ByteArray) = l1 := ⟨_, rfl⟩
  obtain ⟨d1, hd1⟩ : ∃ d1, (⟨(dom.data.toList.map lowB).toArray⟩ : ByteArray) = d1 := ⟨_, rfl⟩
  have hs1 : ∀ w : World, Calls Tryd.prog 107 #[.string lo] w fun e w' => e = .returned (.string l1) ∧ Below w.heap.size w w' := fun w => by rw [← hl1]; exact small_any lo w hlo
  have hs2 : ∀ w : World, Calls Tryd.prog 107 #[.string dom] w fun e w' => e = .returned (.string d1) ∧ Below w.heap.size w w' := fun w => by rw [← hd1]; exact small_any dom w hdom
  rw [hl1, hd1]
  have HS := hide (And.intro hs1 hs2)
  clear hs1 hs2 hl1 hd1
  go_enter Tryd.func82, Tryd.ntmps82
  go_wp2_with fail
  go_region_law
    (first | (refine step_small rfl 4 _ rfl (.string lo) rfl (HS.out.1 _) ?_; rintro e w1 ⟨he1, hb1⟩; refine ⟨_, he1, ?_⟩; clear he1; have z1 : Wb.heap.size ≤ w1.heap.size := hb1.size; have g1 : w1.heap[w.heap.size]? = _ := (hb1.block w.heap.size (by show w.heap.size < Wb.heap.size; omega)).trans HH.out.1; have g2 : w1.heap[w.heap.size + 1]? = _ := (hb1.block (w.heap.size + 1) (by show w.heap.size + 1 < Wb.heap.size; omega)).trans HH.out.2.1; have g3 : Below w.heap.size w w1 := HH.out.2.2.drew.trans (hb1.mono (by show w.heap.size ≤ Wb.heap.size; omega)); clear c0 c1 c2; obtain ⟨c0, c1, c2, _, _, _⟩ := cells3 g1; have H1 := hide (And.intro g1 (And.intro g2 g3)); clear g1 g2 g3 hb1) | (refine step_small rfl 7 _ rfl (.string dom) rfl (HS.out.2 _) ?_; rintro e w2 ⟨he2, hb2⟩; refine ⟨_, he2, ?_⟩; clear he2; have z2 : w1.heap.size ≤ w2.heap.size := hb2.size; have g1 : w2.heap[w.heap.size]? = _ := (hb2.block w.heap.size (by omega)).trans H1.out.1; have g2 : w2.heap[w.heap.size + 1]? = _ := (hb2.block (w.heap.size + 1) (by omega)).trans H1.out.2.1; have g3 : Below w.heap.size w w2 := H1.out.2.2.trans (hb2.mono (by omega)); clear c0 c1 c2; obtain ⟨c0, c1, c2, _⟩ := cells3 g1; obtain ⟨r0, r1, r2, s0, s1, s2⟩ := cells3 g2; have H2 := hide (And.intro g2 g3); clear g1 g2 g3 hb2))
  all_goals
    go_wp2_with fail
    obtain ⟨t0, t1, t2, _⟩ := cells3 (set3 H2.out.1 (.string l1) (.string d1) (.string res))
    refine bodyPost_ret (results_jid rfl rfl t0 t1 t2) rfl ⟨rfl, ?_⟩
    exact ((H2.out.2.setCell (p := ⟨_, 0, none⟩) (by show w.heap.size ≤ w.heap.size + 1; omega) _).setCell (p := ⟨_, 1, none⟩) (by show w.heap.size ≤ w.heap.size + 1; omega) _).setCell (p := ⟨_, 2, none⟩) (by show w.heap.size ≤ w.heap.size + 1; omega) _
end Go.Proofs.YtffjmkngdjbjlaaDoor
