/- Two stores, the program's and the document's, of the same device: they tell the same. -/
import Derived.Test.YtfknjmfkkaoggaaSRB
import Derived.Test.YtfknjmfkkaoggaaSlArg0
import Derived.Test.YtfknjmfkkaoggaaSD
import Derived.Test.YtfknjmfkkaoggaaSMr
namespace Go.Proofs.Ytfknjmfkkaoggaa
open Go.RowKit Go.Shelf

/-- The two stores. -/
structure TwoS (base qs ps qt pt : Nat) (d : Dv) (vl vw ul uw : Value) (w : World) : Prop where
  sto : IsS base qs ps d vl vw w
  ref : IsT base qt pt d ul uw w
  low : base ≤ w.heap.size
section
variable {base qs ps qt pt : Nat} {d d' : Dv} {vl vw ul uw : Value} {w w1 : World}
theorem TwoS.below (h : TwoS base qs ps qt pt d vl vw ul uw w) (hb : Below w.heap.size w w1) : TwoS base qs ps qt pt d vl vw ul uw w1 := ⟨h.sto.below hb, h.ref.below hb, Nat.le_trans h.low hb.size⟩
theorem TwoS.apart (h : TwoS base qs ps qt pt d vl vw ul uw w) : ∀ j, foot ps vl vw j → ¬ foot pt ul uw j := foot_apart h.sto.dev h.ref.dev (by decide) (by decide) (by decide) (by decide) (by decide) (by decide) (by decide) (by decide) (by decide)
/-- The program's turns, and the document's stays. -/
theorem TwoS.first (h : TwoS base qs ps qt pt d vl vw ul uw w) (ht : STo base qs ps vl vw d' w w1) : IsT base qt pt d ul uw w1 := by
  obtain ⟨vl', vw', k1, k2, k3⟩ := ht
  refine ⟨(k2.same qt (hp_lt h.ref.here) ?_).trans h.ref.here, h.ref.low, h.ref.dev.apart k2 (fun j hj hf => h.apart j hf hj)⟩
  rintro (e | e | e)
  · have h1 := h.ref.here
    rw [e, h.sto.dev.here] at h1
    cases h1
  · exact own_ne0 h.sto.dev.las h.ref.here (by decide) qt e rfl
  · exact own_ne0 h.sto.dev.wr h.ref.here (by decide) qt e rfl
/-- The document's turns, and the program's stays. -/
theorem TwoS.second {d1 : Dv} {vl1 vw1 : Value} (h : IsS base qs ps d1 vl1 vw1 w) (hr : IsT base qt pt d ul uw w) (ht : TTo base qt pt ul uw d' w w1) : IsS base qs ps d1 vl1 vw1 w1 := by
  obtain ⟨vl', vw', k1, k2, k3⟩ := ht
  have hap := foot_apart h.dev hr.dev (by decide) (by decide) (by decide) (by decide) (by decide) (by decide) (by decide) (by decide) (by decide)
  refine ⟨(k2.same qs (hp_lt h.here) ?_).trans h.here, h.low, h.dev.apart k2 hap⟩
  rintro (e | e | e)
  · have h1 := h.here
    rw [e, hr.dev.here] at h1
    cases h1
  · exact own_ne0 hr.dev.las h.here (by decide) qs e rfl
  · exact own_ne0 hr.dev.wr h.here (by decide) qs e rfl
/-- Both turn, one behind the other. -/
theorem TwoS.both {w2 w3 : World} (h : TwoS base qs ps qt pt d vl vw ul uw w) (ht : STo base qs ps vl vw d' w w1) (hB : Below w1.heap.size w1 w2) (hr : TTo base qt pt ul uw d' w2 w3) : (∃ vl' vw' ul' uw', TwoS base qs ps qt pt d' vl' vw' ul' uw' w3) ∧ Below base w w3 := by
  have h1 := (h.first ht).below hB
  obtain ⟨vl', vw', k1, k2, k3⟩ := ht
  have k4 := TwoS.second (k1.below hB) h1 hr
  obtain ⟨ul', uw', m1, m2, m3⟩ := hr
  have s1 := k2.below.size
  have hBt : Below base w w3 := (k2.below.trans (hB.mono (Nat.le_trans h.low s1))).trans m2.below
  exact ⟨⟨vl', vw', ul', uw', k4, m1, Nat.le_trans h.low hBt.size⟩, hBt⟩
end
theorem ex_eqi {o : Oper} {a : Act} {w : World} {x y : Operand} {s : Int} (ho : o.op = .binOp .eql 3 x y 3) (hx : a.eval x = .int .i64 s) (hy : a.eval y = .int .i64 s) : (execOp a.eval o).run Try.prog w = .ok (.value (.bool true)) w := by
  unfold execOp
  simp only [ho, hx, hy]
  go_simp
theorem ex_eqe {o : Oper} {a : Act} {w : World} {x y : Operand} {s : Int} (ho : o.op = .binOp .eql 38 x y 38) (hx : a.eval x = .int .i64 s) (hy : a.eval y = .int .i64 s) : (execOp a.eval o).run Try.prog w = .ok (.value (.bool true)) w := by
  unfold execOp
  simp only [ho, hx, hy]
  go_simp
theorem ex_pickT {o : Oper} {a : Act} {w : World} {x y z : Operand} {v : Value} (ho : o.op = .pick x y z) (hx : a.eval x = .bool true) (hy : a.eval y = v) : (execOp a.eval o).run Try.prog w = .ok (.value v) w := by
  unfold execOp
  simp only [ho, hx, hy]
  go_simp
theorem sec_newR (w : World) (s : Sec) (hs : s.length = 64) : ∃ W, (Instr.storeAt 61 (.pointer (some ⟨w.heap.size, 0, none⟩)) (.agg (secA s))).run Try.prog (w.alloc (.cells (Lib.byteCells sec0).toArray 61)) = .ok () W ∧ W.heap[w.heap.size]? = some (.cells (secA s) 61) ∧ Below w.heap.size w W ∧ W.heap.size = w.heap.size + 1 :=
  ⟨_, run_store_new (P := Try.prog) infoSecR w (cs := secA s) (c := secA sec0) (by rw [secA_size, hs]) rfl (secA_one s), World.alloc_heap_new w _, (Below.refl _ w).alloc (Nat.le_refl _) _, by simp⟩
end Go.Proofs.Ytfknjmfkkaoggaa
