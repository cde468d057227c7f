/- Slots: a root's sector. -/
import Derived.Test.YtfknjmfkkaoggaaS3
import Derived.Test.YtfknjmfkkaoggaaRG
import Derived.Lib.BufferWrite
namespace Go.Proofs.Ytfknjmfkkaoggaa
open Go.RowKit

set_option maxRecDepth 100000 in
/-- A call that may come up. -/
theorem op_setNumber {ops : Array Oper} {Q : Exit → Act → World → Prop} {i : Nat} {o : Oper} {a : Act} {w : World} {K : Act → World → Prop} (hi : ops[i]? = some o) (dst : Option Tmp) (hdst : o.dst = dst) (hw : Region.wanted o (yielded ops a.tmps) = true) (t0 t1 : Nat) (y0 y1 : TypeId)
    (hop : o.op = Op.call { callee := Callee.value (.func 77), args := #[.tmp t0, .tmp t1], argTypes := #[y0, y1] }) (v0 : Value) (hx0 : a.tmps[t0]?.getD undef = v0) (v1 : Value) (hx1 : a.tmps[t1]?.getD undef = v1) {R : Ending → World → Prop} (hC : Calls Try.prog 77 #[v0, v1] w R) (hK : ∀ e w', R e w' → ∃ v, e = .returned v ∧ K (a.put dst v) w') : wpOp Try.prog ops Q i K a w := by
  subst hdst
  unfold wpOp
  simp only [hi, hw, if_true]
  refine .inl ?_
  have _f := Try.func77
  unfold Oper.wp
  simp only [execOp, hop, resolve, invoke]
  go_simp
  refine hC.mono ?_
  intro e w' hR
  obtain ⟨u, rfl, hk⟩ := hK e w' hR
  exact hk
set_option maxRecDepth 100000 in
/-- A call that may come up. -/
theorem op_sum {ops : Array Oper} {Q : Exit → Act → World → Prop} {i : Nat} {o : Oper} {a : Act} {w : World} {K : Act → World → Prop} (hi : ops[i]? = some o) (dst : Option Tmp) (hdst : o.dst = dst) (hw : Region.wanted o (yielded ops a.tmps) = true) (t0 : Nat) (y0 : TypeId)
    (hop : o.op = Op.call { callee := Callee.value (.func 18), args := #[.tmp t0], argTypes := #[y0] }) (v0 : Value) (hx0 : a.tmps[t0]?.getD undef = v0) {R : Ending → World → Prop} (hC : Calls Try.prog 18 #[v0] w R) (hK : ∀ e w', R e w' → ∃ v, e = .returned v ∧ K (a.put dst v) w') : wpOp Try.prog ops Q i K a w := by
  subst hdst
  unfold wpOp
  simp only [hi, hw, if_true]
  refine .inl ?_
  have _f := Try.func18
  unfold Oper.wp
  simp only [execOp, hop, resolve, invoke]
  go_simp
  refine hC.mono ?_
  intro e w' hR
  obtain ⟨u, rfl, hk⟩ := hK e w' hR
  exact hk
def vOf (x : U) : V := BitVec.ofNat 64 x.toNat
theorem vOf_nat (x : U) : (vOf x).toNat = x.toNat := by
  unfold vOf
  have := x.isLt
  rw [BitVec.toNat_ofNat]
  omega
def root0 : List UInt8 := 72 :: 71 :: List.replicate 62 0
def root1 (t : V) : List UInt8 := setBe root0 2 8 t 8
def root2 (t : V) (n : U) : List UInt8 := setBe (root1 t) 10 4 (vOf n) 4
def root3 (t : V) (n s : U) : List UInt8 := setBe (root2 t n) 14 4 (vOf s) 4
/-- A root's sector. -/
def rootS (t : V) (n s : U) : List UInt8 := setBe (root3 t n s) 18 4 (vOf (~~~ sumL ((root3 t n s).take 18) (BitVec.allOnes 32))) 4
theorem root_lens (t : V) (n s : U) : (root1 t).length = 64 ∧ (root2 t n).length = 64 ∧ (root3 t n s).length = 64 ∧ (rootS t n s).length = 64 := by
  have h1 : (root1 t).length = 64 := by unfold root1; rw [setBe_len]; rfl
  have h2 : (root2 t n).length = 64 := by unfold root2; rw [setBe_len, h1]
  have h3 : (root3 t n s).length = 64 := by unfold root3; rw [setBe_len, h2]
  exact ⟨h1, h2, h3, by unfold rootS; rw [setBe_len, h3]⟩
theorem three_new (w : World) (x y z : Obj) : ∃ W, ((w.alloc x).alloc y).alloc z = W ∧ W.heap[w.heap.size]? = some x ∧ W.heap[w.heap.size + 1]? = some y ∧ W.heap[w.heap.size + 2]? = some z ∧ W.heap.size = w.heap.size + 3 ∧ Below w.heap.size w W := by
  have z1 : (w.alloc x).heap.size = w.heap.size + 1 := by simp
  have z2 : ((w.alloc x).alloc y).heap.size = w.heap.size + 2 := by simp
  have b3 : Below (w.heap.size + 2) ((w.alloc x).alloc y) (((w.alloc x).alloc y).alloc z) := (Below.refl _ _).alloc (by omega) _
  have b2 : Below (w.heap.size + 1) (w.alloc x) ((w.alloc x).alloc y) := (Below.refl _ _).alloc (by omega) _
  refine ⟨_, rfl, ?_, ?_, ?_, by simp, ((Below.refl _ w).alloc (Nat.le_refl _) x).trans ((b2.mono (by omega)).trans (b3.mono (by omega)))⟩
  · exact (b3.block _ (by omega)).trans ((b2.block _ (by omega)).trans (World.alloc_heap_new w x))
  · rw [← z1]
    exact (b3.block _ (by omega)).trans (World.alloc_heap_new _ y)
  · rw [← z2]
    exact World.alloc_heap_new _ z
/-- A sector's bytes from its head on. -/
theorem sec_mem {w : World} {g : Nat} {s : List UInt8} {T : TypeId} (k : Nat) (h : w.heap[g]? = some (.cells (secA s) T)) (hg : g < w.heap.size) : ByteMem w.heap.size w (some ⟨g, 0, none⟩) (s.take k) := fun j c hj => by
  refine ⟨g, 0, rfl, hg, ?_⟩
  have : s[j]? = some c := by
    rw [List.getElem?_take] at hj
    split at hj
    · exact hj
    · cases hj
  simp only [World.cell?, h, Nat.zero_add]
  exact secA_at _ _ _ this
theorem ex_copy {o : Oper} {a : Act} {w w' : World} {x y : Operand} {t1 t2 : TypeId} {u v r : Value} (ho : o.op = .call { callee := .builtin .copy, args := #[x, y], argTypes := #[t1, t2] }) (hx : a.eval x = u) (hy : a.eval y = v) (hr : (Builtin.copy_ #[t1, t2] o.type #[u, v]).run Try.prog w = .ok r w') : (execOp a.eval o).run Try.prog w = .ok (.value r) w' := by
  simp [execOp, ho, resolve, invoke, builtin, hx, hy, hr, Result.andThen]
theorem conv_any {o : Oper} {a : Act} {w : World} (x : U) {y : Operand} (ho : o.op = .convert 32 36 y) (hy : a.eval y = .int .u32 x.toNat) : (execOp a.eval o).run Try.prog w = .ok (.value (.int .u64 (vOf x).toNat)) w := by
  have h : (convert 32 36 (.int .u32 x.toNat)).run Try.prog w = .ok (.int .u64 (vOf x).toNat) w := by
    rw [vOf_nat]
    have := x.isLt
    go_simp
    show ((x.toNat : Int) % 18446744073709551616) = x.toNat
    omega
  unfold execOp
  simp [ho, hy, h]
set_option maxRecDepth 100000 in
set_option maxHeartbeats 8000000 in
theorem sector_root (t : V) (n s : U) (w : World) : Calls Try.prog 63 #[.agg #[.int .u64 t.toNat, .int .u32 n.toNat, .int .u32 s.toNat]] w fun e w' => e = .returned (.agg (secA (rootS t n s))) ∧ Below w.heap.size w w' := by
  obtain ⟨W2, hW2, g1, g2, g3, hz, hb⟩ := three_new w (.cells #[.int .u64 t.toNat, .int .u32 n.toNat, .int .u32 s.toNat] 115) (.cells (secA sec0) 59) (.cells (secA sec0) 59)
  obtain ⟨W3, hW3, k1, k2, k3, k4⟩ : ∃ W3, W2.setRow (w.heap.size + 2) (secA root0) = W3 ∧ W3.heap[w.heap.size + 2]? = some (.cells (secA root0) 59) ∧ (∀ j, j ≠ w.heap.size + 2 → W3.heap[j]? = W2.heap[j]?) ∧ W3.heap.size = W2.heap.size ∧ Below (w.heap.size + 2) W2 W3 :=
    ⟨_, rfl, setRow_heap W2 _ _ _ _ _ g3, fun j hj => setRow_other W2 _ j _ hj, by simp, ⟨rfl, rfl, rfl, by simp, fun k hk => setRow_other W2 _ k _ (by omega)⟩⟩
  have hcp : (Builtin.copy_ #[30, 9] 3 #[.slice (some ⟨w.heap.size + 2, 0, none⟩) 64 64, .string ⟨#[72, 71]⟩]).run Try.prog W2 = .ok (.int .i64 2) W3 := by
    rw [← hW3]
    exact Lib.run_copy_row_string W2 30 9 3 5 (w.heap.size + 2) 0 64 64 ⟨#[72, 71]⟩ (secA sec0) 59 Try.underlying30 (by kernel_rfl) g3 (by decide) (by rw [secA_size]; decide)
  obtain ⟨ck, hck⟩ : ∃ ck, ~~~ sumL ((root3 t n s).take 18) (BitVec.allOnes 32) = ck := ⟨_, rfl⟩
  have hsum : ∀ W : World, W.heap[w.heap.size + 2]? = some (.cells (secA (root3 t n s)) 59) → w.heap.size + 2 < W.heap.size → Calls Try.prog 18 #[.slice (some ⟨w.heap.size + 2, 0, none⟩) 18 64] W fun e w' => e = .returned (.int .u32 ck.toNat) ∧ w' = W := fun W h1 h2 => by
    have hl : ((root3 t n s).take 18).length = 18 := by rw [List.length_take, (root_lens t n s).2.2.1]; rfl
    have := sum_any (some ⟨w.heap.size + 2, 0, none⟩) 64 ((root3 t n s).take 18) W (by omega) (sec_mem 18 h1 h2)
    rw [hl, hck] at this
    exact this
  have g1' := (k2 w.heap.size (by omega)).trans g1
  have g2' := (k2 (w.heap.size + 1) (by omega)).trans g2
  have hb' := hb.trans (k4.mono (by omega))
  have hz' : w.heap.size + 3 ≤ W3.heap.size := by omega
  have HC := hide (And.intro hcp (And.intro hW2 (And.intro k1 (And.intro g1' (And.intro g2' (And.intro hz' hb'))))))
  clear hcp hW2 k1 k2 k3 k4 g1' g2' hz' hb' g1 g2 g3 hz hb hW3
  go_enter Try.func63, Try.ntmps63
  go_wp2_with (first | (refine l_alloc _ infoSecD rfl rfl ?_; rw [show (Lib.byteCells sec0).toArray = secA sec0 from rfl, HC.out.2.1]) | (refine l_alloc _ infoSecD rfl rfl ?_; rw [show (Lib.byteCells sec0).toArray = secA sec0 from rfl]) | (refine l_val rfl (.int .i64 2) (ex_copy rfl rfl rfl HC.out.1) ?_; refine stopHere ?_))
  unfold Hid
  go_wp2_with fail
  obtain ⟨_, _, g3, g1, g2, hz, hb⟩ := HC.out
  refine region_rel (S := (fun W : World => W.heap[w.heap.size]? = some (.cells #[.int .u64 t.toNat, .int .u32 n.toNat, .int .u32 s.toNat] 115))) (fun a W => ∃ xx : Nat → Value, ((W.heap[w.heap.size]? = some (.cells #[.int .u64 t.toNat, .int .u32 n.toNat, .int .u32 s.toNat] 115) ∧ W.heap[w.heap.size + 1]? = some (.cells (secA sec0) 59) ∧ W.heap[w.heap.size + 2]? = some (.cells (secA (root1 t)) 59) ∧ w.heap.size + 3 ≤ W.heap.size ∧ Below w.heap.size w W)) ∧ a = { tmps := #[.agg #[.int .u64 t.toNat, .int .u32 n.toNat, .int .u32 s.toNat], .pointer (some ⟨w.heap.size, 0, none⟩), .pointer (some ⟨w.heap.size + 1, 0, none⟩), .pointer (some ⟨w.heap.size + 2, 0, none⟩), xx 4, xx 5, xx 6, xx 7, xx 8, xx 9, undef, undef, undef, undef, undef, undef, undef, undef, undef, undef, undef, undef, undef, undef, undef, undef], defers := [] }) (by kernel_rfl) ?any3 ?fin3
  case any3 =>
    have S0 : W3.drew.heap[w.heap.size]? = some (.cells #[.int .u64 t.toNat, .int .u32 n.toNat, .int .u32 s.toNat] 115) := g1
    refine anyH_take (i := 0) (v := .slice (some ⟨w.heap.size + 2, 2, none⟩) 8 62) rfl (some 6) rfl (by kernel_rfl) (by kernel_rfl) (by kernel_rfl) (fun _ _ _ h => by cases h.1) rfl (fun w0 hw0 => by first | rfl | kernel_rfl) S0 ?_
    simp only [Act.put, List.setIfInBounds_toArray, List.set_cons_zero, List.set_cons_succ]
    refine anyH_take (i := 1) (v := .pointer (some ⟨w.heap.size, 0, none⟩)) rfl (some 7) rfl (by kernel_rfl) (by kernel_rfl) (by kernel_rfl) (fun _ _ _ h => by cases h.1) rfl (fun w0 hw0 => by first | rfl | kernel_rfl) S0 ?_
    simp only [Act.put, List.setIfInBounds_toArray, List.set_cons_zero, List.set_cons_succ]
    refine anyH_take (i := 2) (v := .int .u64 t.toNat) rfl (some 8) rfl (by kernel_rfl) (by kernel_rfl) (by kernel_rfl) (fun _ _ _ h => by cases h.1) rfl (fun w0 hw0 => ex_load rfl rfl (run_load_cell Try.underlying36 rfl (by simp [World.cell?, hw0]))) S0 ?_
    simp only [Act.put, List.setIfInBounds_toArray, List.set_cons_zero, List.set_cons_succ]
    refine anyH_one (i := 3) (by kernel_rfl) ?_
    refine op_setNumber rfl (some 9) rfl rfl 6 8 30 36 rfl (.slice (some ⟨w.heap.size + 2, 2, none⟩) 8 62) rfl (.int .u64 t.toNat) rfl (setNumber_any (w.heap.size + 2) 2 8 62 59 t root0 _ g3 (by rw [show root0.length = 64 from rfl]; omega) (by omega)) ?_
    rintro e V ⟨⟨v, he⟩, q1, q2, q3⟩
    refine ⟨_, he, (q2 _ (by omega)).trans g1, ?_⟩
    simp only [Act.put, List.setIfInBounds_toArray, List.set_cons_zero, List.set_cons_succ]
    exact wpAnyH_done (by kernel_rfl) ⟨rfl, fill (⟨(q2 _ (by omega)).trans g1, (q2 _ (by omega)).trans g2, q1, Nat.le_trans (by show w.heap.size + 3 ≤ W3.heap.size; omega) q3.size, hb.drew.trans (q3.mono (by omega))⟩) (by kernel_rfl)⟩ _
  case fin3 =>
    rintro a W4 ⟨xx, ⟨g1, g2, g3, hz, hb⟩, rfl⟩
    have GG := hide (And.intro g1 (And.intro g2 (And.intro g3 (And.intro hz hb))))
    clear g1 g2 g3 hz hb
    go_wp2_with fail
    obtain ⟨g1, g2, g3, hz, hb⟩ := GG.out
    refine region_rel (S := (fun W : World => W.heap[w.heap.size]? = some (.cells #[.int .u64 t.toNat, .int .u32 n.toNat, .int .u32 s.toNat] 115))) (fun a W => ∃ xx : Nat → Value, ((W.heap[w.heap.size]? = some (.cells #[.int .u64 t.toNat, .int .u32 n.toNat, .int .u32 s.toNat] 115) ∧ W.heap[w.heap.size + 1]? = some (.cells (secA sec0) 59) ∧ W.heap[w.heap.size + 2]? = some (.cells (secA (root2 t n)) 59) ∧ w.heap.size + 3 ≤ W.heap.size ∧ Below w.heap.size w W)) ∧ a = { tmps := #[.agg #[.int .u64 t.toNat, .int .u32 n.toNat, .int .u32 s.toNat], .pointer (some ⟨w.heap.size, 0, none⟩), .pointer (some ⟨w.heap.size + 1, 0, none⟩), .pointer (some ⟨w.heap.size + 2, 0, none⟩), xx 4, xx 5, xx 6, xx 7, xx 8, xx 9, xx 10, xx 11, xx 12, xx 13, xx 14, undef, undef, undef, undef, undef, undef, undef, undef, undef, undef, undef], defers := [] }) (by kernel_rfl) ?any4 ?fin4
    case any4 =>
      have S0 : W4.drew.heap[w.heap.size]? = some (.cells #[.int .u64 t.toNat, .int .u32 n.toNat, .int .u32 s.toNat] 115) := g1
      refine anyH_take (i := 0) (v := .slice (some ⟨w.heap.size + 2, 10, none⟩) 4 54) rfl (some 10) rfl (by kernel_rfl) (by kernel_rfl) (by kernel_rfl) (fun _ _ _ h => by cases h.1) rfl (fun w0 hw0 => by first | rfl | kernel_rfl) S0 ?_
      simp only [Act.put, List.setIfInBounds_toArray, List.set_cons_zero, List.set_cons_succ]
      refine anyH_take (i := 1) (v := .pointer (some ⟨w.heap.size, 1, none⟩)) rfl (some 11) rfl (by kernel_rfl) (by kernel_rfl) (by kernel_rfl) (fun _ _ _ h => by cases h.1) rfl (fun w0 hw0 => by first | rfl | kernel_rfl) S0 ?_
      simp only [Act.put, List.setIfInBounds_toArray, List.set_cons_zero, List.set_cons_succ]
      refine anyH_take (i := 2) (v := .int .u32 n.toNat) rfl (some 12) rfl (by kernel_rfl) (by kernel_rfl) (by kernel_rfl) (fun _ _ _ h => by cases h.1) rfl (fun w0 hw0 => ex_load rfl rfl (run_load_cell Try.underlying32 rfl (by simp [World.cell?, hw0]))) S0 ?_
      simp only [Act.put, List.setIfInBounds_toArray, List.set_cons_zero, List.set_cons_succ]
      refine anyH_take (i := 3) (v := .int .u64 (vOf n).toNat) rfl (some 13) rfl (by kernel_rfl) (by kernel_rfl) (by kernel_rfl) (fun _ _ _ h => by cases h.1) rfl (fun w0 hw0 => conv_any _ rfl rfl) S0 ?_
      simp only [Act.put, List.setIfInBounds_toArray, List.set_cons_zero, List.set_cons_succ]
      refine anyH_one (i := 4) (by kernel_rfl) ?_
      refine op_setNumber rfl (some 14) rfl rfl 10 13 30 36 rfl (.slice (some ⟨w.heap.size + 2, 10, none⟩) 4 54) rfl (.int .u64 (vOf n).toNat) rfl (setNumber_any (w.heap.size + 2) 10 4 54 59 (vOf n) (root1 t) _ g3 (by rw [(root_lens t n s).1]; omega) (by omega)) ?_
      rintro e V ⟨⟨v, he⟩, q1, q2, q3⟩
      refine ⟨_, he, (q2 _ (by omega)).trans g1, ?_⟩
      simp only [Act.put, List.setIfInBounds_toArray, List.set_cons_zero, List.set_cons_succ]
      exact wpAnyH_done (by kernel_rfl) ⟨rfl, fill (⟨(q2 _ (by omega)).trans g1, (q2 _ (by omega)).trans g2, q1, Nat.le_trans (by show w.heap.size + 3 ≤ W4.heap.size; omega) q3.size, hb.drew.trans (q3.mono (by omega))⟩) (by kernel_rfl)⟩ _
    case fin4 =>
      rintro a W5 ⟨xx, ⟨g1, g2, g3, hz, hb⟩, rfl⟩
      have GG := hide (And.intro g1 (And.intro g2 (And.intro g3 (And.intro hz hb))))
      clear g1 g2 g3 hz hb
      go_wp2_with fail
      obtain ⟨g1, g2, g3, hz, hb⟩ := GG.out
      refine region_rel (S := (fun W : World => W.heap[w.heap.size]? = some (.cells #[.int .u64 t.toNat, .int .u32 n.toNat, .int .u32 s.toNat] 115))) (fun a W => ∃ xx : Nat → Value, ((W.heap[w.heap.size]? = some (.cells #[.int .u64 t.toNat, .int .u32 n.toNat, .int .u32 s.toNat] 115) ∧ W.heap[w.heap.size + 1]? = some (.cells (secA sec0) 59) ∧ W.heap[w.heap.size + 2]? = some (.cells (secA (root3 t n s)) 59) ∧ w.heap.size + 3 ≤ W.heap.size ∧ Below w.heap.size w W)) ∧ a = { tmps := #[.agg #[.int .u64 t.toNat, .int .u32 n.toNat, .int .u32 s.toNat], .pointer (some ⟨w.heap.size, 0, none⟩), .pointer (some ⟨w.heap.size + 1, 0, none⟩), .pointer (some ⟨w.heap.size + 2, 0, none⟩), xx 4, xx 5, xx 6, xx 7, xx 8, xx 9, xx 10, xx 11, xx 12, xx 13, xx 14, xx 15, xx 16, xx 17, xx 18, xx 19, undef, undef, undef, undef, undef, undef], defers := [] }) (by kernel_rfl) ?any5 ?fin5
      case any5 =>
        have S0 : W5.drew.heap[w.heap.size]? = some (.cells #[.int .u64 t.toNat, .int .u32 n.toNat, .int .u32 s.toNat] 115) := g1
        refine anyH_take (i := 0) (v := .slice (some ⟨w.heap.size + 2, 14, none⟩) 4 50) rfl (some 15) rfl (by kernel_rfl) (by kernel_rfl) (by kernel_rfl) (fun _ _ _ h => by cases h.1) rfl (fun w0 hw0 => by first | rfl | kernel_rfl) S0 ?_
        simp only [Act.put, List.setIfInBounds_toArray, List.set_cons_zero, List.set_cons_succ]
        refine anyH_take (i := 1) (v := .pointer (some ⟨w.heap.size, 2, none⟩)) rfl (some 16) rfl (by kernel_rfl) (by kernel_rfl) (by kernel_rfl) (fun _ _ _ h => by cases h.1) rfl (fun w0 hw0 => by first | rfl | kernel_rfl) S0 ?_
        simp only [Act.put, List.setIfInBounds_toArray, List.set_cons_zero, List.set_cons_succ]
        refine anyH_take (i := 2) (v := .int .u32 s.toNat) rfl (some 17) rfl (by kernel_rfl) (by kernel_rfl) (by kernel_rfl) (fun _ _ _ h => by cases h.1) rfl (fun w0 hw0 => ex_load rfl rfl (run_load_cell Try.underlying32 rfl (by simp [World.cell?, hw0]))) S0 ?_
        simp only [Act.put, List.setIfInBounds_toArray, List.set_cons_zero, List.set_cons_succ]
        refine anyH_take (i := 3) (v := .int .u64 (vOf s).toNat) rfl (some 18) rfl (by kernel_rfl) (by kernel_rfl) (by kernel_rfl) (fun _ _ _ h => by cases h.1) rfl (fun w0 hw0 => conv_any _ rfl rfl) S0 ?_
        simp only [Act.put, List.setIfInBounds_toArray, List.set_cons_zero, List.set_cons_succ]
        refine anyH_one (i := 4) (by kernel_rfl) ?_
        refine op_setNumber rfl (some 19) rfl rfl 15 18 30 36 rfl (.slice (some ⟨w.heap.size + 2, 14, none⟩) 4 50) rfl (.int .u64 (vOf s).toNat) rfl (setNumber_any (w.heap.size + 2) 14 4 50 59 (vOf s) (root2 t n) _ g3 (by rw [(root_lens t n s).2.1]; omega) (by omega)) ?_
        rintro e V ⟨⟨v, he⟩, q1, q2, q3⟩
        refine ⟨_, he, (q2 _ (by omega)).trans g1, ?_⟩
        simp only [Act.put, List.setIfInBounds_toArray, List.set_cons_zero, List.set_cons_succ]
        exact wpAnyH_done (by kernel_rfl) ⟨rfl, fill (⟨(q2 _ (by omega)).trans g1, (q2 _ (by omega)).trans g2, q1, Nat.le_trans (by show w.heap.size + 3 ≤ W5.heap.size; omega) q3.size, hb.drew.trans (q3.mono (by omega))⟩) (by kernel_rfl)⟩ _
      case fin5 =>
        rintro a W6 ⟨xx, ⟨g1, g2, g3, hz, hb⟩, rfl⟩
        have GG := hide (And.intro g1 (And.intro g2 (And.intro g3 (And.intro hz hb))))
        clear g1 g2 g3 hz hb
        go_wp2_with fail
        obtain ⟨g1, g2, g3, hz, hb⟩ := GG.out
        refine region_rel (S := (fun W : World => W.heap[w.heap.size]? = some (.cells #[.int .u64 t.toNat, .int .u32 n.toNat, .int .u32 s.toNat] 115))) (fun a W => ∃ xx : Nat → Value, ((W.heap[w.heap.size]? = some (.cells #[.int .u64 t.toNat, .int .u32 n.toNat, .int .u32 s.toNat] 115) ∧ W.heap[w.heap.size + 1]? = some (.cells (secA sec0) 59) ∧ W.heap[w.heap.size + 2]? = some (.cells (secA (rootS t n s)) 59) ∧ w.heap.size + 3 ≤ W.heap.size ∧ Below w.heap.size w W)) ∧ a = { tmps := #[.agg #[.int .u64 t.toNat, .int .u32 n.toNat, .int .u32 s.toNat], .pointer (some ⟨w.heap.size, 0, none⟩), .pointer (some ⟨w.heap.size + 1, 0, none⟩), .pointer (some ⟨w.heap.size + 2, 0, none⟩), xx 4, xx 5, xx 6, xx 7, xx 8, xx 9, xx 10, xx 11, xx 12, xx 13, xx 14, xx 15, xx 16, xx 17, xx 18, xx 19, xx 20, xx 21, xx 22, xx 23, xx 24, undef], defers := [] }) (by kernel_rfl) ?any6 ?fin6
        case any6 =>
          have S0 : W6.drew.heap[w.heap.size]? = some (.cells #[.int .u64 t.toNat, .int .u32 n.toNat, .int .u32 s.toNat] 115) := g1
          refine anyH_take (i := 0) (v := .slice (some ⟨w.heap.size + 2, 18, none⟩) 4 46) rfl (some 20) rfl (by kernel_rfl) (by kernel_rfl) (by kernel_rfl) (fun _ _ _ h => by cases h.1) rfl (fun w0 hw0 => by first | rfl | kernel_rfl) S0 ?_
          simp only [Act.put, List.setIfInBounds_toArray, List.set_cons_zero, List.set_cons_succ]
          refine anyH_take (i := 1) (v := .slice (some ⟨w.heap.size + 2, 0, none⟩) 18 64) rfl (some 21) rfl (by kernel_rfl) (by kernel_rfl) (by kernel_rfl) (fun _ _ _ h => by cases h.1) rfl (fun w0 hw0 => by first | rfl | kernel_rfl) S0 ?_
          simp only [Act.put, List.setIfInBounds_toArray, List.set_cons_zero, List.set_cons_succ]
          refine anyH_one (i := 2) (by kernel_rfl) ?_
          refine op_sum rfl (some 22) rfl rfl 21 30 rfl (.slice (some ⟨w.heap.size + 2, 0, none⟩) 18 64) rfl (hsum _ g3 (by show w.heap.size + 2 < W6.heap.size; omega)) ?_
          rintro e V ⟨he, rfl⟩
          refine ⟨_, he, S0, ?_⟩
          clear he
          simp only [Act.put, List.setIfInBounds_toArray, List.set_cons_zero, List.set_cons_succ]
          refine anyH_take (i := 3) (v := .int .u64 (vOf ck).toNat) rfl (some 23) rfl (by kernel_rfl) (by kernel_rfl) (by kernel_rfl) (fun _ _ _ h => by cases h.1) rfl (fun w0 hw0 => conv_any _ rfl rfl) S0 ?_
          simp only [Act.put, List.setIfInBounds_toArray, List.set_cons_zero, List.set_cons_succ]
          refine anyH_one (i := 4) (by kernel_rfl) ?_
          refine op_setNumber rfl (some 24) rfl rfl 20 23 30 36 rfl (.slice (some ⟨w.heap.size + 2, 18, none⟩) 4 46) rfl (.int .u64 (vOf ck).toNat) rfl (setNumber_any (w.heap.size + 2) 18 4 46 59 (vOf ck) (root3 t n s) _ g3 (by rw [(root_lens t n s).2.2.1]; omega) (by omega)) ?_
          rintro e V ⟨⟨v, he⟩, q1, q2, q3⟩
          refine ⟨_, he, (q2 _ (by omega)).trans g1, ?_⟩
          simp only [Act.put, List.setIfInBounds_toArray, List.set_cons_zero, List.set_cons_succ]
          exact wpAnyH_done (by kernel_rfl) ⟨rfl, fill (⟨(q2 _ (by omega)).trans g1, (q2 _ (by omega)).trans g2, (by unfold rootS; rw [hck]; exact q1), Nat.le_trans (by show w.heap.size + 3 ≤ W6.heap.size; omega) q3.size, hb.drew.trans (q3.mono (by omega))⟩) (by kernel_rfl)⟩ _
        case fin6 =>
          rintro a W7 ⟨xx, ⟨g1, g2, g3, hz, hb⟩, rfl⟩
          obtain ⟨Y, hY1, hY2, hY3, hY4, hY5⟩ := run_store_sec infoSecD g2 rfl (root_lens t n s).2.2.2
          have hld := run_load_row (P := Try.prog) (w := W7) infoSecD Try.underlying59 rfl (by rw [secA_size, (root_lens t n s).2.2.2]) g3
          have HL := hide hld
          have HS := hide hY1
          have HE := hide (And.intro hY2 (hb.trans (hY5.mono (by omega))))
          clear hld hY1 hY2 hY3 hY4 hY5 g1 g2 g3 hb
          go_wp2_with (first | (refine l_load _ HL.out rfl rfl rfl ?_) | (refine l_store _ HS.out rfl rfl rfl rfl ?_; refine stopHere ?_))
          unfold Hid
          go_wp2_with fail
          exact bodyPost_ret (results_cell_row rfl _ _ _ _ _ _ _ rfl HE.out.1 Try.underlying59 rfl (by rw [secA_size, (root_lens t n s).2.2.2]; kernel_rfl)) rfl ⟨rfl, HE.out.2⟩
end Go.Proofs.Ytfknjmfkkaoggaa
