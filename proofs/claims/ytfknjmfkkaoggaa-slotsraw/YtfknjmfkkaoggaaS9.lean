/- Slots: the sectors of bytes, one by one. -/
import Derived.Test.YtfknjmfkkaoggaaS8
import Derived.Test.YtfknjmfkkaoggaaRangeE
import Derived.Laws.CopyRow
namespace Go.Proofs.Ytfknjmfkkaoggaa
open Go.RowKit Go.Shelf
attribute [local go_sem] Oper.semAt_some

/-- A sector of bytes; what the last one has left is 0. -/
def secOf (l : List UInt8) (k : Nat) : Sec := (l.drop (64 * k)).take 64 ++ List.replicate (64 - ((l.drop (64 * k)).take 64).length) 0
theorem secOf_len (l : List UInt8) (k : Nat) : (secOf l k).length = 64 := by
  unfold secOf
  rw [List.length_append, List.length_replicate, List.length_take]
  omega
theorem sec_row (x : List UInt8) (_h : x.length ≤ 64) : ((secA sec0).toList.take 0 ++ Lib.byteCells x ++ (secA sec0).toList.drop (0 + (Lib.byteCells x).length)).toArray = secA (x ++ List.replicate (64 - x.length) 0) := by
  have h0 : (secA sec0).toList = List.replicate 64 (Value.int .u8 (0 : UInt8).toNat) := by
    show Lib.byteCells (List.replicate 64 0) = _
    unfold Lib.byteCells
    rw [List.map_replicate]
  have h1 : Lib.byteCells (x ++ List.replicate (64 - x.length) 0) = Lib.byteCells x ++ List.replicate (64 - x.length) (Value.int .u8 (0 : UInt8).toNat) := by
    unfold Lib.byteCells
    rw [List.map_append, List.map_replicate]
  rw [h0, byteCells_len, List.drop_replicate, List.take_zero, List.nil_append, Nat.zero_add]
  unfold secA
  rw [h1]
/-- The block of the bytes. -/
def bsR (ba : Option Addr) (l : List UInt8) : Blk := fun j => l ≠ [] ∧ ∃ o, ba = some ⟨j, o, none⟩
theorem ex_mul64 {o : Oper} {a : Act} {w : World} {x : Operand} {k : Nat} (ho : o.op = .binOp .mul 3 x (.const (.int .i64 64)) 3) (hx : a.eval x = .int .i64 k) (hk : k ≤ 1000000) : (execOp a.eval o).run Try.prog w = .ok (.value (.int .i64 ((64 * k : Nat)))) w := by
  have e : IntKind.i64.wrap ((k : Int) * 64) = (k : Int) * 64 := by rw [IntKind.wrap_i64]; omega
  have e2 : ((64 * k : Nat) : Int) = (k : Int) * 64 := by omega
  unfold execOp
  simp only [ho, hx]
  rw [e2]
  go_simp
theorem ex_from {o : Oper} {a : Act} {w : World} {x y : Operand} {b off m cap k : Nat} (ho : o.op = .slice 30 x (some y) none none) (hx : a.eval x = .slice (some ⟨b, off, none⟩) m cap) (hy : a.eval y = .int .i64 k) (hk : k < m) (hc : m ≤ cap) : (execOp a.eval o).run Try.prog w = .ok (.value (.slice (some ⟨b, off + k, none⟩) (m - k) (cap - k))) w := by
  have hel : Try.prog.elem 30 = 5 := by kernel_rfl
  have hu : Try.prog.underlying 30 = some (.slice (Try.prog.elem 30)) := by rw [hel]; exact Try.underlying30
  have h1 := run_slice_l (P := Try.prog) (w := w) 30 (some ⟨b, off, none⟩) m cap hu .i64 (k : Int) (by omega) (by omega)
  have hz : (Go.sizeOf 5).run Try.prog w = .ok 1 w := by
    obtain ⟨i, i1, i2, i3, i4⟩ := infos infoU8b
    simp [Go.sizeOf, typeInfo, i1, i3]
  rw [hel, hz] at h1
  have h2' := run_sliceAt_slice (P := Try.prog) (w := w) 30 (.slice (some ⟨b, off, none⟩) m cap) (some (.int .i64 k)) none none hu
  rw [h1] at h2'
  have hcap : ¬ cap = k := by omega
  unfold execOp
  simp [ho, hx, hy, h2', Result.andThen, sliced, Addr.add, hcap]
set_option maxRecDepth 100000 in
set_option maxHeartbeats 4000000 in
theorem sectors_seq (n n₀ pb cap ln : Nat) (ba : Option Addr) (l : List UInt8) (w : World) (hbx : w.heap[pb]? = some (.cells #[.slice ba ln cap] 30)) (hB : ByteMem w.heap.size w ba l) (hln : l.length = ln) (hc : ln ≤ cap) (hl : ln ≤ 1000000) (hn : n₀ ≤ pb) :
    SeqKeep Fence.wide n Try.prog 76 #[] #[.pointer (some ⟨pb, 0, none⟩)] (fun k => #[.int .i64 k, .agg (secA (secOf l k))]) n₀ ((ln + 63) / 64) (fun j => j = pb) (bsR ba l) (fun _ => True) w := fun lc J Jx W hW hnw hJ hY h0 => by
  have hro : Fence.wide.round = none := rfl
  have hbW := (hW.block _ (hp_lt hbx)).trans hbx
  have c1 : W.cell? ⟨pb, 0, none⟩ = some (.slice ba ln cap) := by simp [World.cell?, hbW]
  have hBW := hB.below hW
  obtain ⟨cn, hcn⟩ : ∃ cn, (ln + 63) / 64 = cn := ⟨_, rfl⟩
  have HC := hide (count_any ln W (by omega))
  rw [hcn] at HC hY ⊢
  refine callsIn_of_wp Try.func76 rfl trivial ?_ hro
  simp only [Try.ntmps76, List.size_toArray, List.length_cons, List.length_nil, Nat.reduceAdd, Nat.reduceSub, Array.replicate_succ, Array.replicate_zero, List.push_toArray, List.append_toArray, List.nil_append, List.cons_append]
  gi_wp2
  refine ⟨trivial, fun h => by simp [Fence.wide] at h, (callsIn_wide.2 HC.out).mono ?_⟩
  rintro e w3 ⟨rfl, rfl⟩
  gi_wp2_with fail
  gi_loopw [8] (fun i wr => ∃ k : Nat, k ≤ cn ∧ i = .int .i64 k ∧ J (fun j => j = pb) k wr ∧ Below n₀ w3 wr ∧ wr.heap[pb]? = w3.heap[pb]? ∧ ∀ b o, ba = some ⟨b, o, none⟩ → wr.heap[b]? = w3.heap[b]?) (fun i _ => cn - (intOf i).toNat)
  case atStart => exact ⟨0, Nat.zero_le _, rfl, h0, Below.refl _ _, rfl, fun _ _ _ => rfl⟩
  case round =>
    obtain ⟨k, hk, rfl, hJk, hbw, hsB, hby⟩ := hrel
    by_cases hlt : k < cn
    · have hlt' : (k : Int) < cn := by omega
      have hkl : 64 * k < ln := by omega
      obtain ⟨x0, hx0⟩ : ∃ x, l[0]? = some x := ⟨l[0]'(by omega), by simp⟩
      obtain ⟨b, o, rfl, hbn, hcel0⟩ := hBW 0 x0 hx0
      have hbb := hby b o rfl
      have hne : l ≠ [] := fun e => by rw [e] at hx0; cases hx0
      have hb3 : b < w3.heap.size := World.block_lt_of_cell? w3 _ hcel0
      have hblt : b < wr.heap.size := Nat.lt_of_lt_of_le hb3 hbw.size
      gi_wp2_with (refine i_alloc _ infoSecD rfl rfl ?_)
      obtain ⟨W1, hW1⟩ : ∃ W1, wr.alloc (.cells (secA sec0) 59) = W1 := ⟨_, rfl⟩
      rw [show (Lib.byteCells sec0).toArray = secA sec0 from rfl, hW1]
      have q1 : W1.heap[wr.heap.size]? = some (.cells (secA sec0) 59) := by rw [← hW1]; exact World.alloc_heap_new _ _
      have b1 : Below wr.heap.size wr W1 := by rw [← hW1]; exact (Below.refl _ _).alloc (Nat.le_refl _) _
      obtain ⟨V0, hV0⟩ : ∃ V0, W1.drew = V0 := ⟨_, rfl⟩
      have qV : V0.heap[wr.heap.size]? = some (.cells (secA sec0) 59) := by rw [← hV0]; exact q1
      have bV : Below wr.heap.size wr V0 := by rw [← hV0]; exact b1.drew
      have hpw : pb < wr.heap.size := by
        have h1 : wr.heap[pb]? = some (.cells #[.slice (some ⟨b, o, none⟩) ln cap] 30) := hsB.trans hbW
        exact hp_lt h1
      have S0 : V0.heap[pb]? = some (.cells #[.slice (some ⟨b, o, none⟩) ln cap] 30) := (bV.block _ hpw).trans (hsB.trans hbW)
      obtain ⟨cs, hcs⟩ : ∃ cs, Lib.byteCells ((l.drop (64 * k)).take 64) = cs := ⟨_, rfl⟩
      have hcl : cs.length = Nat.min (ln - 64 * k) 64 := by
        rw [← hcs, byteCells_len, List.length_take, List.length_drop, hln, Nat.min_comm]
      have hmin : Nat.min (ln - 64 * k) 64 ≤ 64 := Nat.min_le_right _ _
      have hnr : n₀ ≤ wr.heap.size := Nat.le_trans (Nat.le_trans hnw hW.size) hbw.size
      have hcp := run_copy_row (P := Try.prog) V0 30 30 3 5 wr.heap.size 0 64 64 ⟨b, o + 64 * k, none⟩ (ln - 64 * k) (cap - 64 * k) (secA sec0) 59 cs Try.underlying30 (by kernel_rfl) qV hcl (fun q u hq => by
        rw [← hcs, Lib.byteCells, List.getElem?_map] at hq
        cases hqc : ((l.drop (64 * k)).take 64)[q]? with
        | none => rw [hqc] at hq; cases hq
        | some c =>
          rw [hqc] at hq
          cases hq
          have hlq : l[64 * k + q]? = some c := by
            rw [List.getElem?_take] at hqc
            split at hqc
            · rw [List.getElem?_drop] at hqc
              exact hqc
            · cases hqc
          obtain ⟨b', o', e', _, hcell⟩ := hBW (64 * k + q) c hlq
          cases e'
          have hc1 : V0.cell? ⟨b, o + (64 * k + q), none⟩ = some (.int .u8 c.toNat) := by
            rw [← hcell]
            simp [World.cell?, (bV.block _ hblt).trans hbb]
          have e : (⟨b, o + 64 * k, none⟩ : Addr).add q = ⟨b, o + (64 * k + q), none⟩ := by
            unfold Addr.add
            by_cases hq0 : q = 0 <;> simp [hq0, Nat.add_assoc]
          rw [e]
          exact hc1) (by rw [secA_size]; show 0 + cs.length ≤ 64; omega) (fun v hv => by rw [← hcs] at hv; exact one_bytes _ v hv)
      obtain ⟨VZ, hVZ⟩ : ∃ VZ, V0.setRow wr.heap.size (secA (secOf l k)) = VZ := ⟨_, rfl⟩
      rw [show ((secA sec0).toList.take 0 ++ cs ++ (secA sec0).toList.drop (0 + cs.length)).toArray = secA (secOf l k) from by rw [← hcs]; exact sec_row _ (by rw [List.length_take]; omega), hVZ] at hcp
      have qZ : VZ.heap[wr.heap.size]? = some (.cells (secA (secOf l k)) 59) := by rw [← hVZ]; exact setRow_heap V0 _ _ _ _ _ qV
      have bZ : Below wr.heap.size wr VZ := by rw [← hVZ]; exact below_row bV (Nat.le_refl _) _
      have S1 : VZ.heap[pb]? = some (.cells #[.slice (some ⟨b, o, none⟩) ln cap] 30) := (bZ.block _ hpw).trans (hsB.trans hbW)
      refine region_cut ({ tmps := #[.func (.yield lc) #[] #[], .pointer (some ⟨pb, 0, none⟩), undef, .int .i64 k, .pointer (some ⟨wr.heap.size, 0, none⟩), .slice (some ⟨b, o, none⟩) ln cap, .int .i64 ln, .int .i64 cn, .int .i64 k, .bool true, .int .i64 k, .slice (some ⟨wr.heap.size, 0, none⟩) 64 64, .slice (some ⟨b, o, none⟩) ln cap, .int .i64 k, .int .i64 ((64 * k : Nat)), .slice (some ⟨b, o + 64 * k, none⟩) (ln - 64 * k) (cap - 64 * k), .int .i64 ((cs.length : Nat)), u17, u18, u19, u20, u21, u22], defers := [] } : Act) VZ ?reg ?beh
      case reg =>
        refine region_rel (S := fun W => W.heap[pb]? = some (.cells #[.slice (some ⟨b, o, none⟩) ln cap] 30)) (fun a W => a = ({ tmps := #[.func (.yield lc) #[] #[], .pointer (some ⟨pb, 0, none⟩), undef, .int .i64 k, .pointer (some ⟨wr.heap.size, 0, none⟩), .slice (some ⟨b, o, none⟩) ln cap, .int .i64 ln, .int .i64 cn, .int .i64 k, .bool true, .int .i64 k, .slice (some ⟨wr.heap.size, 0, none⟩) 64 64, .slice (some ⟨b, o, none⟩) ln cap, .int .i64 k, .int .i64 ((64 * k : Nat)), .slice (some ⟨b, o + 64 * k, none⟩) (ln - 64 * k) (cap - 64 * k), .int .i64 ((cs.length : Nat)), u17, u18, u19, u20, u21, u22], defers := [] } : Act) ∧ W = VZ) (by kernel_rfl) ?rg (fun a W h => ⟨rfl, h.1, h.2⟩)
        case rg =>
          rw [hV0]
          simp only [Act.put, List.setIfInBounds_toArray, List.set_cons_zero, List.set_cons_succ]
          refine anyH_take (i := 0) (v := .slice (some ⟨wr.heap.size, 0, none⟩) 64 64) rfl (some 11) rfl (by kernel_rfl) (by kernel_rfl) (by kernel_rfl) (fun _ _ _ h => by cases h.1) rfl (fun w0 hw0 => by first | rfl | kernel_rfl) S0 ?_
          simp only [Act.put, List.setIfInBounds_toArray, List.set_cons_zero, List.set_cons_succ]
          refine anyH_take (i := 1) (v := .slice (some ⟨b, o, none⟩) ln cap) rfl (some 12) rfl (by kernel_rfl) (by kernel_rfl) (by kernel_rfl) (fun _ _ _ h => by cases h.1) rfl (fun w0 hw0 => ex_load rfl rfl (run_load_cell Try.underlying30 rfl (by simp [World.cell?, hw0]))) S0 ?_
          simp only [Act.put, List.setIfInBounds_toArray, List.set_cons_zero, List.set_cons_succ]
          refine anyH_take (i := 2) (v := .int .i64 k) rfl (some 13) rfl (by kernel_rfl) (by kernel_rfl) (by kernel_rfl) (fun _ _ _ h => by cases h.1) rfl (fun w0 hw0 => by first | rfl | kernel_rfl) S0 ?_
          simp only [Act.put, List.setIfInBounds_toArray, List.set_cons_zero, List.set_cons_succ]
          refine anyH_take (i := 3) (v := .int .i64 ((64 * k : Nat))) rfl (some 14) rfl (by kernel_rfl) (by kernel_rfl) (by kernel_rfl) (fun _ _ _ h => by cases h.1) rfl (fun w0 hw0 => ex_mul64 rfl rfl (by omega)) S0 ?_
          simp only [Act.put, List.setIfInBounds_toArray, List.set_cons_zero, List.set_cons_succ]
          refine anyH_take (i := 4) (v := .slice (some ⟨b, o + 64 * k, none⟩) (ln - 64 * k) (cap - 64 * k)) rfl (some 15) rfl (by kernel_rfl) (by kernel_rfl) (by kernel_rfl) (fun _ _ _ h => by cases h.1) rfl (fun w0 hw0 => ex_from rfl rfl rfl (by omega) hc) S0 ?_
          simp only [Act.put, List.setIfInBounds_toArray, List.set_cons_zero, List.set_cons_succ]
          refine anyH_val (i := 5) (by kernel_rfl) rfl (some 16) rfl rfl (ex_copy rfl rfl rfl hcp) S1 ?_
          simp only [Act.put, List.setIfInBounds_toArray, List.set_cons_zero, List.set_cons_succ]
          exact wpAnyH_done (by kernel_rfl) ⟨rfl, rfl, rfl⟩ _
      case beh =>
        have hlo := run_load_row (P := Try.prog) infoSecD undSecD rfl ((secA_size _).trans (secOf_len l k)) qZ
        have hfin := (hY (fun j => j = pb) k VZ (hJ _ _ _ _ _ hJk (bZ.mono hnr) (fun j hj _ => bZ.block j hj) (fun _ _ h => h)) hlt (fun j hj => by
          subst hj
          exact ⟨hn, _, S1, trivial⟩)).mono (R' := fun e W6 => (e = .returned (.bool true) ∧ J (fun j => j = pb) (k + 1) W6 ∧ Below n₀ w3 W6 ∧ W6.heap[pb]? = w3.heap[pb]? ∧ W6.heap[b]? = w3.heap[b]?) ∨ (e = .returned (.bool false) ∧ Jx (k + 1) W6)) (by
          rintro e W6 (⟨rfl, h1, h2, h4, h3⟩ | h)
          · exact .inl ⟨rfl, h1, hbw.trans ((bZ.mono hnr).trans h3), (h2 pb rfl).trans ((bZ.block _ hpw).trans hsB), (h4 b ⟨hne, o, rfl⟩).trans ((bZ.block _ hblt).trans hbb)⟩
          · exact .inr h)
        obtain ⟨fn, tmps, assign, body, hy, hR⟩ := hfin
        have HLO := hide hlo
        have HRR := hide hR
        clear hR hlo hY hJk hbw hsB hby hbb hcel0 hbn hblt hb3 bZ qZ S1 S0 hcp hVZ hcs hcl hmin hpw bV qV b1 q1 hV0 hW1 hJ h0 hBW hbW
        gi_wp2_with (refine i_load _ HLO.out rfl rfl rfl ?_)
        refine ⟨fun h => by simp [Fence.wide] at h, HRR.out.mono ?_⟩
        rintro e W6 (⟨rfl, j1, j2, j3, j4⟩ | ⟨rfl, j1⟩)
        · gi_wp2_with fail
          go_roundw
          case rel => exact ⟨k + 1, by omega, by simp, j1, j2, j3, fun b' o' e' => by cases e'; exact j4⟩
          case measure => simp [intOf]; omega
        · gi_wp2_with fail
          refine bodyPost_ret (results_none rfl _ _ _) rfl ?_
          exact ⟨⟨_, rfl⟩, .inr ⟨_, by omega, j1⟩⟩
    · obtain rfl : k = cn := by omega
      have hlt' : ¬ ((k : Int) < k) := by omega
      clear hY hJ
      gi_wp2_with fail
      go_end0
      exact ⟨⟨_, rfl⟩, .inl ⟨_, hJk⟩⟩
end Go.Proofs.Ytfknjmfkkaoggaa
