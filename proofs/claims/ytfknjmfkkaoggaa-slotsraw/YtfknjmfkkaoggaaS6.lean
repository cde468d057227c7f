/- Slots: the bytes of a slot. -/
import Derived.Test.YtfknjmfkkaoggaaS5
import Derived.Laws.MakeOwn
namespace Go.Proofs.Ytfknjmfkkaoggaa
open Go.RowKit Go.Shelf

/-- A sector of a slot; so many of them; the bytes. -/
def secAt (d : Dv) (k j : Nat) : Sec := readS d (2 + k * ((d.las.length - 2) / 2) + j)
def rawL (d : Dv) (k : Nat) : Nat → List UInt8
  | 0 => []
  | j + 1 => rawL d k j ++ secAt d k j
def bytL (d : Dv) (k L : Nat) : List UInt8 := (rawL d k ((L + 63) / 64)).take L
theorem secAt_len {d : Dv} (hd : DvOk d) (k j : Nat) : (secAt d k j).length = 64 := readAt_len d hd _ _
theorem rawL_len {d : Dv} (hd : DvOk d) (k : Nat) : ∀ j, (rawL d k j).length = 64 * j
  | 0 => rfl
  | j + 1 => by
    unfold rawL
    rw [List.length_append, rawL_len hd k j, secAt_len hd]
    omega
theorem raw_take {d : Dv} (hd : DvOk d) (k j L : Nat) (h : 64 * j ≤ L) : (rawL d k (j + 1)).take L = (rawL d k j).take L ++ (secAt d k j).take (min 64 (L - 64 * j)) := by
  have hl := rawL_len hd k j
  have hs := secAt_len hd k j
  show (rawL d k j ++ secAt d k j).take L = _
  rw [List.take_append, hl, List.take_of_length_le (by omega : (rawL d k j).length ≤ L)]
  congr 1
  rw [List.take_eq_take_iff]
  omega
theorem infoU8b : (Try.prog.info? 5).map (fun i => (i.zero, i.size, i.bytes)) = some (some (.int .u8 0), 1, 1) := by kernel_rfl
theorem infoH : (Try.prog.info? 79).map (fun i => (i.zero, i.size, i.bytes)) = some (some (.agg #[.pointer none]), 1, 8) := by kernel_rfl
theorem ex_addN {o : Oper} {a : Act} {w : World} {x y : Operand} {m n : Nat} (ho : o.op = .binOp .add 3 x y 3) (hx : a.eval x = .int .i64 m) (hy : a.eval y = .int .i64 n) (h : m + n ≤ 4611686018427387904) : (execOp a.eval o).run Try.prog w = .ok (.value (.int .i64 ((m + n : Nat)))) w := by
  have e : IntKind.i64.wrap ((m : Int) + n) = (m : Int) + n := by rw [IntKind.wrap_i64]; omega
  have e2 : ((m + n : Nat) : Int) = (m : Int) + n := by omega
  unfold execOp
  simp only [ho, hx, hy]
  rw [e2]
  go_simp
theorem ex_subN {o : Oper} {a : Act} {w : World} {x y : Operand} {m n : Nat} (ho : o.op = .binOp .sub 3 x y 3) (hx : a.eval x = .int .i64 m) (hy : a.eval y = .int .i64 n) (h : n ≤ m) (h' : m ≤ 4611686018427387904) : (execOp a.eval o).run Try.prog w = .ok (.value (.int .i64 ((m - n : Nat)))) w := by
  have e : IntKind.i64.wrap ((m : Int) - n) = (m : Int) - n := by rw [IntKind.wrap_i64]; omega
  have e2 : ((m - n : Nat) : Int) = (m : Int) - n := by omega
  unfold execOp
  simp only [ho, hx, hy]
  rw [e2]
  go_simp
theorem ex_min64 {o : Oper} {a : Act} {w : World} {y : Operand} {m : Nat} (ho : o.op = .call { callee := .builtin .min, args := #[.const (.int .i64 64), y], argTypes := #[3, 3] }) (hy : a.eval y = .int .i64 m) : (execOp a.eval o).run Try.prog w = .ok (.value (.int .i64 ((min 64 m : Nat)))) w := by
  have hr : (Builtin.min_ #[3, 3] o.type #[.int .i64 64, .int .i64 m]).run Try.prog w = .ok (.int .i64 ((min 64 m : Nat))) w := by
    rw [run_min_int2]
    by_cases h : (m : Int) < 64
    · rw [if_pos h, show min 64 m = m by omega]
    · rw [if_neg h, show min 64 m = 64 by omega]
      rfl
  have hc : a.eval (.const (.int .i64 64)) = .int .i64 64 := rfl
  simp [execOp, ho, resolve, invoke, builtin, hc, hy, hr, Result.andThen]
theorem ex_lenB {o : Oper} {a : Act} {w : World} {x : Operand} {p : Option Addr} {m cap : Nat} (ho : o.op = .call { callee := .builtin .len, args := #[x], argTypes := #[30] }) (hx : a.eval x = .slice p m cap) : (execOp a.eval o).run Try.prog w = .ok (.value (.int .i64 m)) w := by
  have hr : (Builtin.len_ #[30] o.type #[.slice p m cap]).run Try.prog w = .ok (.int .i64 m) w := by go_simp
  simp [execOp, ho, resolve, invoke, builtin, hx, hr, Result.andThen]
theorem arrSec : Try.prog.arrayLen 59 = 64 := by kernel_rfl
theorem elemSec : Try.prog.elem 59 = 5 := by kernel_rfl
theorem ex_cutS {o : Oper} {a : Act} {w : World} {x y : Operand} {b n : Nat} (ho : o.op = .slice 59 x none (some y) none) (hx : a.eval x = .pointer (some ⟨b, 0, none⟩)) (hy : a.eval y = .int .i64 n) (hn : n ≤ 64) : (execOp a.eval o).run Try.prog w = .ok (.value (.slice (some ⟨b, 0, none⟩) n 64)) w := by
  have hu : Try.prog.underlying 59 = some (.array (Try.prog.arrayLen 59) (Try.prog.elem 59)) := by rw [arrSec, elemSec]; exact undSecD
  have h1 := run_sliceAt_array_h (P := Try.prog) w 59 ⟨b, 0, none⟩ hu .i64 (n : Int) (by omega) (by rw [arrSec]; omega)
  have hz : (Go.sizeOf 5).run Try.prog w = .ok 1 w := by
    obtain ⟨i, i1, i2, i3, i4⟩ := infos infoU8b
    simp [Go.sizeOf, typeInfo, i1, i3]
  rw [elemSec, hz, arrSec] at h1
  unfold execOp
  simp [ho, hx, hy, h1, Result.andThen, slicedAt, Addr.add]
set_option maxRecDepth 100000 in
set_option maxHeartbeats 4000000 in
theorem bytes_any (base p : Nat) (d : Dv) (vl vw : Value) (k L : Nat) (w : World) (h : IsD base p d vl vw w) (hd : DvOk d) (h2 : 4 ≤ d.las.length) (h3 : d.las.length ≤ 4096) (hk : k ≤ 1) (hL : L ≤ (d.las.length - 2) / 2 * 64) :
    Calls Try.prog 75 #[hv p, .int .i64 k, .int .i64 L] w fun e w' => ∃ v, e = .returned v ∧ w'.ownsRow w.heap.size 5 1 v L (Lib.byteCells (bytL d k L)) ∧ Below w.heap.size w w' := by
  obtain ⟨W1, hW1, g1, b1, z1⟩ : ∃ W, w.alloc (.cells #[.pointer (some ⟨p, 0, none⟩)] 79) = W ∧ W.heap[w.heap.size]? = some (.cells #[.pointer (some ⟨p, 0, none⟩)] 79) ∧ Below w.heap.size w W ∧ W.heap.size = w.heap.size + 1 := ⟨_, rfl, World.alloc_heap_new _ _, (Below.refl _ _).alloc (Nat.le_refl _) _, by simp⟩
  obtain ⟨i, i1, i2, i3, i4⟩ := infos infoU8b
  obtain ⟨W2, hmk, hown, hg⟩ := run_makeSlice_owned (P := Try.prog) (w := W1) w.heap.size 30 5 i _ 1 Try.underlying30 i1 i2 i3 .i64 .i64 L (by omega) (by rw [i4]; omega) (by unfold maxLen; omega) (by omega)
  rw [z1] at hown
  have b2 : Below w.heap.size w W2 := b1.grown hg (by omega) (fun g e => by cases e)
  have g2 : W2.heap[w.heap.size]? = some (.cells #[.pointer (some ⟨p, 0, none⟩)] 79) := (hg.block _ (by omega) (fun e => by cases e)).trans g1
  obtain ⟨cn, hcn⟩ : ∃ cn, (L + 63) / 64 = cn := ⟨_, rfl⟩
  have HC := hide (count_any L W2 (by omega))
  rw [hcn] at HC
  have H0 := hide (And.intro hown (And.intro g2 (And.intro b2 (And.intro h (And.intro hd hcn)))))
  clear hown g2 b2 h hg b1 g1 i1 i2 i3 i4 hcn
  unfold hv
  go_enter Try.func75, Try.ntmps75
  go_wp2_with (go_at_call 62; refine HC.out.mono ?_; rintro e w3 ⟨rfl, rfl⟩)
  go_loopw [7, 15] (fun v i wr => ∃ (j : Nat), j ≤ cn ∧ i = .int .i64 j ∧ wr.ownsRow w.heap.size 5 1 v (min (64 * j) L) (Lib.byteCells ((rawL d k j).take L)) ∧ wr.heap[w.heap.size]? = some (.cells #[.pointer (some ⟨p, 0, none⟩)] 79) ∧ Below w.heap.size w wr) (fun _ i _ => cn - (intOf i).toNat)
  case atStart => exact ⟨0, Nat.zero_le _, rfl, by simpa [rawL, Lib.byteCells] using H0.out.1, H0.out.2.1, H0.out.2.2.1⟩
  case round =>
    obtain ⟨j, hj, rfl, hown, g0, gb⟩ := hrel
    have x0 : wr.cell? ⟨w.heap.size, 0, none⟩ = some (.pointer (some ⟨p, 0, none⟩)) := by simp [World.cell?, g0]
    by_cases hlt : j < cn
    · have hlt' : (j : Int) < cn := by omega
      have hjL : 64 * j < L := by have := H0.out.2.2.2.2.2; omega
      rw [show min (64 * j) L = 64 * j by omega] at hown
      obtain ⟨ga, gc, rfl⟩ := own_shape hown
      have HI := hide (And.intro hown (And.intro g0 gb))
      clear hown g0 gb
      go_wp2_with fail
      obtain ⟨V0, hV0⟩ : ∃ V0, wr.drew = V0 := ⟨_, rfl⟩
      obtain ⟨hown, g0, gb⟩ := HI.out
      obtain ⟨_, _, _, hD, hd, hcn⟩ := H0.out
      have D0 : Below wr.heap.size wr V0 := by rw [← hV0]; exact (Below.refl _ _).drew
      have f0 : V0.heap[w.heap.size]? = some (.cells #[.pointer (some ⟨p, 0, none⟩)] 79) := (D0.block _ (hp_lt g0)).trans g0
      have hN : w.heap.size < V0.heap.size := hp_lt f0
      have y0 : V0.cell? ⟨w.heap.size, 0, none⟩ = some (.pointer (some ⟨p, 0, none⟩)) := by simp [World.cell?, f0]
      have gV : Below w.heap.size w V0 := gb.trans (D0.mono gb.size)
      have HFi := hide fun (V : World) (hV : Below V0.heap.size V0 V) => first_any base p d vl vw k V (hD.below (gV.trans (hV.mono gV.size))) h2 h3 hk
      have hjh : j < (d.las.length - 2) / 2 := by omega
      have hkh : k * ((d.las.length - 2) / 2) ≤ (d.las.length - 2) / 2 := by
        rcases (show k = 0 ∨ k = 1 by omega) with rfl | rfl <;> simp
      have HRd := hide fun (V : World) (hV : Below V0.heap.size V0 V) => read_any base p d vl vw ((2 + k * ((d.las.length - 2) / 2)) + j) V (hD.below (gV.trans (hV.mono gV.size))) hd (by omega)
      refine region_rel (S := (fun W => Below V0.heap.size V0 W)) (fun a W => ∃ (b9 : Nat) (x10 x18 x19 x20 x21 x22 x23 x24 x25 x26 x27 x28 : Value), W.heap[b9]? = some (.cells (secA (secAt d k j)) 59) ∧ Below wr.heap.size wr W ∧ a = { tmps := #[.agg #[.pointer (some ⟨p, 0, none⟩)], .int .i64 k, .int .i64 L, .pointer (some ⟨w.heap.size, 0, none⟩), undef, undef, .slice none 0 0, .slice ga (64 * j) gc, .int .i64 j, .pointer (some ⟨b9, 0, none⟩), x10, .int .i64 L, .slice (some ⟨w.heap.size + 1, 0, none⟩) 0 L, .int .i64 L, .int .i64 cn, .int .i64 j, .bool true, .int .i64 j, x18, x19, x20, x21, x22, x23, x24, x25, x26, x27, x28, u29, u30, u31, u32, u33, u34, u35, u36, u37, undef], defers := [] }) (by kernel_rfl) ?reg ?beh
      case reg =>
        rw [hV0]
        have S0 : Below V0.heap.size V0 V0 := Below.refl _ _
        refine anyH_take (i := 0) (v := .pointer (some ⟨w.heap.size, 0, none⟩)) rfl (some 19) rfl (by kernel_rfl) (by kernel_rfl) (by kernel_rfl) (fun _ _ _ h => by cases h.1) rfl (fun w0 hw0 => by first | rfl | kernel_rfl) S0 ?_
        simp only [Act.put, List.setIfInBounds_toArray, List.set_cons_zero, List.set_cons_succ]
        refine anyH_take (i := 1) (v := .pointer (some ⟨p, 0, none⟩)) rfl (some 20) rfl (by kernel_rfl) (by kernel_rfl) (by kernel_rfl) (fun _ _ _ h => by cases h.1) rfl (fun w0 hw0 => ex_load rfl rfl (run_load_cell Try.underlying49 rfl (by rw [hw0.cell (p := ⟨w.heap.size, 0, none⟩) hN]; exact y0))) S0 ?_
        simp only [Act.put, List.setIfInBounds_toArray, List.set_cons_zero, List.set_cons_succ]
        refine anyH_take (i := 2) (v := .agg #[.pointer (some ⟨p, 0, none⟩)]) rfl (some 21) rfl (by kernel_rfl) (by kernel_rfl) (by kernel_rfl) (fun _ _ _ h => by cases h.1) rfl (fun w0 hw0 => ex_load rfl rfl (run_load_row infoH Try.underlying79 rfl rfl ((hw0.block _ hN).trans f0))) S0 ?_
        simp only [Act.put, List.setIfInBounds_toArray, List.set_cons_zero, List.set_cons_succ]
        refine anyH_take (i := 3) (v := .int .i64 k) rfl (some 22) rfl (by kernel_rfl) (by kernel_rfl) (by kernel_rfl) (fun _ _ _ h => by cases h.1) rfl (fun w0 hw0 => by first | rfl | kernel_rfl) S0 ?_
        simp only [Act.put, List.setIfInBounds_toArray, List.set_cons_zero, List.set_cons_succ]
        refine anyH_take (i := 5) (v := .int .i64 j) rfl (some 24) rfl (by kernel_rfl) (by kernel_rfl) (by kernel_rfl) (fun _ _ _ h => by cases h.1) rfl (fun w0 hw0 => by first | rfl | kernel_rfl) S0 ?_
        simp only [Act.put, List.setIfInBounds_toArray, List.set_cons_zero, List.set_cons_succ]
        refine anyH_two (i := 4) (j := 11) (by kernel_rfl) ?_ ?_
        · refine op_call rfl (some 23) rfl rfl #[.agg #[.pointer (some ⟨p, 0, none⟩)], .int .i64 k] rfl (by simp [Act.eval]) (fun _ _ => rfl) (HFi.out V0 S0) ?_
          rintro e V1 ⟨rfl, b1⟩
          have S1 : Below V0.heap.size V0 V1 := S0.trans (b1.mono S0.size)
          refine ⟨_, rfl, S1, ?_⟩
          simp only [Act.put, List.setIfInBounds_toArray, List.set_cons_zero, List.set_cons_succ]
          refine anyH_take (i := 6) (v := .int .i64 (((2 + k * ((d.las.length - 2) / 2)) + j : Nat))) rfl (some 25) rfl (by kernel_rfl) (by kernel_rfl) (by kernel_rfl) (fun _ _ _ h => by cases h.1) rfl (fun w0 hw0 => ex_addN rfl rfl rfl (by omega)) S1 ?_
          simp only [Act.put, List.setIfInBounds_toArray, List.set_cons_zero, List.set_cons_succ]
          refine anyH_two (i := 7) (j := 11) (by kernel_rfl) ?_ ?_
          · refine op_call rfl (some 26) rfl rfl #[.pointer (some ⟨p, 0, none⟩), .int .i64 (((2 + k * ((d.las.length - 2) / 2)) + j : Nat))] rfl (by simp [Act.eval]) (fun _ _ => rfl) (HRd.out V1 S1) ?_
            rintro e V2 ⟨rfl, b2⟩
            have S2 : Below V0.heap.size V0 V2 := S1.trans (b2.mono S1.size)
            refine ⟨_, rfl, S2, ?_⟩
            simp only [Act.put, List.setIfInBounds_toArray, List.set_cons_zero, List.set_cons_succ]
            refine anyH_take (i := 8) (v := .tuple #[.agg (secA (secAt d k j)), .int .i64 0]) rfl (some 18) rfl (by kernel_rfl) (by kernel_rfl) (by kernel_rfl) (fun _ _ _ h => by cases h.1) rfl (fun w0 hw0 => by first | rfl | kernel_rfl) S2 ?_
            simp only [Act.put, List.setIfInBounds_toArray, List.set_cons_zero, List.set_cons_succ]
            refine anyH_take (i := 9) (v := .agg (secA (secAt d k j))) rfl (some 27) rfl (by kernel_rfl) (by kernel_rfl) (by kernel_rfl) (fun _ _ _ h => by cases h.1) rfl (fun w0 hw0 => by first | rfl | kernel_rfl) S2 ?_
            simp only [Act.put, List.setIfInBounds_toArray, List.set_cons_zero, List.set_cons_succ]
            refine anyH_take (i := 10) (v := .int .i64 0) rfl (some 28) rfl (by kernel_rfl) (by kernel_rfl) (by kernel_rfl) (fun _ _ _ h => by cases h.1) rfl (fun w0 hw0 => by first | rfl | kernel_rfl) S2 ?_
            simp only [Act.put, List.setIfInBounds_toArray, List.set_cons_zero, List.set_cons_succ]
            refine anyH_one (i := 11) (by kernel_rfl) ?_
            obtain ⟨V3, hV3⟩ : ∃ V, V2.alloc (.cells (secA sec0) 59) = V := ⟨_, rfl⟩
            have b3 : Below V2.heap.size V2 V3 := by rw [← hV3]; exact (Below.refl _ _).alloc (Nat.le_refl _) _
            have q3 : V3.heap[V2.heap.size]? = some (.cells (secA sec0) 59) := by rw [← hV3]; exact World.alloc_heap_new _ _
            have S3 : Below V0.heap.size V0 V3 := S2.trans (b3.mono S2.size)
            refine op_run rfl (some 9) rfl rfl (ex_alloc rfl (run_alloc_long infoSecD V2)) ?_
            rw [show (Lib.byteCells sec0).toArray = secA sec0 from rfl, hV3]
            refine ⟨S3, ?_⟩
            simp only [Act.put, List.setIfInBounds_toArray, List.set_cons_zero, List.set_cons_succ]
            have qq : V3.heap[V2.heap.size]? = some (.cells (secA sec0) 59) := q3
            obtain ⟨Vz, hst, k1, k2, k3, k4⟩ := run_store_sec infoSecD qq (by rfl) (secAt_len hd k j)
            have Sz : Below V0.heap.size V0 Vz := S3.trans (k4.mono S2.size)
            refine anyH_one (i := 12) (by kernel_rfl) ?_
            refine op_store rfl rfl rfl (ex_store rfl rfl rfl hst) ?_
            refine ⟨Sz, ?_⟩
            simp only [Act.put]
            refine anyH_val (i := 13) (by kernel_rfl) rfl (some 10) rfl rfl (ex_any rfl rfl) Sz ?_
            simp only [Act.put, List.setIfInBounds_toArray, List.set_cons_zero, List.set_cons_succ]
            exact wpAnyH_done (by kernel_rfl) ⟨rfl, V2.heap.size, _, _, _, _, _, _, _, _, _, _, _, _, k1, D0.trans (Sz.mono D0.size), rfl⟩ _
          · obtain ⟨V2, hV2⟩ : ∃ V, V1.alloc (.cells (secA sec0) 59) = V := ⟨_, rfl⟩
            have b2 : Below V1.heap.size V1 V2 := by rw [← hV2]; exact (Below.refl _ _).alloc (Nat.le_refl _) _
            have q2 : V2.heap[V1.heap.size]? = some (.cells (secA sec0) 59) := by rw [← hV2]; exact World.alloc_heap_new _ _
            have S2 : Below V0.heap.size V0 V2 := S1.trans (b2.mono S1.size)
            refine op_run rfl (some 9) rfl rfl (ex_alloc rfl (run_alloc_long infoSecD V1)) ?_
            rw [show (Lib.byteCells sec0).toArray = secA sec0 from rfl, hV2]
            refine ⟨S2, ?_⟩
            simp only [Act.put, List.setIfInBounds_toArray, List.set_cons_zero, List.set_cons_succ]
            refine anyH_one (i := 7) (by kernel_rfl) ?_
            refine op_call rfl (some 26) rfl rfl #[.pointer (some ⟨p, 0, none⟩), .int .i64 (((2 + k * ((d.las.length - 2) / 2)) + j : Nat))] rfl (by simp [Act.eval]) (fun _ _ => rfl) (HRd.out V2 S2) ?_
            rintro e V3 ⟨rfl, b3⟩
            have S3 : Below V0.heap.size V0 V3 := S2.trans (b3.mono S2.size)
            refine ⟨_, rfl, S3, ?_⟩
            simp only [Act.put, List.setIfInBounds_toArray, List.set_cons_zero, List.set_cons_succ]
            refine anyH_take (i := 8) (v := .tuple #[.agg (secA (secAt d k j)), .int .i64 0]) rfl (some 18) rfl (by kernel_rfl) (by kernel_rfl) (by kernel_rfl) (fun _ _ _ h => by cases h.1) rfl (fun w0 hw0 => by first | rfl | kernel_rfl) S3 ?_
            simp only [Act.put, List.setIfInBounds_toArray, List.set_cons_zero, List.set_cons_succ]
            refine anyH_take (i := 9) (v := .agg (secA (secAt d k j))) rfl (some 27) rfl (by kernel_rfl) (by kernel_rfl) (by kernel_rfl) (fun _ _ _ h => by cases h.1) rfl (fun w0 hw0 => by first | rfl | kernel_rfl) S3 ?_
            simp only [Act.put, List.setIfInBounds_toArray, List.set_cons_zero, List.set_cons_succ]
            refine anyH_take (i := 10) (v := .int .i64 0) rfl (some 28) rfl (by kernel_rfl) (by kernel_rfl) (by kernel_rfl) (fun _ _ _ h => by cases h.1) rfl (fun w0 hw0 => by first | rfl | kernel_rfl) S3 ?_
            simp only [Act.put, List.setIfInBounds_toArray, List.set_cons_zero, List.set_cons_succ]
            have qq : V3.heap[V1.heap.size]? = some (.cells (secA sec0) 59) := (b3.block _ (hp_lt q2)).trans q2
            obtain ⟨Vz, hst, k1, k2, k3, k4⟩ := run_store_sec infoSecD qq (by rfl) (secAt_len hd k j)
            have Sz : Below V0.heap.size V0 Vz := S3.trans (k4.mono S1.size)
            refine anyH_one (i := 12) (by kernel_rfl) ?_
            refine op_store rfl rfl rfl (ex_store rfl rfl rfl hst) ?_
            refine ⟨Sz, ?_⟩
            simp only [Act.put]
            refine anyH_val (i := 13) (by kernel_rfl) rfl (some 10) rfl rfl (ex_any rfl rfl) Sz ?_
            simp only [Act.put, List.setIfInBounds_toArray, List.set_cons_zero, List.set_cons_succ]
            exact wpAnyH_done (by kernel_rfl) ⟨rfl, V1.heap.size, _, _, _, _, _, _, _, _, _, _, _, _, k1, D0.trans (Sz.mono D0.size), rfl⟩ _
        · obtain ⟨V1, hV1⟩ : ∃ V, V0.alloc (.cells (secA sec0) 59) = V := ⟨_, rfl⟩
          have b1 : Below V0.heap.size V0 V1 := by rw [← hV1]; exact (Below.refl _ _).alloc (Nat.le_refl _) _
          have q1 : V1.heap[V0.heap.size]? = some (.cells (secA sec0) 59) := by rw [← hV1]; exact World.alloc_heap_new _ _
          have S1 : Below V0.heap.size V0 V1 := S0.trans (b1.mono S0.size)
          refine op_run rfl (some 9) rfl rfl (ex_alloc rfl (run_alloc_long infoSecD V0)) ?_
          rw [show (Lib.byteCells sec0).toArray = secA sec0 from rfl, hV1]
          refine ⟨S1, ?_⟩
          simp only [Act.put, List.setIfInBounds_toArray, List.set_cons_zero, List.set_cons_succ]
          refine anyH_one (i := 4) (by kernel_rfl) ?_
          refine op_call rfl (some 23) rfl rfl #[.agg #[.pointer (some ⟨p, 0, none⟩)], .int .i64 k] rfl (by simp [Act.eval]) (fun _ _ => rfl) (HFi.out V1 S1) ?_
          rintro e V2 ⟨rfl, b2⟩
          have S2 : Below V0.heap.size V0 V2 := S1.trans (b2.mono S1.size)
          refine ⟨_, rfl, S2, ?_⟩
          simp only [Act.put, List.setIfInBounds_toArray, List.set_cons_zero, List.set_cons_succ]
          refine anyH_take (i := 6) (v := .int .i64 (((2 + k * ((d.las.length - 2) / 2)) + j : Nat))) rfl (some 25) rfl (by kernel_rfl) (by kernel_rfl) (by kernel_rfl) (fun _ _ _ h => by cases h.1) rfl (fun w0 hw0 => ex_addN rfl rfl rfl (by omega)) S2 ?_
          simp only [Act.put, List.setIfInBounds_toArray, List.set_cons_zero, List.set_cons_succ]
          refine anyH_one (i := 7) (by kernel_rfl) ?_
          refine op_call rfl (some 26) rfl rfl #[.pointer (some ⟨p, 0, none⟩), .int .i64 (((2 + k * ((d.las.length - 2) / 2)) + j : Nat))] rfl (by simp [Act.eval]) (fun _ _ => rfl) (HRd.out V2 S2) ?_
          rintro e V3 ⟨rfl, b3⟩
          have S3 : Below V0.heap.size V0 V3 := S2.trans (b3.mono S2.size)
          refine ⟨_, rfl, S3, ?_⟩
          simp only [Act.put, List.setIfInBounds_toArray, List.set_cons_zero, List.set_cons_succ]
          refine anyH_take (i := 8) (v := .tuple #[.agg (secA (secAt d k j)), .int .i64 0]) rfl (some 18) rfl (by kernel_rfl) (by kernel_rfl) (by kernel_rfl) (fun _ _ _ h => by cases h.1) rfl (fun w0 hw0 => by first | rfl | kernel_rfl) S3 ?_
          simp only [Act.put, List.setIfInBounds_toArray, List.set_cons_zero, List.set_cons_succ]
          refine anyH_take (i := 9) (v := .agg (secA (secAt d k j))) rfl (some 27) rfl (by kernel_rfl) (by kernel_rfl) (by kernel_rfl) (fun _ _ _ h => by cases h.1) rfl (fun w0 hw0 => by first | rfl | kernel_rfl) S3 ?_
          simp only [Act.put, List.setIfInBounds_toArray, List.set_cons_zero, List.set_cons_succ]
          refine anyH_take (i := 10) (v := .int .i64 0) rfl (some 28) rfl (by kernel_rfl) (by kernel_rfl) (by kernel_rfl) (fun _ _ _ h => by cases h.1) rfl (fun w0 hw0 => by first | rfl | kernel_rfl) S3 ?_
          simp only [Act.put, List.setIfInBounds_toArray, List.set_cons_zero, List.set_cons_succ]
          have qq : V3.heap[V0.heap.size]? = some (.cells (secA sec0) 59) := (b3.block _ (hp_lt ((b2.block _ (hp_lt q1)).trans q1))).trans ((b2.block _ (hp_lt q1)).trans q1)
          obtain ⟨Vz, hst, k1, k2, k3, k4⟩ := run_store_sec infoSecD qq (by rfl) (secAt_len hd k j)
          have Sz : Below V0.heap.size V0 Vz := S3.trans (k4.mono (Nat.le_refl _))
          refine anyH_one (i := 12) (by kernel_rfl) ?_
          refine op_store rfl rfl rfl (ex_store rfl rfl rfl hst) ?_
          refine ⟨Sz, ?_⟩
          simp only [Act.put]
          refine anyH_val (i := 13) (by kernel_rfl) rfl (some 10) rfl rfl (ex_any rfl rfl) Sz ?_
          simp only [Act.put, List.setIfInBounds_toArray, List.set_cons_zero, List.set_cons_succ]
          exact wpAnyH_done (by kernel_rfl) ⟨rfl, V0.heap.size, _, _, _, _, _, _, _, _, _, _, _, _, k1, D0.trans (Sz.mono D0.size), rfl⟩ _
      case beh =>
        rintro a W ⟨b9, x10, x18, x19, x20, x21, x22, x23, x24, x25, x26, x27, x28, f9, hB, rfl⟩
        have hsl := secAt_len hd k j
        obtain ⟨nn, hnn⟩ : ∃ nn, min 64 (L - 64 * j) = nn := ⟨_, rfl⟩
        obtain ⟨i, i1, i2, i3, i4⟩ := infos infoU8b
        have hown' := own_same hown (fun g hg => hB.block g (own_lt hown g hg))
        obtain ⟨v', W', hap, o1, o2, _⟩ := run_append_own (P := Try.prog) W w.heap.size 30 30 5 i _ 1 1 Try.underlying30 i1 i2 i3 i4 rfl (by decide) (.slice ga (64 * j) gc) (64 * j) _ hown' ⟨b9, 0, none⟩ nn 64 (Lib.byteCells ((secAt d k j).take nn)) (by rw [byteCells_len, List.length_take, hsl]; omega) (fun q u hq => by
          have hq' : (Lib.byteCells (secAt d k j))[q]? = some u := by
            rw [Lib.byteCells, List.getElem?_map] at hq ⊢
            rw [List.getElem?_take] at hq
            split at hq
            · exact hq
            · cases hq
          have hc := list_cells (cs := Lib.byteCells (secAt d k j)) (T := 59) f9 q u hq'
          exact hc) (fun u hu => one_bytes _ u hu) (by unfold maxLen; omega) (by omega) (by have := gb.size; have := hB.size; omega)
        have hBw : Below w.heap.size w W := gb.trans (hB.mono gb.size)
        have b1' : Below w.heap.size w W' := hBw.grown o2 (by have := hBw.size; omega) (fun g hg => own_base hown g hg)
        have g1' : W'.heap[w.heap.size]? = some (.cells #[.pointer (some ⟨p, 0, none⟩)] 79) := (o2.block _ (Nat.lt_of_lt_of_le (hp_lt g0) hB.size) (fun e => own_ne0 hown' ((hB.block _ (hp_lt g0)).trans g0) (by decide) _ e.symm rfl)).trans ((hB.block _ (hp_lt g0)).trans g0)
        have hrow : W'.ownsRow w.heap.size 5 1 v' (min (64 * (j + 1)) L) (Lib.byteCells ((rawL d k (j + 1)).take L)) := by
          rw [raw_take hd k j L (by omega), hnn, show min (64 * (j + 1)) L = 64 * j + nn by omega, show Lib.byteCells ((rawL d k j).take L ++ (secAt d k j).take nn) = Lib.byteCells ((rawL d k j).take L) ++ Lib.byteCells ((secAt d k j).take nn) from by simp [Lib.byteCells]]
          exact o1
        have hwj : IntKind.i64.wrap ((j : Int) + 1) = (j : Int) + 1 := by rw [IntKind.wrap_i64]; omega
        have hcj : j + 1 ≤ cn := by omega
        have HJ := hide (And.intro hrow (And.intro g1' (And.intro b1' (And.intro hap (And.intro hnn hjL)))))
        clear hrow g1' b1' hap o1 o2 hown' hBw f9 hB hnn i1 i2 i3 i4 hsl hown g0 gb hD hcn hd HFi HRd D0 f0 hN y0 gV hjh hkh hV0 hjL
        go_wp2_with (first
          | (refine l_val rfl (.int .i64 ((64 * j : Nat))) (ex_lenB rfl rfl) ?_)
          | (refine l_val rfl (.int .i64 ((L - 64 * j : Nat))) (ex_subN rfl rfl rfl (by have := HJ.out.2.2.2.2.2; omega) (by omega)) ?_)
          | (refine l_val rfl (.int .i64 ((min 64 (L - 64 * j) : Nat))) (ex_min64 rfl rfl) ?_; rw [HJ.out.2.2.2.2.1])
          | (refine l_val rfl (.slice (some ⟨b9, 0, none⟩) nn 64) (ex_cutS rfl rfl rfl (by have := HJ.out.2.2.2.2.1; omega)) ?_)
          | (refine l_val rfl v' (ex_append (t := 30) rfl rfl rfl HJ.out.2.2.2.1) ?_))
        exact ⟨⟨j + 1, hcj, by simp, HJ.out.1, HJ.out.2.1, HJ.out.2.2.1⟩, by simp [intOf]; omega⟩
    · obtain rfl : j = cn := by omega
      have hlt' : ¬ ((j : Int) < j) := by omega
      obtain ⟨ga, gc, rfl⟩ := own_shape hown
      have HI := hide (And.intro hown (And.intro g0 gb))
      clear hown g0 gb
      go_wp2_with fail
      go_ret
      refine ⟨_, rfl, ?_, HI.out.2.2⟩
      have h1 := HI.out.1
      rw [show min (64 * j) L = L by have := H0.out.2.2.2.2.2; omega] at h1 ⊢
      unfold bytL
      rw [H0.out.2.2.2.2.2]
      exact h1
end Go.Proofs.Ytfknjmfkkaoggaa
