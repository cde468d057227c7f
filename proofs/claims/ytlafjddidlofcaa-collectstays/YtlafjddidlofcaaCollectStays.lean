/- CollectStays. -/
import Derived.Test.YtlafjddidlofcaaCollectUndoes
import Derived.Test.YtlafjddidlofcaaCE
namespace Go.Proofs.Ytlafjddidlofcaa
open Go.RowKit Go.Shelf

/-- Pairs of bytes that are read. -/
def PrMem (n₀ : Nat) (w : World) (ao : Option Addr) (l : List (UInt8 × UInt8)) : Prop := l.length ≤ 9223372036854775807 ∧ ∀ (j : Nat) (c : UInt8 × UInt8), l[j]? = some c → ∃ b o, ao = some ⟨b, o, none⟩ ∧ b < n₀ ∧ w.cell? ⟨b, o + j * 2, none⟩ = some (.int .u8 c.1.toNat) ∧ w.cell? ⟨b, o + j * 2 + 1, none⟩ = some (.int .u8 c.2.toNat)
theorem PrMem.below {n₀ : Nat} {w w' : World} {ao : Option Addr} {l : List (UInt8 × UInt8)} (h : PrMem n₀ w ao l) (hb : Below n₀ w w') : PrMem n₀ w' ao l := ⟨h.1, fun j c hj => by
  obtain ⟨b, o, e1, e2, c0, c1⟩ := h.2 j c hj
  exact ⟨b, o, e1, e2, (hb.cell (p := ⟨b, _, none⟩) e2).trans c0, (hb.cell (p := ⟨b, _, none⟩) e2).trans c1⟩⟩
/-- The names: nine letters. -/
def ltr (n : Nat) : ByteArray := ⟨#[UInt8.ofNat (97 + n)]⟩
def letters : List ByteArray := (List.range 9).map ltr
theorem ltr_mem (n : Nat) : ltr (n % 9) ∈ letters := List.mem_map.2 ⟨n % 9, List.mem_range.2 (Nat.mod_lt _ (by omega)), rfl⟩
theorem ltr_some (n : Nat) : (ltr n).toList.isEmpty = false := by rw [Lib.toList_data]; rfl
theorem info5 : (Try.prog.info? 5).map (fun i => (i.zero, i.size, i.bytes)) = some (some (.int .u8 0), 1, 1) := by kernel_rfl
theorem run_bs1 (x : Int) (w : World) : (Instr.buildSlice 40 1 #[(0, .int .u8 x)]).run Try.prog w = .ok (.slice (some ⟨w.heap.size, 0, none⟩) 1 1) (w.alloc (.cells #[.int .u8 x] 5)) := by
  obtain ⟨ti, t1, t2, t3, t4⟩ := info_parts info5
  unfold Instr.buildSlice
  simp only [Sem.run_bind, run_underlying Try.underlying40, Result.andThen_ok]
  simp [sizeOf, zeroValue, typeInfo, t1, t2, t3, newRow, Value.cells, Instr.fill, Array.range_succ]
  rw [show Array.range 0 = #[] from rfl]
  simp
theorem conv_ltr {w : World} {b n : Nat} (hn : n < 9) (h : w.heap[b]? = some (.cells #[.int .u8 ((97 + n : Nat) : Int)] 5)) : (convert 40 9 (.slice (some ⟨b, 0, none⟩) 1 1)).run Try.prog w = .ok (.string (ltr n)) w := by
  have hx := run_convert_bytes_back (P := Try.prog) w 40 9 5 ⟨b, 0, none⟩ 1 [UInt8.ofNat (97 + n)] Try.underlying40 Try.underlying5 Try.underlying9 (fun j hj => by
    match j, hj with
    | 0, _ =>
      simp [Addr.add, World.cell?, h]
      omega)
  exact hx
theorem ex_conv {o : Oper} {a : Act} {w : World} {x : Operand} {u v : Value} {t t' : TypeId} (ho : o.op = .convert t t' x) (hx : a.eval x = u) (hr : (convert t t' u).run Try.prog w = .ok v w) : (execOp a.eval o).run Try.prog w = .ok (.value v) w := by
  unfold execOp
  simp [ho, hx, hr]
theorem ex_pairAt {o : Oper} {a : Act} {w : World} {x y : Operand} {b off m cap k : Nat} (ho : o.op = .indexAddr 38 x y) (hx : a.eval x = .slice (some ⟨b, off, none⟩) m cap) (hy : a.eval y = .int .i64 k) (hk : k < m) : (execOp a.eval o).run Try.prog w = .ok (.value (.pointer (some ⟨b, off + k * 2, none⟩))) w := by
  have hk1 : (k : Int) < m := by omega
  unfold execOp
  simp only [ho, hx, hy]
  go_simp
theorem ex_half0 {o : Oper} {a : Act} {w : World} {x y : Operand} {b off : Nat} (ho : o.op = .indexAddr 39 x y) (hy : a.eval y = .int .i64 0) (hx : a.eval x = .pointer (some ⟨b, off, none⟩)) : (execOp a.eval o).run Try.prog w = .ok (.value (.pointer (some ⟨b, off, none⟩))) w := by
  unfold execOp
  simp only [ho, hx, hy]
  go_simp
theorem ex_half1 {o : Oper} {a : Act} {w : World} {x y : Operand} {b off : Nat} (ho : o.op = .indexAddr 39 x y) (hy : a.eval y = .int .i64 1) (hx : a.eval x = .pointer (some ⟨b, off, none⟩)) : (execOp a.eval o).run Try.prog w = .ok (.value (.pointer (some ⟨b, off + 1, none⟩))) w := by
  unfold execOp
  simp only [ho, hx, hy]
  go_simp
theorem ex_rem9 {o : Oper} {a : Act} {w : World} {x y : Operand} {c : UInt8} (ho : o.op = .binOp .rem 5 x y 5) (hy : a.eval y = .int .u8 9) (hx : a.eval x = .int .u8 c.toNat) : (execOp a.eval o).run Try.prog w = .ok (.value (.int .u8 ((c.toNat % 9 : Nat) : Int))) w := by
  unfold execOp
  simp only [ho, hx, hy]
  go_simp
  rw [Int.tmod_eq_emod_of_nonneg (by omega)]
theorem ex_plus97 {o : Oper} {a : Act} {w : World} {x y : Operand} {n : Nat} (hn : n < 9) (ho : o.op = .binOp .add 5 y x 5) (hy : a.eval y = .int .u8 97) (hx : a.eval x = .int .u8 n) : (execOp a.eval o).run Try.prog w = .ok (.value (.int .u8 ((97 + n : Nat) : Int))) w := by
  have h1 : IntKind.u8.wrap (97 + (n : Int)) = ((97 + n : Nat) : Int) := by
    rw [IntKind.wrap_u8]
    omega
  unfold execOp
  simp only [ho, hx, hy]
  go_simp
/-- Edges among nine names are few. -/
theorem few_letters {L : List Pr} (hr : Rising L) (hk : ∀ x ∈ L, x.1 ∈ letters) : L.length ≤ 9 := by
  have h1 : (L.map (·.1)).Nodup := by
    rw [List.Nodup, List.pairwise_map]
    refine List.Pairwise.imp (R := fun x y => kb x < kb y) ?_ hr
    intro a b h (e : a.1 = b.1)
    unfold kb at h
    rw [e] at h
    exact str_irrefl _ h
  have := nodup_le (B := letters) h1 (fun c hc => by
    obtain ⟨x, hx, rfl⟩ := List.mem_map.1 hc
    exact hk x hx)
  simpa [letters] using this
set_option maxRecDepth 100000 in
set_option maxHeartbeats 8000000 in
theorem collectStays_any (ao : Option Addr) (cap : Nat) (ps : List (UInt8 × UInt8)) (w : World) (hm : PrMem w.heap.size w ao ps) :
    Calls Try.prog 5 #[.slice ao ps.length cap] w fun e w' => e = .returned (.bool true) ∧ Below w.heap.size w w' := by
  have hlen := hm.1
  have HLV := hide fun V => live_any V
  obtain ⟨m, hml⟩ : ∃ m, ps.length = m := ⟨_, rfl⟩
  have HM := hide (And.intro hm hml)
  rw [hml] at hlen ⊢
  clear hm hml
  go_enter Try.func5, Try.ntmps5
  go_wp2_with fail
  go_loopw [3, 4] (fun v i wr => ∃ (k : Nat) (oa : Option Addr) (n c : Nat) (L : List Pr), k ≤ m ∧ k ≤ 60 ∧ i = .int .i64 k ∧ v = .slice oa n c ∧ L.length = n ∧ n ≤ c ∧ c ≤ maxLen ∧ EdMem wr.heap.size wr oa L ∧ RightE L ∧ (∀ x ∈ L, x.1 ∈ letters) ∧ Below w.heap.size w wr) (fun _ i _ => 60 - (intOf i).toNat)
  case atStart => exact ⟨0, none, 0, 0, [], Nat.zero_le _, Nat.zero_le _, rfl, rfl, rfl, Nat.le_refl _, by simp, ⟨by simp, fun k x h => by simp at h⟩, right_nil, fun x hx => by simp at hx, Below.refl _ _⟩
  case round =>
    obtain ⟨k, oa, n, c, L, hk, hk60, rfl, rfl, hn, hnc, hcm, hE, hR, hlt9, hbw⟩ := hrel
    have hw1 : IntKind.i64.wrap ((k : Int) + 1) = k + 1 := by rw [IntKind.wrap_i64]; omega
    by_cases hlt : k < m ∧ k < 60
    · have hlti : (k : Int) < m := by omega
      have h60 : (k : Int) < 60 := by omega
      obtain ⟨x, hx⟩ : ∃ x, ps[k]? = some x := ⟨ps[k]'(by have := HM.out.2; omega), by simp⟩
      obtain ⟨b, off, rfl, hbl, _, _⟩ := HM.out.1.2 k x hx
      have HI := hide (And.intro hn (And.intro hnc (And.intro hcm (And.intro hE (And.intro hR (And.intro hlt9 (And.intro hbw hx)))))))
      clear hn hnc hcm hE hR hlt9 hbw hx
      go_wp2_with fail
      obtain ⟨V0, hV0⟩ : ∃ V0, wr.drew = V0 := ⟨_, rfl⟩
      have B0 : Below wr.heap.size wr V0 := by rw [← hV0]; exact (Below.refl _ wr).drew
      have BW : Below w.heap.size w V0 := HI.out.2.2.2.2.2.2.1.trans (B0.mono HI.out.2.2.2.2.2.2.1.size)
      obtain ⟨b', off', e', _, c0, c1⟩ := (HM.out.1.below BW).2 k x HI.out.2.2.2.2.2.2.2
      cases e'
      have hbl0 : b < V0.heap.size := Nat.lt_of_lt_of_le hbl BW.size
      refine region_rel (S := fun W => Below V0.heap.size V0 W) (fun a W => ∃ x21 x22 x23 x24 x25 x26 x27 x28 x29 x30 x31 x32 x33 x34 x35 x36 x37 x38 : Value, Below wr.heap.size wr W ∧ a = { tmps := #[.slice (some ⟨b, off, none⟩) m cap, undef, u2, .slice oa n c, .int .i64 k, .string (ltr (x.1.toNat % 9)), .string (ltr (x.2.toNat % 9)), u7, u8, u9, u10, .int .i64 k, .slice (some ⟨b, off, none⟩) m cap, .int .i64 m, .bool true, .bool true, .int .i64 k, .bool true, .bool true, u19, u20, x21, x22, x23, x24, x25, x26, x27, x28, x29, x30, x31, x32, x33, x34, x35, x36, x37, x38, u39, u40, u41, u42, u43, u44, u45, u46, u47, u48, u49, u50, u51, u52, u53, u54, u55, u56, u57, u58, u59, u60, u61, u62, u63, u64, u65, u66, u67, u68, u69, u70, u71, u72, u73, undef], defers := [] }) (by kernel_rfl) ?reg ?beh
      case reg =>
        rw [hV0]
        have S0 : Below V0.heap.size V0 V0 := Below.refl _ _
        refine anyH_take (i := 0) (v := .slice (some ⟨b, off, none⟩) m cap) rfl (some 21) rfl (by kernel_rfl) (by kernel_rfl) (by kernel_rfl) (fun _ _ _ h => by cases h.1) rfl (fun w0 hw0 => by first | rfl | kernel_rfl) S0 ?_
        simp only [Act.put, List.setIfInBounds_toArray, List.set_cons_zero, List.set_cons_succ]
        refine anyH_take (i := 1) (v := .int .i64 k) rfl (some 22) rfl (by kernel_rfl) (by kernel_rfl) (by kernel_rfl) (fun _ _ _ h => by cases h.1) rfl (fun w0 hw0 => by first | rfl | kernel_rfl) S0 ?_
        simp only [Act.put, List.setIfInBounds_toArray, List.set_cons_zero, List.set_cons_succ]
        refine anyH_take (i := 2) (v := .pointer (some ⟨b, off + k * 2, none⟩)) rfl (some 23) rfl (by kernel_rfl) (by kernel_rfl) (by kernel_rfl) (fun _ _ _ h => by cases h.1) rfl (fun w0 hw0 => ex_pairAt rfl rfl rfl hlt.1) S0 ?_
        simp only [Act.put, List.setIfInBounds_toArray, List.set_cons_zero, List.set_cons_succ]
        refine anyH_take (i := 3) (v := .pointer (some ⟨b, off + k * 2, none⟩)) rfl (some 24) rfl (by kernel_rfl) (by kernel_rfl) (by kernel_rfl) (fun _ _ _ h => by cases h.1) rfl (fun w0 hw0 => ex_half0 rfl rfl rfl) S0 ?_
        simp only [Act.put, List.setIfInBounds_toArray, List.set_cons_zero, List.set_cons_succ]
        refine anyH_take (i := 4) (v := .int .u8 x.1.toNat) rfl (some 25) rfl (by kernel_rfl) (by kernel_rfl) (by kernel_rfl) (fun _ _ _ h => by cases h.1) rfl (fun w0 hw0 => ex_load rfl rfl (run_load_cell Try.underlying5 rfl ((hw0.cell (p := ⟨b, _, none⟩) hbl0).trans c0))) S0 ?_
        simp only [Act.put, List.setIfInBounds_toArray, List.set_cons_zero, List.set_cons_succ]
        refine anyH_take (i := 5) (v := .int .u8 ((x.1.toNat % 9 : Nat) : Int)) rfl (some 26) rfl (by kernel_rfl) (by kernel_rfl) (by kernel_rfl) (fun _ _ _ h => by cases h.1) rfl (fun w0 hw0 => ex_rem9 rfl rfl rfl) S0 ?_
        simp only [Act.put, List.setIfInBounds_toArray, List.set_cons_zero, List.set_cons_succ]
        refine anyH_take (i := 6) (v := .int .u8 ((97 + x.1.toNat % 9 : Nat) : Int)) rfl (some 27) rfl (by kernel_rfl) (by kernel_rfl) (by kernel_rfl) (fun _ _ _ h => by cases h.1) rfl (fun w0 hw0 => ex_plus97 (Nat.mod_lt _ (by omega)) rfl rfl rfl) S0 ?_
        simp only [Act.put, List.setIfInBounds_toArray, List.set_cons_zero, List.set_cons_succ]
        refine anyH_take (i := 9) (v := .slice (some ⟨b, off, none⟩) m cap) rfl (some 30) rfl (by kernel_rfl) (by kernel_rfl) (by kernel_rfl) (fun _ _ _ h => by cases h.1) rfl (fun w0 hw0 => by first | rfl | kernel_rfl) S0 ?_
        simp only [Act.put, List.setIfInBounds_toArray, List.set_cons_zero, List.set_cons_succ]
        refine anyH_take (i := 10) (v := .int .i64 k) rfl (some 31) rfl (by kernel_rfl) (by kernel_rfl) (by kernel_rfl) (fun _ _ _ h => by cases h.1) rfl (fun w0 hw0 => by first | rfl | kernel_rfl) S0 ?_
        simp only [Act.put, List.setIfInBounds_toArray, List.set_cons_zero, List.set_cons_succ]
        refine anyH_take (i := 11) (v := .pointer (some ⟨b, off + k * 2, none⟩)) rfl (some 32) rfl (by kernel_rfl) (by kernel_rfl) (by kernel_rfl) (fun _ _ _ h => by cases h.1) rfl (fun w0 hw0 => ex_pairAt rfl rfl rfl hlt.1) S0 ?_
        simp only [Act.put, List.setIfInBounds_toArray, List.set_cons_zero, List.set_cons_succ]
        refine anyH_take (i := 12) (v := .pointer (some ⟨b, off + k * 2 + 1, none⟩)) rfl (some 33) rfl (by kernel_rfl) (by kernel_rfl) (by kernel_rfl) (fun _ _ _ h => by cases h.1) rfl (fun w0 hw0 => ex_half1 rfl rfl rfl) S0 ?_
        simp only [Act.put, List.setIfInBounds_toArray, List.set_cons_zero, List.set_cons_succ]
        refine anyH_take (i := 13) (v := .int .u8 x.2.toNat) rfl (some 34) rfl (by kernel_rfl) (by kernel_rfl) (by kernel_rfl) (fun _ _ _ h => by cases h.1) rfl (fun w0 hw0 => ex_load rfl rfl (run_load_cell Try.underlying5 rfl ((hw0.cell (p := ⟨b, _, none⟩) hbl0).trans c1))) S0 ?_
        simp only [Act.put, List.setIfInBounds_toArray, List.set_cons_zero, List.set_cons_succ]
        refine anyH_take (i := 14) (v := .int .u8 ((x.2.toNat % 9 : Nat) : Int)) rfl (some 35) rfl (by kernel_rfl) (by kernel_rfl) (by kernel_rfl) (fun _ _ _ h => by cases h.1) rfl (fun w0 hw0 => ex_rem9 rfl rfl rfl) S0 ?_
        simp only [Act.put, List.setIfInBounds_toArray, List.set_cons_zero, List.set_cons_succ]
        refine anyH_take (i := 15) (v := .int .u8 ((97 + x.2.toNat % 9 : Nat) : Int)) rfl (some 36) rfl (by kernel_rfl) (by kernel_rfl) (by kernel_rfl) (fun _ _ _ h => by cases h.1) rfl (fun w0 hw0 => ex_plus97 (Nat.mod_lt _ (by omega)) rfl rfl rfl) S0 ?_
        simp only [Act.put, List.setIfInBounds_toArray, List.set_cons_zero, List.set_cons_succ]
        refine anyH_two (i := 7) (j := 16) (by kernel_rfl) ?_ ?_
        · refine op_run rfl (some 28) rfl rfl (ex_slice (us := #[(0, .int .u8 ((97 + x.1.toNat % 9 : Nat) : Int))]) rfl (by simp [Act.eval]) (run_bs1 _ V0)) ?_
          obtain ⟨V1, hV1⟩ : ∃ W, V0.alloc (.cells #[.int .u8 ((97 + x.1.toNat % 9 : Nat) : Int)] 5) = W := ⟨_, rfl⟩
          have bV1 : Below V0.heap.size V0 V1 := by rw [← hV1]; exact (Below.refl _ V0).alloc (Nat.le_refl _) _
          have fV1 : V1.heap[V0.heap.size]? = some (.cells #[.int .u8 ((97 + x.1.toNat % 9 : Nat) : Int)] 5) := by rw [← hV1]; exact heap_alloc_new V0 _
          rw [hV1]
          refine ⟨bV1, ?_⟩
          simp only [Act.put, List.setIfInBounds_toArray, List.set_cons_zero, List.set_cons_succ]
          refine anyH_more (fun V => Below V1.heap.size V1 V) (fun V hV => bV1.trans (hV.mono bV1.size)) ?_
          have SV1 : Below V1.heap.size V1 V1 := Below.refl _ _
          refine anyH_take (i := 8) (v := .string (ltr (x.1.toNat % 9))) rfl (some 29) rfl (by kernel_rfl) (by kernel_rfl) (by kernel_rfl) (fun _ _ _ h => by cases h.1) rfl (fun w0 hw0 => ex_conv rfl rfl (conv_ltr (Nat.mod_lt _ (by omega)) ((hw0.block V0.heap.size (hp_lt fV1)).trans fV1))) SV1 ?_
          simp only [Act.put, List.setIfInBounds_toArray, List.set_cons_zero, List.set_cons_succ]
          refine anyH_two (i := 16) (j := 18) (by kernel_rfl) ?_ ?_
          · refine op_run rfl (some 37) rfl rfl (ex_slice (us := #[(0, .int .u8 ((97 + x.2.toNat % 9 : Nat) : Int))]) rfl (by simp [Act.eval]) (run_bs1 _ V1)) ?_
            obtain ⟨V2, hV2⟩ : ∃ W, V1.alloc (.cells #[.int .u8 ((97 + x.2.toNat % 9 : Nat) : Int)] 5) = W := ⟨_, rfl⟩
            have bV2 : Below V1.heap.size V1 V2 := by rw [← hV2]; exact (Below.refl _ V1).alloc (Nat.le_refl _) _
            have fV2 : V2.heap[V1.heap.size]? = some (.cells #[.int .u8 ((97 + x.2.toNat % 9 : Nat) : Int)] 5) := by rw [← hV2]; exact heap_alloc_new V1 _
            rw [hV2]
            refine ⟨bV2, ?_⟩
            simp only [Act.put, List.setIfInBounds_toArray, List.set_cons_zero, List.set_cons_succ]
            refine anyH_more (fun V => Below V2.heap.size V2 V) (fun V hV => bV2.trans (hV.mono bV2.size)) ?_
            have SV2 : Below V2.heap.size V2 V2 := Below.refl _ _
            refine anyH_take (i := 17) (v := .string (ltr (x.2.toNat % 9))) rfl (some 38) rfl (by kernel_rfl) (by kernel_rfl) (by kernel_rfl) (fun _ _ _ h => by cases h.1) rfl (fun w0 hw0 => ex_conv rfl rfl (conv_ltr (Nat.mod_lt _ (by omega)) ((hw0.block V1.heap.size (hp_lt fV2)).trans fV2))) SV2 ?_
            simp only [Act.put, List.setIfInBounds_toArray, List.set_cons_zero, List.set_cons_succ]
            refine anyH_val (i := 18) (by kernel_rfl) rfl (some 5) rfl rfl (ex_any rfl rfl) SV2 ?_
            simp only [Act.put, List.setIfInBounds_toArray, List.set_cons_zero, List.set_cons_succ]
            refine anyH_val (i := 19) (by kernel_rfl) rfl (some 6) rfl rfl (ex_any rfl rfl) SV2 ?_
            simp only [Act.put, List.setIfInBounds_toArray, List.set_cons_zero, List.set_cons_succ]
            exact wpAnyH_done (by kernel_rfl) ⟨rfl, _, _, _, _, _, _, _, _, _, _, _, _, _, _, _, _, _, _, B0.trans ((bV1.trans (bV2.mono bV1.size)).mono B0.size), rfl⟩ _
          · refine op_run rfl (some 5) rfl rfl (ex_any rfl rfl) ?_
            refine ⟨SV1, ?_⟩
            simp only [Act.put, List.setIfInBounds_toArray, List.set_cons_zero, List.set_cons_succ]
            refine anyH_one (i := 16) (by kernel_rfl) ?_
            refine op_run rfl (some 37) rfl rfl (ex_slice (us := #[(0, .int .u8 ((97 + x.2.toNat % 9 : Nat) : Int))]) rfl (by simp [Act.eval]) (run_bs1 _ V1)) ?_
            obtain ⟨V2, hV2⟩ : ∃ W, V1.alloc (.cells #[.int .u8 ((97 + x.2.toNat % 9 : Nat) : Int)] 5) = W := ⟨_, rfl⟩
            have bV2 : Below V1.heap.size V1 V2 := by rw [← hV2]; exact (Below.refl _ V1).alloc (Nat.le_refl _) _
            have fV2 : V2.heap[V1.heap.size]? = some (.cells #[.int .u8 ((97 + x.2.toNat % 9 : Nat) : Int)] 5) := by rw [← hV2]; exact heap_alloc_new V1 _
            rw [hV2]
            refine ⟨bV2, ?_⟩
            simp only [Act.put, List.setIfInBounds_toArray, List.set_cons_zero, List.set_cons_succ]
            refine anyH_more (fun V => Below V2.heap.size V2 V) (fun V hV => bV2.trans (hV.mono bV2.size)) ?_
            have SV2 : Below V2.heap.size V2 V2 := Below.refl _ _
            refine anyH_take (i := 17) (v := .string (ltr (x.2.toNat % 9))) rfl (some 38) rfl (by kernel_rfl) (by kernel_rfl) (by kernel_rfl) (fun _ _ _ h => by cases h.1) rfl (fun w0 hw0 => ex_conv rfl rfl (conv_ltr (Nat.mod_lt _ (by omega)) ((hw0.block V1.heap.size (hp_lt fV2)).trans fV2))) SV2 ?_
            simp only [Act.put, List.setIfInBounds_toArray, List.set_cons_zero, List.set_cons_succ]
            refine anyH_val (i := 19) (by kernel_rfl) rfl (some 6) rfl rfl (ex_any rfl rfl) SV2 ?_
            simp only [Act.put, List.setIfInBounds_toArray, List.set_cons_zero, List.set_cons_succ]
            exact wpAnyH_done (by kernel_rfl) ⟨rfl, _, _, _, _, _, _, _, _, _, _, _, _, _, _, _, _, _, _, B0.trans ((bV1.trans (bV2.mono bV1.size)).mono B0.size), rfl⟩ _
        · refine op_run rfl (some 37) rfl rfl (ex_slice (us := #[(0, .int .u8 ((97 + x.2.toNat % 9 : Nat) : Int))]) rfl (by simp [Act.eval]) (run_bs1 _ V0)) ?_
          obtain ⟨V1, hV1⟩ : ∃ W, V0.alloc (.cells #[.int .u8 ((97 + x.2.toNat % 9 : Nat) : Int)] 5) = W := ⟨_, rfl⟩
          have bV1 : Below V0.heap.size V0 V1 := by rw [← hV1]; exact (Below.refl _ V0).alloc (Nat.le_refl _) _
          have fV1 : V1.heap[V0.heap.size]? = some (.cells #[.int .u8 ((97 + x.2.toNat % 9 : Nat) : Int)] 5) := by rw [← hV1]; exact heap_alloc_new V0 _
          rw [hV1]
          refine ⟨bV1, ?_⟩
          simp only [Act.put, List.setIfInBounds_toArray, List.set_cons_zero, List.set_cons_succ]
          refine anyH_more (fun V => Below V1.heap.size V1 V) (fun V hV => bV1.trans (hV.mono bV1.size)) ?_
          have SV1 : Below V1.heap.size V1 V1 := Below.refl _ _
          refine anyH_take (i := 17) (v := .string (ltr (x.2.toNat % 9))) rfl (some 38) rfl (by kernel_rfl) (by kernel_rfl) (by kernel_rfl) (fun _ _ _ h => by cases h.1) rfl (fun w0 hw0 => ex_conv rfl rfl (conv_ltr (Nat.mod_lt _ (by omega)) ((hw0.block V0.heap.size (hp_lt fV1)).trans fV1))) SV1 ?_
          simp only [Act.put, List.setIfInBounds_toArray, List.set_cons_zero, List.set_cons_succ]
          refine anyH_one (i := 7) (by kernel_rfl) ?_
          refine op_run rfl (some 28) rfl rfl (ex_slice (us := #[(0, .int .u8 ((97 + x.1.toNat % 9 : Nat) : Int))]) rfl (by simp [Act.eval]) (run_bs1 _ V1)) ?_
          obtain ⟨V2, hV2⟩ : ∃ W, V1.alloc (.cells #[.int .u8 ((97 + x.1.toNat % 9 : Nat) : Int)] 5) = W := ⟨_, rfl⟩
          have bV2 : Below V1.heap.size V1 V2 := by rw [← hV2]; exact (Below.refl _ V1).alloc (Nat.le_refl _) _
          have fV2 : V2.heap[V1.heap.size]? = some (.cells #[.int .u8 ((97 + x.1.toNat % 9 : Nat) : Int)] 5) := by rw [← hV2]; exact heap_alloc_new V1 _
          rw [hV2]
          refine ⟨bV2, ?_⟩
          simp only [Act.put, List.setIfInBounds_toArray, List.set_cons_zero, List.set_cons_succ]
          refine anyH_more (fun V => Below V2.heap.size V2 V) (fun V hV => bV2.trans (hV.mono bV2.size)) ?_
          have SV2 : Below V2.heap.size V2 V2 := Below.refl _ _
          refine anyH_take (i := 8) (v := .string (ltr (x.1.toNat % 9))) rfl (some 29) rfl (by kernel_rfl) (by kernel_rfl) (by kernel_rfl) (fun _ _ _ h => by cases h.1) rfl (fun w0 hw0 => ex_conv rfl rfl (conv_ltr (Nat.mod_lt _ (by omega)) ((hw0.block V1.heap.size (hp_lt fV2)).trans fV2))) SV2 ?_
          simp only [Act.put, List.setIfInBounds_toArray, List.set_cons_zero, List.set_cons_succ]
          refine anyH_val (i := 18) (by kernel_rfl) rfl (some 5) rfl rfl (ex_any rfl rfl) SV2 ?_
          simp only [Act.put, List.setIfInBounds_toArray, List.set_cons_zero, List.set_cons_succ]
          refine anyH_val (i := 19) (by kernel_rfl) rfl (some 6) rfl rfl (ex_any rfl rfl) SV2 ?_
          simp only [Act.put, List.setIfInBounds_toArray, List.set_cons_zero, List.set_cons_succ]
          exact wpAnyH_done (by kernel_rfl) ⟨rfl, _, _, _, _, _, _, _, _, _, _, _, _, _, _, _, _, _, _, B0.trans ((bV1.trans (bV2.mono bV1.size)).mono B0.size), rfl⟩ _
      case beh =>
        rintro a W ⟨x21, x22, x23, x24, x25, x26, x27, x28, x29, x30, x31, x32, x33, x34, x35, x36, x37, x38, hB, rfl⟩
        obtain ⟨hn, hnc, hcm, hE, hR, hlt9, hbw, hx⟩ := HI.out
        have hEW := (hE.below hB).more hB.size
        have hBW : Below w.heap.size w W := hbw.trans (hB.mono hbw.size)
        have hmem := ltr_mem x.1.toNat
        have hs1 := ltr_some (x.1.toNat % 9)
        have hs2 := ltr_some (x.2.toNat % 9)
        obtain ⟨s, hs⟩ : ∃ s, ltr (x.1.toNat % 9) = s := ⟨_, rfl⟩
        obtain ⟨t, ht⟩ : ∃ t, ltr (x.2.toNat % 9) = t := ⟨_, rfl⟩
        rw [hs] at hmem hs1
        rw [ht] at hs2
        rw [hs, ht]
        have hbad : ¬ AddBad L s t := fun h => by
          rcases h with h | h | h
          · exact h hR
          · rw [hs1] at h; cases h
          · rw [hs2] at h; cases h
        have hl9 := few_letters hR.2.2.1 hlt9
        have hfull : ¬ (pOf L s = none ∧ 64 ≤ L.length) := fun h => by omega
        by_cases hcyc : AddCyc L s t
        · have HA := hide ((add_any oa c L s t W hEW (by omega) hcm).mono (R' := fun e w' => ∃ ga gc, e = .returned (.tuple #[.slice ga 0 gc, .int .i64 9]) ∧ Below W.heap.size W w') (by
            rintro e w' ⟨v, n', ns, rfl, y1, hr, b1⟩
            obtain ⟨ga, gc, rfl⟩ := own_shape y1
            rcases addR_cases hr with ⟨h, _⟩ | ⟨_, _, rfl, rfl⟩ | ⟨_, h, _⟩ | ⟨_, h, _⟩
            · exact absurd h hbad
            · exact ⟨ga, gc, rfl, b1⟩
            · exact absurd hcyc h
            · exact absurd hcyc h))
          rw [hn] at HA
          have HX := hide (And.intro hEW hBW)
          clear hn hnc hcm hE hR hlt9 hbw hx hEW hBW hmem hs1 hs2 hs ht hbad hl9 hfull hcyc hB
          go_wp2_with (go_at_call 9; refine HA.out.mono ?_; rintro e w3 ⟨ga, gc, rfl, b3⟩)
          go_roundw
          case rel => exact ⟨k + 1, oa, n, c, L, by omega, by omega, by simp, rfl, HI.out.1, HI.out.2.1, HI.out.2.2.1, (HX.out.1.below b3).more b3.size, HI.out.2.2.2.2.1, HI.out.2.2.2.2.2.1, HX.out.2.trans (b3.mono HX.out.2.size)⟩
          case measure => simp [intOf]; omega
        · have hok : AddOk L s t := ⟨hbad, hcyc, hfull⟩
          have hRp := right_put hbad hcyc hfull
          have hpp : pOf (putM L s t) s = some t := by rw [pOf_put hR.2.2.1, if_pos rfl]
          have hlp := hRp.1
          have hlet : ∀ y ∈ putM L s t, y.1 ∈ letters := fun y hy => by
            rcases mem_putM.1 hy with rfl | ⟨hy, _⟩
            · exact hmem
            · exact hlt9 y hy
          have HA := hide (add_ok (cap := c) hEW (by omega) hcm hok)
          rw [hn] at HA
          have HX := hide (And.intro hBW (And.intro hRp (And.intro hpp (And.intro hlp hlet))))
          have hz := txt_eq (rfl : t = t)
          clear hn hnc hcm hE hR hlt9 hbw hx hEW hBW hmem hs1 hs2 hs ht hbad hl9 hfull hcyc hB hok hRp hpp hlp hlet
          go_wp2_with (go_at_call 9; refine HA.out.mono ?_; rintro e w3 ⟨v3, rfl, y3, b3⟩; refine stopHere ?_)
          unfold Hid
          obtain ⟨oa3, c3, rfl, hE3, hc3, hd3⟩ := ed_own y3 (by have := HX.out.2.2.2.1; omega)
          have HRt := hide ((right_any oa3 c3 (putM L s t) w3 hE3).mono (R' := fun e w' => e = .returned (.bool true) ∧ Below w3.heap.size w3 w') (by
            rintro e w' ⟨⟨_, rfl⟩ | ⟨h, _⟩, b⟩
            · exact ⟨rfl, b⟩
            · exact absurd HX.out.2.1 h))
          have HPt := hide fun (V : World) (hV : EdMem V.heap.size V oa3 (putM L s t)) => (parent_is (cap := c3) hV ⟨HX.out.2.1, t, HX.out.2.2.1⟩).mono (R' := fun e w' => e = .returned (.tuple #[.string t, .bool true]) ∧ Below V.heap.size V w') (by
            rintro e w' ⟨⟨p, hp, rfl⟩, b⟩
            rw [HX.out.2.2.1] at hp
            cases hp
            exact ⟨rfl, b⟩)
          obtain ⟨n3, hn3⟩ : ∃ n3, (putM L s t).length = n3 := ⟨_, rfl⟩
          rw [hn3] at HRt HPt hc3 ⊢
          have HE3 := hide (And.intro hE3 (And.intro hc3 (And.intro hd3 (And.intro hn3 (HX.out.1.trans (b3.mono HX.out.1.size))))))
          clear y3 b3 hE3 hc3 hd3 hn3 HA
          go_wp2_with (first
            | (go_at_call 15; refine HRt.out.mono ?_; rintro e w4 ⟨rfl, b4⟩; have H4 := hide b4; clear b4)
            | (go_at_call 17; refine (HPt.out w4 ((HE3.out.1.below H4.out).more H4.out.size)).mono ?_; rintro e w5 ⟨rfl, b5⟩))
          have B5 : Below w3.heap.size w3 w5 := H4.out.trans (b5.mono H4.out.size)
          obtain ⟨q1, q2, q3, q4, q5⟩ := HE3.out
          go_roundw
          case rel => exact ⟨k + 1, oa3, n3, c3, putM L s t, by omega, by omega, by simp, rfl, q4, q2, q3, (q1.below B5).more B5.size, HX.out.2.1, HX.out.2.2.2.2, q5.trans (B5.mono q5.size)⟩
          case measure => simp [intOf]; omega
    · have HI := hide hbw
      have hcase : ¬ ((k : Int) < m) ∨ ((k : Int) < m ∧ ¬ ((k : Int) < 60)) := by omega
      clear hn hnc hcm hE hR hlt9 hbw hlt
      rcases hcase with h1 | ⟨h1, h2⟩
      · go_wp2_with (go_at_call 13; refine (HLV.out _).mono ?_; rintro e w5 ⟨rfl, b5⟩)
        go_ret
        exact ⟨rfl, HI.out.trans (b5.mono HI.out.size)⟩
      · go_wp2_with (go_at_call 13; refine (HLV.out _).mono ?_; rintro e w5 ⟨rfl, b5⟩)
        go_ret
        exact ⟨rfl, HI.out.trans (b5.mono HI.out.size)⟩
end Go.Proofs.Ytlafjddidlofcaa
