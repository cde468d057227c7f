/- Slots: a root that is made by hand. -/
import Derived.Test.YtfknjmfkkaoggaaSD
namespace Go.Proofs.Ytfknjmfkkaoggaa
open Go.RowKit Go.Shelf

theorem ex_mulN8 {o : Oper} {a : Act} {w : World} {x y : Operand} {m n : Nat} (ho : o.op = .binOp .mul 3 x y 3) (hx : a.eval x = .int .i64 m) (hy : a.eval y = .int .i64 n) (h : m * n ≤ 4611686018427387904) : (execOp a.eval o).run Try.prog w = .ok (.value (.int .i64 ((m * n : Nat)))) w := by
  have e : IntKind.i64.wrap ((m : Int) * n) = (m : Int) * n := by
    have : ((m * n : Nat) : Int) = (m : Int) * n := Int.natCast_mul m n
    rw [IntKind.wrap_i64]
    omega
  have e2 : ((m * n : Nat) : Int) = (m : Int) * n := Int.natCast_mul m n
  unfold execOp
  simp only [ho, hx, hy]
  rw [e2]
  go_simp
theorem ex_shrV {o : Oper} {a : Act} {w : World} {y z : Operand} {x : V} {m : Nat} (ho : o.op = .binOp .shr 36 y z 3) (hy : a.eval y = .int .u64 x.toNat) (hz : a.eval z = .int .i64 m) (hm : m ≤ 63) : (execOp a.eval o).run Try.prog w = .ok (.value (.int .u64 ((x.toNat / 2 ^ m : Nat)))) w := by
  have h0 : ¬ ((m : Int) < 0) := by omega
  have hx := x.isLt
  have e2 : ((x.toNat / 2 ^ m : Nat) : Int) = (x.toNat : Int) / 2 ^ m := by
    obtain ⟨k, hk⟩ : ∃ k : Nat, 2 ^ m = k := ⟨_, rfl⟩
    have hk' : (2 : Int) ^ m = (k : Int) := by rw [← hk]; exact (Int.natCast_pow 2 m).symm
    rw [hk, hk', Int.natCast_ediv]
  unfold execOp
  simp only [ho, hy, hz]
  rw [e2]
  go_simp
theorem ex_byteV {o : Oper} {a : Act} {w : World} {y : Operand} {x : V} {i : Nat} (ho : o.op = .convert 36 5 y) (hy : a.eval y = .int .u64 ((x.toNat / 2 ^ (8 * i) : Nat))) : (execOp a.eval o).run Try.prog w = .ok (.value (.int .u8 (beByte x i).toNat)) w := by
  have e : IntKind.u8.wrap ((x.toNat / 2 ^ (8 * i) : Nat) : Int) = ((beByte x i).toNat : Int) := by
    show ((x.toNat / 2 ^ (8 * i) : Nat) : Int) % 256 = _
    unfold beByte
    rw [show (UInt8.ofNat (x.toNat / 2 ^ (8 * i))).toNat = x.toNat / 2 ^ (8 * i) % 256 from UInt8.toNat_ofNat']
    rw [Int.natCast_emod]
    rfl
  obtain ⟨m, hm⟩ : ∃ m : Nat, x.toNat / 2 ^ (8 * i) = m := ⟨_, rfl⟩
  rw [hm] at e hy
  have h : (convert 36 5 (.int .u64 m)).run Try.prog w = .ok (.int .u8 (beByte x i).toNat) w := by
    rw [← e]
    go_simp
  unfold execOp
  simp [ho, hy, h]
theorem ex_idxA {o : Oper} {a : Act} {w : World} {y z : Operand} {g n : Nat} (ho : o.op = .indexAddr 57 y z) (hy : a.eval y = .pointer (some ⟨g, 0, none⟩)) (hz : a.eval z = .int .i64 n) (hn : n < 64) : (execOp a.eval o).run Try.prog w = .ok (.value (.pointer (some ⟨g, n, none⟩))) w := by
  have h0 : ¬ ((n : Int) < 0) := by omega
  have h1 : (n : Int) < 64 := by omega
  unfold execOp
  simp only [ho, hy, hz]
  go_simp
set_option maxRecDepth 100000 in
set_option maxHeartbeats 4000000 in
theorem lput_any (g o n : Nat) (T : TypeId) (x : V) (s : List UInt8) (w : World) (hw : w.heap[g]? = some (.cells (secA s) T)) (hl : s.length = 64) (hs : o + n ≤ 64) (hn : n ≤ 8) :
    Calls Try.prog 53 #[.pointer (some ⟨g, 0, none⟩), .int .i64 o, .int .u64 x.toNat, .int .i64 n] w fun e w' => (∃ v, e = .returned v) ∧ (∃ s' : List UInt8, s'.length = 64 ∧ w'.heap[g]? = some (.cells (secA s') T)) ∧ Below g w w' := by
  go_enter Try.func53, Try.ntmps53
  go_wp2_with fail
  go_loopw [8] (fun i wr => ∃ k : Nat, k ≤ n ∧ i = .int .i64 k ∧ (∃ s' : List UInt8, s'.length = 64 ∧ wr.heap[g]? = some (.cells (secA s') T)) ∧ Below g w wr) (fun i _ => n - (intOf i).toNat)
  case atStart => exact ⟨0, Nat.zero_le _, rfl, ⟨s, hl, hw⟩, Below.refl _ _⟩
  case round =>
    obtain ⟨k, hk, rfl, ⟨s', hl', h1⟩, h3⟩ := hrel
    by_cases hp : (k : Int) < n
    · obtain ⟨c, hc⟩ : ∃ c, s'[o + k]? = some c := ⟨_, List.getElem?_eq_getElem (by omega)⟩
      go_wp2_with fail
      obtain ⟨V0, hV0⟩ : ∃ V0, wr.drew = V0 := ⟨_, rfl⟩
      have h1 : V0.heap[g]? = some (.cells (secA s') T) := by rw [← hV0]; exact h1
      have hB0 : Below g w V0 := by rw [← hV0]; exact h3.trans (Below.refl _ _).drew
      have hcell : V0.cell? ⟨g, o + k, none⟩ = some (.int .u8 c.toNat) := by
        simp only [World.cell?, h1]
        exact secA_at _ _ _ hc
      have hfro : V0.frozen? ⟨g, o + k, none⟩ = false := by simp [World.frozen?, h1]
      have hst : (Instr.storeAt 5 (.pointer (some ⟨g, o + k, none⟩)) (.int .u8 (beByte x (n - 1 - k)).toNat)).run Try.prog V0 = .ok () (V0.setCell ⟨g, o + k, none⟩ (.int .u8 (beByte x (n - 1 - k)).toNat)) := by
        go_simp
      refine region_rel (S := fun _ => True) (fun a W => ∃ xx : Nat → Value, ((∃ s' : List UInt8, s'.length = 64 ∧ W.heap[g]? = some (.cells (secA s') T)) ∧ Below g w W) ∧ a = { tmps := #[.pointer (some ⟨g, 0, none⟩), .int .i64 o, .int .u64 x.toNat, .int .i64 n, undef, undef, undef, undef, .int .i64 k, .int .i64 k, .int .i64 n, .bool true, u12, u13, xx 14, xx 15, xx 16, xx 17, xx 18, xx 19, xx 20, xx 21, xx 22, xx 23, xx 24, xx 25, xx 26, xx 27], defers := [] }) (by kernel_rfl) ?any ?fin
      case any =>
        rw [hV0]
        clear hV0
        refine anyH_take (i := 0) (v := .pointer (some ⟨g, 0, none⟩)) rfl (some 14) rfl (by kernel_rfl) (by kernel_rfl) (by kernel_rfl) (fun _ _ _ h => by cases h.1) (by kernel_rfl) (fun w0 hw0 => by first | rfl | kernel_rfl) trivial ?_
        simp only [Act.put, List.setIfInBounds_toArray, List.set_cons_zero, List.set_cons_succ]
        refine anyH_take (i := 1) (v := .int .i64 o) rfl (some 15) rfl (by kernel_rfl) (by kernel_rfl) (by kernel_rfl) (fun _ _ _ h => by cases h.1) (by kernel_rfl) (fun w0 hw0 => by first | rfl | kernel_rfl) trivial ?_
        simp only [Act.put, List.setIfInBounds_toArray, List.set_cons_zero, List.set_cons_succ]
        refine anyH_take (i := 2) (v := .int .i64 k) rfl (some 16) rfl (by kernel_rfl) (by kernel_rfl) (by kernel_rfl) (fun _ _ _ h => by cases h.1) (by kernel_rfl) (fun w0 hw0 => by first | rfl | kernel_rfl) trivial ?_
        simp only [Act.put, List.setIfInBounds_toArray, List.set_cons_zero, List.set_cons_succ]
        refine anyH_take (i := 3) (v := .int .i64 ((o + k : Nat))) rfl (some 17) rfl (by kernel_rfl) (by kernel_rfl) (by kernel_rfl) (fun _ _ _ h => by cases h.1) (by kernel_rfl) (fun _ _ => ex_addN rfl rfl rfl (by omega)) trivial ?_
        simp only [Act.put, List.setIfInBounds_toArray, List.set_cons_zero, List.set_cons_succ]
        refine anyH_take (i := 4) (v := .int .u64 x.toNat) rfl (some 18) rfl (by kernel_rfl) (by kernel_rfl) (by kernel_rfl) (fun _ _ _ h => by cases h.1) (by kernel_rfl) (fun w0 hw0 => by first | rfl | kernel_rfl) trivial ?_
        simp only [Act.put, List.setIfInBounds_toArray, List.set_cons_zero, List.set_cons_succ]
        refine anyH_take (i := 5) (v := .int .i64 n) rfl (some 19) rfl (by kernel_rfl) (by kernel_rfl) (by kernel_rfl) (fun _ _ _ h => by cases h.1) (by kernel_rfl) (fun w0 hw0 => by first | rfl | kernel_rfl) trivial ?_
        simp only [Act.put, List.setIfInBounds_toArray, List.set_cons_zero, List.set_cons_succ]
        refine anyH_take (i := 6) (v := .int .i64 ((n - 1 : Nat))) rfl (some 20) rfl (by kernel_rfl) (by kernel_rfl) (by kernel_rfl) (fun _ _ _ h => by cases h.1) (by kernel_rfl) (fun _ _ => ex_subN (n := 1) rfl rfl rfl (by omega) (by omega)) trivial ?_
        simp only [Act.put, List.setIfInBounds_toArray, List.set_cons_zero, List.set_cons_succ]
        refine anyH_take (i := 7) (v := .int .i64 k) rfl (some 21) rfl (by kernel_rfl) (by kernel_rfl) (by kernel_rfl) (fun _ _ _ h => by cases h.1) (by kernel_rfl) (fun w0 hw0 => by first | rfl | kernel_rfl) trivial ?_
        simp only [Act.put, List.setIfInBounds_toArray, List.set_cons_zero, List.set_cons_succ]
        refine anyH_take (i := 8) (v := .int .i64 ((n - 1 - k : Nat))) rfl (some 22) rfl (by kernel_rfl) (by kernel_rfl) (by kernel_rfl) (fun _ _ _ h => by cases h.1) (by kernel_rfl) (fun _ _ => ex_subN rfl rfl rfl (by omega) (by omega)) trivial ?_
        simp only [Act.put, List.setIfInBounds_toArray, List.set_cons_zero, List.set_cons_succ]
        refine anyH_take (i := 9) (v := .int .i64 ((8 * (n - 1 - k) : Nat))) rfl (some 23) rfl (by kernel_rfl) (by kernel_rfl) (by kernel_rfl) (fun _ _ _ h => by cases h.1) (by kernel_rfl) (fun _ _ => ex_mulN8 (m := 8) rfl rfl rfl (by omega)) trivial ?_
        simp only [Act.put, List.setIfInBounds_toArray, List.set_cons_zero, List.set_cons_succ]
        refine anyH_take (i := 10) (v := .int .u64 ((x.toNat / 2 ^ (8 * (n - 1 - k)) : Nat))) rfl (some 24) rfl (by kernel_rfl) (by kernel_rfl) (by kernel_rfl) (fun _ _ _ h => by cases h.1) (by kernel_rfl) (fun _ _ => ex_shrV rfl rfl rfl (by omega)) trivial ?_
        simp only [Act.put, List.setIfInBounds_toArray, List.set_cons_zero, List.set_cons_succ]
        refine anyH_take (i := 11) (v := .int .u8 (beByte x (n - 1 - k)).toNat) rfl (some 25) rfl (by kernel_rfl) (by kernel_rfl) (by kernel_rfl) (fun _ _ _ h => by cases h.1) (by kernel_rfl) (fun _ _ => ex_byteV rfl rfl) trivial ?_
        simp only [Act.put, List.setIfInBounds_toArray, List.set_cons_zero, List.set_cons_succ]
        refine anyH_take (i := 12) (v := .pointer (some ⟨g, 0, none⟩)) rfl (some 26) rfl (by kernel_rfl) (by kernel_rfl) (by kernel_rfl) (fun _ _ _ h => by cases h.1) (by kernel_rfl) (fun w0 hw0 => by first | rfl | kernel_rfl) trivial ?_
        simp only [Act.put, List.setIfInBounds_toArray, List.set_cons_zero, List.set_cons_succ]
        refine anyH_take (i := 13) (v := .pointer (some ⟨g, o + k, none⟩)) rfl (some 27) rfl (by kernel_rfl) (by kernel_rfl) (by kernel_rfl) (fun _ _ _ h => by cases h.1) (by kernel_rfl) (fun _ _ => ex_idxA rfl rfl rfl (by omega)) trivial ?_
        simp only [Act.put, List.setIfInBounds_toArray, List.set_cons_zero, List.set_cons_succ]
        refine anyH_skip (i := 14) (by kernel_rfl) rfl none rfl (by kernel_rfl) (ex_store rfl rfl rfl hst) trivial ?_
        simp only [Act.put]
        exact wpAnyH_done (by kernel_rfl) ⟨rfl, fill ⟨⟨s'.set (o + k) (beByte x (n - 1 - k)), by rw [List.length_set]; exact hl', by rw [heap_setCell_same V0 g _ _ T _ h1, secA_set]⟩, hB0.setCell (p := ⟨g, _, none⟩) (Nat.le_refl _) _⟩ (by kernel_rfl)⟩ _
      case fin =>
        rintro a W ⟨xx, ⟨hs', hB⟩, rfl⟩
        have H := hide (And.intro hs' hB)
        clear hs' hB h1 hB0 hV0 hcell hfro hst
        have hw1 : IntKind.i64.wrap ((k : Int) + 1) = k + 1 := by rw [IntKind.wrap_i64]; omega
        go_wp2_with fail
        go_roundw
        case rel => exact ⟨k + 1, by omega, by simp, H.out.1, H.out.2⟩
        case measure => simp [intOf]; omega
    · obtain rfl : k = n := by omega
      have H := hide (And.intro h1 h3)
      clear h1 h3 hw
      go_wp2_with fail
      exact bodyPost_end (results_none rfl _ _ _) rfl ⟨⟨_, rfl⟩, ⟨s', hl', H.out.1⟩, H.out.2⟩
end Go.Proofs.Ytfknjmfkkaoggaa
