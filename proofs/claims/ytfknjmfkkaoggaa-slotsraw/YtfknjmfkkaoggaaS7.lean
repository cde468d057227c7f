/- Slots: whether a slot holds. -/
import Derived.Test.YtfknjmfkkaoggaaS6
import Derived.Test.YtfknjmfkkaoggaaD7
namespace Go.Proofs.Ytfknjmfkkaoggaa
open Go.RowKit Go.Shelf

/-- A slot's check sum. -/
def crcL (l : List UInt8) : U := ~~~ sumL l (BitVec.allOnes 32)
/-- Whether a slot holds. -/
def HoldsS (d : Dv) (k : Nat) : Prop := rootS (rT (readS d k)) (rN (readS d k)) (rS (readS d k)) = readS d k ∧ rT (readS d k) ≠ 0#64 ∧ (rN (readS d k)).toNat ≤ (d.las.length - 2) / 2 * 64 ∧ crcL (bytL d k (rN (readS d k)).toNat) = rS (readS d k)
theorem bytL_len {d : Dv} (hd : DvOk d) (k L : Nat) : (bytL d k L).length = L := by
  unfold bytL
  rw [List.length_take, rawL_len hd]
  omega
theorem own_bytes {W : World} {base n gc : Nat} {ga : Option Addr} {l : List UInt8} (h : W.ownsRow base 5 1 (.slice ga n gc) n (Lib.byteCells l)) (hl : l.length = n) : ByteMem W.heap.size W ga l := fun j c hj => by
  have hu : (Lib.byteCells l)[j]? = some (.int .u8 c.toNat) := by rw [Lib.byteCells, List.getElem?_map, hj]; rfl
  obtain ⟨_, ⟨e, _⟩ | ⟨g, cap, cur, e, _⟩⟩ := id h
  · cases e
    have : l = [] := List.eq_nil_of_length_eq_zero hl
    subst this
    cases hj
  · cases e
    have hc := own_cells h j _ hu
    have e : (⟨g, 0, none⟩ : Addr).add j = ⟨g, 0 + j, none⟩ := by
      unfold Addr.add
      by_cases hj0 : j = 0 <;> simp [hj0]
    rw [e] at hc
    exact ⟨g, 0, rfl, own_lt h g rfl, hc⟩
theorem ex_pick {o : Oper} {a : Act} {w : World} {x y z : Operand} {u v r : Value} (b : Bool) (ho : o.op = .pick x y z) (hx : a.eval x = .bool b) (hy : a.eval y = u) (hz : a.eval z = v) (hr : (if b = true then u else v) = r := by rfl) : (execOp a.eval o).run Try.prog w = .ok (.value r) w := by
  unfold execOp
  simp only [ho, hx, hy, hz]
  subst hr
  cases b <;> go_simp
theorem ex_eq0T {o : Oper} {a : Act} {w : World} {x : Operand} {t : V} (ho : o.op = .binOp .eql 36 x (.const (.int .u64 0)) 36) (hx : a.eval x = .int .u64 t.toNat) (h : t = 0#64) : (execOp a.eval o).run Try.prog w = .ok (.value (.bool true)) w := by
  subst h
  unfold execOp
  simp only [ho, hx]
  go_simp
theorem ex_eq0F {o : Oper} {a : Act} {w : World} {x : Operand} {t : V} (ho : o.op = .binOp .eql 36 x (.const (.int .u64 0)) 36) (hx : a.eval x = .int .u64 t.toNat) (h : ¬ t = 0#64) : (execOp a.eval o).run Try.prog w = .ok (.value (.bool false)) w := by
  have h0 : ¬ ((t.toNat : Int) = 0) := fun e => h (BitVec.eq_of_toNat_eq (by rw [BitVec.toNat_ofNat]; omega))
  have h1 : ((t.toNat : Int) == 0) = false := by rw [beq_eq_false_iff_ne]; exact h0
  unfold execOp
  simp only [ho, hx]
  go_simp
theorem ex_i2u {o : Oper} {a : Act} {w : World} {y : Operand} {m : Nat} (ho : o.op = .convert 3 36 y) (hy : a.eval y = .int .i64 m) (hm : m ≤ 1000000000) : (execOp a.eval o).run Try.prog w = .ok (.value (.int .u64 m)) w := by
  have h : (convert 3 36 (.int .i64 m)).run Try.prog w = .ok (.int .u64 m) w := by
    go_simp
    show ((m : Int) % 18446744073709551616) = m
    omega
  unfold execOp
  simp [ho, hy, h]
theorem ex_u2i {o : Oper} {a : Act} {w : World} {y : Operand} {n : U} (ho : o.op = .convert 32 3 y) (hy : a.eval y = .int .u32 n.toNat) : (execOp a.eval o).run Try.prog w = .ok (.value (.int .i64 n.toNat)) w := by
  have hn := n.isLt
  have h : (convert 32 3 (.int .u32 n.toNat)).run Try.prog w = .ok (.int .i64 n.toNat) w := by
    go_simp
    rw [IntKind.wrap_i64]
    omega
  unfold execOp
  simp [ho, hy, h]
theorem ex_gtu {o : Oper} {a : Act} {w : World} {x y : Operand} {n : U} {m : Nat} (ho : o.op = .binOp .gtr 36 x y 36) (hx : a.eval x = .int .u64 (vOf n).toNat) (hy : a.eval y = .int .u64 m) : (execOp a.eval o).run Try.prog w = .ok (.value (.bool (decide (m < n.toNat)))) w := by
  rw [vOf_nat] at hx
  unfold execOp
  simp only [ho, hx, hy]
  go_simp
theorem ex_neu {o : Oper} {a : Act} {w : World} {x y : Operand} {m n : U} (ho : o.op = .binOp .neq 32 x y 32) (hx : a.eval x = .int .u32 m.toNat) (hy : a.eval y = .int .u32 n.toNat) : (execOp a.eval o).run Try.prog w = .ok (.value (.bool (!decide (m = n)))) w := by
  have h1 : ((m.toNat : Int) == (n.toNat : Int)) = decide (m = n) := by
    by_cases h : m = n
    · subst h
      simp
    · rw [decide_eq_false h, beq_eq_false_iff_ne]
      intro e
      exact h (BitVec.eq_of_toNat_eq (by omega))
  have hr : (binOp .neq 32 (.int .u32 m.toNat) (.int .u32 n.toNat)).run Try.prog w = .ok (.bool (!decide (m = n))) w := by
    go_simp
    rw [← h1]
    rfl
  unfold execOp
  simp only [ho, hx, hy]
  go_simp
  rw [← h1]
  rfl
theorem infoHeld : (Try.prog.info? 77).map (fun i => (i.zero, i.size, i.bytes)) = some (some (.agg #[.int .i64 0, .int .u64 0, .slice none 0 0]), 3, 40) := by kernel_rfl
theorem cells3h {w : World} {b : Nat} {x y z : Value} {T : TypeId} (h : w.heap[b]? = some (.cells #[x, y, z] T)) : w.cell? ⟨b, 0, none⟩ = some x ∧ w.cell? ⟨b, 1, none⟩ = some y ∧ w.cell? ⟨b, 2, none⟩ = some z ∧ w.frozen? ⟨b, 0, none⟩ = false ∧ w.frozen? ⟨b, 1, none⟩ = false ∧ w.frozen? ⟨b, 2, none⟩ = false := by
  refine ⟨by simp [World.cell?, h], by simp [World.cell?, h], by simp [World.cell?, h], by simp [World.frozen?, h], by simp [World.frozen?, h], by simp [World.frozen?, h]⟩
theorem below3 {B b : Nat} {a w : World} (h : Below B a w) (hb : B ≤ b) (a0 a1 a2 : Value) : Below B a (((w.setCell ⟨b, 0, none⟩ a0).setCell ⟨b, 1, none⟩ a1).setCell ⟨b, 2, none⟩ a2) :=
  ((h.setCell (p := ⟨b, 0, none⟩) hb _).setCell (p := ⟨b, 1, none⟩) hb _).setCell (p := ⟨b, 2, none⟩) hb _
theorem results_held {fn : Func} {tmps : Array Value} {w : World} {b : Nat} {v0 v1 v2 r : Value} (h : fn.results = #[.cell 4 77, .tmp 5]) (hp : tmps[4]?.getD undef = .pointer (some ⟨b, 0, none⟩)) (hr : tmps[5]?.getD undef = r) (hc : w.heap[b]? = some (.cells #[v0, v1, v2] 77)) : (results fn tmps).run Try.prog w = .ok (.tuple #[.agg #[v0, v1, v2], r]) w := by
  obtain ⟨c0, c1, c2, _⟩ := cells3h hc
  simp [results, h, hp, hr, c0, c1, c2, go_sem, Try.isAgg77, Try.sizeOf77]
set_option maxRecDepth 100000 in
set_option maxHeartbeats 4000000 in
theorem holds_any (base p : Nat) (d : Dv) (vl vw : Value) (k : Nat) (w : World) (h : IsD base p d vl vw w) (hd : DvOk d) (h2 : 4 ≤ d.las.length) (h3 : d.las.length ≤ 4096) (hk : k ≤ 1) :
    Calls Try.prog 59 #[hv p, .int .i64 k] w fun e w' => ((HoldsS d k ∧ ∃ v, e = .returned (.tuple #[.agg #[.int .i64 k, .int .u64 (rT (readS d k)).toNat, v], .bool true]) ∧ w'.ownsRow w.heap.size 5 1 v (rN (readS d k)).toNat (Lib.byteCells (bytL d k (rN (readS d k)).toNat))) ∨ (¬ HoldsS d k ∧ e = .returned (.tuple #[.agg #[.int .i64 0, .int .u64 0, .slice none 0 0], .bool false]))) ∧ Below w.heap.size w w' := by
  obtain ⟨W1, hW1, a0, a1, hz, hb⟩ := two_new w (.cells #[.pointer (some ⟨p, 0, none⟩)] 79) (.cells #[.int .i64 0, .int .u64 0, .slice none 0 0] 77)
  obtain ⟨s, hs⟩ : ∃ s, readS d k = s := ⟨_, rfl⟩
  have hsl : s.length = 64 := by rw [← hs]; exact readAt_len d hd _ _
  have HRd := hide (read_any base p d vl vw k W1 (h.below hb) hd (by omega))
  rw [hs] at HRd
  obtain ⟨t, ht⟩ : ∃ t, rT s = t := ⟨_, rfl⟩
  obtain ⟨n, hn⟩ : ∃ n, rN s = n := ⟨_, rfl⟩
  obtain ⟨c, hc⟩ : ∃ c, rS s = c := ⟨_, rfl⟩
  obtain ⟨ok, hok⟩ : ∃ ok, decide (rootS t n c = s) = ok := ⟨_, rfl⟩
  have HRr := hide fun (V : World) => readRoot_any s V hsl
  rw [ht, hn, hc, hok] at HRr
  obtain ⟨rm, hrm'⟩ : ∃ rm, (d.las.length - 2) / 2 * 64 = rm := ⟨_, rfl⟩
  have hrm : rm ≤ 1000000000 := by omega
  have keyH : HoldsS d k ↔ (ok = true ∧ t ≠ 0#64 ∧ n.toNat ≤ rm ∧ crcL (bytL d k n.toNat) = c) := by
    unfold HoldsS
    rw [hs, ht, hn, hc, hrm', ← hok, decide_eq_true_eq]
  rw [hs, ht, hn]
  have HR2 := hide fun (V : World) => run_load_row (P := Try.prog) (w := V) (g := V.heap.size - 1) (cs := secA s) (ty' := 59) infoSecD undSecD rfl ((secA_size s).trans hsl)
  have x0 : W1.cell? ⟨w.heap.size, 0, none⟩ = some (.pointer (some ⟨p, 0, none⟩)) := by simp [World.cell?, a0]
  have HW := hide hW1
  have H0 := hide (And.intro a0 (And.intro a1 (And.intro hb (And.intro h (And.intro hd (And.intro keyH hrm'))))))
  clear hW1 a0 a1 hb h hd keyH hs ht hn hc hrm' hok
  unfold hv
  go_enter Try.func59, Try.ntmps59
  go_wp2_with (first
    | (refine l_alloc 77 infoHeld rfl rfl ?_; rw [HW.out])
    | (go_at_call 36; refine HRd.out.mono ?_; rintro e w1 ⟨rfl, b1⟩; refine stopHere ?_))
  unfold Hid
  obtain ⟨W2, hW2, e2, c2, z2⟩ : ∃ W, w1.alloc (.cells (secA s) 59) = W ∧ W.heap[w1.heap.size]? = some (.cells (secA s) 59) ∧ Below w1.heap.size w1 W ∧ W.heap.size = w1.heap.size + 1 := ⟨_, rfl, World.alloc_heap_new _ _, (Below.refl _ _).alloc (Nat.le_refl _) _, by simp⟩
  have HST := hide (run_store_new (P := Try.prog) infoSecD w1 (cs := secA s) (c := secA sec0) ((secA_size s).trans hsl) rfl (secA_one s))
  have HLD := hide (run_load_row (P := Try.prog) infoSecD undSecD rfl ((secA_size s).trans hsl) e2)
  have B2 : Below W1.heap.size W1 W2 := b1.trans (c2.mono b1.size)
  have HB2 := hide B2
  clear b1 c2 B2 HRd x0 e2
  go_wp2_with (first
    | (refine l_alloc 59 infoSecD rfl rfl ?_; rw [show (Lib.byteCells sec0).toArray = secA sec0 from rfl])
    | (refine l_store 59 HST.out rfl rfl rfl rfl ?_; rw [hW2])
    | (refine l_load 59 HLD.out rfl rfl rfl ?_)
    | (go_at_call 74; refine (HRr.out W2).mono ?_; rintro e w3 ⟨rfl, b3⟩; refine stopHere ?_))
  unfold Hid
  obtain ⟨W4, hW4, e4, c4, z4⟩ : ∃ W, w3.alloc (.cells #[.int .u64 t.toNat, .int .u32 n.toNat, .int .u32 c.toNat] 115) = W ∧ W.heap[w3.heap.size]? = some (.cells #[.int .u64 t.toNat, .int .u32 n.toNat, .int .u32 c.toNat] 115) ∧ Below w3.heap.size w3 W ∧ W.heap.size = w3.heap.size + 1 := ⟨_, rfl, World.alloc_heap_new _ _, (Below.refl _ _).alloc (Nat.le_refl _) _, by simp⟩
  have HSR := hide (run_store_new (P := Try.prog) infoRoot w3 (cs := #[.int .u64 t.toNat, .int .u32 n.toNat, .int .u32 c.toNat]) (c := #[.int .u64 0, .int .u32 0, .int .u32 0]) rfl rfl (by simp [Value.oneCell']))
  have B4 : Below W1.heap.size W1 W4 := HB2.out.trans ((b3.trans (c4.mono b3.size)).mono HB2.out.size)
  have H4 := hide (And.intro B4 e4)
  clear b3 c4 B4 e4 HB2 HST HLD HRr z4 z2 hW2 HR2
  go_wp2_with (first
    | (refine l_alloc 115 infoRoot rfl rfl ?_)
    | (refine l_store 115 HSR.out rfl rfl rfl rfl ?_; rw [hW4]))
  obtain ⟨V0, hV0⟩ : ∃ V0, W4.drew = V0 := ⟨_, rfl⟩
  obtain ⟨a0, a1, hb, h, hd, keyH, hrm'⟩ := H0.out
  obtain ⟨b8, hb8⟩ : ∃ b8, w3.heap.size = b8 := ⟨_, rfl⟩
  have hb40 : Below W1.heap.size W1 V0 := by rw [← hV0]; exact H4.out.1.drew
  have f8 : V0.heap[b8]? = some (.cells #[.int .u64 t.toNat, .int .u32 n.toNat, .int .u32 c.toNat] 115) := by rw [← hV0, ← hb8]; exact H4.out.2
  have f0 : V0.heap[w.heap.size]? = some (.cells #[.pointer (some ⟨p, 0, none⟩)] 79) := (hb40.block _ (hp_lt a0)).trans a0
  have f1 : V0.heap[w.heap.size + 1]? = some (.cells #[.int .i64 0, .int .u64 0, .slice none 0 0] 77) := (hb40.block _ (hp_lt a1)).trans a1
  have h8 : b8 < V0.heap.size := hp_lt f8
  have hN : w.heap.size < V0.heap.size := hp_lt f0
  have hN1 : w.heap.size + 1 < V0.heap.size := hp_lt f1
  have gb : Below w.heap.size w V0 := hb.trans (hb40.mono hb.size)
  rw [hb8]
  cases ok with
  | false =>
    · have hno : ¬ HoldsS d k := fun hh => by have := (keyH.1 hh).1; cases this
      refine region_rel (S := (fun W => Below V0.heap.size V0 W)) (fun a W => ∃ xx : Nat → Value, (Below w.heap.size w W ∧ Below V0.heap.size V0 W) ∧ a = { tmps := #[.agg #[.pointer (some ⟨p, 0, none⟩)], .int .i64 k, .pointer (some ⟨w.heap.size, 0, none⟩), xx 3, .pointer (some ⟨w.heap.size + 1, 0, none⟩), xx 5, xx 6, xx 7, .pointer (some ⟨b8, 0, none⟩), xx 9, xx 10, xx 11, xx 12, xx 13, xx 14, xx 15, xx 16, xx 17, xx 18, xx 19, xx 20, xx 21, xx 22, xx 23, xx 24, xx 25, xx 26, xx 27, xx 28, xx 29, xx 30, xx 31, xx 32, xx 33, xx 34, xx 35, xx 36, xx 37, .bool true, xx 39, xx 40, xx 41, xx 42, xx 43, xx 44, xx 45, xx 46, xx 47, xx 48, xx 49, xx 50, xx 51, xx 52, xx 53, xx 54, xx 55, xx 56], defers := [] }) (by kernel_rfl) ?reg ?beh
      case reg =>
        rw [hV0]
        have S0 : Below V0.heap.size V0 V0 := Below.refl _ _
        refine anyH_take (i := 0) (v := .bool false) rfl (some 23) rfl (by kernel_rfl) (by kernel_rfl) (by kernel_rfl) (fun _ _ _ h => by cases h.1) rfl (fun w0 hw0 => by first | rfl | kernel_rfl) S0 ?_
        simp only [Act.put, List.setIfInBounds_toArray, List.set_cons_zero, List.set_cons_succ]
        refine anyH_take (i := 1) (v := .bool true) rfl (some 24) rfl (by kernel_rfl) (by kernel_rfl) (by kernel_rfl) (fun _ _ _ h => by cases h.1) rfl (fun w0 hw0 => by first | rfl | kernel_rfl) S0 ?_
        simp only [Act.put, List.setIfInBounds_toArray, List.set_cons_zero, List.set_cons_succ]
        refine anyH_take (i := 2) (v := .bool true) rfl (some 25) rfl (by kernel_rfl) (by kernel_rfl) (by kernel_rfl) (fun _ _ _ h => by cases h.1) rfl (fun w0 hw0 => by first | rfl | kernel_rfl) S0 ?_
        simp only [Act.put, List.setIfInBounds_toArray, List.set_cons_zero, List.set_cons_succ]
        refine anyH_off (i := 3) rfl (some 26) rfl (by kernel_rfl) (by kernel_rfl) (by kernel_rfl) (fun _ _ _ h => by cases h.1) rfl S0 ?_
        simp only [Act.put, List.setIfInBounds_toArray, List.set_cons_zero, List.set_cons_succ]
        refine anyH_off (i := 4) rfl (some 27) rfl (by kernel_rfl) (by kernel_rfl) (by kernel_rfl) (fun _ _ _ h => by cases h.1) rfl S0 ?_
        simp only [Act.put, List.setIfInBounds_toArray, List.set_cons_zero, List.set_cons_succ]
        refine anyH_off (i := 5) rfl (some 28) rfl (by kernel_rfl) (by kernel_rfl) (by kernel_rfl) (fun _ _ _ h => by cases h.1) rfl S0 ?_
        simp only [Act.put, List.setIfInBounds_toArray, List.set_cons_zero, List.set_cons_succ]
        refine anyH_take (i := 6) (v := .bool true) rfl (some 29) rfl (by kernel_rfl) (by kernel_rfl) (by kernel_rfl) (fun _ _ _ h => by cases h.1) rfl (fun w0 hw0 => ex_pick true rfl rfl rfl rfl) S0 ?_
        simp only [Act.put, List.setIfInBounds_toArray, List.set_cons_zero, List.set_cons_succ]
        refine anyH_take (i := 7) (v := .bool true) rfl (some 30) rfl (by kernel_rfl) (by kernel_rfl) (by kernel_rfl) (fun _ _ _ h => by cases h.1) rfl (fun w0 hw0 => by first | rfl | kernel_rfl) S0 ?_
        simp only [Act.put, List.setIfInBounds_toArray, List.set_cons_zero, List.set_cons_succ]
        refine anyH_off (i := 8) rfl (some 31) rfl (by kernel_rfl) (by kernel_rfl) (by kernel_rfl) (fun _ _ _ h => by cases h.1) rfl S0 ?_
        simp only [Act.put, List.setIfInBounds_toArray, List.set_cons_zero, List.set_cons_succ]
        refine anyH_off (i := 9) rfl (some 32) rfl (by kernel_rfl) (by kernel_rfl) (by kernel_rfl) (fun _ _ _ h => by cases h.1) rfl S0 ?_
        simp only [Act.put, List.setIfInBounds_toArray, List.set_cons_zero, List.set_cons_succ]
        refine anyH_off (i := 10) rfl (some 33) rfl (by kernel_rfl) (by kernel_rfl) (by kernel_rfl) (fun _ _ _ h => by cases h.1) rfl S0 ?_
        simp only [Act.put, List.setIfInBounds_toArray, List.set_cons_zero, List.set_cons_succ]
        refine anyH_off (i := 11) rfl (some 34) rfl (by kernel_rfl) (by kernel_rfl) (by kernel_rfl) (fun _ _ _ h => by cases h.1) rfl S0 ?_
        simp only [Act.put, List.setIfInBounds_toArray, List.set_cons_zero, List.set_cons_succ]
        refine anyH_off (i := 12) rfl (some 35) rfl (by kernel_rfl) (by kernel_rfl) (by kernel_rfl) (fun _ _ _ h => by cases h.1) rfl S0 ?_
        simp only [Act.put, List.setIfInBounds_toArray, List.set_cons_zero, List.set_cons_succ]
        refine anyH_off (i := 13) rfl (some 36) rfl (by kernel_rfl) (by kernel_rfl) (by kernel_rfl) (fun _ _ _ h => by cases h.1) rfl S0 ?_
        simp only [Act.put, List.setIfInBounds_toArray, List.set_cons_zero, List.set_cons_succ]
        refine anyH_off (i := 14) rfl (some 37) rfl (by kernel_rfl) (by kernel_rfl) (by kernel_rfl) (fun _ _ _ h => by cases h.1) rfl S0 ?_
        simp only [Act.put, List.setIfInBounds_toArray, List.set_cons_zero, List.set_cons_succ]
        refine anyH_take (i := 15) (v := .bool true) rfl (some 38) rfl (by kernel_rfl) (by kernel_rfl) (by kernel_rfl) (fun _ _ _ h => by cases h.1) rfl (fun w0 hw0 => ex_pick true rfl rfl rfl rfl) S0 ?_
        simp only [Act.put, List.setIfInBounds_toArray, List.set_cons_zero, List.set_cons_succ]
        exact wpAnyH_done (by kernel_rfl) ⟨rfl, fill ⟨gb, S0⟩ (by kernel_rfl)⟩ _
      case beh =>
        rintro a W ⟨xx, ⟨hB, hS⟩, rfl⟩
        have g1' := (hS.block _ hN1).trans f1
        obtain ⟨q0, q1, q2, q3, q4, q5⟩ := cells3h g1'
        have HJ := hide (And.intro g1' (And.intro hB hno))
        clear g1' hB hS hno keyH
        go_wp2_with fail
        exact bodyPost_ret (results_held rfl rfl rfl (set3 HJ.out.1 _ _ _)) rfl ⟨.inr ⟨HJ.out.2.2, rfl⟩, below3 HJ.out.2.1 (by omega) _ _ _⟩
  | true =>
    by_cases ht0 : t = 0#64
    · have hno : ¬ HoldsS d k := fun hh => (keyH.1 hh).2.1 ht0
      refine region_rel (S := (fun W => Below V0.heap.size V0 W)) (fun a W => ∃ xx : Nat → Value, (Below w.heap.size w W ∧ Below V0.heap.size V0 W) ∧ a = { tmps := #[.agg #[.pointer (some ⟨p, 0, none⟩)], .int .i64 k, .pointer (some ⟨w.heap.size, 0, none⟩), xx 3, .pointer (some ⟨w.heap.size + 1, 0, none⟩), xx 5, xx 6, xx 7, .pointer (some ⟨b8, 0, none⟩), xx 9, xx 10, xx 11, xx 12, xx 13, xx 14, xx 15, xx 16, xx 17, xx 18, xx 19, xx 20, xx 21, xx 22, xx 23, xx 24, xx 25, xx 26, xx 27, xx 28, xx 29, xx 30, xx 31, xx 32, xx 33, xx 34, xx 35, xx 36, xx 37, .bool true, xx 39, xx 40, xx 41, xx 42, xx 43, xx 44, xx 45, xx 46, xx 47, xx 48, xx 49, xx 50, xx 51, xx 52, xx 53, xx 54, xx 55, xx 56], defers := [] }) (by kernel_rfl) ?reg ?beh
      case reg =>
        rw [hV0]
        have S0 : Below V0.heap.size V0 V0 := Below.refl _ _
        refine anyH_take (i := 0) (v := .bool true) rfl (some 23) rfl (by kernel_rfl) (by kernel_rfl) (by kernel_rfl) (fun _ _ _ h => by cases h.1) rfl (fun w0 hw0 => by first | rfl | kernel_rfl) S0 ?_
        simp only [Act.put, List.setIfInBounds_toArray, List.set_cons_zero, List.set_cons_succ]
        refine anyH_take (i := 1) (v := .bool false) rfl (some 24) rfl (by kernel_rfl) (by kernel_rfl) (by kernel_rfl) (fun _ _ _ h => by cases h.1) rfl (fun w0 hw0 => by first | rfl | kernel_rfl) S0 ?_
        simp only [Act.put, List.setIfInBounds_toArray, List.set_cons_zero, List.set_cons_succ]
        refine anyH_take (i := 2) (v := .bool false) rfl (some 25) rfl (by kernel_rfl) (by kernel_rfl) (by kernel_rfl) (fun _ _ _ h => by cases h.1) rfl (fun w0 hw0 => by first | rfl | kernel_rfl) S0 ?_
        simp only [Act.put, List.setIfInBounds_toArray, List.set_cons_zero, List.set_cons_succ]
        refine anyH_take (i := 3) (v := .pointer (some ⟨b8, 0, none⟩)) rfl (some 26) rfl (by kernel_rfl) (by kernel_rfl) (by kernel_rfl) (fun _ _ _ h => by cases h.1) rfl (fun w0 hw0 => by first | rfl | kernel_rfl) S0 ?_
        simp only [Act.put, List.setIfInBounds_toArray, List.set_cons_zero, List.set_cons_succ]
        refine anyH_take (i := 4) (v := .int .u64 t.toNat) rfl (some 27) rfl (by kernel_rfl) (by kernel_rfl) (by kernel_rfl) (fun _ _ _ h => by cases h.1) rfl (fun w0 hw0 => ex_load rfl rfl (run_load_cell Try.underlying36 rfl (by simp [World.cell?, (hw0.block _ h8).trans f8]))) S0 ?_
        simp only [Act.put, List.setIfInBounds_toArray, List.set_cons_zero, List.set_cons_succ]
        refine anyH_take (i := 5) (v := .bool true) rfl (some 28) rfl (by kernel_rfl) (by kernel_rfl) (by kernel_rfl) (fun _ _ _ h => by cases h.1) rfl (fun w0 hw0 => ex_eq0T rfl rfl ht0) S0 ?_
        simp only [Act.put, List.setIfInBounds_toArray, List.set_cons_zero, List.set_cons_succ]
        refine anyH_take (i := 6) (v := .bool true) rfl (some 29) rfl (by kernel_rfl) (by kernel_rfl) (by kernel_rfl) (fun _ _ _ h => by cases h.1) rfl (fun w0 hw0 => ex_pick false rfl rfl rfl rfl) S0 ?_
        simp only [Act.put, List.setIfInBounds_toArray, List.set_cons_zero, List.set_cons_succ]
        refine anyH_take (i := 7) (v := .bool true) rfl (some 30) rfl (by kernel_rfl) (by kernel_rfl) (by kernel_rfl) (fun _ _ _ h => by cases h.1) rfl (fun w0 hw0 => by first | rfl | kernel_rfl) S0 ?_
        simp only [Act.put, List.setIfInBounds_toArray, List.set_cons_zero, List.set_cons_succ]
        refine anyH_off (i := 8) rfl (some 31) rfl (by kernel_rfl) (by kernel_rfl) (by kernel_rfl) (fun _ _ _ h => by cases h.1) rfl S0 ?_
        simp only [Act.put, List.setIfInBounds_toArray, List.set_cons_zero, List.set_cons_succ]
        refine anyH_off (i := 9) rfl (some 32) rfl (by kernel_rfl) (by kernel_rfl) (by kernel_rfl) (fun _ _ _ h => by cases h.1) rfl S0 ?_
        simp only [Act.put, List.setIfInBounds_toArray, List.set_cons_zero, List.set_cons_succ]
        refine anyH_off (i := 10) rfl (some 33) rfl (by kernel_rfl) (by kernel_rfl) (by kernel_rfl) (fun _ _ _ h => by cases h.1) rfl S0 ?_
        simp only [Act.put, List.setIfInBounds_toArray, List.set_cons_zero, List.set_cons_succ]
        refine anyH_off (i := 11) rfl (some 34) rfl (by kernel_rfl) (by kernel_rfl) (by kernel_rfl) (fun _ _ _ h => by cases h.1) rfl S0 ?_
        simp only [Act.put, List.setIfInBounds_toArray, List.set_cons_zero, List.set_cons_succ]
        refine anyH_off (i := 12) rfl (some 35) rfl (by kernel_rfl) (by kernel_rfl) (by kernel_rfl) (fun _ _ _ h => by cases h.1) rfl S0 ?_
        simp only [Act.put, List.setIfInBounds_toArray, List.set_cons_zero, List.set_cons_succ]
        refine anyH_off (i := 13) rfl (some 36) rfl (by kernel_rfl) (by kernel_rfl) (by kernel_rfl) (fun _ _ _ h => by cases h.1) rfl S0 ?_
        simp only [Act.put, List.setIfInBounds_toArray, List.set_cons_zero, List.set_cons_succ]
        refine anyH_off (i := 14) rfl (some 37) rfl (by kernel_rfl) (by kernel_rfl) (by kernel_rfl) (fun _ _ _ h => by cases h.1) rfl S0 ?_
        simp only [Act.put, List.setIfInBounds_toArray, List.set_cons_zero, List.set_cons_succ]
        refine anyH_take (i := 15) (v := .bool true) rfl (some 38) rfl (by kernel_rfl) (by kernel_rfl) (by kernel_rfl) (fun _ _ _ h => by cases h.1) rfl (fun w0 hw0 => ex_pick true rfl rfl rfl rfl) S0 ?_
        simp only [Act.put, List.setIfInBounds_toArray, List.set_cons_zero, List.set_cons_succ]
        exact wpAnyH_done (by kernel_rfl) ⟨rfl, fill ⟨gb, S0⟩ (by kernel_rfl)⟩ _
      case beh =>
        rintro a W ⟨xx, ⟨hB, hS⟩, rfl⟩
        have g1' := (hS.block _ hN1).trans f1
        obtain ⟨q0, q1, q2, q3, q4, q5⟩ := cells3h g1'
        have HJ := hide (And.intro g1' (And.intro hB hno))
        clear g1' hB hS hno keyH
        go_wp2_with fail
        exact bodyPost_ret (results_held rfl rfl rfl (set3 HJ.out.1 _ _ _)) rfl ⟨.inr ⟨HJ.out.2.2, rfl⟩, below3 HJ.out.2.1 (by omega) _ _ _⟩
    · have HRm := hide (room_any base p d vl vw V0 (h.below gb) h2 h3)
      rw [hrm'] at HRm
      unfold hv at HRm
      refine region_rel (S := (fun W => Below V0.heap.size V0 W)) (fun a W => ∃ xx : Nat → Value, (Below w.heap.size w W ∧ Below V0.heap.size V0 W) ∧ a = { tmps := #[.agg #[.pointer (some ⟨p, 0, none⟩)], .int .i64 k, .pointer (some ⟨w.heap.size, 0, none⟩), xx 3, .pointer (some ⟨w.heap.size + 1, 0, none⟩), xx 5, xx 6, xx 7, .pointer (some ⟨b8, 0, none⟩), xx 9, xx 10, xx 11, xx 12, xx 13, xx 14, xx 15, xx 16, xx 17, xx 18, xx 19, xx 20, xx 21, xx 22, xx 23, xx 24, xx 25, xx 26, xx 27, xx 28, xx 29, xx 30, xx 31, xx 32, xx 33, xx 34, xx 35, xx 36, xx 37, .bool (decide (rm < n.toNat)), xx 39, xx 40, xx 41, xx 42, xx 43, xx 44, xx 45, xx 46, xx 47, xx 48, xx 49, xx 50, xx 51, xx 52, xx 53, xx 54, xx 55, xx 56], defers := [] }) (by kernel_rfl) ?reg ?beh
      case reg =>
        rw [hV0]
        have S0 : Below V0.heap.size V0 V0 := Below.refl _ _
        refine anyH_take (i := 0) (v := .bool true) rfl (some 23) rfl (by kernel_rfl) (by kernel_rfl) (by kernel_rfl) (fun _ _ _ h => by cases h.1) rfl (fun w0 hw0 => by first | rfl | kernel_rfl) S0 ?_
        simp only [Act.put, List.setIfInBounds_toArray, List.set_cons_zero, List.set_cons_succ]
        refine anyH_take (i := 1) (v := .bool false) rfl (some 24) rfl (by kernel_rfl) (by kernel_rfl) (by kernel_rfl) (fun _ _ _ h => by cases h.1) rfl (fun w0 hw0 => by first | rfl | kernel_rfl) S0 ?_
        simp only [Act.put, List.setIfInBounds_toArray, List.set_cons_zero, List.set_cons_succ]
        refine anyH_take (i := 2) (v := .bool false) rfl (some 25) rfl (by kernel_rfl) (by kernel_rfl) (by kernel_rfl) (fun _ _ _ h => by cases h.1) rfl (fun w0 hw0 => by first | rfl | kernel_rfl) S0 ?_
        simp only [Act.put, List.setIfInBounds_toArray, List.set_cons_zero, List.set_cons_succ]
        refine anyH_take (i := 3) (v := .pointer (some ⟨b8, 0, none⟩)) rfl (some 26) rfl (by kernel_rfl) (by kernel_rfl) (by kernel_rfl) (fun _ _ _ h => by cases h.1) rfl (fun w0 hw0 => by first | rfl | kernel_rfl) S0 ?_
        simp only [Act.put, List.setIfInBounds_toArray, List.set_cons_zero, List.set_cons_succ]
        refine anyH_take (i := 4) (v := .int .u64 t.toNat) rfl (some 27) rfl (by kernel_rfl) (by kernel_rfl) (by kernel_rfl) (fun _ _ _ h => by cases h.1) rfl (fun w0 hw0 => ex_load rfl rfl (run_load_cell Try.underlying36 rfl (by simp [World.cell?, (hw0.block _ h8).trans f8]))) S0 ?_
        simp only [Act.put, List.setIfInBounds_toArray, List.set_cons_zero, List.set_cons_succ]
        refine anyH_take (i := 5) (v := .bool false) rfl (some 28) rfl (by kernel_rfl) (by kernel_rfl) (by kernel_rfl) (fun _ _ _ h => by cases h.1) rfl (fun w0 hw0 => ex_eq0F rfl rfl ht0) S0 ?_
        simp only [Act.put, List.setIfInBounds_toArray, List.set_cons_zero, List.set_cons_succ]
        refine anyH_take (i := 6) (v := .bool false) rfl (some 29) rfl (by kernel_rfl) (by kernel_rfl) (by kernel_rfl) (fun _ _ _ h => by cases h.1) rfl (fun w0 hw0 => ex_pick false rfl rfl rfl rfl) S0 ?_
        simp only [Act.put, List.setIfInBounds_toArray, List.set_cons_zero, List.set_cons_succ]
        refine anyH_take (i := 7) (v := .bool false) rfl (some 30) rfl (by kernel_rfl) (by kernel_rfl) (by kernel_rfl) (fun _ _ _ h => by cases h.1) rfl (fun w0 hw0 => by first | rfl | kernel_rfl) S0 ?_
        simp only [Act.put, List.setIfInBounds_toArray, List.set_cons_zero, List.set_cons_succ]
        refine anyH_take (i := 8) (v := .pointer (some ⟨b8, 1, none⟩)) rfl (some 31) rfl (by kernel_rfl) (by kernel_rfl) (by kernel_rfl) (fun _ _ _ h => by cases h.1) rfl (fun w0 hw0 => by first | rfl | kernel_rfl) S0 ?_
        simp only [Act.put, List.setIfInBounds_toArray, List.set_cons_zero, List.set_cons_succ]
        refine anyH_take (i := 9) (v := .int .u32 n.toNat) rfl (some 32) rfl (by kernel_rfl) (by kernel_rfl) (by kernel_rfl) (fun _ _ _ h => by cases h.1) rfl (fun w0 hw0 => ex_load rfl rfl (run_load_cell Try.underlying32 rfl (by simp [World.cell?, (hw0.block _ h8).trans f8]))) S0 ?_
        simp only [Act.put, List.setIfInBounds_toArray, List.set_cons_zero, List.set_cons_succ]
        refine anyH_take (i := 10) (v := .int .u64 (vOf n).toNat) rfl (some 33) rfl (by kernel_rfl) (by kernel_rfl) (by kernel_rfl) (fun _ _ _ h => by cases h.1) rfl (fun w0 hw0 => conv_any n rfl rfl) S0 ?_
        simp only [Act.put, List.setIfInBounds_toArray, List.set_cons_zero, List.set_cons_succ]
        refine anyH_take (i := 11) (v := .agg #[.pointer (some ⟨p, 0, none⟩)]) rfl (some 34) rfl (by kernel_rfl) (by kernel_rfl) (by kernel_rfl) (fun _ _ _ h => by cases h.1) rfl (fun w0 hw0 => ex_load rfl rfl (run_load_row infoH Try.underlying79 rfl rfl ((hw0.block _ hN).trans f0))) S0 ?_
        simp only [Act.put, List.setIfInBounds_toArray, List.set_cons_zero, List.set_cons_succ]
        refine anyH_one (i := 12) (by kernel_rfl) ?_
        refine op_call rfl (some 35) rfl rfl #[.agg #[.pointer (some ⟨p, 0, none⟩)]] rfl (by simp [Act.eval]) (fun _ _ => rfl) (HRm.out) ?_
        rintro e V1 ⟨rfl, b1⟩
        have S1 : Below V0.heap.size V0 V1 := S0.trans (b1.mono S0.size)
        refine ⟨_, rfl, S1, ?_⟩
        simp only [Act.put, List.setIfInBounds_toArray, List.set_cons_zero, List.set_cons_succ]
        refine anyH_take (i := 13) (v := .int .u64 ((rm : Nat))) rfl (some 36) rfl (by kernel_rfl) (by kernel_rfl) (by kernel_rfl) (fun _ _ _ h => by cases h.1) rfl (fun w0 hw0 => ex_i2u rfl rfl hrm) S1 ?_
        simp only [Act.put, List.setIfInBounds_toArray, List.set_cons_zero, List.set_cons_succ]
        refine anyH_take (i := 14) (v := .bool (decide (rm < n.toNat))) rfl (some 37) rfl (by kernel_rfl) (by kernel_rfl) (by kernel_rfl) (fun _ _ _ h => by cases h.1) rfl (fun w0 hw0 => ex_gtu rfl rfl rfl) S1 ?_
        simp only [Act.put, List.setIfInBounds_toArray, List.set_cons_zero, List.set_cons_succ]
        refine anyH_take (i := 15) (v := .bool (decide (rm < n.toNat))) rfl (some 38) rfl (by kernel_rfl) (by kernel_rfl) (by kernel_rfl) (fun _ _ _ h => by cases h.1) rfl (fun w0 hw0 => ex_pick false rfl rfl rfl rfl) S1 ?_
        simp only [Act.put, List.setIfInBounds_toArray, List.set_cons_zero, List.set_cons_succ]
        exact wpAnyH_done (by kernel_rfl) ⟨rfl, fill ⟨gb.trans (b1.mono gb.size), S1⟩ (by kernel_rfl)⟩ _
      case beh =>
        rintro a W ⟨xx, ⟨hB, hS⟩, rfl⟩
        by_cases hle : n.toNat ≤ rm
        · rw [decide_eq_false (show ¬ rm < n.toNat by omega)]
          have k0 := (hS.block _ hN).trans f0
          have k1 := (hS.block _ hN1).trans f1
          have k8 := (hS.block _ h8).trans f8
          obtain ⟨L, hL⟩ : ∃ L : Nat, n.toNat = L := ⟨_, rfl⟩
          have HBy := hide (bytes_any base p d vl vw k L W (h.below hB) hd h2 h3 hk (by rw [hrm']; omega))
          unfold hv at HBy
          have y0 : W.cell? ⟨w.heap.size, 0, none⟩ = some (.pointer (some ⟨p, 0, none⟩)) := by simp [World.cell?, k0]
          obtain ⟨r0, r1, r2, _⟩ := cells3h k8
          have HL := hide hL
          have HJ := hide (And.intro k0 (And.intro k1 (And.intro k8 hB)))
          have HRT := hide (And.intro keyH (And.intro hd (And.intro hle ht0)))
          clear k0 k1 k8 hS gb h hd keyH hrm' a0 a1 hb hb40 f8 f0 f1 h8 hN hN1 hV0 hle ht0 hL HRm hW4 HSR
          go_wp2_with (first
            | (refine l_val rfl (.int .i64 n.toNat) (ex_u2i rfl rfl) ?_; rw [HL.out])
            | (go_at_call 75; refine HBy.out.mono ?_; rintro e w6 ⟨v6, rfl, o6, b6⟩; refine stopHere ?_))
          unfold Hid
          obtain ⟨k0, k1, k8, hB⟩ := HJ.out
          obtain ⟨keyH, hd, hle, ht0⟩ := HRT.out
          obtain ⟨ga, gc, rfl⟩ := own_shape o6
          have H6 := hide (And.intro o6 b6)
          clear o6 b6 HBy y0 r0 r1 r2
          go_wp2_with fail
          obtain ⟨X0, hX0⟩ : ∃ X0, w6.drew = X0 := ⟨_, rfl⟩
          obtain ⟨o6, b6⟩ := H6.out
          have D0 : Below W.heap.size W X0 := by rw [← hX0]; exact b6.drew
          have D6 : Below w6.heap.size w6 X0 := by rw [← hX0]; exact (Below.refl _ _).drew
          have oX := own_same o6 (fun g hg => D6.block g (own_lt o6 g hg))
          have hbl := bytL_len hd k L
          have hSu := sum_any ga gc (bytL d k L) X0 (by rw [hbl, ← HL.out]; have := n.isLt; omega) (own_bytes oX hbl)
          rw [hbl] at hSu
          obtain ⟨sm, hsm⟩ : ∃ sm, ~~~ sumL (bytL d k L) (BitVec.allOnes 32) = sm := ⟨_, rfl⟩
          rw [hsm] at hSu
          have HSu := hide hSu
          have e0 := (D0.block _ (hp_lt k0)).trans k0
          have e1 := (D0.block _ (hp_lt k1)).trans k1
          have e8 := (D0.block _ (hp_lt k8)).trans k8
          have hX8 := hp_lt e8
          have hX1 := hp_lt e1
          refine region_rel (S := (fun W => Below X0.heap.size X0 W)) (fun a W => ∃ xx : Nat → Value, (Below X0.heap.size X0 W) ∧ a = { tmps := #[.agg #[.pointer (some ⟨p, 0, none⟩)], .int .i64 k, .pointer (some ⟨w.heap.size, 0, none⟩), xx 3, .pointer (some ⟨w.heap.size + 1, 0, none⟩), xx 5, xx 6, xx 7, .pointer (some ⟨b8, 0, none⟩), xx 9, .slice ga L gc, xx 11, xx 12, xx 13, xx 14, xx 15, xx 16, xx 17, xx 18, xx 19, xx 20, xx 21, xx 22, xx 23, xx 24, xx 25, xx 26, xx 27, xx 28, xx 29, xx 30, xx 31, xx 32, xx 33, xx 34, xx 35, xx 36, xx 37, xx 38, xx 39, xx 40, xx 41, xx 42, xx 43, xx 44, xx 45, xx 46, xx 47, xx 48, xx 49, .bool (!decide (sm = c)), xx 51, xx 52, xx 53, xx 54, xx 55, xx 56], defers := [] }) (by kernel_rfl) ?reg6 ?beh6
          case reg6 =>
            rw [hX0]
            have S1 : Below X0.heap.size X0 X0 := Below.refl _ _
            refine anyH_take (i := 0) (v := .slice ga L gc) rfl (some 46) rfl (by kernel_rfl) (by kernel_rfl) (by kernel_rfl) (fun _ _ _ h => by cases h.1) rfl (fun w0 hw0 => by first | rfl | kernel_rfl) S1 ?_
            simp only [Act.put, List.setIfInBounds_toArray, List.set_cons_zero, List.set_cons_succ]
            refine anyH_take (i := 2) (v := .pointer (some ⟨b8, 2, none⟩)) rfl (some 48) rfl (by kernel_rfl) (by kernel_rfl) (by kernel_rfl) (fun _ _ _ h => by cases h.1) rfl (fun w0 hw0 => by first | rfl | kernel_rfl) S1 ?_
            simp only [Act.put, List.setIfInBounds_toArray, List.set_cons_zero, List.set_cons_succ]
            refine anyH_take (i := 3) (v := .int .u32 c.toNat) rfl (some 49) rfl (by kernel_rfl) (by kernel_rfl) (by kernel_rfl) (fun _ _ _ h => by cases h.1) rfl (fun w0 hw0 => ex_load rfl rfl (run_load_cell Try.underlying32 rfl (by simp [World.cell?, (hw0.block _ hX8).trans e8]))) S1 ?_
            simp only [Act.put, List.setIfInBounds_toArray, List.set_cons_zero, List.set_cons_succ]
            refine anyH_one (i := 1) (by kernel_rfl) ?_
            refine op_call rfl (some 47) rfl rfl #[.slice ga L gc] rfl (by simp [Act.eval]) (fun _ _ => rfl) (HSu.out) ?_
            rintro e X1 ⟨rfl, hXX⟩
            rw [hXX]
            clear hXX X1
            refine ⟨_, rfl, S1, ?_⟩
            simp only [Act.put, List.setIfInBounds_toArray, List.set_cons_zero, List.set_cons_succ]
            refine anyH_take (i := 4) (v := .bool (!decide (sm = c))) rfl (some 50) rfl (by kernel_rfl) (by kernel_rfl) (by kernel_rfl) (fun _ _ _ h => by cases h.1) rfl (fun w0 hw0 => ex_neu rfl rfl rfl) S1 ?_
            simp only [Act.put, List.setIfInBounds_toArray, List.set_cons_zero, List.set_cons_succ]
            exact wpAnyH_done (by kernel_rfl) ⟨rfl, fill (S1) (by kernel_rfl)⟩ _
          case beh6 =>
            rintro a W' ⟨xx, hS', rfl⟩
            have m1 := (hS'.block _ hX1).trans e1
            have m8 := (hS'.block _ hX8).trans e8
            have BW : Below w.heap.size w W' := hB.trans ((D0.trans (hS'.mono D0.size)).mono hB.size)
            have oW := own_same oX (fun g hg => hS'.block g (own_lt oX g hg))
            obtain ⟨q0, q1, q2, q3, q4, q5⟩ := cells3h m1
            obtain ⟨r0, r1, r2, _⟩ := cells3h m8
            by_cases hsc : sm = c
            · have hyes : HoldsS d k := keyH.2 ⟨by first | rfl | trivial, ht0, hle, by unfold crcL; rw [HL.out, hsm]; exact hsc⟩
              rw [decide_eq_true hsc]
              have HZ := hide (And.intro hyes (And.intro m1 (And.intro BW oW)))
              have hwb : w.heap.size ≤ W.heap.size := hB.size
              have hn1 : w.heap.size + 1 < W.heap.size := hp_lt k1
              clear hyes m1 m8 BW oW hS' hsc oX hSu HSu D0 D6 o6 b6 e0 e1 e8 hX8 hX1 hX0 hbl hsm
              go_wp2_with fail
              refine bodyPost_ret (results_held rfl rfl rfl (set3 HZ.out.2.1 _ _ _)) rfl ⟨.inl ⟨HZ.out.1, _, rfl, ?_⟩, below3 HZ.out.2.2.1 (by omega) _ _ _⟩
              rw [HL.out]
              refine own_less ?_ hwb
              exact own_same HZ.out.2.2.2 (fun g hg => other3 _ _ _ (by have := own_base HZ.out.2.2.2 g hg; omega))
            · have hno : ¬ HoldsS d k := fun hh => by
                have := (keyH.1 hh).2.2.2
                unfold crcL at this
                rw [HL.out, hsm] at this
                exact hsc this
              rw [decide_eq_false hsc]
              have HZ := hide (And.intro hno (And.intro m1 BW))
              clear hno m1 m8 BW oW hS' hsc oX hSu HSu D0 D6 o6 b6 e0 e1 e8 hX8 hX1 hX0 hbl hsm r0 r1 r2
              go_wp2_with fail
              exact bodyPost_ret (results_held rfl rfl rfl (set3 HZ.out.2.1 _ _ _)) rfl ⟨.inr ⟨HZ.out.1, rfl⟩, below3 HZ.out.2.2 (by omega) _ _ _⟩
        · have hno : ¬ HoldsS d k := fun hh => hle (keyH.1 hh).2.2.1
          rw [decide_eq_true (show rm < n.toNat by omega)]
          have g1' := (hS.block _ hN1).trans f1
          obtain ⟨q0, q1, q2, q3, q4, q5⟩ := cells3h g1'
          have HJ := hide (And.intro g1' (And.intro hB hno))
          clear g1' hB hS hno keyH hle
          go_wp2_with fail
          exact bodyPost_ret (results_held rfl rfl rfl (set3 HJ.out.1 _ _ _)) rfl ⟨.inr ⟨HJ.out.2.2, rfl⟩, below3 HJ.out.2.1 (by omega) _ _ _⟩
end Go.Proofs.Ytfknjmfkkaoggaa
