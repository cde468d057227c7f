/- TopAsks: who asks to subscribe reads only when the owner says yes. -/
import Derived.Test.YtffjmkngdjbjlaaGreatDoorNa1
namespace Go.Proofs.YtffjmkngdjbjlaaGreatDoor
open Go.RowKit

theorem region_anyK {P : Program} {id : Nat} {ops : Array Oper} {Q : Exit → Act → World → Prop} {S : World → Prop} {a : Act} {w : World} (A : Act) (B : World → Prop) (hm : P.follows .mixedOrders = true)
    (h : wpAnyH P .any ops (fun e a w' => e = .normal ∧ a = A ∧ B w') S ops.size (Array.replicate ops.size false) a w.drew) (hq : ∀ w', B w' → Q .normal A w') : (Code.region id ops true).wp P Q a w :=
  wp_mono (wp_region_held hm h) (by rintro e a w ⟨rfl, rfl, hb⟩; exact hq w hb)
theorem load_slK {w : World} {b i : Nat} {v : Value} (hc : w.cell? ⟨b, i, none⟩ = some v) : (Instr.loadAt 27 (.pointer (some ⟨b, i, none⟩))).run Tryz.prog w = .ok v w := by
  have ha : (isAgg 27).run Tryz.prog w = .ok false w := by
    unfold isAgg
    rw [Sem.run_bind, run_underlying Tryz.underlying27 w]
    simp
  simp [Instr.loadAt, Instr.sureAddr, loadVar, ha, hc, go_sem]
theorem ex_fldK5 {o : Oper} {a : Act} {w : World} {x : Operand} {b : Nat} (ho : o.op = .fieldAddr 30 x 5) (hx : a.eval x = .pointer (some ⟨b, 0, none⟩)) : (execOp a.eval o).run Tryz.prog w = .ok (.value (.pointer (some ⟨b, 5, none⟩))) w := by
  unfold execOp
  simp only [ho, hx]
  go_simp
theorem ex_lenKs {o : Oper} {a : Act} {w : World} {x : Operand} {p : Option Addr} {m cap : Nat} (ho : o.op = .call { callee := .builtin .len, args := #[x], argTypes := #[27] }) (hx : a.eval x = .slice p m cap) : (execOp a.eval o).run Tryz.prog w = .ok (.value (.int .i64 m)) w := by
  have hr : (Builtin.len_ #[27] o.type #[.slice p m cap]).run Tryz.prog w = .ok (.int .i64 m) w := by go_simp
  simp [execOp, ho, resolve, invoke, builtin, hx, hr, Result.andThen]
theorem ex_lenKt {o : Oper} {a : Act} {w : World} {x : Operand} {p : Option Addr} {m cap : Nat} (ho : o.op = .call { callee := .builtin .len, args := #[x], argTypes := #[36] }) (hx : a.eval x = .slice p m cap) : (execOp a.eval o).run Tryz.prog w = .ok (.value (.int .i64 m)) w := by
  have hr : (Builtin.len_ #[36] o.type #[.slice p m cap]).run Tryz.prog w = .ok (.int .i64 m) w := by go_simp
  simp [execOp, ho, resolve, invoke, builtin, hx, hr, Result.andThen]
def akU (p : Nat) : NdW := ⟨some ⟨p, 0, none⟩, 1, none, 0, none, 0⟩
theorem ak_mem {W : World} {p : Nat} (f : W.heap[p]? = some (.cells #[.string oD, .int .u8 5] 25)) : NdM W.heap.size W (akN akO []) (akU p) := by
  have hl := (Array.getElem?_eq_some_iff.1 f).1
  refine ⟨⟨⟨by simp [akN, akO], fun i x hx => ?_⟩, ⟨by simp [akN], fun i x hx => by simp [akN] at hx⟩, by simp [akN, akO, akU], by simp [akN, akU]⟩, ⟨by simp [akN], fun i x hx => by simp [akN] at hx⟩, by simp [akN, akU], ⟨show (⟨#[110]⟩ : ByteArray).size ≤ _ by decide, show (⟨#[]⟩ : ByteArray).size ≤ _ by decide, fun x hx => ?_, fun x hx => by simp [akN] at hx, fun x hx => by simp [akN] at hx⟩⟩
  · match i, hx with
    | 0, hx =>
      simp [akN, akO] at hx
      subst hx
      exact ⟨p, 0, rfl, hl, by simp [World.cell?, f], by simp [World.cell?, f]⟩
  · simp [akN, akO] at hx
    subst hx
    decide
set_option maxRecDepth 100000 in
set_option maxHeartbeats 4000000 in
theorem topAsks_any (yes out : Bool) (w : World) (hg : Glob w) :
    Calls Tryz.prog 3 #[.bool yes, .bool out] w fun e w' => e = .returned (.bool true) ∧ Below w.heap.size w w' := by
  obtain ⟨W3, hbs, f3, b3⟩ := one_a (oD, 5) w
  obtain ⟨W0, hW0⟩ : ∃ W0, W3.alloc (.cells (ndA (akN akO []) (akU w.heap.size)) 30) = W0 := ⟨_, rfl⟩
  have f0 : W0.heap[W3.heap.size]? = some (.cells (ndA (akN akO []) (akU w.heap.size)) 30) := by rw [← hW0]; exact World.alloc_heap_new _ _
  have b0 : Below W3.heap.size W3 W0 := by rw [← hW0]; exact (Below.refl _ W3).alloc (Nat.le_refl _) _
  have B0 : Below w.heap.size w W0 := b3.trans (b0.mono b3.size)
  have hm0 := ak_mem ((b0.block _ (Array.getElem?_eq_some_iff.1 f3).1).trans f3)
  have HC := hide (subscribe_any (akN akO []) _ sD 0 W0 hm0 (hg.below B0) (by decide) (withS_all _ _))
  have HA := hide f0
  have HW0 := hide hW0
  have HG := hide hg
  have BB0 := hide B0
  rw [← hW0] at HC HA
  clear hg f3 f0 b3 b0 B0 hm0 hW0
  go_enter Tryz.func3, Tryz.ntmps3
  go_wp2_with (first | refine l_val rfl _ (ex_sliceI (us := #[(0, .agg #[.string oD, .int .u8 5])]) rfl (by simp [Act.eval, oD]) hbs) ?_ | refine l_load _ (load_nd HA.out) rfl rfl rfl ?_)
  clear hbs
  refine HC.out.mono ?_
  rintro e w1 ⟨m, u1, c, rfl, hC, hm, b, _⟩
  obtain ⟨rfl, rfl⟩ := ak_1 _ _ hC
  have b' : Below W0.heap.size W0 w1 := by
    have h : _ = W0 := HW0.out
    rw [h] at b
    exact b
  obtain ⟨W1, hW1⟩ : ∃ W1, w1.alloc (.cells (ndA (akN akO [(sD, true, 0)]) u1) 30) = W1 := ⟨_, rfl⟩
  have f1 : W1.heap[w1.heap.size]? = some (.cells (ndA (akN akO [(sD, true, 0)]) u1) 30) := by rw [← hW1]; exact World.alloc_heap_new _ _
  have bk : Below w1.heap.size w1 W1 := by rw [← hW1]; exact (Below.refl _ w1).alloc (Nat.le_refl _) _
  have B1 : Below W0.heap.size W0 W1 := b'.trans (bk.mono b'.size)
  have BB1 := hide (BB0.out.trans (B1.mono BB0.out.size))
  have F1 := hide (And.intro f1 (hm.move bk))
  clear HC HA
  have HC := hide (subscribe_any (akN akO [(sD, true, 0)]) u1 sD 0 W1 F1.out.2 (HG.out.below BB1.out) (by decide) (withS_all _ _))
  have HA := hide F1.out.1
  clear hC hm b b' bk f1 B1
  have HW1 := hide hW1
  rw [← hW1] at HC HA
  clear HW0
  have hlit : (ndA (akN akO [(sD, true, 0)]) u1 : Array Value) = #[.string ⟨#[110]⟩, .bool false, .int .u8 1, .int .i64 3, .slice u1.aa 1 u1.ac, .slice u1.sa 1 u1.sc, .slice u1.ia 0 u1.ic, .string ⟨#[]⟩] := rfl
  rw [hlit] at HC HA ⊢
  clear hlit
  clear hW1
  go_wp2_with (refine l_load _ (load_nd (n := (akN akO [(sD, true, 0)])) (v := u1) HA.out) rfl rfl rfl ?_)
  refine HC.out.mono ?_
  rintro e w2 ⟨m, u2, c, rfl, hC, hm, b, _⟩
  obtain ⟨rfl, rfl⟩ := ak_2 _ _ hC
  have b' : Below W1.heap.size W1 w2 := by
    have h : w1.alloc (.cells #[.string ⟨#[110]⟩, .bool false, .int .u8 1, .int .i64 3, .slice u1.aa 1 u1.ac, .slice u1.sa 1 u1.sc, .slice u1.ia 0 u1.ic, .string ⟨#[]⟩] 30) = W1 := HW1.out
    rw [h] at b
    exact b
  obtain ⟨W2, hW2⟩ : ∃ W2, w2.alloc (.cells (ndA noN u2) 30) = W2 := ⟨_, rfl⟩
  have f2 : W2.heap[w2.heap.size]? = some (.cells (ndA noN u2) 30) := by rw [← hW2]; exact World.alloc_heap_new _ _
  have bk : Below w2.heap.size w2 W2 := by rw [← hW2]; exact (Below.refl _ w2).alloc (Nat.le_refl _) _
  have B2 : Below W1.heap.size W1 W2 := b'.trans (bk.mono b'.size)
  have BB2 := hide (BB1.out.trans (B2.mono BB1.out.size))
  have F2 := hide (And.intro f2 (hm.move bk))
  replace F1 := hide (And.intro (q_call F1.out.1 B2) (F1.out.2.move B2))
  clear HC HA
  have HC := hide (decide_any (akN akO [(sD, true, 0)]) u1 oD sD yes W2 F1.out.2 (HG.out.below BB2.out) (by decide))
  have HA := hide F1.out.1
  clear hC hm b b' bk f2 B2
  have HW2 := hide hW2
  rw [← hW2] at HC HA
  clear HW1
  have hlit : (ndA noN u2 : Array Value) = #[.string ⟨#[]⟩, .bool false, .int .u8 0, .int .i64 0, .slice u2.aa 0 u2.ac, .slice u2.sa 0 u2.sc, .slice u2.ia 0 u2.ic, .string ⟨#[]⟩] := rfl
  rw [hlit] at HC HA ⊢
  clear hlit
  clear hW2
  go_wp2_with (refine l_load _ (load_nd (n := (akN akO [(sD, true, 0)])) (v := u1) HA.out) rfl rfl rfl ?_)
  refine HC.out.mono ?_
  rintro e w3 ⟨m, u3, c, rfl, hC, hm, b, _⟩
  obtain ⟨rfl, rfl⟩ := ak_3 yes _ _ hC
  have b' : Below W2.heap.size W2 w3 := by
    have h : w2.alloc (.cells #[.string ⟨#[]⟩, .bool false, .int .u8 0, .int .i64 0, .slice u2.aa 0 u2.ac, .slice u2.sa 0 u2.sc, .slice u2.ia 0 u2.ic, .string ⟨#[]⟩] 30) = W2 := HW2.out
    rw [h] at b
    exact b
  obtain ⟨W3, hW3⟩ : ∃ W3, w3.alloc (.cells (ndA (akN akO (akB yes)) u3) 30) = W3 := ⟨_, rfl⟩
  have f3 : W3.heap[w3.heap.size]? = some (.cells (ndA (akN akO (akB yes)) u3) 30) := by rw [← hW3]; exact World.alloc_heap_new _ _
  have bk : Below w3.heap.size w3 W3 := by rw [← hW3]; exact (Below.refl _ w3).alloc (Nat.le_refl _) _
  have B3 : Below W2.heap.size W2 W3 := b'.trans (bk.mono b'.size)
  have BB3 := hide (BB2.out.trans (B3.mono BB2.out.size))
  have F3 := hide (And.intro f3 (hm.move bk))
  replace F1 := hide (And.intro (q_call F1.out.1 B3) (F1.out.2.move B3))
  replace F2 := hide (And.intro (q_call F2.out.1 B3) (F2.out.2.move B3))
  clear HC HA
  have HC := hide (decide_any (akN akO [(sD, true, 0)]) u1 sD sD true W3 F1.out.2 (HG.out.below BB3.out) (by decide))
  have HA := hide F1.out.1
  clear hC hm b b' bk f3 B3
  have HW3 := hide hW3
  rw [← hW3] at HC HA
  clear HW2
  have hlit : (ndA (akN akO (akB yes)) u3 : Array Value) = #[.string ⟨#[110]⟩, .bool false, .int .u8 1, .int .i64 3, .slice u3.aa 1 u3.ac, .slice u3.sa (akB yes).length u3.sc, .slice u3.ia 0 u3.ic, .string ⟨#[]⟩] := rfl
  rw [hlit] at HC HA ⊢
  clear hlit
  clear hW3
  go_wp2_with (refine l_load _ (load_nd (n := (akN akO [(sD, true, 0)])) (v := u1) HA.out) rfl rfl rfl ?_)
  refine HC.out.mono ?_
  rintro e w4 ⟨m, u4, c, rfl, hC, hm, b, _⟩
  obtain ⟨rfl, rfl⟩ := ak_4 _ _ hC
  have b' : Below W3.heap.size W3 w4 := by
    have h : w3.alloc (.cells #[.string ⟨#[110]⟩, .bool false, .int .u8 1, .int .i64 3, .slice u3.aa 1 u3.ac, .slice u3.sa (akB yes).length u3.sc, .slice u3.ia 0 u3.ic, .string ⟨#[]⟩] 30) = W3 := HW3.out
    rw [h] at b
    exact b
  obtain ⟨W4, hW4⟩ : ∃ W4, w4.alloc (.cells (ndA noN u4) 30) = W4 := ⟨_, rfl⟩
  have f4 : W4.heap[w4.heap.size]? = some (.cells (ndA noN u4) 30) := by rw [← hW4]; exact World.alloc_heap_new _ _
  have bk : Below w4.heap.size w4 W4 := by rw [← hW4]; exact (Below.refl _ w4).alloc (Nat.le_refl _) _
  have B4 : Below W3.heap.size W3 W4 := b'.trans (bk.mono b'.size)
  have BB4 := hide (BB3.out.trans (B4.mono BB3.out.size))
  have F4 := hide (And.intro f4 (hm.move bk))
  replace F1 := hide (And.intro (q_call F1.out.1 B4) (F1.out.2.move B4))
  replace F2 := hide (And.intro (q_call F2.out.1 B4) (F2.out.2.move B4))
  replace F3 := hide (And.intro (q_call F3.out.1 B4) (F3.out.2.move B4))
  clear HC HA
  have HC := hide (reads_any (akN akO [(sD, true, 0)]) u1 sD W4 F1.out.2.ok)
  have HA := hide F1.out.1
  clear hC hm b b' bk f4 B4
  have HW4 := hide hW4
  rw [← hW4] at HC HA
  clear HW3
  have hlit : (ndA noN u4 : Array Value) = #[.string ⟨#[]⟩, .bool false, .int .u8 0, .int .i64 0, .slice u4.aa 0 u4.ac, .slice u4.sa 0 u4.sc, .slice u4.ia 0 u4.ic, .string ⟨#[]⟩] := rfl
  rw [hlit] at HC HA ⊢
  clear hlit
  rw [ak_r1] at HC
  have h4 : w4.alloc (.cells #[.string ⟨#[]⟩, .bool false, .int .u8 0, .int .i64 0, .slice u4.aa 0 u4.ac, .slice u4.sa 0 u4.sc, .slice u4.ia 0 u4.ic, .string ⟨#[]⟩] 30) = W4 := hW4
  have e8 : (w4.alloc (.cells #[.string ⟨#[]⟩, .bool false, .int .u8 0, .int .i64 0, .slice u4.aa 0 u4.ac, .slice u4.sa 0 u4.sc, .slice u4.ia 0 u4.ic, .string ⟨#[]⟩] 30)).cell? ⟨w2.heap.size, 0, none⟩ = some (.string ⟨#[]⟩) := by
    rw [h4]
    exact (nd_box F2.out.1).1
  clear h4 hW4
  have c0 := (nd_box HA.out).1
  have c1 := (nd_box HA.out).2.1
  have c2 := (nd_box HA.out).2.2.1
  have c3 := (nd_box HA.out).2.2.2.1
  have c4 := (nd_box HA.out).2.2.2.2.1
  have c5 := (nd_box HA.out).2.2.2.2.2.1
  have c6 := (nd_box HA.out).2.2.2.2.2.2.1
  have c7 := (nd_box HA.out).2.2.2.2.2.2.2
  go_wp2_with fail
  clear c0 c1 c2 c3 c4 c5 c6 c7 e8
  refine HC.out.mono ?_
  rintro e w5 ⟨rfl, b⟩
  have b5 : Below W4.heap.size W4 w5 := by
    have h : w4.alloc (.cells #[.string ⟨#[]⟩, .bool false, .int .u8 0, .int .i64 0, .slice u4.aa 0 u4.ac, .slice u4.sa 0 u4.sc, .slice u4.ia 0 u4.ic, .string ⟨#[]⟩] 30) = W4 := HW4.out
    rw [h] at b
    exact b
  have B5 := hide (BB4.out.trans (b5.mono BB4.out.size))
  have F5 := hide (And.intro (q_call F3.out.1 b5) (F3.out.2.move b5))
  clear HC HA b b5 HW4
  have HC := hide (reads_any (akN akO (akB yes)) u3 sD w5 F5.out.2.ok)
  rw [ak_r2] at HC
  have c0 := (nd_box F5.out.1).1
  have c1 := (nd_box F5.out.1).2.1
  have c2 := (nd_box F5.out.1).2.2.1
  have c3 := (nd_box F5.out.1).2.2.2.1
  have c4 := (nd_box F5.out.1).2.2.2.2.1
  have c5 := (nd_box F5.out.1).2.2.2.2.2.1
  have c6 := (nd_box F5.out.1).2.2.2.2.2.2.1
  have c7 := (nd_box F5.out.1).2.2.2.2.2.2.2
  go_wp2_with fail
  clear c0 c1 c2 c3 c4 c5 c6 c7
  refine HC.out.mono ?_
  rintro e w6 ⟨rfl, b⟩
  have B6 := hide (B5.out.trans (b.mono B5.out.size))
  have F6 := hide (And.intro (q_call F5.out.1 b) (F5.out.2.move b))
  clear HC b
  cases out with
  | false =>
    have HR := hide F6.out
    have HB := hide B6.out
    clear F6 B6 F5 F4 F3 F2 F1 BB0 BB1 BB2 BB3 BB4 B5
    go_wp2_with fail
    obtain ⟨V0, hV0⟩ : ∃ V0, w6.drew = V0 := ⟨_, rfl⟩
    have bV : Below w6.heap.size w6 V0 := by rw [← hV0]; exact (Below.refl _ w6).drew
    have f0 := q_call HR.out.1 bV
    have m0 := HR.out.2.move bV
    have BV : Below w.heap.size w V0 := HB.out.trans (bV.mono HB.out.size)
    refine region_rel (S := fun V => Below V0.heap.size V0 V) (fun a Wz => ∃ xx : Nat → Value, Below w.heap.size w Wz ∧ a = { tmps := #[.bool yes, xx 1, xx 2, xx 3, .bool true, xx 5, xx 6, xx 7, xx 8, xx 9, xx 10, xx 11, xx 12, xx 13, xx 14, xx 15, xx 16, xx 17, xx 18, xx 19, xx 20, xx 21, xx 22, xx 23, xx 24, xx 25, xx 26, xx 27, xx 28, xx 29, xx 30, xx 31, xx 32, xx 33, xx 34, xx 35, xx 36, xx 37, xx 38, xx 39, xx 40, xx 41, xx 42, xx 43, xx 44, xx 45, xx 46, xx 47, xx 48, xx 49, xx 50, xx 51, xx 52, xx 53, xx 54, xx 55, xx 56, xx 57, xx 58, xx 59, xx 60, xx 61, xx 62, xx 63, xx 64, xx 65, xx 66, xx 67, xx 68, xx 69, xx 70, xx 71, xx 72, xx 73, xx 74, xx 75, xx 76, xx 77, xx 78, xx 79, xx 80, xx 81, xx 82, xx 83, xx 84, xx 85, xx 86, xx 87, xx 88, xx 89, xx 90, xx 91, xx 92, xx 93, xx 94, xx 95, xx 96, xx 97, xx 98, xx 99, xx 100, xx 101, xx 102, xx 103, xx 104, xx 105, xx 106, xx 107, xx 108, xx 109, xx 110, xx 111, xx 112], defers := [] }) (by kernel_rfl) ?any ?fin
    case any =>
      rw [hV0]
      have S0 : Below V0.heap.size V0 V0 := Below.refl _ _
      refine anyH_take (i := 0) (v := .agg (ndA (akN akO (akB yes)) u3)) rfl (some 73) rfl (by kernel_rfl) (by kernel_rfl) (by kernel_rfl) (fun _ _ _ h => by cases h.1) (by kernel_rfl) (fun w0 hw0 => ex_load rfl rfl (load_nd (q_call f0 hw0))) S0 ?_
      simp only [Act.put, List.setIfInBounds_toArray, List.set_cons_zero, List.set_cons_succ]
      refine anyH_one (i := 1) (by kernel_rfl) ?_
      have hR := reads_any (akN akO (akB yes)) u3 oD V0 m0.ok
      rw [ak_r3] at hR
      refine op_call rfl (some 74) rfl (by kernel_rfl) #[.agg (ndA (akN akO (akB yes)) u3), .string oD] rfl (by simp [Act.eval, oD]) (fun _ _ => rfl) hR ?_
      rintro e V1 ⟨rfl, S1⟩
      refine ⟨_, rfl, S1, ?_⟩
      simp only [Act.put, List.setIfInBounds_toArray, List.set_cons_zero, List.set_cons_succ]
      refine anyH_take (i := 2) (v := .bool true) rfl (some 75) rfl (by kernel_rfl) (by kernel_rfl) (by kernel_rfl) (fun _ _ _ h => by cases h.1) (by kernel_rfl) (fun w0 hw0 => by first | rfl | kernel_rfl) S1 ?_
      simp only [Act.put, List.setIfInBounds_toArray, List.set_cons_zero, List.set_cons_succ]
      refine anyH_take (i := 3) (v := .agg (ndA (akN akO (akB yes)) u3)) rfl (some 76) rfl (by kernel_rfl) (by kernel_rfl) (by kernel_rfl) (fun _ _ _ h => by cases h.1) (by kernel_rfl) (fun w0 hw0 => ex_load rfl rfl (load_nd (q_call f0 hw0))) S1 ?_
      simp only [Act.put, List.setIfInBounds_toArray, List.set_cons_zero, List.set_cons_succ]
      refine anyH_take (i := 7) (v := .pointer (some ⟨w3.heap.size, 5, none⟩)) rfl (some 80) rfl (by kernel_rfl) (by kernel_rfl) (by kernel_rfl) (fun _ _ _ h => by cases h.1) (by kernel_rfl) (fun _ _ => ex_fldK5 rfl rfl) S1 ?_
      simp only [Act.put, List.setIfInBounds_toArray, List.set_cons_zero, List.set_cons_succ]
      refine anyH_take (i := 8) (v := .slice u3.sa (akB yes).length u3.sc) rfl (some 81) rfl (by kernel_rfl) (by kernel_rfl) (by kernel_rfl) (fun _ _ _ h => by cases h.1) (by kernel_rfl) (fun w0 hw0 => ex_load rfl rfl (load_slK (nd_box (q_call f0 hw0)).2.2.2.2.2.1)) S1 ?_
      simp only [Act.put, List.setIfInBounds_toArray, List.set_cons_zero, List.set_cons_succ]
      refine anyH_take (i := 9) (v := .int .i64 (akB yes).length) rfl (some 82) rfl (by kernel_rfl) (by kernel_rfl) (by kernel_rfl) (fun _ _ _ h => by cases h.1) (by kernel_rfl) (fun _ _ => ex_lenKs rfl rfl) S1 ?_
      simp only [Act.put, List.setIfInBounds_toArray, List.set_cons_zero, List.set_cons_succ]
      obtain ⟨V2, hbs, f2, b2⟩ := one_n (akN akO (akB yes)) u3 V1
      have S2 := S1.trans (b2.mono S1.size)
      refine anyH_one (i := 4) (by kernel_rfl) ?_
      refine op_run rfl (some 77) rfl (by kernel_rfl) (ex_sliceI (us := #[(0, .agg (ndA (akN akO (akB yes)) u3))]) rfl (by simp [Act.eval]) hbs) ?_
      refine ⟨S2, ?_⟩
      simp only [Act.put, List.setIfInBounds_toArray, List.set_cons_zero, List.set_cons_succ]
      refine anyH_one (i := 5) (by kernel_rfl) ?_
      refine op_call rfl (some 78) rfl (by kernel_rfl) #[.slice (some ⟨V1.heap.size, 0, none⟩) 1 1, .string ⟨#[110]⟩] rfl (by simp [Act.eval]) (fun _ _ => rfl) (fanB_any yes u3 V1.heap.size V2 f2 ((m0.move S2).ok)) ?_
      rintro e V3 ⟨⟨ga, gc, rfl⟩, b3⟩
      have S3 := S2.trans (b3.mono S2.size)
      refine ⟨_, rfl, S3, ?_⟩
      simp only [Act.put, List.setIfInBounds_toArray, List.set_cons_zero, List.set_cons_succ]
      refine anyH_take (i := 6) (v := .int .i64 (akB yes).length) rfl (some 79) rfl (by kernel_rfl) (by kernel_rfl) (by kernel_rfl) (fun _ _ _ h => by cases h.1) (by kernel_rfl) (fun _ _ => ex_lenKt rfl rfl) S3 ?_
      simp only [Act.put, List.setIfInBounds_toArray, List.set_cons_zero, List.set_cons_succ]
      refine anyH_take (i := 10) (v := .bool true) rfl (some 83) rfl (by kernel_rfl) (by kernel_rfl) (by kernel_rfl) (fun _ _ _ h => by cases h.1) (by kernel_rfl) (fun _ _ => ex_eqI rfl rfl rfl (beq_self_eq_true _)) S3 ?_
      simp only [Act.put, List.setIfInBounds_toArray, List.set_cons_zero, List.set_cons_succ]
      refine anyH_take (i := 11) (v := .bool true) rfl (some 84) rfl (by kernel_rfl) (by kernel_rfl) (by kernel_rfl) (fun _ _ _ h => by cases h.1) (by kernel_rfl) (fun _ _ => ex_pkT rfl rfl rfl) S3 ?_
      simp only [Act.put, List.setIfInBounds_toArray, List.set_cons_zero, List.set_cons_succ]
      refine anyH_val (i := 12) (by kernel_rfl) rfl (some 4) rfl (by kernel_rfl) (ex_anyv rfl rfl) S3 ?_
      simp only [Act.put, List.setIfInBounds_toArray, List.set_cons_zero, List.set_cons_succ]
      exact wpAnyH_done (by kernel_rfl) ⟨rfl, fill (BV.trans (S3.mono BV.size)) (by kernel_rfl)⟩ _
    case fin =>
      rintro a W ⟨xx, hW, rfl⟩
      have HW := hide hW
      clear hW bV f0 m0 BV hV0
      go_wp2_with fail
      go_ret
      exact ⟨rfl, HW.out⟩
  | true =>
    have HC := hide (affiliate_any (akN akO (akB yes)) u3 oD sD 1 w6 F6.out.2 (HG.out.below B6.out) (by decide))
    have HA := hide F6.out.1
    go_wp2_with (refine l_load _ (load_nd (n := (akN akO (akB yes))) (v := u3) HA.out) rfl rfl rfl ?_)
    refine HC.out.mono ?_
    rintro e w7 ⟨m, u7, c, rfl, hC, hm, b, _⟩
    obtain ⟨rfl, rfl⟩ := ak_5 yes _ _ hC
    obtain ⟨W7, hW7⟩ : ∃ W7, w7.alloc (.cells (ndA (akN akX []) u7) 30) = W7 := ⟨_, rfl⟩
    have f7 : W7.heap[w7.heap.size]? = some (.cells (ndA (akN akX []) u7) 30) := by rw [← hW7]; exact World.alloc_heap_new _ _
    have bk : Below w7.heap.size w7 W7 := by rw [← hW7]; exact (Below.refl _ w7).alloc (Nat.le_refl _) _
    have BB7 := hide (B6.out.trans ((b.trans (bk.mono b.size)).mono B6.out.size))
    have F7 := hide (And.intro f7 (hm.move bk))
    clear HC HA
    have HC := hide (subscribe_any (akN akX []) u7 sD 0 W7 F7.out.2 (HG.out.below BB7.out) (by decide) (withS_all _ _))
    have HA := hide F7.out.1
    clear hC hm b bk f7
    have HW7 := hide hW7
    rw [← hW7] at HC HA
    have hlit : (ndA (akN akX []) u7 : Array Value) = #[.string ⟨#[110]⟩, .bool false, .int .u8 1, .int .i64 3, .slice u7.aa 2 u7.ac, .slice u7.sa 0 u7.sc, .slice u7.ia 0 u7.ic, .string ⟨#[]⟩] := rfl
    rw [hlit] at HC HA ⊢
    clear hlit hW7
    go_wp2_with (refine l_load _ (load_nd (n := (akN akX [])) (v := u7) HA.out) rfl rfl rfl ?_)
    refine HC.out.mono ?_
    rintro e w8 ⟨m, u8, c, rfl, hC, hm, b, _⟩
    obtain ⟨rfl, rfl⟩ := ak_6 _ _ hC
    have b' : Below W7.heap.size W7 w8 := by
      have h : w7.alloc (.cells #[.string ⟨#[110]⟩, .bool false, .int .u8 1, .int .i64 3, .slice u7.aa 2 u7.ac, .slice u7.sa 0 u7.sc, .slice u7.ia 0 u7.ic, .string ⟨#[]⟩] 30) = W7 := HW7.out
      rw [h] at b
      exact b
    obtain ⟨W8, hW8⟩ : ∃ W8, w8.alloc (.cells (ndA noN u8) 30) = W8 := ⟨_, rfl⟩
    have bk : Below w8.heap.size w8 W8 := by rw [← hW8]; exact (Below.refl _ w8).alloc (Nat.le_refl _) _
    have B8 : Below W7.heap.size W7 W8 := b'.trans (bk.mono b'.size)
    have BB8 := hide (BB7.out.trans (B8.mono BB7.out.size))
    have F8 := hide (And.intro (q_call F7.out.1 B8) (F7.out.2.move B8))
    clear HC HA
    have HC := hide (reads_any (akN akX []) u7 sD W8 F8.out.2.ok)
    rw [ak_r4] at HC
    have HA := hide F8.out.1
    clear hC hm b b' bk B8
    have HW8 := hide hW8
    rw [← hW8] at HC HA
    have hlit : (ndA noN u8 : Array Value) = #[.string ⟨#[]⟩, .bool false, .int .u8 0, .int .i64 0, .slice u8.aa 0 u8.ac, .slice u8.sa 0 u8.sc, .slice u8.ia 0 u8.ic, .string ⟨#[]⟩] := rfl
    rw [hlit] at HC HA ⊢
    clear hlit hW8 HW7
    have c0 := (nd_box HA.out).1
    have c1 := (nd_box HA.out).2.1
    have c2 := (nd_box HA.out).2.2.1
    have c3 := (nd_box HA.out).2.2.2.1
    have c4 := (nd_box HA.out).2.2.2.2.1
    have c5 := (nd_box HA.out).2.2.2.2.2.1
    have c6 := (nd_box HA.out).2.2.2.2.2.2.1
    have c7 := (nd_box HA.out).2.2.2.2.2.2.2
    go_wp2_with fail
    clear c0 c1 c2 c3 c4 c5 c6 c7
    refine HC.out.mono ?_
    rintro e w9 ⟨rfl, b⟩
    have b9 : Below W8.heap.size W8 w9 := by
      have h : w8.alloc (.cells #[.string ⟨#[]⟩, .bool false, .int .u8 0, .int .i64 0, .slice u8.aa 0 u8.ac, .slice u8.sa 0 u8.sc, .slice u8.ia 0 u8.ic, .string ⟨#[]⟩] 30) = W8 := HW8.out
      rw [h] at b
      exact b
    have B9 := hide (BB8.out.trans (b9.mono BB8.out.size))
    have F9 := hide (And.intro (q_call F8.out.1 b9) (F8.out.2.move b9))
    clear HC HA b b9 HW8
    obtain ⟨W10, hW10⟩ : ∃ W10, w9.alloc (.cells (ndA (akN akX []) u7) 30) = W10 := ⟨_, rfl⟩
    have f10 : W10.heap[w9.heap.size]? = some (.cells (ndA (akN akX []) u7) 30) := by rw [← hW10]; exact World.alloc_heap_new _ _
    have bk : Below w9.heap.size w9 W10 := by rw [← hW10]; exact (Below.refl _ w9).alloc (Nat.le_refl _) _
    have HC := hide (fanX_any u7 w9.heap.size W10 f10 (F9.out.2.move bk).ok)
    have B10 := hide (B9.out.trans (bk.mono B9.out.size))
    have HW10 := hide hW10
    rw [← hW10] at HC
    have hlit : (ndA (akN akX []) u7 : Array Value) = #[.string ⟨#[110]⟩, .bool false, .int .u8 1, .int .i64 3, .slice u7.aa 2 u7.ac, .slice u7.sa 0 u7.sc, .slice u7.ia 0 u7.ic, .string ⟨#[]⟩] := rfl
    rw [hlit] at HC
    clear hlit hW10 bk f10
    have c0 := (nd_box F9.out.1).1
    have c1 := (nd_box F9.out.1).2.1
    have c2 := (nd_box F9.out.1).2.2.1
    have c3 := (nd_box F9.out.1).2.2.2.1
    have c4 := (nd_box F9.out.1).2.2.2.2.1
    have c5 := (nd_box F9.out.1).2.2.2.2.2.1
    have c6 := (nd_box F9.out.1).2.2.2.2.2.2.1
    have c7 := (nd_box F9.out.1).2.2.2.2.2.2.2
    go_wp2_with fail
    clear c0 c1 c2 c3 c4 c5 c6 c7
    refine HC.out.mono ?_
    rintro e w11 ⟨⟨ga, gc, rfl⟩, b⟩
    have b11 : Below W10.heap.size W10 w11 := by
      have h : w9.alloc (.cells #[.string ⟨#[110]⟩, .bool false, .int .u8 1, .int .i64 3, .slice u7.aa 2 u7.ac, .slice u7.sa 0 u7.sc, .slice u7.ia 0 u7.ic, .string ⟨#[]⟩] 30) = W10 := HW10.out
      rw [h] at b
      exact b
    have B11 := hide (B10.out.trans (b11.mono B10.out.size))
    clear b b11
    go_wp2_with fail
    go_ret
    exact ⟨rfl, B11.out⟩
end Go.Proofs.YtffjmkngdjbjlaaGreatDoor
