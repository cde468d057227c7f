/- JidCase: capital letters count as small ones: whatever the address. -/
import Derived.Test.YtgdbhijlblafcaaJidTwice
import Derived.Test.YtgdbhijlblafcaaJU
namespace Go.Proofs.Ytgdbhijlblafcaa
open Go.RowKit

set_option maxRecDepth 100000 in
/-- A call: a step of a region that draws. -/
theorem step_upper {ops : Array Oper} {o : Oper} {a : Act} {w : World} {K : Act → World → Prop} {Q : Exit → Act → World → Prop} {E : Prop} (hw : Region.wanted o (yielded ops a.tmps) = true) (t : Nat) (ty : TypeId)
    (hop : o.op = Op.call { callee := Callee.value (.func 9), args := #[.tmp t], argTypes := #[ty] }) (v : Value) (hx : a.tmps[t]?.getD undef = v) {R : Ending → World → Prop} (hC : Calls Try.prog 9 #[v] w R) (hK : ∀ e w', R e w' → ∃ v, e = .returned v ∧ K (a.put o.dst v) w') :
    if Region.wanted o (yielded ops a.tmps) = true then Oper.wp Try.prog o a w K Q else E := by
  rw [if_pos hw]
  have _f := Try.func9
  unfold Oper.wp
  simp only [execOp, hop, resolve, invoke]
  go_simp
  refine hC.mono ?_
  intro e w' hR
  obtain ⟨u, rfl, hk⟩ := hK e w' hR
  exact hk
/-- A call that may come up. -/
theorem op_upper {ops : Array Oper} {Q : Exit → Act → World → Prop} {i : Nat} {o : Oper} {a : Act} {w : World} {K : Act → World → Prop} (hi : ops[i]? = some o) (dst : Option Tmp) (hdst : o.dst = dst) (hw : Region.wanted o (yielded ops a.tmps) = true) (t : Nat) (ty : TypeId)
    (hop : o.op = Op.call { callee := Callee.value (.func 9), args := #[.tmp t], argTypes := #[ty] }) (v : Value) (hx : a.tmps[t]?.getD undef = v) {R : Ending → World → Prop} (hC : Calls Try.prog 9 #[v] w R) (hK : ∀ e w', R e w' → ∃ v, e = .returned v ∧ K (a.put dst v) w') : wpOp Try.prog ops Q i K a w := by
  subst hdst
  have h := step_upper (E := True) (Q := Q) hw t ty hop v hx hC hK
  rw [if_pos hw] at h
  unfold wpOp
  simp only [hi, hw, if_true]
  exact .inl h
theorem run_load_cell {T : TypeId} {d : TypeDesc} {w : World} {b i : Nat} {v : Value} (hu : Try.prog.underlying T = some d) (hd : d.isRow = false) (hc : w.cell? ⟨b, i, none⟩ = some v) : (Instr.loadAt T (.pointer (some ⟨b, i, none⟩))).run Try.prog w = .ok v w := by
  have ha : (isAgg T).run Try.prog w = .ok false w := by
    unfold isAgg
    rw [Sem.run_bind, run_underlying hu w]
    cases d <;> simp_all
  simp [Instr.loadAt, Instr.sureAddr, loadVar, ha, hc, go_sem]
theorem ex_build {o : Oper} {a : Act} {w : World} {T : TypeId} {ps : Array (Nat × Operand)} {v : Value} {us : Array (Nat × Value)} (ho : o.op = .build T ps) (hp : (ps.map fun x => (x.1, a.eval x.2)) = us) (hr : (Instr.build T us).run Try.prog w = .ok v w) : (execOp a.eval o).run Try.prog w = .ok (.value v) w := by
  unfold execOp
  simp only [ho]
  rw [show (ps.map fun (i, x) => (i, a.eval x)) = us from hp]
  simp [hr]
theorem up_low (b c d : ByteArray) (h : (⟨(b.data.toList.map upB).toArray⟩ : ByteArray) = c) (h2 : (⟨(b.data.toList.map lowB).toArray⟩ : ByteArray) = d) : (⟨(c.data.toList.map lowB).toArray⟩ : ByteArray) = d := by
  subst h
  subst h2
  have e : ((b.data.toList.map upB).toArray).toList.map lowB = b.data.toList.map lowB := by
    rw [List.toList_toArray, List.map_map]
    exact List.map_congr_left (fun x _ => lowB_up x)
  show (⟨(((b.data.toList.map upB).toArray).toList.map lowB).toArray⟩ : ByteArray) = _
  rw [e]
theorem up_size (b c : ByteArray) (h : (⟨(b.data.toList.map upB).toArray⟩ : ByteArray) = c) : c.size = b.size := by
  subst h
  show ((b.data.toList.map upB).toArray).size = b.data.size
  rw [List.size_toArray, List.length_map, Array.length_toList]

set_option maxRecDepth 100000 in
set_option maxHeartbeats 16000000 in
theorem jidCase_any (lo dom res : ByteArray) (w : World) (hs : lo.size + dom.size + res.size + 2 ≤ 9223372036854775807) (hm : MaxG w) (h1 : 0 < w.heap.size) : Calls Try.prog 4 #[.agg #[.string lo, .string dom, .string res]] w fun e w' => e = .returned (.bool true) ∧ Below w.heap.size w w' := by
  have HM := hide hm
  clear hm
  obtain ⟨Wa, hWa, aa, ba, za⟩ := newJ w (.string lo) (.string dom) (.string res)
  obtain ⟨c0, c1, c2, _⟩ := cells3 aa
  have H0 := hide (And.intro aa ba)
  clear aa ba
  obtain ⟨l1, hl1⟩ : ∃ l1, (⟨(lo.data.toList.map lowB).toArray⟩ : ByteArray) = l1 := ⟨_, rfl⟩
  obtain ⟨d1, hd1⟩ : ∃ d1, (⟨(dom.data.toList.map lowB).toArray⟩ : ByteArray) = d1 := ⟨_, rfl⟩
  obtain ⟨lu, hlu⟩ : ∃ l1, (⟨(lo.data.toList.map upB).toArray⟩ : ByteArray) = l1 := ⟨_, rfl⟩
  obtain ⟨du, hdu⟩ : ∃ d1, (⟨(dom.data.toList.map upB).toArray⟩ : ByteArray) = d1 := ⟨_, rfl⟩
  have zl := up_size lo lu hlu
  have zd := up_size dom du hdu
  have el := up_low lo lu l1 hlu hl1
  have ed := up_low dom du d1 hdu hd1
  have hn1 : ∀ w : World, Calls Try.prog 6 #[.agg #[.string lu, .string du, .string res]] w fun e w' => e = .returned (.agg #[.string l1, .string d1, .string res]) ∧ Below w.heap.size w w' := fun w => by have := normal_any lu du res w (by omega) (by omega); rw [el, ed] at this; exact this
  have hn2 : ∀ w : World, Calls Try.prog 6 #[.agg #[.string lo, .string dom, .string res]] w fun e w' => e = .returned (.agg #[.string l1, .string d1, .string res]) ∧ Below w.heap.size w w' := fun w => by have := normal_any lo dom res w (by omega) (by omega); rw [hl1, hd1] at this; exact this
  have hu1 : ∀ w : World, Calls Try.prog 9 #[.string lo] w fun e w' => e = .returned (.string lu) ∧ Below w.heap.size w w' := fun w => by have := upper_any lo w (by omega); rw [hlu] at this; exact this
  have hu2 : ∀ w : World, Calls Try.prog 9 #[.string dom] w fun e w' => e = .returned (.string du) ∧ Below w.heap.size w w' := fun w => by have := upper_any dom w (by omega); rw [hdu] at this; exact this
  obtain ⟨rb, hrb⟩ : ∃ rb, decide (RightJ (jl lo dom res)) = rb := ⟨_, rfl⟩
  have hrb2 : decide (RightJ (jl lu du res)) = rb := by
    rw [← hrb]
    have e : RightJ (jl lu du res) ↔ RightJ (jl lo dom res) := by rw [← hlu, ← hdu]; exact right_map ptB_up (jl lo dom res)
    exact decide_eq_decide.2 e
  have hr1 : ∀ v : World, MaxG v → 0 < v.heap.size → Calls Try.prog 8 #[.agg #[.string lu, .string du, .string res]] v fun e w' => e = .returned (.bool rb) ∧ Below v.heap.size v w' := fun v a b => by rw [← hrb2]; exact right_any lu du res v (by omega) a b
  have hr2 : ∀ v : World, MaxG v → 0 < v.heap.size → Calls Try.prog 8 #[.agg #[.string lo, .string dom, .string res]] v fun e w' => e = .returned (.bool rb) ∧ Below v.heap.size v w' := fun v a b => by rw [← hrb]; exact right_any lo dom res v hs a b
  have HUU := hide (And.intro hu1 hu2)
  have HC := hide (And.intro hn1 (And.intro hn2 True.intro))
  have HR := hide (And.intro hr1 hr2)
  clear hn1 hn2 hr1 hr2 hu1 hu2 hrb hrb2 hl1 hd1 hlu hdu el ed
  have hu := Try.underlying23
  go_enter Try.func4, Try.ntmps4
  by_cases q1 : (100 : Int) < lo.size
  · have q1' : decide ((100 : Int) < lo.size) = true := decide_eq_true q1
    go_wp2_with fail
    refine (live_any Wa (HM.out.below H0.out.2 h1) (by omega)).mono ?_
    rintro e w2 ⟨rfl, hb2⟩
    go_wp2_with fail
    go_ret
    exact ⟨rfl, H0.out.2.trans (hb2.mono (by omega))⟩
  · have q1' : decide ((100 : Int) < lo.size) = false := decide_eq_false q1
    by_cases q2 : (100 : Int) < dom.size
    · have q2' : decide ((100 : Int) < dom.size) = true := decide_eq_true q2
      go_wp2_with fail
      refine (live_any Wa (HM.out.below H0.out.2 h1) (by omega)).mono ?_
      rintro e w2 ⟨rfl, hb2⟩
      go_wp2_with fail
      go_ret
      exact ⟨rfl, H0.out.2.trans (hb2.mono (by omega))⟩
    · have q2' : decide ((100 : Int) < dom.size) = false := decide_eq_false q2
      go_wp2_with fail
      have hbu : ∀ w0 : World, (Instr.build 23 #[(0, .string lu), (1, .string du), (2, .string res)]).run Try.prog w0 = .ok (.agg #[.string lu, .string du, .string res]) w0 := fun w0 => by kernel_rfl
      refine region_rel (S := (fun W : World => W.heap[w.heap.size]? = some (.cells #[.string lo, .string dom, .string res] 23))) (fun a W => ∃ (p : Nat) (x0 x1 x2 x3 x4 x5 x6 x7 x8 : Value), (Below w.heap.size w W ∧ w.heap.size < p ∧ p < W.heap.size ∧ W.heap[w.heap.size]? = some (.cells #[.string lo, .string dom, .string res] 23) ∧ W.heap[p]? = some (.cells #[.string lu, .string du, .string res] 23)) ∧ a = { tmps := #[.agg #[.string lo, .string dom, .string res], .pointer (some ⟨w.heap.size, 0, none⟩), .bool false, .pointer (some ⟨p, 0, none⟩), .pointer (some ⟨w.heap.size, 0, none⟩), .string lo, .int .i64 lo.size, .bool false, .bool false, .pointer (some ⟨w.heap.size, 1, none⟩), .string dom, .int .i64 dom.size, .bool false, .bool false, undef, x0, x1, x2, x3, x4, x5, x6, x7, x8, undef, undef, undef, undef, undef, undef, undef, undef, undef, undef, undef, undef, undef, undef, undef], defers := [] }) (by kernel_rfl) ?any ?fin
      case any =>
        have I0 : TwI w Wa.drew none none lo dom res := ⟨H0.out.2.drew, (by show w.heap.size < Wa.heap.size; omega), H0.out.1, (fun _ e => by cases e), (fun _ e => by cases e), (fun _ e => by cases e)⟩
        refine anyH_take (i := 0) (v := .pointer (some ⟨w.heap.size, 0, none⟩)) rfl (some 15) rfl (by kernel_rfl) (by kernel_rfl) (by kernel_rfl) (fun _ _ _ h => by cases h.1) rfl (fun w0 hw0 => by first | rfl | kernel_rfl) I0.j ?_
        simp only [Act.put, List.setIfInBounds_toArray, List.set_cons_zero, List.set_cons_succ]
        refine anyH_take (i := 1) (v := .string lo) rfl (some 16) rfl (by kernel_rfl) (by kernel_rfl) (by kernel_rfl) (fun _ _ _ h => by cases h.1) rfl (fun w0 hw0 => ex_load rfl rfl (run_load_cell Try.underlying9 rfl (cells3 hw0).1)) I0.j ?_
        simp only [Act.put, List.setIfInBounds_toArray, List.set_cons_zero, List.set_cons_succ]
        refine anyH_take (i := 3) (v := .pointer (some ⟨w.heap.size, 1, none⟩)) rfl (some 18) rfl (by kernel_rfl) (by kernel_rfl) (by kernel_rfl) (fun _ _ _ h => by cases h.1) rfl (fun w0 hw0 => by first | rfl | kernel_rfl) I0.j ?_
        simp only [Act.put, List.setIfInBounds_toArray, List.set_cons_zero, List.set_cons_succ]
        refine anyH_take (i := 4) (v := .string dom) rfl (some 19) rfl (by kernel_rfl) (by kernel_rfl) (by kernel_rfl) (fun _ _ _ h => by cases h.1) rfl (fun w0 hw0 => ex_load rfl rfl (run_load_cell Try.underlying9 rfl (cells3 hw0).2.1)) I0.j ?_
        simp only [Act.put, List.setIfInBounds_toArray, List.set_cons_zero, List.set_cons_succ]
        refine anyH_take (i := 6) (v := .pointer (some ⟨w.heap.size, 2, none⟩)) rfl (some 21) rfl (by kernel_rfl) (by kernel_rfl) (by kernel_rfl) (fun _ _ _ h => by cases h.1) rfl (fun w0 hw0 => by first | rfl | kernel_rfl) I0.j ?_
        simp only [Act.put, List.setIfInBounds_toArray, List.set_cons_zero, List.set_cons_succ]
        refine anyH_take (i := 7) (v := .string res) rfl (some 22) rfl (by kernel_rfl) (by kernel_rfl) (by kernel_rfl) (fun _ _ _ h => by cases h.1) rfl (fun w0 hw0 => ex_load rfl rfl (run_load_cell Try.underlying9 rfl (cells3 hw0).2.2.1)) I0.j ?_
        simp only [Act.put, List.setIfInBounds_toArray, List.set_cons_zero, List.set_cons_succ]
        obtain ⟨X0, hX0⟩ : ∃ X0, Wa.drew = X0 := ⟨_, rfl⟩
        rw [hX0] at I0 ⊢
        clear hX0
        have HU := HUU.out
        refine anyH_two (i := 2) (j := 9) (by kernel_rfl) ?_ ?_
        · refine op_upper rfl (some 17) rfl rfl 16 9 rfl (.string lo) rfl (HU.1 _) ?_
          rintro e X1 ⟨he, hb⟩
          have I1 := I0.call hb
          refine ⟨_, he, I1.j, ?_⟩
          clear he hb
          simp only [Act.put, List.setIfInBounds_toArray, List.set_cons_zero, List.set_cons_succ]
          refine anyH_two (i := 5) (j := 9) (by kernel_rfl) ?_ ?_
          · refine op_upper rfl (some 20) rfl rfl 19 9 rfl (.string dom) rfl (HU.2 _) ?_
            rintro e X2 ⟨he, hb⟩
            have I2 := I1.call hb
            refine ⟨_, he, I2.j, ?_⟩
            clear he hb
            simp only [Act.put, List.setIfInBounds_toArray, List.set_cons_zero, List.set_cons_succ]
            refine anyH_two (i := 8) (j := 9) (by kernel_rfl) ?_ ?_
            · refine op_val (v := .agg #[.string lu, .string du, .string res]) (w' := X2) rfl (some 23) rfl rfl (ex_build (us := #[(0, .string lu), (1, .string du), (2, .string res)]) rfl (by simp [Act.eval]) (hbu _)) ⟨I2.j, ?_⟩
              simp only [Act.put, List.setIfInBounds_toArray, List.set_cons_zero, List.set_cons_succ]
              refine anyH_one (i := 9) (by kernel_rfl) ?_
              · have I4 := I2.al3
                refine op_val (v := .pointer (some ⟨X2.heap.size, 0, none⟩)) rfl (some 3) rfl rfl (ex_alloc rfl (run_alloc_long infoJ X2)) ⟨I4.j, ?_⟩
                simp only [Act.put, List.setIfInBounds_toArray, List.set_cons_zero, List.set_cons_succ]
                obtain ⟨X4, hX4⟩ : ∃ X4, X2.alloc (.cells #[.string ⟨#[]⟩, .string ⟨#[]⟩, .string ⟨#[]⟩] 23) = X4 := ⟨_, rfl⟩
                rw [hX4] at I4 ⊢
                clear hX4
                obtain ⟨k1, k2, k3⟩ := I4.a3 (X2.heap.size) rfl
                obtain ⟨Y, hY1, hY2, hY3, hY4, hY5⟩ := run_storeJ (x' := .string lu) (y' := .string du) (z' := .string res) k3 (one3 _ _ _)
                refine anyH_skip (i := 10) (w' := Y) (by kernel_rfl) rfl none rfl rfl (ex_store rfl rfl rfl hY1) ((hY3 _ (by omega)).trans I4.j) ?_
                exact wpAnyH_done (by kernel_rfl) ⟨rfl, X2.heap.size, _, _, _, _, _, _, _, _, _, ⟨I4.blw.trans (hY5.mono (by omega)), k1, (by omega), (hY3 _ (by omega)).trans I4.j, hY2⟩, rfl⟩ _
            · have I5 := I2.al3
              refine op_val (v := .pointer (some ⟨X2.heap.size, 0, none⟩)) rfl (some 3) rfl rfl (ex_alloc rfl (run_alloc_long infoJ X2)) ⟨I5.j, ?_⟩
              simp only [Act.put, List.setIfInBounds_toArray, List.set_cons_zero, List.set_cons_succ]
              obtain ⟨X5, hX5⟩ : ∃ X5, X2.alloc (.cells #[.string ⟨#[]⟩, .string ⟨#[]⟩, .string ⟨#[]⟩] 23) = X5 := ⟨_, rfl⟩
              rw [hX5] at I5 ⊢
              clear hX5
              refine anyH_one (i := 8) (by kernel_rfl) ?_
              · refine op_val (v := .agg #[.string lu, .string du, .string res]) (w' := X5) rfl (some 23) rfl rfl (ex_build (us := #[(0, .string lu), (1, .string du), (2, .string res)]) rfl (by simp [Act.eval]) (hbu _)) ⟨I5.j, ?_⟩
                simp only [Act.put, List.setIfInBounds_toArray, List.set_cons_zero, List.set_cons_succ]
                obtain ⟨k1, k2, k3⟩ := I5.a3 (X2.heap.size) rfl
                obtain ⟨Y, hY1, hY2, hY3, hY4, hY5⟩ := run_storeJ (x' := .string lu) (y' := .string du) (z' := .string res) k3 (one3 _ _ _)
                refine anyH_skip (i := 10) (w' := Y) (by kernel_rfl) rfl none rfl rfl (ex_store rfl rfl rfl hY1) ((hY3 _ (by omega)).trans I5.j) ?_
                exact wpAnyH_done (by kernel_rfl) ⟨rfl, X2.heap.size, _, _, _, _, _, _, _, _, _, ⟨I5.blw.trans (hY5.mono (by omega)), k1, (by omega), (hY3 _ (by omega)).trans I5.j, hY2⟩, rfl⟩ _
          · have I7 := I1.al3
            refine op_val (v := .pointer (some ⟨X1.heap.size, 0, none⟩)) rfl (some 3) rfl rfl (ex_alloc rfl (run_alloc_long infoJ X1)) ⟨I7.j, ?_⟩
            simp only [Act.put, List.setIfInBounds_toArray, List.set_cons_zero, List.set_cons_succ]
            obtain ⟨X7, hX7⟩ : ∃ X7, X1.alloc (.cells #[.string ⟨#[]⟩, .string ⟨#[]⟩, .string ⟨#[]⟩] 23) = X7 := ⟨_, rfl⟩
            rw [hX7] at I7 ⊢
            clear hX7
            refine anyH_one (i := 5) (by kernel_rfl) ?_
            · refine op_upper rfl (some 20) rfl rfl 19 9 rfl (.string dom) rfl (HU.2 _) ?_
              rintro e X8 ⟨he, hb⟩
              have I8 := I7.call hb
              refine ⟨_, he, I8.j, ?_⟩
              clear he hb
              simp only [Act.put, List.setIfInBounds_toArray, List.set_cons_zero, List.set_cons_succ]
              refine anyH_one (i := 8) (by kernel_rfl) ?_
              · refine op_val (v := .agg #[.string lu, .string du, .string res]) (w' := X8) rfl (some 23) rfl rfl (ex_build (us := #[(0, .string lu), (1, .string du), (2, .string res)]) rfl (by simp [Act.eval]) (hbu _)) ⟨I8.j, ?_⟩
                simp only [Act.put, List.setIfInBounds_toArray, List.set_cons_zero, List.set_cons_succ]
                obtain ⟨k1, k2, k3⟩ := I8.a3 (X1.heap.size) rfl
                obtain ⟨Y, hY1, hY2, hY3, hY4, hY5⟩ := run_storeJ (x' := .string lu) (y' := .string du) (z' := .string res) k3 (one3 _ _ _)
                refine anyH_skip (i := 10) (w' := Y) (by kernel_rfl) rfl none rfl rfl (ex_store rfl rfl rfl hY1) ((hY3 _ (by omega)).trans I8.j) ?_
                exact wpAnyH_done (by kernel_rfl) ⟨rfl, X1.heap.size, _, _, _, _, _, _, _, _, _, ⟨I8.blw.trans (hY5.mono (by omega)), k1, (by omega), (hY3 _ (by omega)).trans I8.j, hY2⟩, rfl⟩ _
        · have I10 := I0.al3
          refine op_val (v := .pointer (some ⟨X0.heap.size, 0, none⟩)) rfl (some 3) rfl rfl (ex_alloc rfl (run_alloc_long infoJ X0)) ⟨I10.j, ?_⟩
          simp only [Act.put, List.setIfInBounds_toArray, List.set_cons_zero, List.set_cons_succ]
          obtain ⟨X10, hX10⟩ : ∃ X10, X0.alloc (.cells #[.string ⟨#[]⟩, .string ⟨#[]⟩, .string ⟨#[]⟩] 23) = X10 := ⟨_, rfl⟩
          rw [hX10] at I10 ⊢
          clear hX10
          refine anyH_one (i := 2) (by kernel_rfl) ?_
          · refine op_upper rfl (some 17) rfl rfl 16 9 rfl (.string lo) rfl (HU.1 _) ?_
            rintro e X11 ⟨he, hb⟩
            have I11 := I10.call hb
            refine ⟨_, he, I11.j, ?_⟩
            clear he hb
            simp only [Act.put, List.setIfInBounds_toArray, List.set_cons_zero, List.set_cons_succ]
            refine anyH_one (i := 5) (by kernel_rfl) ?_
            · refine op_upper rfl (some 20) rfl rfl 19 9 rfl (.string dom) rfl (HU.2 _) ?_
              rintro e X12 ⟨he, hb⟩
              have I12 := I11.call hb
              refine ⟨_, he, I12.j, ?_⟩
              clear he hb
              simp only [Act.put, List.setIfInBounds_toArray, List.set_cons_zero, List.set_cons_succ]
              refine anyH_one (i := 8) (by kernel_rfl) ?_
              · refine op_val (v := .agg #[.string lu, .string du, .string res]) (w' := X12) rfl (some 23) rfl rfl (ex_build (us := #[(0, .string lu), (1, .string du), (2, .string res)]) rfl (by simp [Act.eval]) (hbu _)) ⟨I12.j, ?_⟩
                simp only [Act.put, List.setIfInBounds_toArray, List.set_cons_zero, List.set_cons_succ]
                obtain ⟨k1, k2, k3⟩ := I12.a3 (X0.heap.size) rfl
                obtain ⟨Y, hY1, hY2, hY3, hY4, hY5⟩ := run_storeJ (x' := .string lu) (y' := .string du) (z' := .string res) k3 (one3 _ _ _)
                refine anyH_skip (i := 10) (w' := Y) (by kernel_rfl) rfl none rfl rfl (ex_store rfl rfl rfl hY1) ((hY3 _ (by omega)).trans I12.j) ?_
                exact wpAnyH_done (by kernel_rfl) ⟨rfl, X0.heap.size, _, _, _, _, _, _, _, _, _, ⟨I12.blw.trans (hY5.mono (by omega)), k1, (by omega), (hY3 _ (by omega)).trans I12.j, hY2⟩, rfl⟩ _
      case fin =>
        rintro a w2 ⟨p, x0, x1, x2, x3, x4, x5, x6, x7, x8, ⟨hb2, kp, lp, g1, g2⟩, rfl⟩
        have hz2 := hb2.size
        go_wp2_with fail
        refine region_rel (S := (fun W : World => W.heap[w.heap.size]? = some (.cells #[.string lo, .string dom, .string res] 23) ∧ W.heap[p]? = some (.cells #[.string lu, .string du, .string res] 23) ∧ W.heap[p]? = some (.cells #[.string lu, .string du, .string res] 23))) (fun a W => ∃ y24 y25 y26 y27 y28 y29 y30 y31 y32 y33 y34 y35 y36 y37 y38 : Value, a = { tmps := #[.agg #[.string lo, .string dom, .string res], .pointer (some ⟨w.heap.size, 0, none⟩), .bool true, .pointer (some ⟨p, 0, none⟩), .pointer (some ⟨w.heap.size, 0, none⟩), .string lo, .int .i64 lo.size, .bool false, .bool false, .pointer (some ⟨w.heap.size, 1, none⟩), .string dom, .int .i64 dom.size, .bool false, .bool false, undef, x0, x1, x2, x3, x4, x5, x6, x7, x8, y24, y25, y26, y27, y28, y29, y30, y31, y32, y33, y34, y35, y36, y37, y38], defers := [] } ∧ Below w.heap.size w W) (by kernel_rfl) ?any2 ?fin2
        case any2 =>
          have K0 : Tri w w2.drew p p #[.string lo, .string dom, .string res] #[.string lu, .string du, .string res] #[.string lu, .string du, .string res] := ⟨hb2.drew, (by show w.heap.size < w2.heap.size; omega), lp, lp, g1, g2, g2⟩
          obtain ⟨V0, hV0⟩ : ∃ V0, w2.drew = V0 := ⟨_, rfl⟩
          rw [hV0] at K0 ⊢
          clear hV0
          refine anyH_one (i := 0) (by kernel_rfl) ?_
          refine op_live rfl (some 24) rfl rfl rfl (live_any _ (HM.out.below K0.blw h1) (by have := K0.lt; omega)) ?_
          rintro e V1 ⟨he, hb⟩
          have K1 := K0.call hb
          refine ⟨_, he, K1.S, ?_⟩
          clear he hb
          simp only [Act.put, List.setIfInBounds_toArray, List.set_cons_zero, List.set_cons_succ]
          refine anyH_val (i := 1) (v := .bool true) (w' := V1) (by kernel_rfl) rfl (some 25) rfl rfl (by first | rfl | kernel_rfl) K1.S ?_
          simp only [Act.put, List.setIfInBounds_toArray, List.set_cons_zero, List.set_cons_succ]
          refine anyH_take (i := 2) (v := .agg #[.string lu, .string du, .string res]) rfl (some 26) rfl (by kernel_rfl) (by kernel_rfl) (by kernel_rfl) (fun _ _ _ h => by cases h.1) (by first | rfl | kernel_rfl) (fun w0 hw0 => ex_load rfl rfl (run_load_row infoJ hu rfl rfl hw0.2.1)) K1.S ?_
          simp only [Act.put, List.setIfInBounds_toArray, List.set_cons_zero, List.set_cons_succ]
          refine anyH_take (i := 4) (v := .agg #[.string lo, .string dom, .string res]) rfl (some 28) rfl (by kernel_rfl) (by kernel_rfl) (by kernel_rfl) (fun _ _ _ h => by cases h.1) (by first | rfl | kernel_rfl) (fun w0 hw0 => ex_load rfl rfl (run_load_row infoJ hu rfl rfl hw0.1)) K1.S ?_
          simp only [Act.put, List.setIfInBounds_toArray, List.set_cons_zero, List.set_cons_succ]
          refine anyH_one (i := 3) (by kernel_rfl) ?_
          refine op_normal rfl (some 27) rfl (by first | rfl | kernel_rfl) 26 23 rfl (.agg #[.string lu, .string du, .string res]) rfl (HC.out.1 _) ?_
          rintro e V2 ⟨he, hb⟩
          have K2 := K1.call hb
          refine ⟨_, he, K2.S, ?_⟩
          clear he hb
          simp only [Act.put, List.setIfInBounds_toArray, List.set_cons_zero, List.set_cons_succ]
          refine anyH_one (i := 5) (by kernel_rfl) ?_
          refine op_normal rfl (some 29) rfl (by first | rfl | kernel_rfl) 28 23 rfl (.agg #[.string lo, .string dom, .string res]) rfl (HC.out.2.1 _) ?_
          rintro e V3 ⟨he, hb⟩
          have K3 := K2.call hb
          refine ⟨_, he, K3.S, ?_⟩
          clear he hb
          simp only [Act.put, List.setIfInBounds_toArray, List.set_cons_zero, List.set_cons_succ]
          refine anyH_val (i := 6) (v := .bool true) (w' := V3) (by kernel_rfl) rfl (some 30) rfl (by first | rfl | kernel_rfl) (ex_eqJ rfl rfl rfl) K3.S ?_
          simp only [Act.put, List.setIfInBounds_toArray, List.set_cons_zero, List.set_cons_succ]
          refine anyH_val (i := 7) (v := .bool true) (w' := V3) (by kernel_rfl) rfl (some 31) rfl rfl (by first | rfl | kernel_rfl) K3.S ?_
          simp only [Act.put, List.setIfInBounds_toArray, List.set_cons_zero, List.set_cons_succ]
          refine anyH_val (i := 8) (v := .bool true) (w' := V3) (by kernel_rfl) rfl (some 32) rfl rfl (by first | rfl | kernel_rfl) K3.S ?_
          simp only [Act.put, List.setIfInBounds_toArray, List.set_cons_zero, List.set_cons_succ]
          refine anyH_take (i := 9) (v := .agg #[.string lu, .string du, .string res]) rfl (some 33) rfl (by kernel_rfl) (by kernel_rfl) (by kernel_rfl) (fun _ _ _ h => by cases h.1) (by first | rfl | kernel_rfl) (fun w0 hw0 => ex_load rfl rfl (run_load_row infoJ hu rfl rfl hw0.2.1)) K3.S ?_
          simp only [Act.put, List.setIfInBounds_toArray, List.set_cons_zero, List.set_cons_succ]
          refine anyH_take (i := 11) (v := .agg #[.string lo, .string dom, .string res]) rfl (some 35) rfl (by kernel_rfl) (by kernel_rfl) (by kernel_rfl) (fun _ _ _ h => by cases h.1) (by first | rfl | kernel_rfl) (fun w0 hw0 => ex_load rfl rfl (run_load_row infoJ hu rfl rfl hw0.1)) K3.S ?_
          simp only [Act.put, List.setIfInBounds_toArray, List.set_cons_zero, List.set_cons_succ]
          refine anyH_one (i := 10) (by kernel_rfl) ?_
          refine op_right rfl (some 34) rfl (by first | rfl | kernel_rfl) 33 23 rfl (.agg #[.string lu, .string du, .string res]) rfl (HR.out.1 _ (HM.out.below K3.blw h1) (by have := K3.lt; omega)) ?_
          rintro e V4 ⟨he, hb⟩
          have K4 := K3.call hb
          refine ⟨_, he, K4.S, ?_⟩
          clear he hb
          simp only [Act.put, List.setIfInBounds_toArray, List.set_cons_zero, List.set_cons_succ]
          refine anyH_one (i := 12) (by kernel_rfl) ?_
          refine op_right rfl (some 36) rfl (by first | rfl | kernel_rfl) 35 23 rfl (.agg #[.string lo, .string dom, .string res]) rfl (HR.out.2 _ (HM.out.below K4.blw h1) (by have := K4.lt; omega)) ?_
          rintro e V5 ⟨he, hb⟩
          have K5 := K4.call hb
          refine ⟨_, he, K5.S, ?_⟩
          clear he hb
          simp only [Act.put, List.setIfInBounds_toArray, List.set_cons_zero, List.set_cons_succ]
          refine anyH_val (i := 13) (v := .bool true) (w' := V5) (by kernel_rfl) rfl (some 37) rfl (by first | rfl | kernel_rfl) (by cases rb <;> first | rfl | kernel_rfl) K5.S ?_
          simp only [Act.put, List.setIfInBounds_toArray, List.set_cons_zero, List.set_cons_succ]
          refine anyH_val (i := 14) (v := .bool true) (w' := V5) (by kernel_rfl) rfl (some 38) rfl rfl (by first | rfl | kernel_rfl) K5.S ?_
          simp only [Act.put, List.setIfInBounds_toArray, List.set_cons_zero, List.set_cons_succ]
          refine anyH_val (i := 15) (v := .bool true) (w' := V5) (by kernel_rfl) rfl (some 2) rfl rfl (by first | rfl | kernel_rfl) K5.S ?_
          simp only [Act.put, List.setIfInBounds_toArray, List.set_cons_zero, List.set_cons_succ]
          exact wpAnyH_done (by kernel_rfl) ⟨rfl, _, _, _, _, _, _, _, _, _, _, _, _, _, _, _, rfl, K5.blw⟩ _
        case fin2 =>
          rintro a W ⟨y24, y25, y26, y27, y28, y29, y30, y31, y32, y33, y34, y35, y36, y37, y38, rfl, hB⟩
          go_wp2_with fail
          go_ret
          exact ⟨rfl, hB⟩
end Go.Proofs.Ytgdbhijlblafcaa
