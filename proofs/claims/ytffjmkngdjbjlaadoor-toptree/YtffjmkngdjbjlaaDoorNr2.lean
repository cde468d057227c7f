/- Generic lists of a node: the first of a key, and whether keys rise. -/
import Derived.Test.YtffjmkngdjbjlaaDoorQE
import Derived.Test.YtffjmkngdjbjlaaDoorQG
import Derived.Test.YtffjmkngdjbjlaaDoorC0
namespace Go.Proofs.YtffjmkngdjbjlaaDoor
open Go.RowKit

def ItMem (n₀ : Nat) (w : World) (ao : Option Addr) (l : List (ByteArray × ByteArray × ByteArray)) : Prop :=
  l.length ≤ 1000000 ∧ ∀ k x, l[k]? = some x → ∃ b off, ao = some ⟨b, off, none⟩ ∧ b < n₀ ∧ w.cell? ⟨b, off + k * 3, none⟩ = some (.string x.1) ∧ w.cell? ⟨b, off + k * 3 + 1, none⟩ = some (.string x.2.1) ∧ w.cell? ⟨b, off + k * 3 + 2, none⟩ = some (.string x.2.2)
theorem ItMem.below {n₀ : Nat} {w w' : World} {ao : Option Addr} {l : List (ByteArray × ByteArray × ByteArray)} (h : ItMem n₀ w ao l) (hb : Below n₀ w w') : ItMem n₀ w' ao l :=
  ⟨h.1, fun k x hk => by
    obtain ⟨b, off, e, hb1, c0, c1, c2⟩ := h.2 k x hk
    exact ⟨b, off, e, hb1, (hb.cell (p := ⟨b, _, none⟩) hb1).trans c0, (hb.cell (p := ⟨b, _, none⟩) hb1).trans c1, (hb.cell (p := ⟨b, _, none⟩) hb1).trans c2⟩⟩
theorem ItMem.raise {n₀ n₁ : Nat} {w : World} {ao : Option Addr} {l : List (ByteArray × ByteArray × ByteArray)} (h : ItMem n₀ w ao l) (hn : n₀ ≤ n₁) : ItMem n₁ w ao l :=
  ⟨h.1, fun k x hk => by
    obtain ⟨b, off, e, hb1, c⟩ := h.2 k x hk
    exact ⟨b, off, e, Nat.lt_of_lt_of_le hb1 hn, c⟩⟩
theorem op_callv {P : Program} {ops : Array Oper} {Q : Exit → Act → World → Prop} {i f : Nat} {o : Oper} {a : Act} {w : World} {K : Act → World → Prop} {x : Operand} {args : Array Operand} {tys : Array TypeId} {R : Ending → World → Prop} (hi : ops[i]? = some o) (dst : Option Tmp) (hdst : o.dst = dst) (hw : Region.wanted o (yielded ops a.tmps) = true) (vs : Array Value)
    (hop : o.op = .call { callee := .value x, args := args, argTypes := tys }) (hx : a.eval x = .func (.func f) #[] #[]) (hvs : args.map a.eval = vs) (hgo : ∀ xs V, (callFunc f xs).run P V = .ok (.enter f xs) V) (hC : Calls P f vs w R) (hK : ∀ e w', R e w' → ∃ v, e = .returned v ∧ K (a.put dst v) w') : wpOp P ops Q i K a w := by
  subst hdst
  unfold wpOp
  simp only [hi, hw, if_true]
  refine .inl ?_
  unfold Oper.wp
  simp only [execOp, hop, resolve, hx, hvs]
  simp [invoke, hgo, Oper.upon, Deferred.ofValue, go_sem]
  refine hC.mono ?_
  intro e w' hR
  obtain ⟨u, rfl, hk⟩ := hK e w' hR
  exact hk
theorem ex_anyv {o : Oper} {a : Act} {w : World} {s : Operand} {v : Value} (ho : o.op = .assign s) (hs : a.eval s = v) : (execOp a.eval o).run Tryd.prog w = .ok (.value v) w := by
  unfold execOp
  simp only [ho, hs]
  rfl
theorem ex_predI {o : Oper} {a : Act} {w : World} {x : Operand} {k : Nat} (ho : o.op = .binOp .sub 3 x (.const (.int .i64 1)) 3) (hx : a.eval x = .int .i64 ((k : Int) + 1)) (hk : k ≤ 1000000) : (execOp a.eval o).run Tryd.prog w = .ok (.value (.int .i64 k)) w := by
  have h : IntKind.i64.wrap ((k : Int) + 1 - 1) = k := by rw [IntKind.wrap_i64]; omega
  have h2 : IntKind.i64.wrap (k : Int) = k := by rw [IntKind.wrap_i64]; omega
  unfold execOp
  simp only [ho, hx]
  go_simp
theorem ex_geqs {o : Oper} {a : Act} {w : World} {x y : Operand} {s t : ByteArray} {b : Bool} (ho : o.op = .binOp .geq 9 x y 9) (hx : a.eval x = .string s) (hy : a.eval y = .string t) (hb : Op.bytesLess s.toList t.toList = b) : (execOp a.eval o).run Tryd.prog w = .ok (.value (.bool (!b))) w := by
  unfold execOp
  simp only [ho, hx, hy]
  go_simp
/-- Texts rise, no two alike. -/
def RiseS (l : List ByteArray) : Prop := l.Pairwise fun x y => x.toList < y.toList
theorem riseS_take {l : List ByteArray} {k : Nat} {x y : ByteArray} (hR : RiseS (l.take (k + 1))) (hx : l[k]? = some x) (hy : l[k + 1]? = some y) (hlt : x.toList < y.toList) : RiseS (l.take (k + 1 + 1)) := by
  have e : l.take (k + 1 + 1) = l.take (k + 1) ++ [y] := by rw [List.take_add_one, hy]; rfl
  have e2 : l.take (k + 1) = l.take k ++ [x] := by rw [List.take_add_one, hx]; rfl
  rw [e]
  refine List.pairwise_append.2 ⟨hR, List.pairwise_singleton _ _, fun a ha b hb => ?_⟩
  rw [List.mem_singleton.1 hb]
  rw [e2] at hR ha
  rcases List.mem_append.1 ha with ha | ha
  · exact str_trans ((List.pairwise_append.1 hR).2.2 a ha x (List.mem_singleton.2 rfl)) hlt
  · rw [List.mem_singleton.1 ha]
    exact hlt
theorem find_firstK {α : Type} (kf : α → ByteArray) {l : List α} {s : ByteArray} {k : Nat} {x : α} (hno : ∀ y ∈ l.take k, kf y ≠ s) (hx : l[k]? = some x) (hs : kf x = s) : l.find? (fun x => decide (kf x = s)) = some x := by
  have hd : l = l.take k ++ x :: l.drop (k + 1) := by
    obtain ⟨h1, h2⟩ := List.getElem?_eq_some_iff.1 hx
    rw [← h2, ← List.drop_eq_getElem_cons h1, List.take_append_drop]
  rw [hd, List.find?_append, List.find?_eq_none.2 (fun y hy => by simpa using hno y hy), Option.none_or, List.find?_cons_of_pos (by simpa using hs)]
theorem heap_setk {w : World} {b : Nat} {i : Nat} {cs : Array Value} {v : Value} {T : TypeId} (h : w.heap[b]? = some (.cells cs T)) : (w.setCell ⟨b, i, none⟩ v).heap[b]? = some (.cells (cs.setIfInBounds i v) T) := heap_setCell_same _ _ i _ _ _ h
theorem aKey_any (a : ByteArray × Nat) (w : World) : Calls Tryd.prog 33 #[.agg #[.string a.1, .int .u8 a.2]] w fun e w' => e = .returned (.string a.1) ∧ Below w.heap.size w w' := affKey_any a w
theorem infoAff : (Tryd.prog.info? 55).map (fun i => (i.zero, i.size, i.bytes)) = some (some (.agg #[.string ⟨#[]⟩, .int .u8 0]), 2, 24) := by kernel_rfl
theorem load_a {w : World} {b off : Nat} {x : ByteArray × Nat} (h0 : w.cell? ⟨b, off, none⟩ = some (.string x.1)) (h1 : w.cell? ⟨b, off + 1, none⟩ = some (.int .u8 x.2)) : (Instr.loadAt 55 (.pointer (some ⟨b, off, none⟩))).run Tryd.prog w = .ok (.agg #[.string x.1, .int .u8 x.2]) w := by
  obtain ⟨ti, t1, t2, t3, t4⟩ := info_parts infoAff
  have h := run_loadAt_mid (P := Tryd.prog) w b off 55 [.string x.1, .int .u8 x.2] _ (fun j v hv => by
    rcases j with _ | _ | _ | j
    · cases hv; exact h0
    · cases hv; exact h1
    · cases hv
    · cases hv) Tryd.underlying55 rfl (by rw [t1]; simp [t3])
  simpa using h
theorem ex_idxAff {o : Oper} {a : Act} {w : World} {x y : Operand} {b off m cap k : Nat} (ho : o.op = .indexAddr 24 x y) (hx : a.eval x = .slice (some ⟨b, off, none⟩) m cap) (hy : a.eval y = .int .i64 k) (hk : k < m) : (execOp a.eval o).run Tryd.prog w = .ok (.value (.pointer (some ⟨b, off + k * 2, none⟩))) w := by
  have hk1 : (k : Int) < m := by omega
  unfold execOp
  simp only [ho, hx, hy]
  go_simp
theorem ex_idxSAff {o : Oper} {a : Act} {w : World} {x y : Operand} {b off m cap k : Nat} (ho : o.op = .indexAddr 24 x y) (hx : a.eval x = .slice (some ⟨b, off, none⟩) m cap) (hy : a.eval y = .int .i64 ((k : Int) + 1)) (hk : k + 1 < m) : (execOp a.eval o).run Tryd.prog w = .ok (.value (.pointer (some ⟨b, off + (k + 1) * 2, none⟩))) w := ex_idxAff (k := k + 1) ho hx (by rw [hy]; rfl) hk
set_option maxRecDepth 100000 in
set_option maxHeartbeats 4000000 in
theorem riseAff_any (ao : Option Addr) (cap : Nat) (l : List (ByteArray × Nat)) (w : World) (hm : AffMem w.heap.size w ao l) :
    Calls Tryd.prog 64 #[.slice ao l.length cap, .func (.func 33) #[] #[]] w fun e w' => ((RiseS (l.map (·.1)) ∧ e = .returned (.bool true)) ∨ (¬ RiseS (l.map (·.1)) ∧ e = .returned (.bool false))) ∧ Below w.heap.size w w' := by
  have hlen := hm.1
  obtain ⟨m, hml⟩ : ∃ m, l.length = m := ⟨_, rfl⟩
  have HM := hide (And.intro hm hml)
  rw [hml] at hlen ⊢
  clear hm hml
  go_enter Tryd.func64, Tryd.ntmps64
  go_wp2_with fail
  go_loopw [5] (fun j wr => ∃ k : Nat, k ≤ m ∧ j = .int .i64 ((k : Int) + 1) ∧ RiseS ((l.map (·.1)).take (k + 1)) ∧ Below w.heap.size w wr) (fun j _ => m + 1 - (intOf j).toNat)
  case atStart =>
    refine ⟨0, Nat.zero_le _, rfl, ?_, Below.refl _ _⟩
    cases l with
    | nil => exact List.Pairwise.nil
    | cons x l => exact List.pairwise_singleton _ _
  case round =>
    obtain ⟨k, hk, rfl, hR, hbw⟩ := hrel
    by_cases hlt : k + 1 < m
    · have hlti : ((k : Int) + 1) < m := by omega
      obtain ⟨x, hx⟩ : ∃ x, l[k]? = some x := ⟨l[k]'(by have := HM.out.2; omega), by simp⟩
      obtain ⟨y, hy⟩ : ∃ y, l[k + 1]? = some y := ⟨l[k + 1]'(by have := HM.out.2; omega), by simp⟩
      obtain ⟨b, off, hbe, hbl, c0, c1⟩ := (HM.out.1.below hbw).2 k x hx
      obtain ⟨b', off', e', hbl', d0, d1⟩ := (HM.out.1.below hbw).2 (k + 1) y hy
      rw [hbe] at e' ⊢
      cases e'
      have hz := hbw.size
      have HI := hide (And.intro hR (And.intro hbw (And.intro hx hy)))
      clear hR hbw hx hy
      go_wp2_with fail
      obtain ⟨rb, hrb⟩ : ∃ rb, Op.bytesLess x.1.toList y.1.toList = rb := ⟨_, rfl⟩
      obtain ⟨V0, hV0⟩ : ∃ V0, wr.drew = V0 := ⟨_, rfl⟩
      have B0 : Below wr.heap.size wr V0 := by rw [← hV0]; exact (Below.refl _ wr).drew
      have hbV : b < V0.heap.size := by have := B0.size; omega
      replace c0 := (B0.cell (p := ⟨b, _, none⟩) (Nat.lt_of_lt_of_le hbl hz)).trans c0
      replace c1 := (B0.cell (p := ⟨b, _, none⟩) (Nat.lt_of_lt_of_le hbl hz)).trans c1
      replace d0 := (B0.cell (p := ⟨b, _, none⟩) (Nat.lt_of_lt_of_le hbl hz)).trans d0
      replace d1 := (B0.cell (p := ⟨b, _, none⟩) (Nat.lt_of_lt_of_le hbl hz)).trans d1
      refine region_rel (S := fun V => Below V0.heap.size V0 V) (fun a Wz => ∃ xx : Nat → Value, (Below wr.heap.size wr Wz) ∧ a = { tmps := #[.slice (some ⟨b, off, none⟩) m cap, .func (.func 33) #[] #[], undef, undef, u4, .int .i64 ((k : Int) + 1), xx 6, xx 7, xx 8, xx 9, xx 10, xx 11, xx 12, xx 13, xx 14, xx 15, xx 16, xx 17, xx 18, xx 19, xx 20, xx 21, xx 22, xx 23, xx 24, .bool (!rb)], defers := [] }) (by kernel_rfl) ?any ?fin
      case any =>
        rw [hV0]
        clear hV0
        have S0 : Below V0.heap.size V0 V0 := Below.refl _ _
        refine anyH_take (i := 0) (v := .func (.func 33) #[] #[]) rfl (some 12) rfl (by kernel_rfl) (by kernel_rfl) (by kernel_rfl) (fun _ _ _ h => by cases h.1) (by kernel_rfl) (fun w0 hw0 => by first | rfl | kernel_rfl) S0 ?_
        simp only [Act.put, List.setIfInBounds_toArray, List.set_cons_zero, List.set_cons_succ]
        refine anyH_take (i := 1) (v := .slice (some ⟨b, off, none⟩) m cap) rfl (some 13) rfl (by kernel_rfl) (by kernel_rfl) (by kernel_rfl) (fun _ _ _ h => by cases h.1) (by kernel_rfl) (fun w0 hw0 => by first | rfl | kernel_rfl) S0 ?_
        simp only [Act.put, List.setIfInBounds_toArray, List.set_cons_zero, List.set_cons_succ]
        refine anyH_take (i := 2) (v := .int .i64 ((k : Int) + 1)) rfl (some 14) rfl (by kernel_rfl) (by kernel_rfl) (by kernel_rfl) (fun _ _ _ h => by cases h.1) (by kernel_rfl) (fun w0 hw0 => by first | rfl | kernel_rfl) S0 ?_
        simp only [Act.put, List.setIfInBounds_toArray, List.set_cons_zero, List.set_cons_succ]
        refine anyH_take (i := 3) (v := .int .i64 k) rfl (some 15) rfl (by kernel_rfl) (by kernel_rfl) (by kernel_rfl) (fun _ _ _ h => by cases h.1) (by kernel_rfl) (fun _ _ => ex_predI rfl rfl (by omega)) S0 ?_
        simp only [Act.put, List.setIfInBounds_toArray, List.set_cons_zero, List.set_cons_succ]
        refine anyH_take (i := 4) (v := .pointer (some ⟨b, off + k * 2, none⟩)) rfl (some 16) rfl (by kernel_rfl) (by kernel_rfl) (by kernel_rfl) (fun _ _ _ h => by cases h.1) (by kernel_rfl) (fun _ _ => ex_idxAff rfl rfl rfl (by omega)) S0 ?_
        simp only [Act.put, List.setIfInBounds_toArray, List.set_cons_zero, List.set_cons_succ]
        refine anyH_take (i := 5) (v := .agg #[.string x.1, .int .u8 x.2]) rfl (some 17) rfl (by kernel_rfl) (by kernel_rfl) (by kernel_rfl) (fun _ _ _ h => by cases h.1) (by kernel_rfl) (fun w0 hw0 => ex_load rfl rfl (load_a ((hw0.cell (p := ⟨b, _, none⟩) hbV).trans c0) ((hw0.cell (p := ⟨b, _, none⟩) hbV).trans c1))) S0 ?_
        simp only [Act.put, List.setIfInBounds_toArray, List.set_cons_zero, List.set_cons_succ]
        refine anyH_take (i := 7) (v := .func (.func 33) #[] #[]) rfl (some 19) rfl (by kernel_rfl) (by kernel_rfl) (by kernel_rfl) (fun _ _ _ h => by cases h.1) (by kernel_rfl) (fun w0 hw0 => by first | rfl | kernel_rfl) S0 ?_
        simp only [Act.put, List.setIfInBounds_toArray, List.set_cons_zero, List.set_cons_succ]
        refine anyH_take (i := 8) (v := .slice (some ⟨b, off, none⟩) m cap) rfl (some 20) rfl (by kernel_rfl) (by kernel_rfl) (by kernel_rfl) (fun _ _ _ h => by cases h.1) (by kernel_rfl) (fun w0 hw0 => by first | rfl | kernel_rfl) S0 ?_
        simp only [Act.put, List.setIfInBounds_toArray, List.set_cons_zero, List.set_cons_succ]
        refine anyH_take (i := 9) (v := .int .i64 ((k : Int) + 1)) rfl (some 21) rfl (by kernel_rfl) (by kernel_rfl) (by kernel_rfl) (fun _ _ _ h => by cases h.1) (by kernel_rfl) (fun w0 hw0 => by first | rfl | kernel_rfl) S0 ?_
        simp only [Act.put, List.setIfInBounds_toArray, List.set_cons_zero, List.set_cons_succ]
        refine anyH_take (i := 10) (v := .pointer (some ⟨b, off + (k + 1) * 2, none⟩)) rfl (some 22) rfl (by kernel_rfl) (by kernel_rfl) (by kernel_rfl) (fun _ _ _ h => by cases h.1) (by kernel_rfl) (fun _ _ => ex_idxSAff rfl rfl rfl (by omega)) S0 ?_
        simp only [Act.put, List.setIfInBounds_toArray, List.set_cons_zero, List.set_cons_succ]
        refine anyH_take (i := 11) (v := .agg #[.string y.1, .int .u8 y.2]) rfl (some 23) rfl (by kernel_rfl) (by kernel_rfl) (by kernel_rfl) (fun _ _ _ h => by cases h.1) (by kernel_rfl) (fun w0 hw0 => ex_load rfl rfl (load_a ((hw0.cell (p := ⟨b, _, none⟩) hbV).trans d0) ((hw0.cell (p := ⟨b, _, none⟩) hbV).trans d1))) S0 ?_
        simp only [Act.put, List.setIfInBounds_toArray, List.set_cons_zero, List.set_cons_succ]
        refine anyH_one (i := 6) (by kernel_rfl) ?_
        refine op_callv rfl (some 18) rfl (by kernel_rfl) #[.agg #[.string x.1, .int .u8 x.2]] rfl rfl (by simp [Act.eval]) (fun _ _ => rfl) (aKey_any x V0) ?_
        rintro e V1 ⟨rfl, c1_⟩
        have b1 : Below V0.heap.size V0 V1 := c1_
        refine ⟨_, rfl, S0.trans (b1.mono S0.size), ?_⟩
        simp only [Act.put, List.setIfInBounds_toArray, List.set_cons_zero, List.set_cons_succ]
        refine anyH_more (fun V => Below V1.heap.size V1 V) (fun V hV => S0.trans ((b1.trans (hV.mono b1.size)).mono S0.size)) ?_
        have S1 : Below V1.heap.size V1 V1 := Below.refl _ _
        have B1 : Below wr.heap.size wr V1 := B0.trans (b1.mono B0.size)
        refine anyH_one (i := 12) (by kernel_rfl) ?_
        refine op_callv rfl (some 24) rfl (by kernel_rfl) #[.agg #[.string y.1, .int .u8 y.2]] rfl rfl (by simp [Act.eval]) (fun _ _ => rfl) (aKey_any y V1) ?_
        rintro e V2 ⟨rfl, c2_⟩
        have b2 : Below V1.heap.size V1 V2 := c2_
        refine ⟨_, rfl, S1.trans (b2.mono S1.size), ?_⟩
        simp only [Act.put, List.setIfInBounds_toArray, List.set_cons_zero, List.set_cons_succ]
        refine anyH_more (fun V => Below V2.heap.size V2 V) (fun V hV => S1.trans ((b2.trans (hV.mono b2.size)).mono S1.size)) ?_
        have S2 : Below V2.heap.size V2 V2 := Below.refl _ _
        have B2 : Below wr.heap.size wr V2 := B1.trans (b2.mono B1.size)
        refine anyH_val (i := 13) (by kernel_rfl) rfl (some 25) rfl (by kernel_rfl) (ex_geqs rfl rfl rfl hrb) S2 ?_
        simp only [Act.put, List.setIfInBounds_toArray, List.set_cons_zero, List.set_cons_succ]
        exact wpAnyH_done (by kernel_rfl) ⟨rfl, fill (B2) (by kernel_rfl)⟩ _
      case fin =>
        rintro a W ⟨xx, hB, rfl⟩
        have HB := hide (HI.out.2.1.trans (hB.mono hz))
        clear hB B0 hbV hV0 c0 d0 c1 d1
        have hw1 : IntKind.i64.wrap ((k : Int) + 1 + 1) = k + 1 + 1 := by rw [IntKind.wrap_i64]; omega
        cases rb with
        | true =>
          have HR := hide (riseS_take HI.out.1 (show (l.map (·.1))[k]? = some x.1 by rw [List.getElem?_map, HI.out.2.2.1]; rfl) (show (l.map (·.1))[k + 1]? = some y.1 by rw [List.getElem?_map, HI.out.2.2.2]; rfl) (by rw [bytesLess_eq] at hrb; exact of_decide_eq_true hrb))
          clear hrb
          go_wp2_with fail
          go_roundw
          case rel => trace_state; exact ⟨k + 1, by omega, by simp, HR.out, HB.out⟩
          case measure => simp [intOf]; omega
        | false =>
          have hne : ¬ RiseS (l.map (·.1)) := fun h => by
            rw [bytesLess_eq] at hrb
            refine of_decide_eq_false hrb ?_
            have h1 := List.getElem?_eq_some_iff.1 HI.out.2.2.1
            have h2 := List.getElem?_eq_some_iff.1 HI.out.2.2.2
            have := List.pairwise_iff_getElem.1 h k (k + 1) (by rw [List.length_map]; exact h1.1) (by rw [List.length_map]; exact h2.1) (by omega)
            rw [List.getElem_map, List.getElem_map, h1.2, h2.2] at this
            exact this
          have HN := hide hne
          clear hne hrb
          go_wp2_with fail
          go_ret
          exact ⟨.inr ⟨HN.out, rfl⟩, HB.out⟩
    · have hlti : ¬ (((k : Int) + 1) < m) := by omega
      have hR' : RiseS (l.map (·.1)) := by rwa [List.take_of_length_le (by rw [List.length_map]; have := HM.out.2; omega)] at hR
      have HI := hide (And.intro hR' hbw)
      clear hR hR' hbw
      go_wp2_with fail
      go_ret
      exact ⟨.inl ⟨HI.out.1, rfl⟩, HI.out.2⟩
theorem sKey_any (a : ByteArray × Bool × Int) (w : World) : Calls Tryd.prog 46 #[.agg #[.string a.1, .bool a.2.1, .int .i64 a.2.2]] w fun e w' => e = .returned (.string a.1) ∧ Below w.heap.size w w' := by
  go_enter Tryd.func46, Tryd.ntmps46
  go_wp2_with fail
  go_ret
  exact ⟨rfl, (Below.refl _ w).alloc (Nat.le_refl _) _⟩
theorem infoSub : (Tryd.prog.info? 39).map (fun i => (i.zero, i.size, i.bytes)) = some (some (.agg #[.string ⟨#[]⟩, .bool false, .int .i64 0]), 3, 32) := by kernel_rfl
theorem load_s {w : World} {b off : Nat} {x : ByteArray × Bool × Int} (h0 : w.cell? ⟨b, off, none⟩ = some (.string x.1)) (h1 : w.cell? ⟨b, off + 1, none⟩ = some (.bool x.2.1)) (h2 : w.cell? ⟨b, off + 2, none⟩ = some (.int .i64 x.2.2)) : (Instr.loadAt 39 (.pointer (some ⟨b, off, none⟩))).run Tryd.prog w = .ok (.agg #[.string x.1, .bool x.2.1, .int .i64 x.2.2]) w := by
  obtain ⟨ti, t1, t2, t3, t4⟩ := info_parts infoSub
  have h := run_loadAt_mid (P := Tryd.prog) w b off 39 [.string x.1, .bool x.2.1, .int .i64 x.2.2] _ (fun j v hv => by
    rcases j with _ | _ | _ | j
    · cases hv; exact h0
    · cases hv; exact h1
    · cases hv; exact h2
    · cases hv) Tryd.underlying39 rfl (by rw [t1]; simp [t3])
  simpa using h
theorem ex_idxSub {o : Oper} {a : Act} {w : World} {x y : Operand} {b off m cap k : Nat} (ho : o.op = .indexAddr 25 x y) (hx : a.eval x = .slice (some ⟨b, off, none⟩) m cap) (hy : a.eval y = .int .i64 k) (hk : k < m) : (execOp a.eval o).run Tryd.prog w = .ok (.value (.pointer (some ⟨b, off + k * 3, none⟩))) w := by
  have hk1 : (k : Int) < m := by omega
  unfold execOp
  simp only [ho, hx, hy]
  go_simp
theorem ex_idxSSub {o : Oper} {a : Act} {w : World} {x y : Operand} {b off m cap k : Nat} (ho : o.op = .indexAddr 25 x y) (hx : a.eval x = .slice (some ⟨b, off, none⟩) m cap) (hy : a.eval y = .int .i64 ((k : Int) + 1)) (hk : k + 1 < m) : (execOp a.eval o).run Tryd.prog w = .ok (.value (.pointer (some ⟨b, off + (k + 1) * 3, none⟩))) w := ex_idxSub (k := k + 1) ho hx (by rw [hy]; rfl) hk
set_option maxRecDepth 100000 in
set_option maxHeartbeats 4000000 in
theorem riseSub_any (ao : Option Addr) (cap : Nat) (l : List (ByteArray × Bool × Int)) (w : World) (hm : SubMem w.heap.size w ao l) :
    Calls Tryd.prog 65 #[.slice ao l.length cap, .func (.func 46) #[] #[]] w fun e w' => ((RiseS (l.map (·.1)) ∧ e = .returned (.bool true)) ∨ (¬ RiseS (l.map (·.1)) ∧ e = .returned (.bool false))) ∧ Below w.heap.size w w' := by
  have hlen := hm.1
  obtain ⟨m, hml⟩ : ∃ m, l.length = m := ⟨_, rfl⟩
  have HM := hide (And.intro hm hml)
  rw [hml] at hlen ⊢
  clear hm hml
  go_enter Tryd.func65, Tryd.ntmps65
  go_wp2_with fail
  go_loopw [5] (fun j wr => ∃ k : Nat, k ≤ m ∧ j = .int .i64 ((k : Int) + 1) ∧ RiseS ((l.map (·.1)).take (k + 1)) ∧ Below w.heap.size w wr) (fun j _ => m + 1 - (intOf j).toNat)
  case atStart =>
    refine ⟨0, Nat.zero_le _, rfl, ?_, Below.refl _ _⟩
    cases l with
    | nil => exact List.Pairwise.nil
    | cons x l => exact List.pairwise_singleton _ _
  case round =>
    obtain ⟨k, hk, rfl, hR, hbw⟩ := hrel
    by_cases hlt : k + 1 < m
    · have hlti : ((k : Int) + 1) < m := by omega
      obtain ⟨x, hx⟩ : ∃ x, l[k]? = some x := ⟨l[k]'(by have := HM.out.2; omega), by simp⟩
      obtain ⟨y, hy⟩ : ∃ y, l[k + 1]? = some y := ⟨l[k + 1]'(by have := HM.out.2; omega), by simp⟩
      obtain ⟨b, off, hbe, hbl, c0, c1, c2⟩ := (HM.out.1.below hbw).2 k x hx
      obtain ⟨b', off', e', hbl', d0, d1, d2⟩ := (HM.out.1.below hbw).2 (k + 1) y hy
      rw [hbe] at e' ⊢
      cases e'
      have hz := hbw.size
      have HI := hide (And.intro hR (And.intro hbw (And.intro hx hy)))
      clear hR hbw hx hy
      go_wp2_with fail
      obtain ⟨rb, hrb⟩ : ∃ rb, Op.bytesLess x.1.toList y.1.toList = rb := ⟨_, rfl⟩
      obtain ⟨V0, hV0⟩ : ∃ V0, wr.drew = V0 := ⟨_, rfl⟩
      have B0 : Below wr.heap.size wr V0 := by rw [← hV0]; exact (Below.refl _ wr).drew
      have hbV : b < V0.heap.size := by have := B0.size; omega
      replace c0 := (B0.cell (p := ⟨b, _, none⟩) (Nat.lt_of_lt_of_le hbl hz)).trans c0
      replace c1 := (B0.cell (p := ⟨b, _, none⟩) (Nat.lt_of_lt_of_le hbl hz)).trans c1
      replace c2 := (B0.cell (p := ⟨b, _, none⟩) (Nat.lt_of_lt_of_le hbl hz)).trans c2
      replace d0 := (B0.cell (p := ⟨b, _, none⟩) (Nat.lt_of_lt_of_le hbl hz)).trans d0
      replace d1 := (B0.cell (p := ⟨b, _, none⟩) (Nat.lt_of_lt_of_le hbl hz)).trans d1
      replace d2 := (B0.cell (p := ⟨b, _, none⟩) (Nat.lt_of_lt_of_le hbl hz)).trans d2
      refine region_rel (S := fun V => Below V0.heap.size V0 V) (fun a Wz => ∃ xx : Nat → Value, (Below wr.heap.size wr Wz) ∧ a = { tmps := #[.slice (some ⟨b, off, none⟩) m cap, .func (.func 46) #[] #[], undef, undef, u4, .int .i64 ((k : Int) + 1), xx 6, xx 7, xx 8, xx 9, xx 10, xx 11, xx 12, xx 13, xx 14, xx 15, xx 16, xx 17, xx 18, xx 19, xx 20, xx 21, xx 22, xx 23, xx 24, .bool (!rb)], defers := [] }) (by kernel_rfl) ?any ?fin
      case any =>
        rw [hV0]
        clear hV0
        have S0 : Below V0.heap.size V0 V0 := Below.refl _ _
        refine anyH_take (i := 0) (v := .func (.func 46) #[] #[]) rfl (some 12) rfl (by kernel_rfl) (by kernel_rfl) (by kernel_rfl) (fun _ _ _ h => by cases h.1) (by kernel_rfl) (fun w0 hw0 => by first | rfl | kernel_rfl) S0 ?_
        simp only [Act.put, List.setIfInBounds_toArray, List.set_cons_zero, List.set_cons_succ]
        refine anyH_take (i := 1) (v := .slice (some ⟨b, off, none⟩) m cap) rfl (some 13) rfl (by kernel_rfl) (by kernel_rfl) (by kernel_rfl) (fun _ _ _ h => by cases h.1) (by kernel_rfl) (fun w0 hw0 => by first | rfl | kernel_rfl) S0 ?_
        simp only [Act.put, List.setIfInBounds_toArray, List.set_cons_zero, List.set_cons_succ]
        refine anyH_take (i := 2) (v := .int .i64 ((k : Int) + 1)) rfl (some 14) rfl (by kernel_rfl) (by kernel_rfl) (by kernel_rfl) (fun _ _ _ h => by cases h.1) (by kernel_rfl) (fun w0 hw0 => by first | rfl | kernel_rfl) S0 ?_
        simp only [Act.put, List.setIfInBounds_toArray, List.set_cons_zero, List.set_cons_succ]
        refine anyH_take (i := 3) (v := .int .i64 k) rfl (some 15) rfl (by kernel_rfl) (by kernel_rfl) (by kernel_rfl) (fun _ _ _ h => by cases h.1) (by kernel_rfl) (fun _ _ => ex_predI rfl rfl (by omega)) S0 ?_
        simp only [Act.put, List.setIfInBounds_toArray, List.set_cons_zero, List.set_cons_succ]
        refine anyH_take (i := 4) (v := .pointer (some ⟨b, off + k * 3, none⟩)) rfl (some 16) rfl (by kernel_rfl) (by kernel_rfl) (by kernel_rfl) (fun _ _ _ h => by cases h.1) (by kernel_rfl) (fun _ _ => ex_idxSub rfl rfl rfl (by omega)) S0 ?_
        simp only [Act.put, List.setIfInBounds_toArray, List.set_cons_zero, List.set_cons_succ]
        refine anyH_take (i := 5) (v := .agg #[.string x.1, .bool x.2.1, .int .i64 x.2.2]) rfl (some 17) rfl (by kernel_rfl) (by kernel_rfl) (by kernel_rfl) (fun _ _ _ h => by cases h.1) (by kernel_rfl) (fun w0 hw0 => ex_load rfl rfl (load_s ((hw0.cell (p := ⟨b, _, none⟩) hbV).trans c0) ((hw0.cell (p := ⟨b, _, none⟩) hbV).trans c1) ((hw0.cell (p := ⟨b, _, none⟩) hbV).trans c2))) S0 ?_
        simp only [Act.put, List.setIfInBounds_toArray, List.set_cons_zero, List.set_cons_succ]
        refine anyH_take (i := 7) (v := .func (.func 46) #[] #[]) rfl (some 19) rfl (by kernel_rfl) (by kernel_rfl) (by kernel_rfl) (fun _ _ _ h => by cases h.1) (by kernel_rfl) (fun w0 hw0 => by first | rfl | kernel_rfl) S0 ?_
        simp only [Act.put, List.setIfInBounds_toArray, List.set_cons_zero, List.set_cons_succ]
        refine anyH_take (i := 8) (v := .slice (some ⟨b, off, none⟩) m cap) rfl (some 20) rfl (by kernel_rfl) (by kernel_rfl) (by kernel_rfl) (fun _ _ _ h => by cases h.1) (by kernel_rfl) (fun w0 hw0 => by first | rfl | kernel_rfl) S0 ?_
        simp only [Act.put, List.setIfInBounds_toArray, List.set_cons_zero, List.set_cons_succ]
        refine anyH_take (i := 9) (v := .int .i64 ((k : Int) + 1)) rfl (some 21) rfl (by kernel_rfl) (by kernel_rfl) (by kernel_rfl) (fun _ _ _ h => by cases h.1) (by kernel_rfl) (fun w0 hw0 => by first | rfl | kernel_rfl) S0 ?_
        simp only [Act.put, List.setIfInBounds_toArray, List.set_cons_zero, List.set_cons_succ]
        refine anyH_take (i := 10) (v := .pointer (some ⟨b, off + (k + 1) * 3, none⟩)) rfl (some 22) rfl (by kernel_rfl) (by kernel_rfl) (by kernel_rfl) (fun _ _ _ h => by cases h.1) (by kernel_rfl) (fun _ _ => ex_idxSSub rfl rfl rfl (by omega)) S0 ?_
        simp only [Act.put, List.setIfInBounds_toArray, List.set_cons_zero, List.set_cons_succ]
        refine anyH_take (i := 11) (v := .agg #[.string y.1, .bool y.2.1, .int .i64 y.2.2]) rfl (some 23) rfl (by kernel_rfl) (by kernel_rfl) (by kernel_rfl) (fun _ _ _ h => by cases h.1) (by kernel_rfl) (fun w0 hw0 => ex_load rfl rfl (load_s ((hw0.cell (p := ⟨b, _, none⟩) hbV).trans d0) ((hw0.cell (p := ⟨b, _, none⟩) hbV).trans d1) ((hw0.cell (p := ⟨b, _, none⟩) hbV).trans d2))) S0 ?_
        simp only [Act.put, List.setIfInBounds_toArray, List.set_cons_zero, List.set_cons_succ]
        refine anyH_one (i := 6) (by kernel_rfl) ?_
        refine op_callv rfl (some 18) rfl (by kernel_rfl) #[.agg #[.string x.1, .bool x.2.1, .int .i64 x.2.2]] rfl rfl (by simp [Act.eval]) (fun _ _ => rfl) (sKey_any x V0) ?_
        rintro e V1 ⟨rfl, c1_⟩
        have b1 : Below V0.heap.size V0 V1 := c1_
        refine ⟨_, rfl, S0.trans (b1.mono S0.size), ?_⟩
        simp only [Act.put, List.setIfInBounds_toArray, List.set_cons_zero, List.set_cons_succ]
        refine anyH_more (fun V => Below V1.heap.size V1 V) (fun V hV => S0.trans ((b1.trans (hV.mono b1.size)).mono S0.size)) ?_
        have S1 : Below V1.heap.size V1 V1 := Below.refl _ _
        have B1 : Below wr.heap.size wr V1 := B0.trans (b1.mono B0.size)
        refine anyH_one (i := 12) (by kernel_rfl) ?_
        refine op_callv rfl (some 24) rfl (by kernel_rfl) #[.agg #[.string y.1, .bool y.2.1, .int .i64 y.2.2]] rfl rfl (by simp [Act.eval]) (fun _ _ => rfl) (sKey_any y V1) ?_
        rintro e V2 ⟨rfl, c2_⟩
        have b2 : Below V1.heap.size V1 V2 := c2_
        refine ⟨_, rfl, S1.trans (b2.mono S1.size), ?_⟩
        simp only [Act.put, List.setIfInBounds_toArray, List.set_cons_zero, List.set_cons_succ]
        refine anyH_more (fun V => Below V2.heap.size V2 V) (fun V hV => S1.trans ((b2.trans (hV.mono b2.size)).mono S1.size)) ?_
        have S2 : Below V2.heap.size V2 V2 := Below.refl _ _
        have B2 : Below wr.heap.size wr V2 := B1.trans (b2.mono B1.size)
        refine anyH_val (i := 13) (by kernel_rfl) rfl (some 25) rfl (by kernel_rfl) (ex_geqs rfl rfl rfl hrb) S2 ?_
        simp only [Act.put, List.setIfInBounds_toArray, List.set_cons_zero, List.set_cons_succ]
        exact wpAnyH_done (by kernel_rfl) ⟨rfl, fill (B2) (by kernel_rfl)⟩ _
      case fin =>
        rintro a W ⟨xx, hB, rfl⟩
        have HB := hide (HI.out.2.1.trans (hB.mono hz))
        clear hB B0 hbV hV0 c0 d0 c1 d1 c2 d2
        have hw1 : IntKind.i64.wrap ((k : Int) + 1 + 1) = k + 1 + 1 := by rw [IntKind.wrap_i64]; omega
        cases rb with
        | true =>
          have HR := hide (riseS_take HI.out.1 (show (l.map (·.1))[k]? = some x.1 by rw [List.getElem?_map, HI.out.2.2.1]; rfl) (show (l.map (·.1))[k + 1]? = some y.1 by rw [List.getElem?_map, HI.out.2.2.2]; rfl) (by rw [bytesLess_eq] at hrb; exact of_decide_eq_true hrb))
          clear hrb
          go_wp2_with fail
          go_roundw
          case rel => trace_state; exact ⟨k + 1, by omega, by simp, HR.out, HB.out⟩
          case measure => simp [intOf]; omega
        | false =>
          have hne : ¬ RiseS (l.map (·.1)) := fun h => by
            rw [bytesLess_eq] at hrb
            refine of_decide_eq_false hrb ?_
            have h1 := List.getElem?_eq_some_iff.1 HI.out.2.2.1
            have h2 := List.getElem?_eq_some_iff.1 HI.out.2.2.2
            have := List.pairwise_iff_getElem.1 h k (k + 1) (by rw [List.length_map]; exact h1.1) (by rw [List.length_map]; exact h2.1) (by omega)
            rw [List.getElem_map, List.getElem_map, h1.2, h2.2] at this
            exact this
          have HN := hide hne
          clear hne hrb
          go_wp2_with fail
          go_ret
          exact ⟨.inr ⟨HN.out, rfl⟩, HB.out⟩
    · have hlti : ¬ (((k : Int) + 1) < m) := by omega
      have hR' : RiseS (l.map (·.1)) := by rwa [List.take_of_length_le (by rw [List.length_map]; have := HM.out.2; omega)] at hR
      have HI := hide (And.intro hR' hbw)
      clear hR hR' hbw
      go_wp2_with fail
      go_ret
      exact ⟨.inl ⟨HI.out.1, rfl⟩, HI.out.2⟩
theorem iKey_any (a : ByteArray × ByteArray × ByteArray) (w : World) : Calls Tryd.prog 44 #[.agg #[.string a.1, .string a.2.1, .string a.2.2]] w fun e w' => e = .returned (.string a.1) ∧ Below w.heap.size w w' := by
  go_enter Tryd.func44, Tryd.ntmps44
  go_wp2_with fail
  go_ret
  exact ⟨rfl, (Below.refl _ w).alloc (Nat.le_refl _) _⟩
theorem infoItem : (Tryd.prog.info? 50).map (fun i => (i.zero, i.size, i.bytes)) = some (some (.agg #[.string ⟨#[]⟩, .string ⟨#[]⟩, .string ⟨#[]⟩]), 3, 48) := by kernel_rfl
theorem load_i {w : World} {b off : Nat} {x : ByteArray × ByteArray × ByteArray} (h0 : w.cell? ⟨b, off, none⟩ = some (.string x.1)) (h1 : w.cell? ⟨b, off + 1, none⟩ = some (.string x.2.1)) (h2 : w.cell? ⟨b, off + 2, none⟩ = some (.string x.2.2)) : (Instr.loadAt 50 (.pointer (some ⟨b, off, none⟩))).run Tryd.prog w = .ok (.agg #[.string x.1, .string x.2.1, .string x.2.2]) w := by
  obtain ⟨ti, t1, t2, t3, t4⟩ := info_parts infoItem
  have h := run_loadAt_mid (P := Tryd.prog) w b off 50 [.string x.1, .string x.2.1, .string x.2.2] _ (fun j v hv => by
    rcases j with _ | _ | _ | j
    · cases hv; exact h0
    · cases hv; exact h1
    · cases hv; exact h2
    · cases hv) Tryd.underlying50 rfl (by rw [t1]; simp [t3])
  simpa using h
theorem ex_idxItem {o : Oper} {a : Act} {w : World} {x y : Operand} {b off m cap k : Nat} (ho : o.op = .indexAddr 26 x y) (hx : a.eval x = .slice (some ⟨b, off, none⟩) m cap) (hy : a.eval y = .int .i64 k) (hk : k < m) : (execOp a.eval o).run Tryd.prog w = .ok (.value (.pointer (some ⟨b, off + k * 3, none⟩))) w := by
  have hk1 : (k : Int) < m := by omega
  unfold execOp
  simp only [ho, hx, hy]
  go_simp
theorem ex_idxSItem {o : Oper} {a : Act} {w : World} {x y : Operand} {b off m cap k : Nat} (ho : o.op = .indexAddr 26 x y) (hx : a.eval x = .slice (some ⟨b, off, none⟩) m cap) (hy : a.eval y = .int .i64 ((k : Int) + 1)) (hk : k + 1 < m) : (execOp a.eval o).run Tryd.prog w = .ok (.value (.pointer (some ⟨b, off + (k + 1) * 3, none⟩))) w := ex_idxItem (k := k + 1) ho hx (by rw [hy]; rfl) hk
end Go.Proofs.YtffjmkngdjbjlaaDoor
