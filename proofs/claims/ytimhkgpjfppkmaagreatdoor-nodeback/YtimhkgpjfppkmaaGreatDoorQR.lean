/- Generic lists of a node: the first of a key, and whether keys rise. Names: what is an address that somebody is known by. Generic lists of a node: the first of a key. -/
import Derived.Test.YtimhkgpjfppkmaaGreatDoorQE
import Derived.Test.YtimhkgpjfppkmaaGreatDoorQG
import Derived.Test.YtimhkgpjfppkmaaGreatDoorC0
namespace Go.Proofs.YtimhkgpjfppkmaaGreatDoor
open Go.RowKit

def ItMem (n₀ : Nat) (w : World) (ao : Option Addr) (l : List (ByteArray × ByteArray × ByteArray)) : Prop :=
  l.length ≤ 1000000 ∧ ∀ k x, l[k]? = some x → ∃ b off, ao = some ⟨b, off, none⟩ ∧ b < n₀ ∧ w.cell? ⟨b, off + k * 3, none⟩ = some (.string x.1) ∧ w.cell? ⟨b, off + k * 3 + 1, none⟩ = some (.string x.2.1) ∧ w.cell? ⟨b, off + k * 3 + 2, none⟩ = some (.string x.2.2)
theorem ItMem.below {n₀ : Nat} {w w' : World} {ao : Option Addr} {l : List (ByteArray × ByteArray × ByteArray)} (h : ItMem n₀ w ao l) (hb : Below n₀ w w') : ItMem n₀ w' ao l :=
  ⟨h.1, fun k x hk => by
    obtain ⟨b, off, e, hb1, c0, c1, c2⟩ := h.2 k x hk
    exact ⟨b, off, e, hb1, (hb.cell (p := ⟨b, _, none⟩) hb1).trans c0, (hb.cell (p := ⟨b, _, none⟩) hb1).trans c1, (hb.cell (p := ⟨b, _, none⟩) hb1).trans c2⟩⟩
theorem ItMem.raise {n₀ n₁ : Nat} {w : World} {ao : Option Addr} {l : List (ByteArray × ByteArray × ByteArray)} (h : ItMem n₀ w ao l) (hn : n₀ ≤ n₁) : ItMem n₁ w ao l :=
  ⟨h.1, fun k x hk => by
    obtain ⟨b, off, e, hb1, c⟩ := h.2 k x hk
    exact ⟨b, off, e, Nat.lt_of_lt_of_le hb1 hn, c⟩⟩
theorem op_callv {P : Program} {ops : Array Oper} {Q : Exit → Act → World → Prop} {i f : Nat} {o : Oper} {a : Act} {w : World} {K : Act → World → Prop} {x : Operand} {args : Array Operand} {tys : Array TypeId} {R : Ending → World → Prop} (hi : ops[i]? = some o) (dst : Option Tmp) (hdst : o.dst = dst) (hw : Region.wanted o (yielded ops a.tmps) = true) (vs : Array Value)
    (hop : o.op = .call { callee := .value x, args := args, argTypes := tys }) (hx : a.eval x = .func (.func f) #[] #[]) (hvs : args.map a.eval = vs) (hgo : ∀ xs V, (callFunc f xs).run P V = .ok (.enter f xs) V) (hC : Calls P f vs w R) (hK : ∀ e w', R e w' → ∃ v, e = .returned v ∧ K (a.put dst v) w') : wpOp P ops Q i K a w := by
  subst hdst
  unfold wpOp
  simp only [hi, hw, if_true]
  refine .inl ?_
  unfold Oper.wp
  simp only [execOp, hop, resolve, hx, hvs]
  simp [invoke, hgo, Oper.upon, Deferred.ofValue, go_sem]
  refine hC.mono ?_
  intro e w' hR
  obtain ⟨u, rfl, hk⟩ := hK e w' hR
  exact hk
theorem ex_anyv {o : Oper} {a : Act} {w : World} {s : Operand} {v : Value} (ho : o.op = .assign s) (hs : a.eval s = v) : (execOp a.eval o).run Tryz.prog w = .ok (.value v) w := by
  unfold execOp
  simp only [ho, hs]
  rfl
theorem ex_predI {o : Oper} {a : Act} {w : World} {x : Operand} {k : Nat} (ho : o.op = .binOp .sub 3 x (.const (.int .i64 1)) 3) (hx : a.eval x = .int .i64 ((k : Int) + 1)) (hk : k ≤ 1000000) : (execOp a.eval o).run Tryz.prog w = .ok (.value (.int .i64 k)) w := by
  have h : IntKind.i64.wrap ((k : Int) + 1 - 1) = k := by rw [IntKind.wrap_i64]; omega
  have h2 : IntKind.i64.wrap (k : Int) = k := by rw [IntKind.wrap_i64]; omega
  unfold execOp
  simp only [ho, hx]
  go_simp
theorem ex_geqs {o : Oper} {a : Act} {w : World} {x y : Operand} {s t : ByteArray} {b : Bool} (ho : o.op = .binOp .geq 9 x y 9) (hx : a.eval x = .string s) (hy : a.eval y = .string t) (hb : Op.bytesLess s.toList t.toList = b) : (execOp a.eval o).run Tryz.prog w = .ok (.value (.bool (!b))) w := by
  unfold execOp
  simp only [ho, hx, hy]
  go_simp
/-- Texts rise, no two alike. -/
def RiseS (l : List ByteArray) : Prop := l.Pairwise fun x y => x.toList < y.toList
theorem riseS_take {l : List ByteArray} {k : Nat} {x y : ByteArray} (hR : RiseS (l.take (k + 1))) (hx : l[k]? = some x) (hy : l[k + 1]? = some y) (hlt : x.toList < y.toList) : RiseS (l.take (k + 1 + 1)) := by
  have e : l.take (k + 1 + 1) = l.take (k + 1) ++ [y] := by rw [List.take_add_one, hy]; rfl
  have e2 : l.take (k + 1) = l.take k ++ [x] := by rw [List.take_add_one, hx]; rfl
  rw [e]
  refine List.pairwise_append.2 ⟨hR, List.pairwise_singleton _ _, fun a ha b hb => ?_⟩
  rw [List.mem_singleton.1 hb]
  rw [e2] at hR ha
  rcases List.mem_append.1 ha with ha | ha
  · exact str_trans ((List.pairwise_append.1 hR).2.2 a ha x (List.mem_singleton.2 rfl)) hlt
  · rw [List.mem_singleton.1 ha]
    exact hlt
theorem find_firstK {α : Type} (kf : α → ByteArray) {l : List α} {s : ByteArray} {k : Nat} {x : α} (hno : ∀ y ∈ l.take k, kf y ≠ s) (hx : l[k]? = some x) (hs : kf x = s) : l.find? (fun x => decide (kf x = s)) = some x := by
  have hd : l = l.take k ++ x :: l.drop (k + 1) := by
    obtain ⟨h1, h2⟩ := List.getElem?_eq_some_iff.1 hx
    rw [← h2, ← List.drop_eq_getElem_cons h1, List.take_append_drop]
  rw [hd, List.find?_append, List.find?_eq_none.2 (fun y hy => by simpa using hno y hy), Option.none_or, List.find?_cons_of_pos (by simpa using hs)]
theorem heap_setk {w : World} {b : Nat} {i : Nat} {cs : Array Value} {v : Value} {T : TypeId} (h : w.heap[b]? = some (.cells cs T)) : (w.setCell ⟨b, i, none⟩ v).heap[b]? = some (.cells (cs.setIfInBounds i v) T) := heap_setCell_same _ _ i _ _ _ h
theorem aKey_any (a : ByteArray × Nat) (w : World) : Calls Tryz.prog 42 #[.agg #[.string a.1, .int .u8 a.2]] w fun e w' => e = .returned (.string a.1) ∧ Below w.heap.size w w' := affKey_any a w
theorem infoAff : (Tryz.prog.info? 55).map (fun i => (i.zero, i.size, i.bytes)) = some (some (.agg #[.string ⟨#[]⟩, .int .u8 0]), 2, 24) := by kernel_rfl
theorem load_a {w : World} {b off : Nat} {x : ByteArray × Nat} (h0 : w.cell? ⟨b, off, none⟩ = some (.string x.1)) (h1 : w.cell? ⟨b, off + 1, none⟩ = some (.int .u8 x.2)) : (Instr.loadAt 55 (.pointer (some ⟨b, off, none⟩))).run Tryz.prog w = .ok (.agg #[.string x.1, .int .u8 x.2]) w := by
  obtain ⟨ti, t1, t2, t3, t4⟩ := info_parts infoAff
  have h := run_loadAt_mid (P := Tryz.prog) w b off 55 [.string x.1, .int .u8 x.2] _ (fun j v hv => by
    rcases j with _ | _ | _ | j
    · cases hv; exact h0
    · cases hv; exact h1
    · cases hv
    · cases hv) Tryz.underlying55 rfl (by rw [t1]; simp [t3])
  simpa using h
theorem ex_idxAff {o : Oper} {a : Act} {w : World} {x y : Operand} {b off m cap k : Nat} (ho : o.op = .indexAddr 23 x y) (hx : a.eval x = .slice (some ⟨b, off, none⟩) m cap) (hy : a.eval y = .int .i64 k) (hk : k < m) : (execOp a.eval o).run Tryz.prog w = .ok (.value (.pointer (some ⟨b, off + k * 2, none⟩))) w := by
  have hk1 : (k : Int) < m := by omega
  unfold execOp
  simp only [ho, hx, hy]
  go_simp
theorem ex_idxSAff {o : Oper} {a : Act} {w : World} {x y : Operand} {b off m cap k : Nat} (ho : o.op = .indexAddr 23 x y) (hx : a.eval x = .slice (some ⟨b, off, none⟩) m cap) (hy : a.eval y = .int .i64 ((k : Int) + 1)) (hk : k + 1 < m) : (execOp a.eval o).run Tryz.prog w = .ok (.value (.pointer (some ⟨b, off + (k + 1) * 2, none⟩))) w := ex_idxAff (k := k + 1) ho hx (by rw [hy]; rfl) hk
set_option maxRecDepth 100000 in
set_option maxHeartbeats 4000000 in
theorem riseAff_any (ao : Option Addr) (cap : Nat) (l : List (ByteArray × Nat)) (w : World) (hm : AffMem w.heap.size w ao l) :
    Calls Tryz.prog 44 #[.slice ao l.length cap, .func (.func 42) #[] #[]] w fun e w' => ((RiseS (l.map (·.1)) ∧ e = .returned (.bool true)) ∨ (¬ RiseS (l.map (·.1)) ∧ e = .returned (.bool false))) ∧ Below w.heap.size w w' := by
  have hlen := hm.1
  obtain ⟨m, hml⟩ : ∃ m, l.length = m := ⟨_, rfl⟩
  have HM := hide (And.intro hm hml)
  rw [hml] at hlen ⊢
  clear hm hml
  go_enter Tryz.func44, Tryz.ntmps44
  go_wp2_with fail
  go_loopw [5] (fun j wr => ∃ k : Nat, k ≤ m ∧ j = .int .i64 ((k : Int) + 1) ∧ RiseS ((l.map (·.1)).take (k + 1)) ∧ Below w.heap.size w wr) (fun j _ => m + 1 - (intOf j).toNat)
  case atStart =>
    refine ⟨0, Nat.zero_le _, rfl, ?_, Below.refl _ _⟩
    cases l with
    | nil => exact List.Pairwise.nil
    | cons x l => exact List.pairwise_singleton _ _
  case round =>
    obtain ⟨k, hk, rfl, hR, hbw⟩ := hrel
    by_cases hlt : k + 1 < m
    · have hlti : ((k : Int) + 1) < m := by omega
      obtain ⟨x, hx⟩ : ∃ x, l[k]? = some x := ⟨l[k]'(by have := HM.out.2; omega), by simp⟩
      obtain ⟨y, hy⟩ : ∃ y, l[k + 1]? = some y := ⟨l[k + 1]'(by have := HM.out.2; omega), by simp⟩
      obtain ⟨b, off, hbe, hbl, c0, c1⟩ := (HM.out.1.below hbw).2 k x hx
      obtain ⟨b', off', e', hbl', d0, d1⟩ := (HM.out.1.below hbw).2 (k + 1) y hy
      rw [hbe] at e' ⊢
      cases e'
      have hz := hbw.size
      have HI := hide (And.intro hR (And.intro hbw (And.intro hx hy)))
      clear hR hbw hx hy
      go_wp2_with fail
      obtain ⟨rb, hrb⟩ : ∃ rb, Op.bytesLess x.1.toList y.1.toList = rb := ⟨_, rfl⟩
      obtain ⟨V0, hV0⟩ : ∃ V0, wr.drew = V0 := ⟨_, rfl⟩
      have B0 : Below wr.heap.size wr V0 := by rw [← hV0]; exact (Below.refl _ wr).drew
      have hbV : b < V0.heap.size := by have := B0.size; omega
      replace c0 := (B0.cell (p := ⟨b, _, none⟩) (Nat.lt_of_lt_of_le hbl hz)).trans c0
      replace c1 := (B0.cell (p := ⟨b, _, none⟩) (Nat.lt_of_lt_of_le hbl hz)).trans c1
      replace d0 := (B0.cell (p := ⟨b, _, none⟩) (Nat.lt_of_lt_of_le hbl hz)).trans d0
      replace d1 := (B0.cell (p := ⟨b, _, none⟩) (Nat.lt_of_lt_of_le hbl hz)).trans d1
      refine region_rel (S := fun V => Below V0.heap.size V0 V) (fun a Wz => ∃ xx : Nat → Value, (Below wr.heap.size wr Wz) ∧ a = { tmps := #[.slice (some ⟨b, off, none⟩) m cap, .func (.func 42) #[] #[], undef, undef, u4, .int .i64 ((k : Int) + 1), xx 6, xx 7, xx 8, xx 9, xx 10, xx 11, xx 12, xx 13, xx 14, xx 15, xx 16, xx 17, xx 18, xx 19, xx 20, xx 21, xx 22, xx 23, xx 24, .bool (!rb)], defers := [] }) (by kernel_rfl) ?any ?fin
      case any =>
        rw [hV0]
        clear hV0
        have S0 : Below V0.heap.size V0 V0 := Below.refl _ _
        refine anyH_take (i := 0) (v := .func (.func 42) #[] #[]) rfl (some 12) rfl (by kernel_rfl) (by kernel_rfl) (by kernel_rfl) (fun _ _ _ h => by cases h.1) (by kernel_rfl) (fun w0 hw0 => by first | rfl | kernel_rfl) S0 ?_
        simp only [Act.put, List.setIfInBounds_toArray, List.set_cons_zero, List.set_cons_succ]
        refine anyH_take (i := 1) (v := .slice (some ⟨b, off, none⟩) m cap) rfl (some 13) rfl (by kernel_rfl) (by kernel_rfl) (by kernel_rfl) (fun _ _ _ h => by cases h.1) (by kernel_rfl) (fun w0 hw0 => by first | rfl | kernel_rfl) S0 ?_
        simp only [Act.put, List.setIfInBounds_toArray, List.set_cons_zero, List.set_cons_succ]
        refine anyH_take (i := 2) (v := .int .i64 ((k : Int) + 1)) rfl (some 14) rfl (by kernel_rfl) (by kernel_rfl) (by kernel_rfl) (fun _ _ _ h => by cases h.1) (by kernel_rfl) (fun w0 hw0 => by first | rfl | kernel_rfl) S0 ?_
        simp only [Act.put, List.setIfInBounds_toArray, List.set_cons_zero, List.set_cons_succ]
        refine anyH_take (i := 3) (v := .int .i64 k) rfl (some 15) rfl (by kernel_rfl) (by kernel_rfl) (by kernel_rfl) (fun _ _ _ h => by cases h.1) (by kernel_rfl) (fun _ _ => ex_predI rfl rfl (by omega)) S0 ?_
        simp only [Act.put, List.setIfInBounds_toArray, List.set_cons_zero, List.set_cons_succ]
        refine anyH_take (i := 4) (v := .pointer (some ⟨b, off + k * 2, none⟩)) rfl (some 16) rfl (by kernel_rfl) (by kernel_rfl) (by kernel_rfl) (fun _ _ _ h => by cases h.1) (by kernel_rfl) (fun _ _ => ex_idxAff rfl rfl rfl (by omega)) S0 ?_
        simp only [Act.put, List.setIfInBounds_toArray, List.set_cons_zero, List.set_cons_succ]
        refine anyH_take (i := 5) (v := .agg #[.string x.1, .int .u8 x.2]) rfl (some 17) rfl (by kernel_rfl) (by kernel_rfl) (by kernel_rfl) (fun _ _ _ h => by cases h.1) (by kernel_rfl) (fun w0 hw0 => ex_load rfl rfl (load_a ((hw0.cell (p := ⟨b, _, none⟩) hbV).trans c0) ((hw0.cell (p := ⟨b, _, none⟩) hbV).trans c1))) S0 ?_
        simp only [Act.put, List.setIfInBounds_toArray, List.set_cons_zero, List.set_cons_succ]
        refine anyH_take (i := 7) (v := .func (.func 42) #[] #[]) rfl (some 19) rfl (by kernel_rfl) (by kernel_rfl) (by kernel_rfl) (fun _ _ _ h => by cases h.1) (by kernel_rfl) (fun w0 hw0 => by first | rfl | kernel_rfl) S0 ?_
        simp only [Act.put, List.setIfInBounds_toArray, List.set_cons_zero, List.set_cons_succ]
        refine anyH_take (i := 8) (v := .slice (some ⟨b, off, none⟩) m cap) rfl (some 20) rfl (by kernel_rfl) (by kernel_rfl) (by kernel_rfl) (fun _ _ _ h => by cases h.1) (by kernel_rfl) (fun w0 hw0 => by first | rfl | kernel_rfl) S0 ?_
        simp only [Act.put, List.setIfInBounds_toArray, List.set_cons_zero, List.set_cons_succ]
        refine anyH_take (i := 9) (v := .int .i64 ((k : Int) + 1)) rfl (some 21) rfl (by kernel_rfl) (by kernel_rfl) (by kernel_rfl) (fun _ _ _ h => by cases h.1) (by kernel_rfl) (fun w0 hw0 => by first | rfl | kernel_rfl) S0 ?_
        simp only [Act.put, List.setIfInBounds_toArray, List.set_cons_zero, List.set_cons_succ]
        refine anyH_take (i := 10) (v := .pointer (some ⟨b, off + (k + 1) * 2, none⟩)) rfl (some 22) rfl (by kernel_rfl) (by kernel_rfl) (by kernel_rfl) (fun _ _ _ h => by cases h.1) (by kernel_rfl) (fun _ _ => ex_idxSAff rfl rfl rfl (by omega)) S0 ?_
        simp only [Act.put, List.setIfInBounds_toArray, List.set_cons_zero, List.set_cons_succ]
        refine anyH_take (i := 11) (v := .agg #[.string y.1, .int .u8 y.2]) rfl (some 23) rfl (by kernel_rfl) (by kernel_rfl) (by kernel_rfl) (fun _ _ _ h => by cases h.1) (by kernel_rfl) (fun w0 hw0 => ex_load rfl rfl (load_a ((hw0.cell (p := ⟨b, _, none⟩) hbV).trans d0) ((hw0.cell (p := ⟨b, _, none⟩) hbV).trans d1))) S0 ?_
        simp only [Act.put, List.setIfInBounds_toArray, List.set_cons_zero, List.set_cons_succ]
        refine anyH_one (i := 6) (by kernel_rfl) ?_
        refine op_callv rfl (some 18) rfl (by kernel_rfl) #[.agg #[.string x.1, .int .u8 x.2]] rfl rfl (by simp [Act.eval]) (fun _ _ => rfl) (aKey_any x V0) ?_
        rintro e V1 ⟨rfl, c1_⟩
        have b1 : Below V0.heap.size V0 V1 := c1_
        refine ⟨_, rfl, S0.trans (b1.mono S0.size), ?_⟩
        simp only [Act.put, List.setIfInBounds_toArray, List.set_cons_zero, List.set_cons_succ]
        refine anyH_more (fun V => Below V1.heap.size V1 V) (fun V hV => S0.trans ((b1.trans (hV.mono b1.size)).mono S0.size)) ?_
        have S1 : Below V1.heap.size V1 V1 := Below.refl _ _
        have B1 : Below wr.heap.size wr V1 := B0.trans (b1.mono B0.size)
        refine anyH_one (i := 12) (by kernel_rfl) ?_
        refine op_callv rfl (some 24) rfl (by kernel_rfl) #[.agg #[.string y.1, .int .u8 y.2]] rfl rfl (by simp [Act.eval]) (fun _ _ => rfl) (aKey_any y V1) ?_
        rintro e V2 ⟨rfl, c2_⟩
        have b2 : Below V1.heap.size V1 V2 := c2_
        refine ⟨_, rfl, S1.trans (b2.mono S1.size), ?_⟩
        simp only [Act.put, List.setIfInBounds_toArray, List.set_cons_zero, List.set_cons_succ]
        refine anyH_more (fun V => Below V2.heap.size V2 V) (fun V hV => S1.trans ((b2.trans (hV.mono b2.size)).mono S1.size)) ?_
        have S2 : Below V2.heap.size V2 V2 := Below.refl _ _
        have B2 : Below wr.heap.size wr V2 := B1.trans (b2.mono B1.size)
        refine anyH_val (i := 13) (by kernel_rfl) rfl (some 25) rfl (by kernel_rfl) (ex_geqs rfl rfl rfl hrb) S2 ?_
        simp only [Act.put, List.setIfInBounds_toArray, List.set_cons_zero, List.set_cons_succ]
        exact wpAnyH_done (by kernel_rfl) ⟨rfl, fill (B2) (by kernel_rfl)⟩ _
      case fin =>
        rintro a W ⟨xx, hB, rfl⟩
        have HB := hide (HI.out.2.1.trans (hB.mono hz))
        clear hB B0 hbV hV0 c0 d0 c1 d1
        have hw1 : IntKind.i64.wrap ((k : Int) + 1 + 1) = k + 1 + 1 := by rw [IntKind.wrap_i64]; omega
        cases rb with
        | true =>
          have HR := hide (riseS_take HI.out.1 (show (l.map (·.1))[k]? = some x.1 by rw [List.getElem?_map, HI.out.2.2.1]; rfl) (show (l.map (·.1))[k + 1]? = some y.1 by rw [List.getElem?_map, HI.out.2.2.2]; rfl) (by rw [bytesLess_eq] at hrb; exact of_decide_eq_true hrb))
          clear hrb
          go_wp2_with fail
          go_roundw
          case rel => trace_state; exact ⟨k + 1, by omega, by simp, HR.out, HB.out⟩
          case measure => simp [intOf]; omega
        | false =>
          have hne : ¬ RiseS (l.map (·.1)) := fun h => by
            rw [bytesLess_eq] at hrb
            refine of_decide_eq_false hrb ?_
            have h1 := List.getElem?_eq_some_iff.1 HI.out.2.2.1
            have h2 := List.getElem?_eq_some_iff.1 HI.out.2.2.2
            have := List.pairwise_iff_getElem.1 h k (k + 1) (by rw [List.length_map]; exact h1.1) (by rw [List.length_map]; exact h2.1) (by omega)
            rw [List.getElem_map, List.getElem_map, h1.2, h2.2] at this
            exact this
          have HN := hide hne
          clear hne hrb
          go_wp2_with fail
          go_ret
          exact ⟨.inr ⟨HN.out, rfl⟩, HB.out⟩
    · have hlti : ¬ (((k : Int) + 1) < m) := by omega
      have hR' : RiseS (l.map (·.1)) := by rwa [List.take_of_length_le (by rw [List.length_map]; have := HM.out.2; omega)] at hR
      have HI := hide (And.intro hR' hbw)
      clear hR hR' hbw
      go_wp2_with fail
      go_ret
      exact ⟨.inl ⟨HI.out.1, rfl⟩, HI.out.2⟩
theorem sKey_any (a : ByteArray × Bool × Int) (w : World) : Calls Tryz.prog 38 #[.agg #[.string a.1, .bool a.2.1, .int .i64 a.2.2]] w fun e w' => e = .returned (.string a.1) ∧ Below w.heap.size w w' := by
  go_enter Tryz.func38, Tryz.ntmps38
  go_wp2_with fail
  go_ret
  exact ⟨rfl, (Below.refl _ w).alloc (Nat.le_refl _) _⟩
theorem infoSub : (Tryz.prog.info? 58).map (fun i => (i.zero, i.size, i.bytes)) = some (some (.agg #[.string ⟨#[]⟩, .bool false, .int .i64 0]), 3, 32) := by kernel_rfl
theorem load_s {w : World} {b off : Nat} {x : ByteArray × Bool × Int} (h0 : w.cell? ⟨b, off, none⟩ = some (.string x.1)) (h1 : w.cell? ⟨b, off + 1, none⟩ = some (.bool x.2.1)) (h2 : w.cell? ⟨b, off + 2, none⟩ = some (.int .i64 x.2.2)) : (Instr.loadAt 58 (.pointer (some ⟨b, off, none⟩))).run Tryz.prog w = .ok (.agg #[.string x.1, .bool x.2.1, .int .i64 x.2.2]) w := by
  obtain ⟨ti, t1, t2, t3, t4⟩ := info_parts infoSub
  have h := run_loadAt_mid (P := Tryz.prog) w b off 58 [.string x.1, .bool x.2.1, .int .i64 x.2.2] _ (fun j v hv => by
    rcases j with _ | _ | _ | j
    · cases hv; exact h0
    · cases hv; exact h1
    · cases hv; exact h2
    · cases hv) Tryz.underlying58 rfl (by rw [t1]; simp [t3])
  simpa using h
theorem ex_idxSub {o : Oper} {a : Act} {w : World} {x y : Operand} {b off m cap k : Nat} (ho : o.op = .indexAddr 24 x y) (hx : a.eval x = .slice (some ⟨b, off, none⟩) m cap) (hy : a.eval y = .int .i64 k) (hk : k < m) : (execOp a.eval o).run Tryz.prog w = .ok (.value (.pointer (some ⟨b, off + k * 3, none⟩))) w := by
  have hk1 : (k : Int) < m := by omega
  unfold execOp
  simp only [ho, hx, hy]
  go_simp
theorem ex_idxSSub {o : Oper} {a : Act} {w : World} {x y : Operand} {b off m cap k : Nat} (ho : o.op = .indexAddr 24 x y) (hx : a.eval x = .slice (some ⟨b, off, none⟩) m cap) (hy : a.eval y = .int .i64 ((k : Int) + 1)) (hk : k + 1 < m) : (execOp a.eval o).run Tryz.prog w = .ok (.value (.pointer (some ⟨b, off + (k + 1) * 3, none⟩))) w := ex_idxSub (k := k + 1) ho hx (by rw [hy]; rfl) hk
set_option maxRecDepth 100000 in
set_option maxHeartbeats 4000000 in
theorem riseSub_any (ao : Option Addr) (cap : Nat) (l : List (ByteArray × Bool × Int)) (w : World) (hm : SubMem w.heap.size w ao l) :
    Calls Tryz.prog 47 #[.slice ao l.length cap, .func (.func 38) #[] #[]] w fun e w' => ((RiseS (l.map (·.1)) ∧ e = .returned (.bool true)) ∨ (¬ RiseS (l.map (·.1)) ∧ e = .returned (.bool false))) ∧ Below w.heap.size w w' := by
  have hlen := hm.1
  obtain ⟨m, hml⟩ : ∃ m, l.length = m := ⟨_, rfl⟩
  have HM := hide (And.intro hm hml)
  rw [hml] at hlen ⊢
  clear hm hml
  go_enter Tryz.func47, Tryz.ntmps47
  go_wp2_with fail
  go_loopw [5] (fun j wr => ∃ k : Nat, k ≤ m ∧ j = .int .i64 ((k : Int) + 1) ∧ RiseS ((l.map (·.1)).take (k + 1)) ∧ Below w.heap.size w wr) (fun j _ => m + 1 - (intOf j).toNat)
  case atStart =>
    refine ⟨0, Nat.zero_le _, rfl, ?_, Below.refl _ _⟩
    cases l with
    | nil => exact List.Pairwise.nil
    | cons x l => exact List.pairwise_singleton _ _
  case round =>
    obtain ⟨k, hk, rfl, hR, hbw⟩ := hrel
    by_cases hlt : k + 1 < m
    · have hlti : ((k : Int) + 1) < m := by omega
      obtain ⟨x, hx⟩ : ∃ x, l[k]? = some x := ⟨l[k]'(by have := HM.out.2; omega), by simp⟩
      obtain ⟨y, hy⟩ : ∃ y, l[k + 1]? = some y := ⟨l[k + 1]'(by have := HM.out.2; omega), by simp⟩
      obtain ⟨b, off, hbe, hbl, c0, c1, c2⟩ := (HM.out.1.below hbw).2 k x hx
      obtain ⟨b', off', e', hbl', d0, d1, d2⟩ := (HM.out.1.below hbw).2 (k + 1) y hy
      rw [hbe] at e' ⊢
      cases e'
      have hz := hbw.size
      have HI := hide (And.intro hR (And.intro hbw (And.intro hx hy)))
      clear hR hbw hx hy
      go_wp2_with fail
      obtain ⟨rb, hrb⟩ : ∃ rb, Op.bytesLess x.1.toList y.1.toList = rb := ⟨_, rfl⟩
      obtain ⟨V0, hV0⟩ : ∃ V0, wr.drew = V0 := ⟨_, rfl⟩
      have B0 : Below wr.heap.size wr V0 := by rw [← hV0]; exact (Below.refl _ wr).drew
      have hbV : b < V0.heap.size := by have := B0.size; omega
      replace c0 := (B0.cell (p := ⟨b, _, none⟩) (Nat.lt_of_lt_of_le hbl hz)).trans c0
      replace c1 := (B0.cell (p := ⟨b, _, none⟩) (Nat.lt_of_lt_of_le hbl hz)).trans c1
      replace c2 := (B0.cell (p := ⟨b, _, none⟩) (Nat.lt_of_lt_of_le hbl hz)).trans c2
      replace d0 := (B0.cell (p := ⟨b, _, none⟩) (Nat.lt_of_lt_of_le hbl hz)).trans d0
      replace d1 := (B0.cell (p := ⟨b, _, none⟩) (Nat.lt_of_lt_of_le hbl hz)).trans d1
      replace d2 := (B0.cell (p := ⟨b, _, none⟩) (Nat.lt_of_lt_of_le hbl hz)).trans d2
      refine region_rel (S := fun V => Below V0.heap.size V0 V) (fun a Wz => ∃ xx : Nat → Value, (Below wr.heap.size wr Wz) ∧ a = { tmps := #[.slice (some ⟨b, off, none⟩) m cap, .func (.func 38) #[] #[], undef, undef, u4, .int .i64 ((k : Int) + 1), xx 6, xx 7, xx 8, xx 9, xx 10, xx 11, xx 12, xx 13, xx 14, xx 15, xx 16, xx 17, xx 18, xx 19, xx 20, xx 21, xx 22, xx 23, xx 24, .bool (!rb)], defers := [] }) (by kernel_rfl) ?any ?fin
      case any =>
        rw [hV0]
        clear hV0
        have S0 : Below V0.heap.size V0 V0 := Below.refl _ _
        refine anyH_take (i := 0) (v := .func (.func 38) #[] #[]) rfl (some 12) rfl (by kernel_rfl) (by kernel_rfl) (by kernel_rfl) (fun _ _ _ h => by cases h.1) (by kernel_rfl) (fun w0 hw0 => by first | rfl | kernel_rfl) S0 ?_
        simp only [Act.put, List.setIfInBounds_toArray, List.set_cons_zero, List.set_cons_succ]
        refine anyH_take (i := 1) (v := .slice (some ⟨b, off, none⟩) m cap) rfl (some 13) rfl (by kernel_rfl) (by kernel_rfl) (by kernel_rfl) (fun _ _ _ h => by cases h.1) (by kernel_rfl) (fun w0 hw0 => by first | rfl | kernel_rfl) S0 ?_
        simp only [Act.put, List.setIfInBounds_toArray, List.set_cons_zero, List.set_cons_succ]
        refine anyH_take (i := 2) (v := .int .i64 ((k : Int) + 1)) rfl (some 14) rfl (by kernel_rfl) (by kernel_rfl) (by kernel_rfl) (fun _ _ _ h => by cases h.1) (by kernel_rfl) (fun w0 hw0 => by first | rfl | kernel_rfl) S0 ?_
        simp only [Act.put, List.setIfInBounds_toArray, List.set_cons_zero, List.set_cons_succ]
        refine anyH_take (i := 3) (v := .int .i64 k) rfl (some 15) rfl (by kernel_rfl) (by kernel_rfl) (by kernel_rfl) (fun _ _ _ h => by cases h.1) (by kernel_rfl) (fun _ _ => ex_predI rfl rfl (by omega)) S0 ?_
        simp only [Act.put, List.setIfInBounds_toArray, List.set_cons_zero, List.set_cons_succ]
        refine anyH_take (i := 4) (v := .pointer (some ⟨b, off + k * 3, none⟩)) rfl (some 16) rfl (by kernel_rfl) (by kernel_rfl) (by kernel_rfl) (fun _ _ _ h => by cases h.1) (by kernel_rfl) (fun _ _ => ex_idxSub rfl rfl rfl (by omega)) S0 ?_
        simp only [Act.put, List.setIfInBounds_toArray, List.set_cons_zero, List.set_cons_succ]
        refine anyH_take (i := 5) (v := .agg #[.string x.1, .bool x.2.1, .int .i64 x.2.2]) rfl (some 17) rfl (by kernel_rfl) (by kernel_rfl) (by kernel_rfl) (fun _ _ _ h => by cases h.1) (by kernel_rfl) (fun w0 hw0 => ex_load rfl rfl (load_s ((hw0.cell (p := ⟨b, _, none⟩) hbV).trans c0) ((hw0.cell (p := ⟨b, _, none⟩) hbV).trans c1) ((hw0.cell (p := ⟨b, _, none⟩) hbV).trans c2))) S0 ?_
        simp only [Act.put, List.setIfInBounds_toArray, List.set_cons_zero, List.set_cons_succ]
        refine anyH_take (i := 7) (v := .func (.func 38) #[] #[]) rfl (some 19) rfl (by kernel_rfl) (by kernel_rfl) (by kernel_rfl) (fun _ _ _ h => by cases h.1) (by kernel_rfl) (fun w0 hw0 => by first | rfl | kernel_rfl) S0 ?_
        simp only [Act.put, List.setIfInBounds_toArray, List.set_cons_zero, List.set_cons_succ]
        refine anyH_take (i := 8) (v := .slice (some ⟨b, off, none⟩) m cap) rfl (some 20) rfl (by kernel_rfl) (by kernel_rfl) (by kernel_rfl) (fun _ _ _ h => by cases h.1) (by kernel_rfl) (fun w0 hw0 => by first | rfl | kernel_rfl) S0 ?_
        simp only [Act.put, List.setIfInBounds_toArray, List.set_cons_zero, List.set_cons_succ]
        refine anyH_take (i := 9) (v := .int .i64 ((k : Int) + 1)) rfl (some 21) rfl (by kernel_rfl) (by kernel_rfl) (by kernel_rfl) (fun _ _ _ h => by cases h.1) (by kernel_rfl) (fun w0 hw0 => by first | rfl | kernel_rfl) S0 ?_
        simp only [Act.put, List.setIfInBounds_toArray, List.set_cons_zero, List.set_cons_succ]
        refine anyH_take (i := 10) (v := .pointer (some ⟨b, off + (k + 1) * 3, none⟩)) rfl (some 22) rfl (by kernel_rfl) (by kernel_rfl) (by kernel_rfl) (fun _ _ _ h => by cases h.1) (by kernel_rfl) (fun _ _ => ex_idxSSub rfl rfl rfl (by omega)) S0 ?_
        simp only [Act.put, List.setIfInBounds_toArray, List.set_cons_zero, List.set_cons_succ]
        refine anyH_take (i := 11) (v := .agg #[.string y.1, .bool y.2.1, .int .i64 y.2.2]) rfl (some 23) rfl (by kernel_rfl) (by kernel_rfl) (by kernel_rfl) (fun _ _ _ h => by cases h.1) (by kernel_rfl) (fun w0 hw0 => ex_load rfl rfl (load_s ((hw0.cell (p := ⟨b, _, none⟩) hbV).trans d0) ((hw0.cell (p := ⟨b, _, none⟩) hbV).trans d1) ((hw0.cell (p := ⟨b, _, none⟩) hbV).trans d2))) S0 ?_
        simp only [Act.put, List.setIfInBounds_toArray, List.set_cons_zero, List.set_cons_succ]
        refine anyH_one (i := 6) (by kernel_rfl) ?_
        refine op_callv rfl (some 18) rfl (by kernel_rfl) #[.agg #[.string x.1, .bool x.2.1, .int .i64 x.2.2]] rfl rfl (by simp [Act.eval]) (fun _ _ => rfl) (sKey_any x V0) ?_
        rintro e V1 ⟨rfl, c1_⟩
        have b1 : Below V0.heap.size V0 V1 := c1_
        refine ⟨_, rfl, S0.trans (b1.mono S0.size), ?_⟩
        simp only [Act.put, List.setIfInBounds_toArray, List.set_cons_zero, List.set_cons_succ]
        refine anyH_more (fun V => Below V1.heap.size V1 V) (fun V hV => S0.trans ((b1.trans (hV.mono b1.size)).mono S0.size)) ?_
        have S1 : Below V1.heap.size V1 V1 := Below.refl _ _
        have B1 : Below wr.heap.size wr V1 := B0.trans (b1.mono B0.size)
        refine anyH_one (i := 12) (by kernel_rfl) ?_
        refine op_callv rfl (some 24) rfl (by kernel_rfl) #[.agg #[.string y.1, .bool y.2.1, .int .i64 y.2.2]] rfl rfl (by simp [Act.eval]) (fun _ _ => rfl) (sKey_any y V1) ?_
        rintro e V2 ⟨rfl, c2_⟩
        have b2 : Below V1.heap.size V1 V2 := c2_
        refine ⟨_, rfl, S1.trans (b2.mono S1.size), ?_⟩
        simp only [Act.put, List.setIfInBounds_toArray, List.set_cons_zero, List.set_cons_succ]
        refine anyH_more (fun V => Below V2.heap.size V2 V) (fun V hV => S1.trans ((b2.trans (hV.mono b2.size)).mono S1.size)) ?_
        have S2 : Below V2.heap.size V2 V2 := Below.refl _ _
        have B2 : Below wr.heap.size wr V2 := B1.trans (b2.mono B1.size)
        refine anyH_val (i := 13) (by kernel_rfl) rfl (some 25) rfl (by kernel_rfl) (ex_geqs rfl rfl rfl hrb) S2 ?_
        simp only [Act.put, List.setIfInBounds_toArray, List.set_cons_zero, List.set_cons_succ]
        exact wpAnyH_done (by kernel_rfl) ⟨rfl, fill (B2) (by kernel_rfl)⟩ _
      case fin =>
        rintro a W ⟨xx, hB, rfl⟩
        have HB := hide (HI.out.2.1.trans (hB.mono hz))
        clear hB B0 hbV hV0 c0 d0 c1 d1 c2 d2
        have hw1 : IntKind.i64.wrap ((k : Int) + 1 + 1) = k + 1 + 1 := by rw [IntKind.wrap_i64]; omega
        cases rb with
        | true =>
          have HR := hide (riseS_take HI.out.1 (show (l.map (·.1))[k]? = some x.1 by rw [List.getElem?_map, HI.out.2.2.1]; rfl) (show (l.map (·.1))[k + 1]? = some y.1 by rw [List.getElem?_map, HI.out.2.2.2]; rfl) (by rw [bytesLess_eq] at hrb; exact of_decide_eq_true hrb))
          clear hrb
          go_wp2_with fail
          go_roundw
          case rel => trace_state; exact ⟨k + 1, by omega, by simp, HR.out, HB.out⟩
          case measure => simp [intOf]; omega
        | false =>
          have hne : ¬ RiseS (l.map (·.1)) := fun h => by
            rw [bytesLess_eq] at hrb
            refine of_decide_eq_false hrb ?_
            have h1 := List.getElem?_eq_some_iff.1 HI.out.2.2.1
            have h2 := List.getElem?_eq_some_iff.1 HI.out.2.2.2
            have := List.pairwise_iff_getElem.1 h k (k + 1) (by rw [List.length_map]; exact h1.1) (by rw [List.length_map]; exact h2.1) (by omega)
            rw [List.getElem_map, List.getElem_map, h1.2, h2.2] at this
            exact this
          have HN := hide hne
          clear hne hrb
          go_wp2_with fail
          go_ret
          exact ⟨.inr ⟨HN.out, rfl⟩, HB.out⟩
    · have hlti : ¬ (((k : Int) + 1) < m) := by omega
      have hR' : RiseS (l.map (·.1)) := by rwa [List.take_of_length_le (by rw [List.length_map]; have := HM.out.2; omega)] at hR
      have HI := hide (And.intro hR' hbw)
      clear hR hR' hbw
      go_wp2_with fail
      go_ret
      exact ⟨.inl ⟨HI.out.1, rfl⟩, HI.out.2⟩
theorem iKey_any (a : ByteArray × ByteArray × ByteArray) (w : World) : Calls Tryz.prog 49 #[.agg #[.string a.1, .string a.2.1, .string a.2.2]] w fun e w' => e = .returned (.string a.1) ∧ Below w.heap.size w w' := by
  go_enter Tryz.func49, Tryz.ntmps49
  go_wp2_with fail
  go_ret
  exact ⟨rfl, (Below.refl _ w).alloc (Nat.le_refl _) _⟩
theorem infoItem : (Tryz.prog.info? 61).map (fun i => (i.zero, i.size, i.bytes)) = some (some (.agg #[.string ⟨#[]⟩, .string ⟨#[]⟩, .string ⟨#[]⟩]), 3, 48) := by kernel_rfl
theorem load_i {w : World} {b off : Nat} {x : ByteArray × ByteArray × ByteArray} (h0 : w.cell? ⟨b, off, none⟩ = some (.string x.1)) (h1 : w.cell? ⟨b, off + 1, none⟩ = some (.string x.2.1)) (h2 : w.cell? ⟨b, off + 2, none⟩ = some (.string x.2.2)) : (Instr.loadAt 61 (.pointer (some ⟨b, off, none⟩))).run Tryz.prog w = .ok (.agg #[.string x.1, .string x.2.1, .string x.2.2]) w := by
  obtain ⟨ti, t1, t2, t3, t4⟩ := info_parts infoItem
  have h := run_loadAt_mid (P := Tryz.prog) w b off 61 [.string x.1, .string x.2.1, .string x.2.2] _ (fun j v hv => by
    rcases j with _ | _ | _ | j
    · cases hv; exact h0
    · cases hv; exact h1
    · cases hv; exact h2
    · cases hv) Tryz.underlying61 rfl (by rw [t1]; simp [t3])
  simpa using h
theorem ex_idxItem {o : Oper} {a : Act} {w : World} {x y : Operand} {b off m cap k : Nat} (ho : o.op = .indexAddr 25 x y) (hx : a.eval x = .slice (some ⟨b, off, none⟩) m cap) (hy : a.eval y = .int .i64 k) (hk : k < m) : (execOp a.eval o).run Tryz.prog w = .ok (.value (.pointer (some ⟨b, off + k * 3, none⟩))) w := by
  have hk1 : (k : Int) < m := by omega
  unfold execOp
  simp only [ho, hx, hy]
  go_simp
theorem ex_idxSItem {o : Oper} {a : Act} {w : World} {x y : Operand} {b off m cap k : Nat} (ho : o.op = .indexAddr 25 x y) (hx : a.eval x = .slice (some ⟨b, off, none⟩) m cap) (hy : a.eval y = .int .i64 ((k : Int) + 1)) (hk : k + 1 < m) : (execOp a.eval o).run Tryz.prog w = .ok (.value (.pointer (some ⟨b, off + (k + 1) * 3, none⟩))) w := ex_idxItem (k := k + 1) ho hx (by rw [hy]; rfl) hk
end Go.Proofs.YtimhkgpjfppkmaaGreatDoor
namespace Go.Proofs.YtimhkgpjfppkmaaGreatDoor
open Go.RowKit

def addrOk (s : ByteArray) : Bool :=
  match parseL s.data.toList with
  | none => false
  | some j => decide (j.res = []) && decide (normJ j = j)
theorem infoJd : (Tryz.prog.info? 109).map (fun i => (i.zero, i.size, i.bytes)) = some (some (.agg #[.string ⟨#[]⟩, .string ⟨#[]⟩, .string ⟨#[]⟩]), 3, 48) := by kernel_rfl
theorem load_jd {w : World} {b : Nat} {x y z : ByteArray} (h : w.heap[b]? = some (.cells #[.string x, .string y, .string z] 109)) : (Instr.loadAt 109 (.pointer (some ⟨b, 0, none⟩))).run Tryz.prog w = .ok (.agg #[.string x, .string y, .string z]) w := run_load_row infoJd Tryz.underlying109 rfl rfl h
theorem eqJd (x y z x' y' z' : ByteArray) (w : World) : (binOp .eql 109 (.agg #[.string x, .string y, .string z]) (.agg #[.string x', .string y', .string z'])).run Tryz.prog w = .ok (.bool (x.toList == x'.toList && (y.toList == y'.toList && (z.toList == z'.toList)))) w := by
  have u := Tryz.underlying109
  rcases h1 : x.toList == x'.toList <;> rcases h2 : y.toList == y'.toList <;> rcases h3 : z.toList == z'.toList <;> go_simp
theorem eqGuardJd (x y : Operand) (a b : Array Value) (w : World) : (eqGuard .eql 109 x y (.agg a) (.agg b)).run Tryz.prog w = .ok () w := by
  unfold eqGuard
  simp [go_sem]
theorem ex_eqJd {o : Oper} {a : Act} {w : World} {T' : TypeId} {x y : Operand} {l d r l' d' r' : ByteArray} {b : Bool} (ho : o.op = .binOp .eql 109 x y T') (hx : a.eval x = .agg #[.string l, .string d, .string r]) (hy : a.eval y = .agg #[.string l', .string d', .string r']) (hb : (l.toList == l'.toList && (d.toList == d'.toList && (r.toList == r'.toList))) = b) : (execOp a.eval o).run Tryz.prog w = .ok (.value (.bool b)) w := by
  unfold execOp
  simp only [ho, hx, hy]
  simp only [Sem.run_bind, eqGuardJd, eqJd, Result.andThen_ok, Sem.run_pure, hb]
theorem ex_eqS {o : Oper} {a : Act} {w : World} {x y : Operand} {s t : ByteArray} {b : Bool} (ho : o.op = .binOp .eql 9 x y 9) (hx : a.eval x = .string s) (hy : a.eval y = .string t) (hb : (s.toList == t.toList) = b) : (execOp a.eval o).run Tryz.prog w = .ok (.value (.bool b)) w := by
  unfold execOp
  simp only [ho, hx, hy]
  go_simp
theorem ex_eqE {o : Oper} {a : Act} {w : World} {T : TypeId} {x y : Operand} {s t : Int} {b : Bool} (ho : o.op = .binOp .eql 29 x y T) (hx : a.eval x = .int .i64 s) (hy : a.eval y = .int .i64 t) (hb : (s == t) = b) : (execOp a.eval o).run Tryz.prog w = .ok (.value (.bool b)) w := by
  unfold execOp
  simp only [ho, hx, hy]
  go_simp
theorem ex_pkT {o : Oper} {a : Act} {w : World} {x y z : Operand} {v : Value} (ho : o.op = .pick x y z) (hx : a.eval x = .bool true) (hy : a.eval y = v) : (execOp a.eval o).run Tryz.prog w = .ok (.value v) w := by
  unfold execOp
  simp only [ho, hx, hy]
  go_simp
theorem ex_pkF {o : Oper} {a : Act} {w : World} {x y z : Operand} {v : Value} (ho : o.op = .pick x y z) (hx : a.eval x = .bool false) (hz : a.eval z = v) : (execOp a.eval o).run Tryz.prog w = .ok (.value v) w := by
  unfold execOp
  simp only [ho, hx, hz]
  go_simp
theorem ex_fldJ {o : Oper} {a : Act} {w : World} {x : Operand} {b : Nat} (ho : o.op = .fieldAddr 109 x 2) (hx : a.eval x = .pointer (some ⟨b, 0, none⟩)) : (execOp a.eval o).run Tryz.prog w = .ok (.value (.pointer (some ⟨b, 2, none⟩))) w := by
  unfold execOp
  simp only [ho, hx]
  go_simp
theorem load_str {w : World} {b i : Nat} {s : ByteArray} (hc : w.cell? ⟨b, i, none⟩ = some (.string s)) : (Instr.loadAt 9 (.pointer (some ⟨b, i, none⟩))).run Tryz.prog w = .ok (.string s) w := by
  have ha : (isAgg 9).run Tryz.prog w = .ok false w := by
    unfold isAgg
    rw [Sem.run_bind, run_underlying Tryz.underlying9 w]
    simp
  simp [Instr.loadAt, Instr.sureAddr, loadVar, ha, hc, go_sem]
theorem arr_size (l : List UInt8) : (⟨l.toArray⟩ : ByteArray).size = l.length := by simp [ByteArray.size]
set_option maxRecDepth 100000 in
set_option maxHeartbeats 4000000 in
theorem addr_any (s : ByteArray) (w : World) (hs : s.size ≤ 9223372036854775807) (hm : MaxG w) (h1 : 5 < w.heap.size) : Calls Tryz.prog 33 #[.string s] w fun e w' => e = .returned (.bool (addrOk s)) ∧ Below w.heap.size w w' := by
  have HP := hide (parse_any s w hs hm h1)
  obtain ⟨pb, hpb⟩ : ∃ pb, addrOk s = pb := ⟨_, rfl⟩
  rw [hpb]
  have HPB := hide hpb
  clear hpb
  clear hm h1
  go_enter Tryz.func33, Tryz.ntmps33
  go_wp2_with fail
  refine HP.out.mono ?_
  rintro e w1 ⟨h, b1⟩
  have hz1 := b1.size
  rcases h with ⟨j, hj, rfl⟩ | ⟨hj, rfl⟩
  · have hbA : addrOk s = (decide (j.res = []) && decide (normJ j = j)) := by unfold addrOk; rw [hj]
    obtain ⟨lo, hlo'⟩ : ∃ lo, (⟨j.lo.toArray⟩ : ByteArray) = lo := ⟨_, rfl⟩
    obtain ⟨dom, hdo'⟩ : ∃ dom, (⟨j.dom.toArray⟩ : ByteArray) = dom := ⟨_, rfl⟩
    obtain ⟨res, hre'⟩ : ∃ res, (⟨j.res.toArray⟩ : ByteArray) = res := ⟨_, rfl⟩
    have hlo : lo.size ≤ 9223372036854775807 := by
      rw [← hlo', arr_size]
      have h1 := (parse_right hj).2
      have h2 := congrArg List.length h1
      rw [size_list] at h2
      have h3 : j.lo.length ≤ (textJ j).length := by unfold textJ; split <;> simp_all <;> omega
      omega
    have hdo : dom.size ≤ 9223372036854775807 := by
      rw [← hdo', arr_size]
      have h1 := (parse_right hj).2
      have h2 := congrArg List.length h1
      rw [size_list] at h2
      have h3 : j.dom.length ≤ (textJ j).length := by unfold textJ; simp; omega
      omega
    have hjl := jl_ext hlo' hdo' hre'
    have hJ : j.res = res.data.toList := by rw [hjl]; rfl
    unfold jv
    rw [hlo', hdo', hre']
    rw [hjl] at hbA
    have HPA := hide (HPB.out.symm.trans hbA)
    have HW0 := hide (b1.alloc hz1 (.cells #[.string lo, .string dom, .string res] 109))
    have f0 := World.alloc_heap_new w1 (.cells #[.string lo, .string dom, .string res] 109)
    have hqW : w1.heap.size < (w1.alloc (.cells #[.string lo, .string dom, .string res] 109)).heap.size := by simp
    have HJ := hide (And.intro hlo hdo)
    clear hj hbA hlo' hdo' hre' hJ hjl b1 hz1 HP hlo hdo
    go_wp2_with fail
    obtain ⟨W, hW⟩ : ∃ W, w1.alloc (.cells #[.string lo, .string dom, .string res] 109) = W := ⟨_, rfl⟩
    obtain ⟨q, hq⟩ : ∃ q, w1.heap.size = q := ⟨_, rfl⟩
    rw [hW] at f0 hqW HW0 ⊢
    rw [hq] at f0 hqW ⊢
    have HW := HW0
    clear HW0 hW hq
    obtain ⟨hlo, hdo⟩ := HJ.out
    clear HJ
    by_cases hr : res = ⟨#[]⟩
    · have hrs : (res.toList == (⟨#[]⟩ : ByteArray).toList) = true := by rw [hr]; simp
      obtain ⟨rb, hrb⟩ : ∃ rb, (lo.toList == (⟨(lo.data.toList.map lowB).toArray⟩ : ByteArray).toList && (dom.toList == (⟨(dom.data.toList.map lowB).toArray⟩ : ByteArray).toList && (res.toList == res.toList))) = rb := ⟨_, rfl⟩
      have hfin : (decide ((jl lo dom res).res = []) && decide (normJ (jl lo dom res) = jl lo dom res)) = rb := by
        rw [← hrb]
        have e1 : decide ((jl lo dom res).res = []) = true := by rw [hr]; rfl
        rw [e1, Bool.true_and]
        rw [Bool.eq_iff_iff]
        simp only [decide_eq_true_eq, Bool.and_eq_true, beq_iff_eq, and_true]
        simp only [jl, normJ, JL.mk.injEq, and_true, ByteArray.toList_eq]
        exact ⟨fun h => ⟨h.1.symm, h.2.symm⟩, fun h => ⟨h.1.symm, h.2.symm⟩⟩
      have hpr := HPA.out.trans hfin
      have HPR := hide hpr
      clear hfin hr hpr
      obtain ⟨V0, hV0⟩ : ∃ V0, W.drew = V0 := ⟨_, rfl⟩
      have B0 : Below W.heap.size W V0 := by rw [← hV0]; exact (Below.refl _ W).drew
      have hqV : q < V0.heap.size := Nat.lt_of_lt_of_le hqW B0.size
      replace f0 := (B0.block q hqW).trans f0
      refine region_rel (S := fun V => Below V0.heap.size V0 V) (fun a Wz => ∃ xx : Nat → Value, (Below W.heap.size W Wz) ∧ a = { tmps := #[.string s, undef, .bool rb, .pointer (some ⟨q, 0, none⟩), .int .i64 0, xx 5, xx 6, xx 7, xx 8, xx 9, xx 10, xx 11, xx 12, xx 13, xx 14, xx 15, xx 16, xx 17, xx 18, xx 19, xx 20, xx 21, xx 22], defers := [] }) (by kernel_rfl) ?any ?fin
      case any =>
        rw [hV0]
        clear hV0
        have S0 : Below V0.heap.size V0 V0 := Below.refl _ _
        refine anyH_take (i := 0) (v := .int .i64 0) rfl (some 10) rfl (by kernel_rfl) (by kernel_rfl) (by kernel_rfl) (fun _ _ _ h => by cases h.1) (by kernel_rfl) (fun w0 hw0 => by first | rfl | kernel_rfl) S0 ?_
        simp only [Act.put, List.setIfInBounds_toArray, List.set_cons_zero, List.set_cons_succ]
        refine anyH_take (i := 1) (v := .bool true) rfl (some 11) rfl (by kernel_rfl) (by kernel_rfl) (by kernel_rfl) (fun _ _ _ h => by cases h.1) (by kernel_rfl) (fun _ _ => ex_eqE rfl rfl rfl (by rfl)) S0 ?_
        simp only [Act.put, List.setIfInBounds_toArray, List.set_cons_zero, List.set_cons_succ]
        refine anyH_take (i := 2) (v := .bool true) rfl (some 12) rfl (by kernel_rfl) (by kernel_rfl) (by kernel_rfl) (fun _ _ _ h => by cases h.1) (by kernel_rfl) (fun w0 hw0 => by first | rfl | kernel_rfl) S0 ?_
        simp only [Act.put, List.setIfInBounds_toArray, List.set_cons_zero, List.set_cons_succ]
        refine anyH_take (i := 3) (v := .pointer (some ⟨q, 2, none⟩)) rfl (some 13) rfl (by kernel_rfl) (by kernel_rfl) (by kernel_rfl) (fun _ _ _ h => by cases h.1) (by kernel_rfl) (fun _ _ => ex_fldJ rfl rfl) S0 ?_
        simp only [Act.put, List.setIfInBounds_toArray, List.set_cons_zero, List.set_cons_succ]
        refine anyH_take (i := 4) (v := .string res) rfl (some 14) rfl (by kernel_rfl) (by kernel_rfl) (by kernel_rfl) (fun _ _ _ h => by cases h.1) (by kernel_rfl) (fun w0 hw0 => ex_load rfl rfl (load_str ((hw0.cell (p := ⟨q, _, none⟩) hqV).trans (cells3 f0).2.2.1))) S0 ?_
        simp only [Act.put, List.setIfInBounds_toArray, List.set_cons_zero, List.set_cons_succ]
        refine anyH_take (i := 5) (v := .bool true) rfl (some 15) rfl (by kernel_rfl) (by kernel_rfl) (by kernel_rfl) (fun _ _ _ h => by cases h.1) (by kernel_rfl) (fun _ _ => ex_eqS rfl rfl rfl hrs) S0 ?_
        simp only [Act.put, List.setIfInBounds_toArray, List.set_cons_zero, List.set_cons_succ]
        refine anyH_take (i := 6) (v := .bool true) rfl (some 16) rfl (by kernel_rfl) (by kernel_rfl) (by kernel_rfl) (fun _ _ _ h => by cases h.1) (by kernel_rfl) (fun _ _ => ex_pkT rfl rfl rfl) S0 ?_
        simp only [Act.put, List.setIfInBounds_toArray, List.set_cons_zero, List.set_cons_succ]
        refine anyH_take (i := 7) (v := .bool true) rfl (some 17) rfl (by kernel_rfl) (by kernel_rfl) (by kernel_rfl) (fun _ _ _ h => by cases h.1) (by kernel_rfl) (fun w0 hw0 => by first | rfl | kernel_rfl) S0 ?_
        simp only [Act.put, List.setIfInBounds_toArray, List.set_cons_zero, List.set_cons_succ]
        refine anyH_take (i := 8) (v := .agg #[.string lo, .string dom, .string res]) rfl (some 18) rfl (by kernel_rfl) (by kernel_rfl) (by kernel_rfl) (fun _ _ _ h => by cases h.1) (by kernel_rfl) (fun w0 hw0 => ex_load rfl rfl (load_jd ((hw0.block q hqV).trans f0))) S0 ?_
        simp only [Act.put, List.setIfInBounds_toArray, List.set_cons_zero, List.set_cons_succ]
        refine anyH_take (i := 9) (v := .agg #[.string lo, .string dom, .string res]) rfl (some 19) rfl (by kernel_rfl) (by kernel_rfl) (by kernel_rfl) (fun _ _ _ h => by cases h.1) (by kernel_rfl) (fun w0 hw0 => ex_load rfl rfl (load_jd ((hw0.block q hqV).trans f0))) S0 ?_
        simp only [Act.put, List.setIfInBounds_toArray, List.set_cons_zero, List.set_cons_succ]
        refine anyH_one (i := 10) (by kernel_rfl) ?_
        refine op_call rfl (some 20) rfl (by kernel_rfl) #[.agg #[.string lo, .string dom, .string res]] rfl (by simp [Act.eval]) (fun _ _ => rfl) (normal_any lo dom res V0 hlo hdo) ?_
        rintro e V1 ⟨rfl, c1_⟩
        have b1 : Below V0.heap.size V0 V1 := c1_
        refine ⟨_, rfl, S0.trans (b1.mono S0.size), ?_⟩
        simp only [Act.put, List.setIfInBounds_toArray, List.set_cons_zero, List.set_cons_succ]
        refine anyH_more (fun V => Below V1.heap.size V1 V) (fun V hV => S0.trans ((b1.trans (hV.mono b1.size)).mono S0.size)) ?_
        have S1 : Below V1.heap.size V1 V1 := Below.refl _ _
        have B1 : Below W.heap.size W V1 := B0.trans (b1.mono B0.size)
        refine anyH_take (i := 11) (v := .bool rb) rfl (some 21) rfl (by kernel_rfl) (by kernel_rfl) (by kernel_rfl) (fun _ _ _ h => by cases h.1) (by kernel_rfl) (fun _ _ => ex_eqJd rfl rfl rfl hrb) S1 ?_
        simp only [Act.put, List.setIfInBounds_toArray, List.set_cons_zero, List.set_cons_succ]
        refine anyH_take (i := 12) (v := .bool rb) rfl (some 22) rfl (by kernel_rfl) (by kernel_rfl) (by kernel_rfl) (fun _ _ _ h => by cases h.1) (by kernel_rfl) (fun _ _ => ex_pkT rfl rfl rfl) S1 ?_
        simp only [Act.put, List.setIfInBounds_toArray, List.set_cons_zero, List.set_cons_succ]
        refine anyH_val (i := 13) (by kernel_rfl) rfl (some 2) rfl (by kernel_rfl) (ex_anyv rfl rfl) S1 ?_
        simp only [Act.put, List.setIfInBounds_toArray, List.set_cons_zero, List.set_cons_succ]
        exact wpAnyH_done (by kernel_rfl) ⟨rfl, fill (B1) (by kernel_rfl)⟩ _
      case fin =>
        rintro a W2 ⟨xx, hB, rfl⟩
        have HB := hide (HW.out.trans (hB.mono HW.out.size))
        clear hB B0 hqV hV0 f0
        go_wp2_with fail
        go_ret
        exact ⟨by rw [HPR.out]; rfl, HB.out⟩
    · have hrs : (res.toList == (⟨#[]⟩ : ByteArray).toList) = false := str_ne hr
      have hfin : (decide ((jl lo dom res).res = []) && decide (normJ (jl lo dom res) = jl lo dom res)) = false := by
        have e1 : decide ((jl lo dom res).res = []) = false := decide_eq_false fun h => hr (by
          obtain ⟨⟨l⟩⟩ := res
          have h2 : l = [] := h
          rw [h2])
        rw [e1, Bool.false_and]
      have hpr := HPA.out.trans hfin
      have HPR := hide hpr
      clear hfin hr hpr
      obtain ⟨V0, hV0⟩ : ∃ V0, W.drew = V0 := ⟨_, rfl⟩
      have B0 : Below W.heap.size W V0 := by rw [← hV0]; exact (Below.refl _ W).drew
      have hqV : q < V0.heap.size := Nat.lt_of_lt_of_le hqW B0.size
      replace f0 := (B0.block q hqW).trans f0
      refine region_rel (S := fun V => Below V0.heap.size V0 V) (fun a Wz => ∃ xx : Nat → Value, (Below W.heap.size W Wz) ∧ a = { tmps := #[.string s, undef, .bool false, .pointer (some ⟨q, 0, none⟩), .int .i64 0, xx 5, xx 6, xx 7, xx 8, xx 9, xx 10, xx 11, xx 12, xx 13, xx 14, xx 15, xx 16, xx 17, xx 18, xx 19, xx 20, xx 21, xx 22], defers := [] }) (by kernel_rfl) ?any ?fin
      case any =>
        rw [hV0]
        clear hV0
        have S0 : Below V0.heap.size V0 V0 := Below.refl _ _
        refine anyH_take (i := 0) (v := .int .i64 0) rfl (some 10) rfl (by kernel_rfl) (by kernel_rfl) (by kernel_rfl) (fun _ _ _ h => by cases h.1) (by kernel_rfl) (fun w0 hw0 => by first | rfl | kernel_rfl) S0 ?_
        simp only [Act.put, List.setIfInBounds_toArray, List.set_cons_zero, List.set_cons_succ]
        refine anyH_take (i := 1) (v := .bool true) rfl (some 11) rfl (by kernel_rfl) (by kernel_rfl) (by kernel_rfl) (fun _ _ _ h => by cases h.1) (by kernel_rfl) (fun _ _ => ex_eqE rfl rfl rfl (by rfl)) S0 ?_
        simp only [Act.put, List.setIfInBounds_toArray, List.set_cons_zero, List.set_cons_succ]
        refine anyH_take (i := 2) (v := .bool true) rfl (some 12) rfl (by kernel_rfl) (by kernel_rfl) (by kernel_rfl) (fun _ _ _ h => by cases h.1) (by kernel_rfl) (fun w0 hw0 => by first | rfl | kernel_rfl) S0 ?_
        simp only [Act.put, List.setIfInBounds_toArray, List.set_cons_zero, List.set_cons_succ]
        refine anyH_take (i := 3) (v := .pointer (some ⟨q, 2, none⟩)) rfl (some 13) rfl (by kernel_rfl) (by kernel_rfl) (by kernel_rfl) (fun _ _ _ h => by cases h.1) (by kernel_rfl) (fun _ _ => ex_fldJ rfl rfl) S0 ?_
        simp only [Act.put, List.setIfInBounds_toArray, List.set_cons_zero, List.set_cons_succ]
        refine anyH_take (i := 4) (v := .string res) rfl (some 14) rfl (by kernel_rfl) (by kernel_rfl) (by kernel_rfl) (fun _ _ _ h => by cases h.1) (by kernel_rfl) (fun w0 hw0 => ex_load rfl rfl (load_str ((hw0.cell (p := ⟨q, _, none⟩) hqV).trans (cells3 f0).2.2.1))) S0 ?_
        simp only [Act.put, List.setIfInBounds_toArray, List.set_cons_zero, List.set_cons_succ]
        refine anyH_take (i := 5) (v := .bool false) rfl (some 15) rfl (by kernel_rfl) (by kernel_rfl) (by kernel_rfl) (fun _ _ _ h => by cases h.1) (by kernel_rfl) (fun _ _ => ex_eqS rfl rfl rfl hrs) S0 ?_
        simp only [Act.put, List.setIfInBounds_toArray, List.set_cons_zero, List.set_cons_succ]
        refine anyH_take (i := 6) (v := .bool false) rfl (some 16) rfl (by kernel_rfl) (by kernel_rfl) (by kernel_rfl) (fun _ _ _ h => by cases h.1) (by kernel_rfl) (fun _ _ => ex_pkT rfl rfl rfl) S0 ?_
        simp only [Act.put, List.setIfInBounds_toArray, List.set_cons_zero, List.set_cons_succ]
        refine anyH_take (i := 7) (v := .bool false) rfl (some 17) rfl (by kernel_rfl) (by kernel_rfl) (by kernel_rfl) (fun _ _ _ h => by cases h.1) (by kernel_rfl) (fun w0 hw0 => by first | rfl | kernel_rfl) S0 ?_
        simp only [Act.put, List.setIfInBounds_toArray, List.set_cons_zero, List.set_cons_succ]
        refine anyH_off (i := 8) rfl (some 18) rfl (by kernel_rfl) (by kernel_rfl) (by kernel_rfl) (fun _ _ _ h => by cases h.1) (by kernel_rfl) S0 ?_
        simp only [Act.put, List.setIfInBounds_toArray, List.set_cons_zero, List.set_cons_succ]
        refine anyH_off (i := 9) rfl (some 19) rfl (by kernel_rfl) (by kernel_rfl) (by kernel_rfl) (fun _ _ _ h => by cases h.1) (by kernel_rfl) S0 ?_
        simp only [Act.put, List.setIfInBounds_toArray, List.set_cons_zero, List.set_cons_succ]
        refine anyH_off (i := 10) rfl (some 20) rfl (by kernel_rfl) (by kernel_rfl) (by kernel_rfl) (fun _ _ _ h => by cases h.1) (by kernel_rfl) S0 ?_
        simp only [Act.put, List.setIfInBounds_toArray, List.set_cons_zero, List.set_cons_succ]
        refine anyH_off (i := 11) rfl (some 21) rfl (by kernel_rfl) (by kernel_rfl) (by kernel_rfl) (fun _ _ _ h => by cases h.1) (by kernel_rfl) S0 ?_
        simp only [Act.put, List.setIfInBounds_toArray, List.set_cons_zero, List.set_cons_succ]
        refine anyH_take (i := 12) (v := .bool false) rfl (some 22) rfl (by kernel_rfl) (by kernel_rfl) (by kernel_rfl) (fun _ _ _ h => by cases h.1) (by kernel_rfl) (fun w0 hw0 => ex_pkF rfl rfl rfl) S0 ?_
        simp only [Act.put, List.setIfInBounds_toArray, List.set_cons_zero, List.set_cons_succ]
        refine anyH_val (i := 13) (by kernel_rfl) rfl (some 2) rfl (by kernel_rfl) (ex_anyv rfl rfl) S0 ?_
        simp only [Act.put, List.setIfInBounds_toArray, List.set_cons_zero, List.set_cons_succ]
        exact wpAnyH_done (by kernel_rfl) ⟨rfl, fill (B0) (by kernel_rfl)⟩ _
      case fin =>
        rintro a W2 ⟨xx, hB, rfl⟩
        have HB := hide (HW.out.trans (hB.mono HW.out.size))
        clear hB B0 hqV hV0 f0
        go_wp2_with fail
        go_ret
        exact ⟨by rw [HPR.out]; rfl, HB.out⟩
  · have hbA : addrOk s = false := by unfold addrOk; rw [hj]
    have HPR := hide (HPB.out.symm.trans hbA)
    have HW0 := hide (b1.alloc hz1 (.cells #[.string ⟨#[]⟩, .string ⟨#[]⟩, .string ⟨#[]⟩] 109))
    have f0 := World.alloc_heap_new w1 (.cells #[.string ⟨#[]⟩, .string ⟨#[]⟩, .string ⟨#[]⟩] 109)
    have hqW : w1.heap.size < (w1.alloc (.cells #[.string ⟨#[]⟩, .string ⟨#[]⟩, .string ⟨#[]⟩] 109)).heap.size := by simp
    have ej : jv noJ = .agg #[.string ⟨#[]⟩, .string ⟨#[]⟩, .string ⟨#[]⟩] := rfl
    rw [ej]
    clear hj hbA b1 hz1 HP ej
    go_wp2_with fail
    obtain ⟨W, hW⟩ : ∃ W, w1.alloc (.cells #[.string ⟨#[]⟩, .string ⟨#[]⟩, .string ⟨#[]⟩] 109) = W := ⟨_, rfl⟩
    obtain ⟨q, hq⟩ : ∃ q, w1.heap.size = q := ⟨_, rfl⟩
    rw [hW] at f0 hqW HW0 ⊢
    rw [hq] at f0 hqW ⊢
    have HW := HW0
    clear HW0 hW hq
    obtain ⟨V0, hV0⟩ : ∃ V0, W.drew = V0 := ⟨_, rfl⟩
    have B0 : Below W.heap.size W V0 := by rw [← hV0]; exact (Below.refl _ W).drew
    have hqV : q < V0.heap.size := Nat.lt_of_lt_of_le hqW B0.size
    replace f0 := (B0.block q hqW).trans f0
    refine region_rel (S := fun V => Below V0.heap.size V0 V) (fun a Wz => ∃ xx : Nat → Value, (Below W.heap.size W Wz) ∧ a = { tmps := #[.string s, undef, .bool false, .pointer (some ⟨q, 0, none⟩), .int .i64 3, xx 5, xx 6, xx 7, xx 8, xx 9, xx 10, xx 11, xx 12, xx 13, xx 14, xx 15, xx 16, xx 17, xx 18, xx 19, xx 20, xx 21, xx 22], defers := [] }) (by kernel_rfl) ?any ?fin
    case any =>
      rw [hV0]
      clear hV0
      have S0 : Below V0.heap.size V0 V0 := Below.refl _ _
      refine anyH_take (i := 0) (v := .int .i64 3) rfl (some 10) rfl (by kernel_rfl) (by kernel_rfl) (by kernel_rfl) (fun _ _ _ h => by cases h.1) (by kernel_rfl) (fun w0 hw0 => by first | rfl | kernel_rfl) S0 ?_
      simp only [Act.put, List.setIfInBounds_toArray, List.set_cons_zero, List.set_cons_succ]
      refine anyH_take (i := 1) (v := .bool false) rfl (some 11) rfl (by kernel_rfl) (by kernel_rfl) (by kernel_rfl) (fun _ _ _ h => by cases h.1) (by kernel_rfl) (fun _ _ => ex_eqE rfl rfl rfl (by rfl)) S0 ?_
      simp only [Act.put, List.setIfInBounds_toArray, List.set_cons_zero, List.set_cons_succ]
      refine anyH_take (i := 2) (v := .bool false) rfl (some 12) rfl (by kernel_rfl) (by kernel_rfl) (by kernel_rfl) (fun _ _ _ h => by cases h.1) (by kernel_rfl) (fun w0 hw0 => by first | rfl | kernel_rfl) S0 ?_
      simp only [Act.put, List.setIfInBounds_toArray, List.set_cons_zero, List.set_cons_succ]
      refine anyH_off (i := 3) rfl (some 13) rfl (by kernel_rfl) (by kernel_rfl) (by kernel_rfl) (fun _ _ _ h => by cases h.1) (by kernel_rfl) S0 ?_
      simp only [Act.put, List.setIfInBounds_toArray, List.set_cons_zero, List.set_cons_succ]
      refine anyH_off (i := 4) rfl (some 14) rfl (by kernel_rfl) (by kernel_rfl) (by kernel_rfl) (fun _ _ _ h => by cases h.1) (by kernel_rfl) S0 ?_
      simp only [Act.put, List.setIfInBounds_toArray, List.set_cons_zero, List.set_cons_succ]
      refine anyH_off (i := 5) rfl (some 15) rfl (by kernel_rfl) (by kernel_rfl) (by kernel_rfl) (fun _ _ _ h => by cases h.1) (by kernel_rfl) S0 ?_
      simp only [Act.put, List.setIfInBounds_toArray, List.set_cons_zero, List.set_cons_succ]
      refine anyH_take (i := 6) (v := .bool false) rfl (some 16) rfl (by kernel_rfl) (by kernel_rfl) (by kernel_rfl) (fun _ _ _ h => by cases h.1) (by kernel_rfl) (fun w0 hw0 => ex_pkF rfl rfl rfl) S0 ?_
      simp only [Act.put, List.setIfInBounds_toArray, List.set_cons_zero, List.set_cons_succ]
      refine anyH_take (i := 7) (v := .bool false) rfl (some 17) rfl (by kernel_rfl) (by kernel_rfl) (by kernel_rfl) (fun _ _ _ h => by cases h.1) (by kernel_rfl) (fun w0 hw0 => by first | rfl | kernel_rfl) S0 ?_
      simp only [Act.put, List.setIfInBounds_toArray, List.set_cons_zero, List.set_cons_succ]
      refine anyH_off (i := 8) rfl (some 18) rfl (by kernel_rfl) (by kernel_rfl) (by kernel_rfl) (fun _ _ _ h => by cases h.1) (by kernel_rfl) S0 ?_
      simp only [Act.put, List.setIfInBounds_toArray, List.set_cons_zero, List.set_cons_succ]
      refine anyH_off (i := 9) rfl (some 19) rfl (by kernel_rfl) (by kernel_rfl) (by kernel_rfl) (fun _ _ _ h => by cases h.1) (by kernel_rfl) S0 ?_
      simp only [Act.put, List.setIfInBounds_toArray, List.set_cons_zero, List.set_cons_succ]
      refine anyH_off (i := 10) rfl (some 20) rfl (by kernel_rfl) (by kernel_rfl) (by kernel_rfl) (fun _ _ _ h => by cases h.1) (by kernel_rfl) S0 ?_
      simp only [Act.put, List.setIfInBounds_toArray, List.set_cons_zero, List.set_cons_succ]
      refine anyH_off (i := 11) rfl (some 21) rfl (by kernel_rfl) (by kernel_rfl) (by kernel_rfl) (fun _ _ _ h => by cases h.1) (by kernel_rfl) S0 ?_
      simp only [Act.put, List.setIfInBounds_toArray, List.set_cons_zero, List.set_cons_succ]
      refine anyH_take (i := 12) (v := .bool false) rfl (some 22) rfl (by kernel_rfl) (by kernel_rfl) (by kernel_rfl) (fun _ _ _ h => by cases h.1) (by kernel_rfl) (fun w0 hw0 => ex_pkF rfl rfl rfl) S0 ?_
      simp only [Act.put, List.setIfInBounds_toArray, List.set_cons_zero, List.set_cons_succ]
      refine anyH_val (i := 13) (by kernel_rfl) rfl (some 2) rfl (by kernel_rfl) (ex_anyv rfl rfl) S0 ?_
      simp only [Act.put, List.setIfInBounds_toArray, List.set_cons_zero, List.set_cons_succ]
      exact wpAnyH_done (by kernel_rfl) ⟨rfl, fill (B0) (by kernel_rfl)⟩ _
    case fin =>
      rintro a W2 ⟨xx, hB, rfl⟩
      have HB := hide (HW.out.trans (hB.mono HW.out.size))
      clear hB B0 hqV hV0 f0
      go_wp2_with fail
      go_ret
      exact ⟨by rw [HPR.out]; rfl, HB.out⟩
end Go.Proofs.YtimhkgpjfppkmaaGreatDoor
namespace Go.Proofs.YtimhkgpjfppkmaaGreatDoor
open Go.RowKit

/-- Yes or no. -/
def Yes (p : Prop) (e : Ending) : Prop := ∃ b : Bool, e = .returned (.bool b) ∧ (b = true ↔ p)
theorem Yes.t {p : Prop} (h : p) : Yes p (.returned (.bool true)) := ⟨true, rfl, fun _ => h, fun _ => rfl⟩
theorem Yes.f {p : Prop} (h : ¬ p) : Yes p (.returned (.bool false)) := ⟨false, rfl, fun e => (by cases e), fun e => absurd e h⟩
theorem results_s {fn : Func} {tmps : Array Value} {w : World} {b : Nat} {u0 u1 u2 z : Value} (h : fn.results = #[.cell 6 58, .tmp 7]) (hp : tmps[6]?.getD undef = .pointer (some ⟨b, 0, none⟩)) (hq : tmps[7]?.getD undef = z) (h0 : w.cell? ⟨b, 0, none⟩ = some u0) (h1 : w.cell? ⟨b, 1, none⟩ = some u1) (h2 : w.cell? ⟨b, 2, none⟩ = some u2) : (results fn tmps).run Tryz.prog w = .ok (.tuple #[.agg #[u0, u1, u2], z]) w := by
  simp [results, h, hp, hq, h0, h1, h2, go_sem, Tryz.isAgg58, Tryz.sizeOf58]
theorem cells_s {w : World} {b : Nat} {u0 u1 u2 : Value} {T : TypeId} (h : w.heap[b]? = some (.cells #[u0, u1, u2] T)) : w.cell? ⟨b, 0, none⟩ = some u0 ∧ w.cell? ⟨b, 1, none⟩ = some u1 ∧ w.cell? ⟨b, 2, none⟩ = some u2 ∧ w.frozen? ⟨b, 0, none⟩ = false ∧ w.frozen? ⟨b, 1, none⟩ = false ∧ w.frozen? ⟨b, 2, none⟩ = false := by simp [World.cell?, World.frozen?, h]
theorem set3_s {w : World} {b : Nat} {u0 u1 u2 v0 v1 v2 : Value} {T : TypeId} (h : w.heap[b]? = some (.cells #[u0, u1, u2] T)) : (((w.setCell ⟨b, 0, none⟩ v0).setCell ⟨b, 1, none⟩ v1).setCell ⟨b, 2, none⟩ v2).heap[b]? = some (.cells #[v0, v1, v2] T) := by
  have h0 := heap_setk (i := 0) (v := v0) h
  have h1 := heap_setk (i := 1) (v := v1) h0
  exact heap_setk (i := 2) (v := v2) h1
theorem bel3_s {n : Nat} {w V : World} {b : Nat} {v0 v1 v2 : Value} (h : Below n w V) (hb : n ≤ b) : Below n w (((V.setCell ⟨b, 0, none⟩ v0).setCell ⟨b, 1, none⟩ v1).setCell ⟨b, 2, none⟩ v2) := ((h.setCell (p := ⟨b, 0, none⟩) hb _).setCell (p := ⟨b, 1, none⟩) hb _).setCell (p := ⟨b, 2, none⟩) hb _
def FirstSub (l : List (ByteArray × Bool × Int)) (s : ByteArray) (e : Ending) : Prop := (∃ x, l.find? (fun x => decide (x.1 = s)) = some x ∧ e = .returned (.tuple #[.agg #[.string x.1, .bool x.2.1, .int .i64 x.2.2], .bool true])) ∨ (l.find? (fun x => decide (x.1 = s)) = none ∧ e = .returned (.tuple #[.agg #[.string ⟨#[]⟩, .bool false, .int .i64 0], .bool false]))
set_option maxRecDepth 100000 in
set_option maxHeartbeats 4000000 in
theorem firstSub_any (ao : Option Addr) (cap : Nat) (l : List (ByteArray × Bool × Int)) (s : ByteArray) (w : World) (hm : SubMem w.heap.size w ao l) :
    Calls Tryz.prog 39 #[.slice ao l.length cap, .func (.func 38) #[] #[], .string s] w fun e w' => FirstSub l s e ∧ Below w.heap.size w w' := by
  obtain ⟨m, hml⟩ : ∃ m, l.length = m := ⟨_, rfl⟩
  have hm6 : m ≤ 1000000 := by have := hm.1; omega
  have HH := hide (And.intro hm hml)
  rw [hml]
  clear hm hml
  go_enter Tryz.func39, Tryz.ntmps39
  go_wp2_with fail
  go_loopw [13] (fun iv wr => ∃ k : Nat, k ≤ m ∧ iv = .int .i64 k ∧ (∀ x ∈ l.take k, x.1 ≠ s) ∧ wr.heap[w.heap.size]? = some (.cells #[.string ⟨#[]⟩, .bool false, .int .i64 0] 58) ∧ Below w.heap.size w wr) (fun iv _ => m - (intOf iv).toNat)
  case atStart => exact ⟨0, Nat.zero_le _, rfl, by simp, World.alloc_heap_new w _, (Below.refl _ w).alloc (Nat.le_refl _) _⟩
  case round =>
    obtain ⟨k, hk, rfl, hno, hbx, hbw⟩ := hrel
    have hzw := hbw.size
    have hlw : w.heap.size < wr.heap.size := (Array.getElem?_eq_some_iff.1 hbx).1
    by_cases hlt : (k : Int) < m
    · obtain ⟨x, hx⟩ : ∃ x, l[k]? = some x := ⟨_, List.getElem?_eq_getElem (by have := HH.out.2; omega)⟩
      obtain ⟨b, off, hbe, hb1, d0, d1, d2⟩ := HH.out.1.2 k x hx
      have e0 := (hbw.cell (p := ⟨b, _, none⟩) hb1).trans d0
      have e1 := (hbw.cell (p := ⟨b, _, none⟩) hb1).trans d1
      have e2 := (hbw.cell (p := ⟨b, _, none⟩) hb1).trans d2
      have hk0 : (0 : Int) ≤ k := by omega
      have hky := sKey_any x (wr.alloc (.cells #[.string x.1, .bool x.2.1, .int .i64 x.2.2] 58))
      have HK := hide hky
      have HI := hide (And.intro hno (And.intro hbx (And.intro hbw hx)))
      clear hno hbx hbw d0 d1 d2 hky hx
      rw [hbe]
      go_wp2_with (go_at_call 38; refine HK.out.mono ?_; rintro e w2 ⟨rfl, b2⟩; refine stopNd ?_)
      unfold Hid
      have b1 : Below wr.heap.size wr w2 := ((Below.refl _ wr).alloc (Nat.le_refl _) _).trans (b2.mono (by simp))
      have f2 : w2.heap[wr.heap.size]? = some (.cells #[.string x.1, .bool x.2.1, .int .i64 x.2.2] 58) := (b2.block _ (by simp)).trans (World.alloc_heap_new wr _)
      obtain ⟨g0, g1, g2, _, _, _⟩ := cells_s f2
      have fb := (b1.block _ hlw).trans HI.out.2.1
      obtain ⟨y0, y1, y2, z0, z1, z2⟩ := cells_s fb
      have B2 : Below w.heap.size w w2 := HI.out.2.2.1.trans (b1.mono hzw)
      have H2 := hide (And.intro B2 fb)
      clear b1 b2 f2 B2
      by_cases hs : x.1 = s
      · have hse : (x.1.toList == s.toList) = true := by rw [hs]; simp
        clear fb
        have HF := hide (find_firstK (·.1) HI.out.1 HI.out.2.2.2 hs)
        go_wp2_with fail
        have hset := set3_s (v0 := .string s) (v1 := .bool x.2.1) (v2 := .int .i64 x.2.2) H2.out.2
        obtain ⟨r0, r1, r2, _⟩ := cells_s hset
        exact bodyPost_ret (results_s rfl rfl rfl r0 r1 r2) rfl ⟨.inl ⟨x, HF.out, by rw [← hs]; rfl⟩, bel3_s H2.out.1 (Nat.le_refl _)⟩
      · have hse : (x.1.toList == s.toList) = false := by
          rw [beq_eq_false_iff_ne]
          exact fun e => hs (ba_ext e)
        clear fb
        go_wp2_with fail
        refine ⟨⟨k + 1, by omega, by simp, fun y hy => ?_, H2.out.2, H2.out.1⟩, by simp [intOf]; omega⟩
        rw [List.take_add_one, HI.out.2.2.2] at hy
        rcases List.mem_append.1 hy with hy | hy
        · exact HI.out.1 y hy
        · simp at hy
          rw [hy]
          exact hs
    · have hkm : k = m := by omega
      have hnf : l.find? (fun x => decide (x.1 = s)) = none := by
        rw [List.find?_eq_none]
        intro x hx
        rw [List.take_of_length_le (by have := HH.out.2; omega)] at hno
        simpa using hno x hx
      have HN := hide (And.intro hnf (And.intro hbx hbw))
      obtain ⟨y0, y1, y2, z0, z1, z2⟩ := cells_s hbx
      have H2 := hide (And.intro hbw hbx)
      clear hno hbx hbw hnf
      go_wp2_with fail
      have hset := set3_s (v0 := .string ⟨#[]⟩) (v1 := .bool false) (v2 := .int .i64 0) H2.out.2
      have b3 := bel3_s (v0 := .string ⟨#[]⟩) (v1 := .bool false) (v2 := .int .i64 0) H2.out.1 (Nat.le_refl _)
      have h2 := (Below.heap_alloc (((wr.setCell ⟨w.heap.size, 0, none⟩ (.string ⟨#[]⟩)).setCell ⟨w.heap.size, 1, none⟩ (.bool false)).setCell ⟨w.heap.size, 2, none⟩ (.int .i64 0)) (.cells #[.string ⟨#[]⟩, .bool false, .int .i64 0] 58) w.heap.size (by simpa using hlw)).trans hset
      obtain ⟨r0, r1, r2, _⟩ := cells_s h2
      exact bodyPost_ret (results_s rfl rfl rfl r0 r1 r2) rfl ⟨.inr ⟨HN.out.1, rfl⟩, b3.alloc b3.size _⟩
theorem results_i {fn : Func} {tmps : Array Value} {w : World} {b : Nat} {u0 u1 u2 z : Value} (h : fn.results = #[.cell 6 61, .tmp 7]) (hp : tmps[6]?.getD undef = .pointer (some ⟨b, 0, none⟩)) (hq : tmps[7]?.getD undef = z) (h0 : w.cell? ⟨b, 0, none⟩ = some u0) (h1 : w.cell? ⟨b, 1, none⟩ = some u1) (h2 : w.cell? ⟨b, 2, none⟩ = some u2) : (results fn tmps).run Tryz.prog w = .ok (.tuple #[.agg #[u0, u1, u2], z]) w := by
  simp [results, h, hp, hq, h0, h1, h2, go_sem, Tryz.isAgg61, Tryz.sizeOf61]
theorem cells_i {w : World} {b : Nat} {u0 u1 u2 : Value} {T : TypeId} (h : w.heap[b]? = some (.cells #[u0, u1, u2] T)) : w.cell? ⟨b, 0, none⟩ = some u0 ∧ w.cell? ⟨b, 1, none⟩ = some u1 ∧ w.cell? ⟨b, 2, none⟩ = some u2 ∧ w.frozen? ⟨b, 0, none⟩ = false ∧ w.frozen? ⟨b, 1, none⟩ = false ∧ w.frozen? ⟨b, 2, none⟩ = false := by simp [World.cell?, World.frozen?, h]
theorem set3_i {w : World} {b : Nat} {u0 u1 u2 v0 v1 v2 : Value} {T : TypeId} (h : w.heap[b]? = some (.cells #[u0, u1, u2] T)) : (((w.setCell ⟨b, 0, none⟩ v0).setCell ⟨b, 1, none⟩ v1).setCell ⟨b, 2, none⟩ v2).heap[b]? = some (.cells #[v0, v1, v2] T) := by
  have h0 := heap_setk (i := 0) (v := v0) h
  have h1 := heap_setk (i := 1) (v := v1) h0
  exact heap_setk (i := 2) (v := v2) h1
theorem bel3_i {n : Nat} {w V : World} {b : Nat} {v0 v1 v2 : Value} (h : Below n w V) (hb : n ≤ b) : Below n w (((V.setCell ⟨b, 0, none⟩ v0).setCell ⟨b, 1, none⟩ v1).setCell ⟨b, 2, none⟩ v2) := ((h.setCell (p := ⟨b, 0, none⟩) hb _).setCell (p := ⟨b, 1, none⟩) hb _).setCell (p := ⟨b, 2, none⟩) hb _
def FirstItem (l : List (ByteArray × ByteArray × ByteArray)) (s : ByteArray) (e : Ending) : Prop := (∃ x, l.find? (fun x => decide (x.1 = s)) = some x ∧ e = .returned (.tuple #[.agg #[.string x.1, .string x.2.1, .string x.2.2], .bool true])) ∨ (l.find? (fun x => decide (x.1 = s)) = none ∧ e = .returned (.tuple #[.agg #[.string ⟨#[]⟩, .string ⟨#[]⟩, .string ⟨#[]⟩], .bool false]))
set_option maxRecDepth 100000 in
set_option maxHeartbeats 4000000 in
theorem firstItem_any (ao : Option Addr) (cap : Nat) (l : List (ByteArray × ByteArray × ByteArray)) (s : ByteArray) (w : World) (hm : ItMem w.heap.size w ao l) :
    Calls Tryz.prog 48 #[.slice ao l.length cap, .func (.func 49) #[] #[], .string s] w fun e w' => FirstItem l s e ∧ Below w.heap.size w w' := by
  obtain ⟨m, hml⟩ : ∃ m, l.length = m := ⟨_, rfl⟩
  have hm6 : m ≤ 1000000 := by have := hm.1; omega
  have HH := hide (And.intro hm hml)
  rw [hml]
  clear hm hml
  go_enter Tryz.func48, Tryz.ntmps48
  go_wp2_with fail
  go_loopw [13] (fun iv wr => ∃ k : Nat, k ≤ m ∧ iv = .int .i64 k ∧ (∀ x ∈ l.take k, x.1 ≠ s) ∧ wr.heap[w.heap.size]? = some (.cells #[.string ⟨#[]⟩, .string ⟨#[]⟩, .string ⟨#[]⟩] 61) ∧ Below w.heap.size w wr) (fun iv _ => m - (intOf iv).toNat)
  case atStart => exact ⟨0, Nat.zero_le _, rfl, by simp, World.alloc_heap_new w _, (Below.refl _ w).alloc (Nat.le_refl _) _⟩
  case round =>
    obtain ⟨k, hk, rfl, hno, hbx, hbw⟩ := hrel
    have hzw := hbw.size
    have hlw : w.heap.size < wr.heap.size := (Array.getElem?_eq_some_iff.1 hbx).1
    by_cases hlt : (k : Int) < m
    · obtain ⟨x, hx⟩ : ∃ x, l[k]? = some x := ⟨_, List.getElem?_eq_getElem (by have := HH.out.2; omega)⟩
      obtain ⟨b, off, hbe, hb1, d0, d1, d2⟩ := HH.out.1.2 k x hx
      have e0 := (hbw.cell (p := ⟨b, _, none⟩) hb1).trans d0
      have e1 := (hbw.cell (p := ⟨b, _, none⟩) hb1).trans d1
      have e2 := (hbw.cell (p := ⟨b, _, none⟩) hb1).trans d2
      have hk0 : (0 : Int) ≤ k := by omega
      have hky := iKey_any x (wr.alloc (.cells #[.string x.1, .string x.2.1, .string x.2.2] 61))
      have HK := hide hky
      have HI := hide (And.intro hno (And.intro hbx (And.intro hbw hx)))
      clear hno hbx hbw d0 d1 d2 hky hx
      rw [hbe]
      go_wp2_with (go_at_call 49; refine HK.out.mono ?_; rintro e w2 ⟨rfl, b2⟩; refine stopNd ?_)
      unfold Hid
      have b1 : Below wr.heap.size wr w2 := ((Below.refl _ wr).alloc (Nat.le_refl _) _).trans (b2.mono (by simp))
      have f2 : w2.heap[wr.heap.size]? = some (.cells #[.string x.1, .string x.2.1, .string x.2.2] 61) := (b2.block _ (by simp)).trans (World.alloc_heap_new wr _)
      obtain ⟨g0, g1, g2, _, _, _⟩ := cells_i f2
      have fb := (b1.block _ hlw).trans HI.out.2.1
      obtain ⟨y0, y1, y2, z0, z1, z2⟩ := cells_i fb
      have B2 : Below w.heap.size w w2 := HI.out.2.2.1.trans (b1.mono hzw)
      have H2 := hide (And.intro B2 fb)
      clear b1 b2 f2 B2
      by_cases hs : x.1 = s
      · have hse : (x.1.toList == s.toList) = true := by rw [hs]; simp
        clear fb
        have HF := hide (find_firstK (·.1) HI.out.1 HI.out.2.2.2 hs)
        go_wp2_with fail
        have hset := set3_i (v0 := .string s) (v1 := .string x.2.1) (v2 := .string x.2.2) H2.out.2
        obtain ⟨r0, r1, r2, _⟩ := cells_i hset
        exact bodyPost_ret (results_i rfl rfl rfl r0 r1 r2) rfl ⟨.inl ⟨x, HF.out, by rw [← hs]; rfl⟩, bel3_i H2.out.1 (Nat.le_refl _)⟩
      · have hse : (x.1.toList == s.toList) = false := by
          rw [beq_eq_false_iff_ne]
          exact fun e => hs (ba_ext e)
        clear fb
        go_wp2_with fail
        refine ⟨⟨k + 1, by omega, by simp, fun y hy => ?_, H2.out.2, H2.out.1⟩, by simp [intOf]; omega⟩
        rw [List.take_add_one, HI.out.2.2.2] at hy
        rcases List.mem_append.1 hy with hy | hy
        · exact HI.out.1 y hy
        · simp at hy
          rw [hy]
          exact hs
    · have hkm : k = m := by omega
      have hnf : l.find? (fun x => decide (x.1 = s)) = none := by
        rw [List.find?_eq_none]
        intro x hx
        rw [List.take_of_length_le (by have := HH.out.2; omega)] at hno
        simpa using hno x hx
      have HN := hide (And.intro hnf (And.intro hbx hbw))
      obtain ⟨y0, y1, y2, z0, z1, z2⟩ := cells_i hbx
      have H2 := hide (And.intro hbw hbx)
      clear hno hbx hbw hnf
      go_wp2_with fail
      have hset := set3_i (v0 := .string ⟨#[]⟩) (v1 := .string ⟨#[]⟩) (v2 := .string ⟨#[]⟩) H2.out.2
      have b3 := bel3_i (v0 := .string ⟨#[]⟩) (v1 := .string ⟨#[]⟩) (v2 := .string ⟨#[]⟩) H2.out.1 (Nat.le_refl _)
      have h2 := (Below.heap_alloc (((wr.setCell ⟨w.heap.size, 0, none⟩ (.string ⟨#[]⟩)).setCell ⟨w.heap.size, 1, none⟩ (.string ⟨#[]⟩)).setCell ⟨w.heap.size, 2, none⟩ (.string ⟨#[]⟩)) (.cells #[.string ⟨#[]⟩, .string ⟨#[]⟩, .string ⟨#[]⟩] 61) w.heap.size (by simpa using hlw)).trans hset
      obtain ⟨r0, r1, r2, _⟩ := cells_i h2
      exact bodyPost_ret (results_i rfl rfl rfl r0 r1 r2) rfl ⟨.inr ⟨HN.out.1, rfl⟩, b3.alloc b3.size _⟩
end Go.Proofs.YtimhkgpjfppkmaaGreatDoor
