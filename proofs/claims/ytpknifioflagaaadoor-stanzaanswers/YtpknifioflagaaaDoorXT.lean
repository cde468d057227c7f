/- Stanzas: Result. The document's Type, Parse and Failed. -/
import Derived.Test.YtpknifioflagaaaDoorXM
import Derived.Test.YtpknifioflagaaaDoorXR
namespace Go.Proofs.YtpknifioflagaaaDoor
open Go.RowKit Go.Shelf

theorem ex_field2 {o : Oper} {a : Act} {w : World} {x : Operand} {b : Nat} (ho : o.op = .fieldAddr 25 x 2) (hx : a.eval x = .pointer (some ⟨b, 0, none⟩)) : (execOp a.eval o).run Tryd.prog w = .ok (.value (.pointer (some ⟨b, 2, none⟩))) w := by
  unfold execOp
  simp only [ho, hx]
  go_simp
theorem ex_field3 {o : Oper} {a : Act} {w : World} {x : Operand} {b : Nat} (ho : o.op = .fieldAddr 25 x 3) (hx : a.eval x = .pointer (some ⟨b, 0, none⟩)) : (execOp a.eval o).run Tryd.prog w = .ok (.value (.pointer (some ⟨b, 3, none⟩))) w := by
  unfold execOp
  simp only [ho, hx]
  go_simp
theorem ex_field4 {o : Oper} {a : Act} {w : World} {x : Operand} {b : Nat} (ho : o.op = .fieldAddr 25 x 4) (hx : a.eval x = .pointer (some ⟨b, 0, none⟩)) : (execOp a.eval o).run Tryd.prog w = .ok (.value (.pointer (some ⟨b, 4, none⟩))) w := by
  unfold execOp
  simp only [ho, hx]
  go_simp
theorem ex_build6 {o : Oper} {a : Act} {w : World} {T : TypeId} {ps : Array (Nat × Operand)} {v : Value} {us : Array (Nat × Value)} (ho : o.op = .build T ps) (hp : (ps.map fun x => (x.1, a.eval x.2)) = us) (hr : (Instr.build T us).run Tryd.prog w = .ok v w) : (execOp a.eval o).run Tryd.prog w = .ok (.value v) w := by
  unfold execOp
  simp only [ho]
  rw [show (ps.map fun (i, x) => (i, a.eval x)) = us from hp]
  simp [hr]
theorem run_build6 (k : Int) (a b c d : ByteArray) (ga : Option Addr) (n gc : Nat) (w : World) : (Instr.build 25 #[(0, .int .u8 k), (1, .string a), (2, .string b), (3, .string c), (4, .string d), (5, .slice ga n gc)]).run Tryd.prog w = .ok (.agg #[.int .u8 k, .string a, .string b, .string c, .string d, .slice ga n gc]) w := by kernel_rfl
set_option maxRecDepth 100000 in
set_option maxHeartbeats 4000000 in
theorem result_any (k : Int) (ty fr tt id : ByteArray) (pa : Option Addr) (pn pc : Nat) (ao : Option Addr) (cap : Nat) (ts : List Tok) (av : Nat → Option Addr × Nat) (w : World) (hT : TokMem w.heap.size w ao ts av) :
    Calls Tryd.prog 22 #[.agg #[.int .u8 k, .string ty, .string fr, .string tt, .string id, .slice pa pn pc], .slice ao ts.length cap] w fun e w' => ∃ v l, e = .returned (.agg #[.int .u8 1, .string ty_result, .string tt, .string fr, .string id, v]) ∧ l.map (·.1) = ts ∧ ElRow w.heap.size w' v l ∧ Below w.heap.size w w' := by
  obtain ⟨Wa, hWa, aa, ba, za⟩ := newV w 25 #[.int .u8 k, .string ty, .string fr, .string tt, .string id, .slice pa pn pc]
  obtain ⟨Wb, hWb, ab, bb, zb⟩ := newV Wa 25 #[.int .u8 0, .string ⟨#[]⟩, .string ⟨#[]⟩, .string ⟨#[]⟩, .string ⟨#[]⟩, .slice none 0 0]
  rw [za] at ab
  have aB := (bb.block w.heap.size (by omega)).trans aa
  have bB : Below w.heap.size w Wb := ba.trans (bb.mono (by omega))
  obtain ⟨m, hml⟩ : ∃ m, ts.length = m := ⟨_, rfl⟩
  have H0 := hide (And.intro aB (And.intro ab (And.intro bB (And.intro hT hml))))
  rw [hml]
  clear aa ba ab bb aB bB hT hml
  go_enter Tryd.func22, Tryd.ntmps22
  go_wp2_with fail
  obtain ⟨V0, hV0⟩ : ∃ V0, Wb.drew = V0 := ⟨_, rfl⟩
  obtain ⟨aB, ab, bB, hT, hml⟩ := H0.out
  have BV : Below w.heap.size w V0 := by rw [← hV0]; exact bB.drew
  have fa : V0.heap[w.heap.size]? = some (.cells #[.int .u8 k, .string ty, .string fr, .string tt, .string id, .slice pa pn pc] 25) := by rw [← hV0]; exact aB
  have fb : V0.heap[w.heap.size + 1]? = some (.cells #[.int .u8 0, .string ⟨#[]⟩, .string ⟨#[]⟩, .string ⟨#[]⟩, .string ⟨#[]⟩, .slice none 0 0] 25) := by rw [← hV0]; exact ab
  have HC := hide (copyTokens_any ao cap ts av V0 ((hT.below BV).raise BV.size))
  rw [hml] at HC
  refine region_rel (S := fun W => W.heap[w.heap.size]? = some (.cells #[.int .u8 k, .string ty, .string fr, .string tt, .string id, .slice pa pn pc] 25)) (fun a W => ∃ (v : Value) (l : List TokV) (x0 x1 x2 x3 x5 x6 x7 x8 x9 x10 x11 x12 x13 : Value), W.heap[w.heap.size + 1]? = some (.cells #[.int .u8 1, .string ⟨#[114, 101, 115, 117, 108, 116]⟩, .string tt, .string fr, .string id, v] 25) ∧ l.map (·.1) = ts ∧ ElRow w.heap.size W v l ∧ Below w.heap.size w W ∧ a = { tmps := #[x0, x1, x2, x3, .pointer (some ⟨w.heap.size + 1, 0, none⟩), x5, x6, x7, x8, x9, x10, x11, x12, x13], defers := [] }) (by kernel_rfl) ?reg ?beh
  case reg =>
    rw [hV0]
    have S0 := fa
    refine anyH_take (i := 0) (v := .pointer (some ⟨w.heap.size, 3, none⟩)) rfl (some 5) rfl (by kernel_rfl) (by kernel_rfl) (by kernel_rfl) (fun _ _ _ h => by cases h.1) rfl (fun w0 hw0 => ex_field3 rfl rfl) S0 ?_
    simp only [Act.put, List.setIfInBounds_toArray, List.set_cons_zero, List.set_cons_succ]
    refine anyH_take (i := 1) (v := .string tt) rfl (some 6) rfl (by kernel_rfl) (by kernel_rfl) (by kernel_rfl) (fun _ _ _ h => by cases h.1) rfl (fun w0 hw0 => ex_load rfl rfl (run_load_cell Tryd.underlying9 rfl (cells6 hw0).2.2.2.1)) S0 ?_
    simp only [Act.put, List.setIfInBounds_toArray, List.set_cons_zero, List.set_cons_succ]
    refine anyH_take (i := 2) (v := .pointer (some ⟨w.heap.size, 2, none⟩)) rfl (some 7) rfl (by kernel_rfl) (by kernel_rfl) (by kernel_rfl) (fun _ _ _ h => by cases h.1) rfl (fun w0 hw0 => ex_field2 rfl rfl) S0 ?_
    simp only [Act.put, List.setIfInBounds_toArray, List.set_cons_zero, List.set_cons_succ]
    refine anyH_take (i := 3) (v := .string fr) rfl (some 8) rfl (by kernel_rfl) (by kernel_rfl) (by kernel_rfl) (fun _ _ _ h => by cases h.1) rfl (fun w0 hw0 => ex_load rfl rfl (run_load_cell Tryd.underlying9 rfl (cells6 hw0).2.2.1)) S0 ?_
    simp only [Act.put, List.setIfInBounds_toArray, List.set_cons_zero, List.set_cons_succ]
    refine anyH_take (i := 4) (v := .pointer (some ⟨w.heap.size, 4, none⟩)) rfl (some 9) rfl (by kernel_rfl) (by kernel_rfl) (by kernel_rfl) (fun _ _ _ h => by cases h.1) rfl (fun w0 hw0 => ex_field4 rfl rfl) S0 ?_
    simp only [Act.put, List.setIfInBounds_toArray, List.set_cons_zero, List.set_cons_succ]
    refine anyH_take (i := 5) (v := .string id) rfl (some 10) rfl (by kernel_rfl) (by kernel_rfl) (by kernel_rfl) (fun _ _ _ h => by cases h.1) rfl (fun w0 hw0 => ex_load rfl rfl (run_load_cell Tryd.underlying9 rfl (cells6 hw0).2.2.2.2.1)) S0 ?_
    simp only [Act.put, List.setIfInBounds_toArray, List.set_cons_zero, List.set_cons_succ]
    refine anyH_take (i := 6) (v := .slice ao m cap) rfl (some 11) rfl (by kernel_rfl) (by kernel_rfl) (by kernel_rfl) (fun _ _ _ h => by cases h.1) rfl (fun w0 hw0 => by first | rfl | kernel_rfl) S0 ?_
    simp only [Act.put, List.setIfInBounds_toArray, List.set_cons_zero, List.set_cons_succ]
    refine anyH_one (i := 7) (by kernel_rfl) ?_
    refine op_call rfl (some 12) rfl rfl #[.slice ao m cap] rfl (by simp [Act.eval]) (fun _ _ => rfl) HC.out ?_
    rintro e V1 ⟨v1, l1, rfl, m1, r1, b1⟩
    obtain ⟨ga, gc, rfl⟩ := own_shape r1.1
    have fa1 := (b1.block _ (hp_lt fa)).trans fa
    have fb1 := (b1.block _ (hp_lt fb)).trans fb
    have hz1 := b1.size
    refine ⟨_, rfl, fa1, ?_⟩
    simp only [Act.put, List.setIfInBounds_toArray, List.set_cons_zero, List.set_cons_succ]
    obtain ⟨n3, hn3⟩ : ∃ n3, l1.length = n3 := ⟨_, rfl⟩
    rw [hn3]
    refine anyH_val (i := 8) (by kernel_rfl) rfl (some 13) rfl rfl (ex_build6 rfl (us := #[(0, .int .u8 1), (1, .string ⟨#[114, 101, 115, 117, 108, 116]⟩), (2, .string tt), (3, .string fr), (4, .string id), (5, .slice ga n3 gc)]) (by simp [Act.eval]) (run_build6 _ _ _ _ _ _ _ _ V1)) fa1 ?_
    simp only [Act.put, List.setIfInBounds_toArray, List.set_cons_zero, List.set_cons_succ]
    obtain ⟨V2, hV2⟩ : ∃ W, ((((((V1.setCell ⟨w.heap.size + 1, 0, none⟩ (.int .u8 1)).setCell ⟨w.heap.size + 1, 1, none⟩ (.string ⟨#[114, 101, 115, 117, 108, 116]⟩)).setCell ⟨w.heap.size + 1, 2, none⟩ (.string tt)).setCell ⟨w.heap.size + 1, 3, none⟩ (.string fr)).setCell ⟨w.heap.size + 1, 4, none⟩ (.string id)).setCell ⟨w.heap.size + 1, 5, none⟩ (.slice ga n3 gc)) = W := ⟨_, rfl⟩
    have fb2 : V2.heap[w.heap.size + 1]? = some (.cells #[.int .u8 1, .string ⟨#[114, 101, 115, 117, 108, 116]⟩, .string tt, .string fr, .string id, .slice ga n3 gc] 25) := by rw [← hV2]; exact set6 fb1 _ _ _ _ _ _
    have fa2 : V2.heap[w.heap.size]? = some (.cells #[.int .u8 k, .string ty, .string fr, .string tt, .string id, .slice pa pn pc] 25) := by rw [← hV2]; exact (other6 _ _ _ _ _ _ (by omega)).trans fa1
    have B1 : Below w.heap.size w V1 := BV.trans (b1.mono BV.size)
    have B2 : Below w.heap.size w V2 := by rw [← hV2]; exact below6 B1 (by omega) _ _ _ _ _ _
    have hvz : w.heap.size + 1 < V0.heap.size := hp_lt fb
    have r2 : ElRow w.heap.size V2 (.slice ga n3 gc) l1 := by rw [← hV2, ← hn3]; exact (r1.set6 hvz _ _ _ _ _ _).lower (by omega)
    refine anyH_one (i := 9) (by kernel_rfl) ?_
    refine op_store rfl rfl rfl (ex_store (u := .agg #[.int .u8 1, .string ⟨#[114, 101, 115, 117, 108, 116]⟩, .string tt, .string fr, .string id, .slice ga n3 gc]) rfl rfl rfl (run_store_st fb1 _ _ _ _ _ _ _ _)) ?_
    rw [hV2]
    refine ⟨fa2, ?_⟩
    simp only [Act.put]
    exact wpAnyH_done (by kernel_rfl) ⟨rfl, _, l1, _, _, _, _, _, _, _, _, _, _, _, _, _, fb2, m1, r2, B2, rfl⟩ _
  case beh =>
    rintro a W ⟨v, l, x0, x1, x2, x3, x5, x6, x7, x8, x9, x10, x11, x12, x13, g, hm, hr, hB, rfl⟩
    have HG := hide (And.intro g (And.intro hm (And.intro hr hB)))
    clear g hm hr hB
    go_wp2_with fail
    exact bodyPost_ret (results_st4 rfl rfl HG.out.1) rfl ⟨_, l, rfl, HG.out.2.1, HG.out.2.2.1, HG.out.2.2.2⟩
end Go.Proofs.YtpknifioflagaaaDoor
namespace Go.Proofs.YtpknifioflagaaaDoor
open Go.RowKit Go.Shelf

set_option maxRecDepth 100000 in
theorem rtype_any (c : Int) (w : World) : Calls Tryd.prog 47 #[.int .i64 c] w fun e w' => e = .returned (.string (condT c)) ∧ w' = w := by
  by_cases h : 1 ≤ c ∧ c ≤ 10
  · have hcn : condT c = tabT c.toNat := if_pos h
    rw [hcn]
    obtain ⟨n, hn, hn1, hn2⟩ : ∃ n : Nat, c = n ∧ 1 ≤ n ∧ n ≤ 10 := ⟨c.toNat, by omega, by omega, by omega⟩
    subst hn
    rw [Int.toNat_natCast]
    match n, hn1, hn2 with
    | 1, _, _ => go_enter Tryd.func47, Tryd.ntmps47; go_wp2; go_ret; exact ⟨rfl, rfl⟩
    | 2, _, _ => go_enter Tryd.func47, Tryd.ntmps47; go_wp2; go_ret; exact ⟨rfl, rfl⟩
    | 3, _, _ => go_enter Tryd.func47, Tryd.ntmps47; go_wp2; go_ret; exact ⟨rfl, rfl⟩
    | 4, _, _ => go_enter Tryd.func47, Tryd.ntmps47; go_wp2; go_ret; exact ⟨rfl, rfl⟩
    | 5, _, _ => go_enter Tryd.func47, Tryd.ntmps47; go_wp2; go_ret; exact ⟨rfl, rfl⟩
    | 6, _, _ => go_enter Tryd.func47, Tryd.ntmps47; go_wp2; go_ret; exact ⟨rfl, rfl⟩
    | 7, _, _ => go_enter Tryd.func47, Tryd.ntmps47; go_wp2; go_ret; exact ⟨rfl, rfl⟩
    | 8, _, _ => go_enter Tryd.func47, Tryd.ntmps47; go_wp2; go_ret; exact ⟨rfl, rfl⟩
    | 9, _, _ => go_enter Tryd.func47, Tryd.ntmps47; go_wp2; go_ret; exact ⟨rfl, rfl⟩
    | 10, _, _ => go_enter Tryd.func47, Tryd.ntmps47; go_wp2; go_ret; exact ⟨rfl, rfl⟩
  · have hcn : condT c = ⟨#[]⟩ := if_neg h
    rw [hcn]
    have e1 : (c == 1) = false := by rw [beq_eq_false_iff_ne]; omega
    have e2 : (c == 2) = false := by rw [beq_eq_false_iff_ne]; omega
    have e3 : (c == 3) = false := by rw [beq_eq_false_iff_ne]; omega
    have e4 : (c == 4) = false := by rw [beq_eq_false_iff_ne]; omega
    have e5 : (c == 5) = false := by rw [beq_eq_false_iff_ne]; omega
    have e6 : (c == 6) = false := by rw [beq_eq_false_iff_ne]; omega
    have e7 : (c == 7) = false := by rw [beq_eq_false_iff_ne]; omega
    have e8 : (c == 8) = false := by rw [beq_eq_false_iff_ne]; omega
    have e9 : (c == 9) = false := by rw [beq_eq_false_iff_ne]; omega
    have e10 : (c == 10) = false := by rw [beq_eq_false_iff_ne]; omega
    clear hcn h
    go_enter Tryd.func47, Tryd.ntmps47
    go_wp2
    go_ret
    exact ⟨rfl, rfl⟩
theorem rname_is {j : Nat} (h1 : 1 ≤ j) (h2 : j ≤ 10) (w : World) : Calls Tryd.prog 26 #[.int .i64 j] w fun e w' => e = .returned (.string (tabN j)) ∧ w' = w := by
  have h := rname_any (j : Int) w
  rw [show condN (j : Int) = tabN j from by unfold condN; rw [if_pos ⟨by omega, by omega⟩, Int.toNat_natCast]] at h
  exact h
set_option maxRecDepth 100000 in
theorem rparse_any (s : ByteArray) (w : World) : Calls Tryd.prog 43 #[.string s] w fun e w' => ParseEnds s e ∧ w' = w := by
  go_enter Tryd.func43, Tryd.ntmps43
  go_wp2_with fail
  go_loopw [4] (fun i wr => ∃ (j : Nat), 1 ≤ j ∧ j ≤ 11 ∧ i = .int .i64 j ∧ (∀ k : Nat, 1 ≤ k → k < j → tabN k ≠ s) ∧ wr = w) (fun i _ => 11 - (intOf i).toNat)
  case atStart => exact ⟨1, by omega, by omega, rfl, fun k h1 h2 => by omega, rfl⟩
  case round =>
    obtain ⟨j, hj1, hj2, rfl, hno, rfl⟩ := hrel
    have HN := hide hno
    clear hno
    by_cases hle : j ≤ 10
    · have hle' : (j : Int) ≤ 10 := by omega
      have HM := hide (rname_is hj1 hle wr)
      by_cases e : tabN j = s
      · have f : ((tabN j).toList == s.toList) = true := by rw [e]; simp
        have HE := hide e
        clear e
        go_wp2_with (go_at_call 26; refine HM.out.mono ?_; rintro e w1 ⟨rfl, rfl⟩)
        go_ret2
        exact ⟨.inl ⟨j, hj1, hle, HE.out, rfl⟩, rfl⟩
      · have f : ((tabN j).toList == s.toList) = false := str_ne e
        have HE := hide e
        clear e
        go_wp2_with (go_at_call 26; refine HM.out.mono ?_; rintro e w1 ⟨rfl, rfl⟩)
        refine ⟨⟨j + 1, by omega, by omega, by simp, fun k h1 h2 => ?_, by first | rfl | trivial⟩, by simp [intOf]; omega⟩
        by_cases hk : k = j
        · subst hk
          exact HE.out
        · exact HN.out k h1 (by omega)
    · have hle' : ¬ ((j : Int) ≤ 10) := by omega
      go_wp2_with fail
      go_ret2
      exact ⟨.inr ⟨fun k h1 h2 => HN.out k h1 (by omega), rfl⟩, rfl⟩
theorem rparse_u (s : ByteArray) : ∃ (c : Int) (q : Bool), (∀ e, ParseEnds s e → e = .returned (.tuple #[.int .i64 c, .bool q])) := by
  by_cases h : ∃ k : Nat, 1 ≤ k ∧ k ≤ 10 ∧ tabN k = s
  · obtain ⟨k, h1, h2, h3⟩ := h
    refine ⟨k, true, ?_⟩
    rintro e (⟨k', g1, g2, g3, rfl⟩ | ⟨g, _⟩)
    · have := tabN_inj g1 g2 h1 h2 (g3.trans h3.symm)
      rw [this]
    · exact absurd h3 (g k h1 h2)
  · refine ⟨0, false, ?_⟩
    rintro e (⟨k', g1, g2, g3, rfl⟩ | ⟨g, rfl⟩)
    · exact absurd ⟨k', g1, g2, g3⟩ h
    · rfl
/-- What Failed answers: both of them. -/
theorem failed_u (ty : ByteArray) (ts : List Tok) : ∃ (c : Int) (q : Bool), (∀ e, ((∃ s, FailT ty ts s ∧ ParseEnds s e) ∨ ((¬ ∃ s, FailT ty ts s) ∧ e = .returned (.tuple #[.int .i64 0, .bool false]))) → e = .returned (.tuple #[.int .i64 c, .bool q])) := by
  by_cases h : ∃ s, FailT ty ts s
  · obtain ⟨s, hs⟩ := h
    obtain ⟨c, q, hc⟩ := rparse_u s
    refine ⟨c, q, ?_⟩
    rintro e (⟨s', hs', hp⟩ | ⟨hn, _⟩)
    · have : s' = s := by
        obtain ⟨_, t0, t1, h0, h1, _, _, _, rfl⟩ := hs
        obtain ⟨_, u0, u1, g0, g1, _, _, _, rfl⟩ := hs'
        rw [h1] at g1
        cases g1
        rfl
      subst this
      exact hc e hp
    · exact absurd ⟨s, hs⟩ hn
  · refine ⟨0, false, ?_⟩
    rintro e (⟨s', hs', _⟩ | ⟨_, he⟩)
    · exact absurd ⟨s', hs'⟩ h
    · exact he
theorem cmp_lit2 (t s : ByteArray) (l : List UInt8) (h : s.toList = l) : (t.toList == l) = decide (t = s) := by
  rw [← h]
  by_cases e : t = s
  · rw [decide_eq_true e, e]
    simp
  · rw [decide_eq_false e]
    exact str_ne e
set_option maxRecDepth 100000 in
set_option maxHeartbeats 2000000 in
theorem rfailed_any (k : Int) (ty fr tt id : ByteArray) (pa : Option Addr) (pc : Nat) (ts : List Tok) (av : Nat → Option Addr × Nat) (w : World) (hT : TokMem w.heap.size w pa ts av) :
    Calls Tryd.prog 21 #[.agg #[.int .u8 k, .string ty, .string fr, .string tt, .string id, .slice pa ts.length pc]] w fun e w' => ((∃ s, FailT ty ts s ∧ ParseEnds s e) ∨ ((¬ ∃ s, FailT ty ts s) ∧ e = .returned (.tuple #[.int .i64 0, .bool false]))) ∧ Below w.heap.size w w' := by
  have hlen := hT.1
  obtain ⟨m, hml⟩ : ∃ m, ts.length = m := ⟨_, rfl⟩
  rw [hml] at hlen ⊢
  obtain ⟨Wa, hWa, aa, ba, za⟩ := newV w 25 #[.int .u8 k, .string ty, .string fr, .string tt, .string id, .slice pa m pc]
  obtain ⟨x0, x1, x2, x3, x4, x5⟩ := cells6 aa
  by_cases hty : ty = ty_error
  · have f1 : (ty.toList == [101, 114, 114, 111, 114]) = true := by rw [cmp_lit2 ty ty_error _ (by rw [ByteArray.toList_eq]; rfl)]; exact decide_eq_true hty
    by_cases h2 : 2 ≤ m
    · have h2i : ¬ ((m : Int) < 2) := by omega
      have h0n : 0 < m := by omega
      have h1n : 1 < m := by omega
      obtain ⟨t0, ht0⟩ : ∃ t, ts[0]? = some t := ⟨ts[0]'(by omega), by simp⟩
      obtain ⟨t1, ht1⟩ : ∃ t, ts[1]? = some t := ⟨ts[1]'(by omega), by simp⟩
      obtain ⟨_, _, _, _, _, b, off, rfl, hbw, p0, p1, p2, p3⟩ := (hT.below ba).2 0 t0 ht0
      obtain ⟨_, _, _, _, _, b', off', e', _, q0, q1, q2, q3⟩ := (hT.below ba).2 1 t1 ht1
      cases e'
      rw [show off + 0 * 4 = off by omega] at p0
      rw [show off + 0 * 4 + 1 = off + 1 by omega] at p1
      rw [show off + 1 * 4 = off + 4 by omega] at q0
      rw [show off + 1 * 4 + 1 = off + 4 + 1 by omega] at q1
      obtain ⟨z0, hz0⟩ : ∃ z : Int, (t0.kind : Int) = z := ⟨_, rfl⟩
      obtain ⟨z1, hz1⟩ : ∃ z : Int, (t1.kind : Int) = z := ⟨_, rfl⟩
      obtain ⟨n0, hn0⟩ : ∃ n, t0.name = n := ⟨_, rfl⟩
      obtain ⟨n1, hn1⟩ : ∃ n, t1.name = n := ⟨_, rfl⟩
      rw [hz0] at p0
      rw [hz1] at q0
      rw [hn0] at p1
      rw [hn1] at q1
      have key : ∀ s, FailT ty ts s → z0 = 1 ∧ n0 = ty_error ∧ z1 = 1 ∧ s = n1 := by
        rintro s ⟨_, u0, u1, g0, g1, k0, k1, k2, rfl⟩
        rw [ht0] at g0
        rw [ht1] at g1
        cases g0
        cases g1
        exact ⟨by rw [← hz0, k0]; rfl, by rw [← hn0, k1], by rw [← hz1, k2]; rfl, hn1⟩
      have yes : z0 = 1 → n0 = ty_error → z1 = 1 → FailT ty ts n1 := fun a1 a2 a3 => ⟨hty, t0, t1, ht0, ht1, by omega, by rw [hn0]; exact a2, by omega, hn1.symm⟩
      have H0 := hide (And.intro key (And.intro yes ba))
      clear key yes ba aa hT hz0 hz1 hn0 hn1 ht0 ht1 p2 p3 q2 q3 hbw hml
      by_cases e0 : z0 = 1
      · subst e0
        by_cases e1 : n0 = ty_error
        · have f2 : (n0.toList == [101, 114, 114, 111, 114]) = true := by rw [cmp_lit2 n0 ty_error _ (by rw [ByteArray.toList_eq]; rfl)]; exact decide_eq_true e1
          by_cases e2 : z1 = 1
          · subst e2
            have HY := hide (H0.out.2.1 rfl e1 rfl)
            obtain ⟨c, q, hc⟩ := rparse_u n1
            have HP := hide ((rparse_any n1 Wa).mono (R' := fun e w' => e = .returned (.tuple #[.int .i64 c, .bool q]) ∧ ParseEnds n1 (.returned (.tuple #[.int .i64 c, .bool q])) ∧ w' = Wa) (by
              rintro e w' ⟨hp, hw⟩
              have he := hc e hp
              rw [he] at hp
              exact ⟨he, hp, hw⟩))
            clear e1 hty hc
            go_enter Tryd.func21, Tryd.ntmps21
            go_wp2_with (go_at_call 43; refine HP.out.mono ?_; rintro e w1 ⟨rfl, hp, rfl⟩; have HPE := hide hp; clear hp)
            go_ret2
            exact ⟨.inl ⟨n1, HY.out, HPE.out⟩, H0.out.2.2⟩
          · have e2' : (z1 != 1) = true := by simp [e2]
            have hno : ¬ ∃ s, FailT ty ts s := fun ⟨s, h⟩ => e2 (H0.out.1 s h).2.2.1
            have HN := hide (And.intro hno H0.out.2.2)
            clear hno H0 hty e1 e2
            go_enter Tryd.func21, Tryd.ntmps21
            go_wp2_with fail
            go_ret2
            exact ⟨.inr ⟨by first | exact HN.out.1 | exact fun s h => HN.out.1 ⟨s, h⟩, rfl⟩, HN.out.2⟩
        · have f2 : (n0.toList == [101, 114, 114, 111, 114]) = false := by rw [cmp_lit2 n0 ty_error _ (by rw [ByteArray.toList_eq]; rfl)]; exact decide_eq_false e1
          have hno : ¬ ∃ s, FailT ty ts s := fun ⟨s, h⟩ => e1 (H0.out.1 s h).2.1
          have HN := hide (And.intro hno H0.out.2.2)
          clear hno H0 hty
          go_enter Tryd.func21, Tryd.ntmps21
          go_wp2_with fail
          go_ret2
          exact ⟨.inr ⟨by first | exact HN.out.1 | exact fun s h => HN.out.1 ⟨s, h⟩, rfl⟩, HN.out.2⟩
      · have e0' : (z0 != 1) = true := by simp [e0]
        have hno : ¬ ∃ s, FailT ty ts s := fun ⟨s, h⟩ => e0 (H0.out.1 s h).1
        have HN := hide (And.intro hno H0.out.2.2)
        clear hno H0 hty
        go_enter Tryd.func21, Tryd.ntmps21
        go_wp2_with fail
        go_ret2
        exact ⟨.inr ⟨by first | exact HN.out.1 | exact fun s h => HN.out.1 ⟨s, h⟩, rfl⟩, HN.out.2⟩
    · have h2i : (m : Int) < 2 := by omega
      have hno : ¬ ∃ s, FailT ty ts s := fun ⟨s, _, u0, u1, _, g1, _⟩ => by
        have := (List.getElem?_eq_some_iff.1 g1).1
        omega
      have HN := hide (And.intro hno ba)
      clear hno ba aa hT hml hty h2
      go_enter Tryd.func21, Tryd.ntmps21
      go_wp2_with fail
      go_ret2
      exact ⟨.inr ⟨by first | exact HN.out.1 | exact fun s h => HN.out.1 ⟨s, h⟩, rfl⟩, HN.out.2⟩
  · have f1 : (ty.toList == [101, 114, 114, 111, 114]) = false := by rw [cmp_lit2 ty ty_error _ (by rw [ByteArray.toList_eq]; rfl)]; exact decide_eq_false hty
    have hno : ¬ ∃ s, FailT ty ts s := fun ⟨s, h, _⟩ => hty h
    have HN := hide (And.intro hno ba)
    clear hno ba aa hT hml hty
    go_enter Tryd.func21, Tryd.ntmps21
    go_wp2_with fail
    go_ret2
    exact ⟨.inr ⟨by first | exact HN.out.1 | exact fun s h => HN.out.1 ⟨s, h⟩, rfl⟩, HN.out.2⟩
end Go.Proofs.YtpknifioflagaaaDoor
