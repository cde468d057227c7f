/- Whom a node's subscriptions tell. -/
import Derived.Test.YtffjmkngdjbjlaaNd0
import Derived.Test.YtffjmkngdjbjlaaC6
import Derived.OwnWalk
namespace Go.Proofs.Ytffjmkngdjbjlaa
open Go.RowKit Go.Shelf

theorem stopNd {p : Prop} (h : Hid p) : p := h
theorem reach_take {steps : Int} {l : List (ByteArray × Bool × Int)} {k : Nat} {x : ByteArray × Bool × Int} (h : l[k]? = some x) : reachL steps (l.take (k + 1)) = reachL steps (l.take k) ++ (if reachB steps x = true then [x.1] else []) := by
  rw [List.take_add_one, h]
  unfold reachL
  rw [List.filter_append, List.map_append]
  cases hb : reachB steps x <;> simp [hb]
theorem reach_len (steps : Int) (l : List (ByteArray × Bool × Int)) : (reachL steps l).length ≤ l.length := by
  unfold reachL
  rw [List.length_map]
  exact List.length_filter_le _ _
/-- One name more in a row of the call's own. -/
theorem append_one (w : World) {ops : Array Oper} {rest : List Oper} {o : Oper} {a : Act} {Q : Exit → Act → World → Prop} (hg : o.guard = none) (s x : Operand)
    (hop : o.op = Op.call { callee := Callee.builtin Builtin.append, args := #[s, x], argTypes := #[35, 35] }) (base : Nat) (v : Value) (l : List ByteArray) (hs : a.eval s = v) (hE : w.ownsRow base 9 1 v l.length (strC l)) (u : ByteArray) (bx : Nat)
    (hx : a.eval x = .slice (some ⟨bx, 0, none⟩) 1 1) (hc : w.heap[bx]? = some (.cells #[.string u] 9)) (hl : l.length ≤ 2000000) (hb : base ≤ w.heap.size)
    (hK : ∀ v' w', w'.ownsRow base 9 1 v' (l ++ [u]).length (strC (l ++ [u])) → w.grownBy w' v.ownBlock → wpList Try.prog ops Q rest (a.put o.dst v') w') : wpList Try.prog ops Q (o :: rest) a w := by
  obtain ⟨i, hi, hz0, hz1, hz2⟩ := info_parts info9
  obtain ⟨v', w', hrun, r1, r2, _, r4⟩ := run_append_own_at (P := Try.prog) w base 35 o.type 9 i _ 1 16 Try.underlying35 hi hz0 hz1 hz2 rfl (by decide) v l.length (strC l) hE ⟨bx, 0, none⟩ 1 1 [.string u] rfl (fun j z hj => by
    match j, hj with
    | 0, hj => simp at hj; subst hj; simp [Addr.add, World.cell?, hc]) (by simp [Value.oneCell']) (by unfold maxLen; omega) (by omega) hb
  refine wpList_plain hg fun K hK' => ?_
  unfold Oper.wp
  simp [execOp, hop, resolve, invoke, builtin, hs, hx, hrun, Result.andThen]
  have h2 : strC (l ++ [u]) = strC l ++ [.string u] := by simp [strC]
  exact hK' _ _ (hK v' w' (by rw [h2, List.length_append]; exact r1) r2)
theorem own_shape1 {w : World} {base : Nat} {e : TypeId} {size : Nat} {v : Value} {n : Nat} {xs : List Value} (h : w.ownsRow base e size v n xs) : ∃ ga gc, v = .slice ga n gc := by
  obtain ⟨_, ⟨rfl, rfl⟩ | ⟨g, cap, _, rfl, _⟩⟩ := h
  · exact ⟨none, 0, rfl⟩
  · exact ⟨_, _, rfl⟩
set_option maxRecDepth 100000 in
set_option maxHeartbeats 4000000 in
theorem reached_any (n : Nd) (v : NdW) (steps : Int) (w : World) (hok : NdOk w.heap.size w n v) :
    Calls Try.prog 8 #[.agg (ndA n v), .int .i64 steps] w fun e w' => ∃ r, e = .returned r ∧ w'.ownsRow w.heap.size 9 1 r (reachL steps n.subs).length (strC (reachL steps n.subs)) ∧ Below w.heap.size w w' := by
  obtain ⟨m, hm⟩ : ∃ m, n.subs.length = m := ⟨_, rfl⟩
  have hm6 : m ≤ 1000000 := by have := hok.2.1.1; omega
  have f1 : (w.alloc (.cells (ndA n v) 32)).heap[w.heap.size]? = some (.cells (ndA n v) 32) := World.alloc_heap_new w _
  obtain ⟨c0, c1, c2, c3, c4, c5, c6, c7⟩ := nd_box f1
  rw [hm] at c5
  have HH := hide (And.intro hok hm)
  unfold ndA at c5 ⊢
  rw [hm]
  clear hok hm f1 c0 c1 c2 c3 c4 c6 c7
  go_enter Try.func8, Try.ntmps8
  go_wp2_with fail
  go_loopw [5, 11] (fun lv iv wr => ∃ (k : Nat) (ga : Option Addr) (gc : Nat), k ≤ m ∧ iv = .int .i64 k ∧ lv = .slice ga (reachL steps (n.subs.take k)).length gc ∧ wr.ownsRow w.heap.size 9 1 (.slice ga (reachL steps (n.subs.take k)).length gc) (reachL steps (n.subs.take k)).length (strC (reachL steps (n.subs.take k))) ∧ Below w.heap.size w wr) (fun _ iv _ => m - (intOf iv).toNat)
  case atStart => exact ⟨0, none, 0, Nat.zero_le _, rfl, rfl, World.ownsRow_nil _ _ _ _, (Below.refl _ w).alloc (Nat.le_refl _) _⟩
  case round =>
    obtain ⟨k, ga, gc, hk, rfl, rfl, hown, hbw⟩ := hrel
    have hlr : (reachL steps (n.subs.take k)).length ≤ 1000000 := by
      have h1 := reach_len steps (n.subs.take k)
      rw [List.length_take] at h1
      omega
    obtain ⟨R, hR⟩ : ∃ R, reachL steps (n.subs.take k) = R := ⟨_, rfl⟩
    rw [hR] at hown hlr ⊢
    have hzw := hbw.size
    by_cases hlt : (k : Int) < m
    · obtain ⟨x, hx⟩ : ∃ x, n.subs[k]? = some x := ⟨_, List.getElem?_eq_getElem (by have := HH.out.2; omega)⟩
      have htk := reach_take (steps := steps) hx
      rw [hR] at htk
      obtain ⟨b, off, hbe, hb1, d0, d1, d2⟩ := HH.out.1.2.1.2 k x hx
      have e0 := (hbw.cell (p := ⟨b, _, none⟩) hb1).trans d0
      have e1 := (hbw.cell (p := ⟨b, _, none⟩) hb1).trans d1
      have e2 := (hbw.cell (p := ⟨b, _, none⟩) hb1).trans d2
      have hk0 : (0 : Int) ≤ k := by omega
      obtain ⟨jd, pd, dp⟩ := x
      simp only at e0 e1 e2
      have HI := hide (And.intro hown (And.intro hbw (And.intro htk hR)))
      clear hown hbw htk hR d0 d1 d2 hx
      rw [hbe]
      cases pd with
      | true =>
        have HB := hide (show reachB steps (jd, true, dp) = false by rfl)
        go_wp2_with fail
        have ht : reachL steps (n.subs.take (k + 1)) = R := by rw [HI.out.2.2.1, if_neg (by rw [HB.out]; decide), List.append_nil]
        refine ⟨⟨k + 1, ga, gc, by omega, by simp, by rw [ht], ?_, HI.out.2.1.alloc hzw _⟩, by simp [intOf]; omega⟩
        rw [ht]
        exact own_same HI.out.1 (fun g hg => Below.heap_alloc _ _ _ (own_lt HI.out.1 g hg))
      | false =>
        by_cases hs0 : steps = 0
        · subst hs0
          have HB := hide (show reachB 0 (jd, false, dp) = true by simp [reachB])
          have H1 := hide (own_same (B := wr.alloc (.cells #[.string jd, .bool false, .int .i64 dp] 34)) HI.out.1 (fun g hg => Below.heap_alloc _ _ _ (own_lt HI.out.1 g hg)))
          go_wp2_with (at_builtin; refine stopNd ?_)
          unfold Hid
          obtain ⟨W1, hW1, b1⟩ : ∃ W1, wr.alloc (.cells #[.string jd, .bool false, .int .i64 dp] 34) = W1 ∧ Below wr.heap.size wr W1 := ⟨_, rfl, (Below.refl _ wr).alloc (Nat.le_refl _) _⟩
          have z1 : W1.heap.size = wr.heap.size + 1 := by rw [← hW1]; simp
          rw [hW1] at H1 ⊢
          refine append_one _ rfl _ _ rfl w.heap.size _ R rfl (own_same H1.out (fun g hg => Below.heap_alloc _ _ _ (own_lt H1.out g hg))) jd (wr.heap.size + 1) rfl (by rw [← z1]; exact World.alloc_heap_new W1 _) (by omega) (by simp; omega) ?_
          intro v3 w3 hown3 hgr3
          have hb3 : Below w.heap.size w w3 := ((HI.out.2.1.trans (b1.mono hzw)).alloc (by omega) _).grown hgr3 (by simp; omega) (fun g hg => own_base H1.out g hg)
          obtain ⟨g3, c3, hv3⟩ := own_shape1 hown3
          subst hv3
          have H3 := hide (And.intro hown3 hb3)
          clear hown3 hgr3 hb3 b1 hW1 z1
          go_wp2_with fail
          have ht : reachL 0 (n.subs.take (k + 1)) = R ++ [jd] := by rw [HI.out.2.2.1, if_pos HB.out]
          refine ⟨⟨k + 1, g3, c3, by omega, by simp, ?_, ?_, H3.out.2⟩, by simp [intOf]; omega⟩
          · rw [ht]
            simp
          · rw [ht]
            exact H3.out.1
        · by_cases hd0 : dp = 0
          · subst hd0
            have HB := hide (show reachB steps (jd, false, 0) = true by simp [reachB])
            have H1 := hide (own_same (B := wr.alloc (.cells #[.string jd, .bool false, .int .i64 0] 34)) HI.out.1 (fun g hg => Below.heap_alloc _ _ _ (own_lt HI.out.1 g hg)))
            go_wp2_with (at_builtin; refine stopNd ?_)
            unfold Hid
            obtain ⟨W1, hW1, b1⟩ : ∃ W1, wr.alloc (.cells #[.string jd, .bool false, .int .i64 0] 34) = W1 ∧ Below wr.heap.size wr W1 := ⟨_, rfl, (Below.refl _ wr).alloc (Nat.le_refl _) _⟩
            have z1 : W1.heap.size = wr.heap.size + 1 := by rw [← hW1]; simp
            rw [hW1] at H1 ⊢
            refine append_one _ rfl _ _ rfl w.heap.size _ R rfl (own_same H1.out (fun g hg => Below.heap_alloc _ _ _ (own_lt H1.out g hg))) jd (wr.heap.size + 1) rfl (by rw [← z1]; exact World.alloc_heap_new W1 _) (by omega) (by simp; omega) ?_
            intro v3 w3 hown3 hgr3
            have hb3 : Below w.heap.size w w3 := ((HI.out.2.1.trans (b1.mono hzw)).alloc (by omega) _).grown hgr3 (by simp; omega) (fun g hg => own_base H1.out g hg)
            obtain ⟨g3, c3, hv3⟩ := own_shape1 hown3
            subst hv3
            have H3 := hide (And.intro hown3 hb3)
            clear hown3 hgr3 hb3 b1 hW1 z1
            go_wp2_with fail
            have ht : reachL steps (n.subs.take (k + 1)) = R ++ [jd] := by rw [HI.out.2.2.1, if_pos HB.out]
            refine ⟨⟨k + 1, g3, c3, by omega, by simp, ?_, ?_, H3.out.2⟩, by simp [intOf]; omega⟩
            · rw [ht]
              simp
            · rw [ht]
              exact H3.out.1
          · by_cases hge : steps ≤ dp
            · have hge' : dp ≥ steps := hge
              have HB := hide (show reachB steps (jd, false, dp) = true by simp [reachB, hge])
              have H1 := hide (own_same (B := wr.alloc (.cells #[.string jd, .bool false, .int .i64 dp] 34)) HI.out.1 (fun g hg => Below.heap_alloc _ _ _ (own_lt HI.out.1 g hg)))
              go_wp2_with (at_builtin; refine stopNd ?_)
              unfold Hid
              obtain ⟨W1, hW1, b1⟩ : ∃ W1, wr.alloc (.cells #[.string jd, .bool false, .int .i64 dp] 34) = W1 ∧ Below wr.heap.size wr W1 := ⟨_, rfl, (Below.refl _ wr).alloc (Nat.le_refl _) _⟩
              have z1 : W1.heap.size = wr.heap.size + 1 := by rw [← hW1]; simp
              rw [hW1] at H1 ⊢
              refine append_one _ rfl _ _ rfl w.heap.size _ R rfl (own_same H1.out (fun g hg => Below.heap_alloc _ _ _ (own_lt H1.out g hg))) jd (wr.heap.size + 1) rfl (by rw [← z1]; exact World.alloc_heap_new W1 _) (by omega) (by simp; omega) ?_
              intro v3 w3 hown3 hgr3
              have hb3 : Below w.heap.size w w3 := ((HI.out.2.1.trans (b1.mono hzw)).alloc (by omega) _).grown hgr3 (by simp; omega) (fun g hg => own_base H1.out g hg)
              obtain ⟨g3, c3, hv3⟩ := own_shape1 hown3
              subst hv3
              have H3 := hide (And.intro hown3 hb3)
              clear hown3 hgr3 hb3 b1 hW1 z1
              go_wp2_with fail
              have ht : reachL steps (n.subs.take (k + 1)) = R ++ [jd] := by rw [HI.out.2.2.1, if_pos HB.out]
              refine ⟨⟨k + 1, g3, c3, by omega, by simp, ?_, ?_, H3.out.2⟩, by simp [intOf]; omega⟩
              · rw [ht]
                simp
              · rw [ht]
                exact H3.out.1
            · have hlt2 : dp < steps := by omega
              have hs0b : (steps == 0) = false := by rw [beq_eq_false_iff_ne]; exact hs0
              have hd0b : (dp == 0) = false := by rw [beq_eq_false_iff_ne]; exact hd0
              have HB := hide (show reachB steps (jd, false, dp) = false by simp [reachB, hs0, hd0, hlt2])
              go_wp2_with fail
              have ht : reachL steps (n.subs.take (k + 1)) = R := by rw [HI.out.2.2.1, if_neg (by rw [HB.out]; decide), List.append_nil]
              refine ⟨⟨k + 1, ga, gc, by omega, by simp, by rw [ht], ?_, HI.out.2.1.alloc hzw _⟩, by simp [intOf]; omega⟩
              rw [ht]
              exact own_same HI.out.1 (fun g hg => Below.heap_alloc _ _ _ (own_lt HI.out.1 g hg))
    · have HI := hide (And.intro hown hbw)
      have hkm : k = m := by omega
      have hR' : reachL steps n.subs = R := by rw [← hR, hkm, List.take_of_length_le (by have := HH.out.2; omega)]
      have HR := hide hR'
      clear hown hbw hR hR' hkm
      go_wp2_with fail
      go_ret
      refine ⟨_, rfl, ?_, HI.out.2⟩
      rw [HR.out]
      exact HI.out.1
end Go.Proofs.Ytffjmkngdjbjlaa
