/- rising: the pairs whose keys begin so, one by one. -/
import Derived.Test.YtjdcgndcljmieaaK4
import Derived.Maps.AppendAt
import Derived.Deep.RegionHeld3
namespace Go.Proofs.Ytjdcgndcljmieaa
open Go.RowKit Go.Shelf
open Go.ChangeMaps (setBlock)
attribute [local go_sem] Oper.semAt_some

/-- append, in a fence. -/
theorem i_append {F : Fence} {n : Nat} {w w' : World} {ops : Array Oper} {rest : List Oper} {o : Oper} {a : Act} {Q : Exit → Act → World → Prop} {s x : Operand} {t t' : TypeId} {u v r : Value} (hg : o.guard = none) (ho : o.op = .call { callee := .builtin .append, args := #[s, x], argTypes := #[t, t'] }) (hs : a.eval s = u) (hx : a.eval x = v) (hr : (Builtin.append_ #[t, t'] o.type #[u, v]).run Try.prog w = .ok r w') (h : wpListIn F n Try.prog ops Q rest (a.put o.dst r) w') : wpListIn F n Try.prog ops Q (o :: rest) a w := by
  refine wpListIn_plain hg fun K hK' => ?_
  unfold Oper.wpIn
  refine ⟨by simp [Oper.about, ho, resolve, Target.leads, Sem.run_pure], ?_⟩
  rw [Oper.semAt_plain F _ _ (by rw [ho]; intro c hc'; cases hc')]
  simp [execOp, ho, resolve, invoke, builtin, hs, hx, hr, Result.andThen]
  exact hK' _ _ h
def pairV (S : List Pr) (k : Nat) : Value :=
  match S[k]? with
  | none => undef
  | some x => .agg #[.string x.1, .string x.2]
/-- The blocks that are its own: variables that hold a map, or a text. -/
def GK (o : Obj) : Prop := ∃ cs T, o = .cells cs T ∧ (T = 23 ∨ T = 9)
def fk (pre : ByteArray) (D : List En) : List ByteArray := (D.filter fun x => begB pre x.k).map (·.k)
theorem fk_yes {pre : ByteArray} {D : List En} {x : En} (h : begB pre x.k = true) : fk pre (D ++ [x]) = fk pre D ++ [x.k] := by simp [fk, h]
theorem fk_no {pre : ByteArray} {D : List En} {x : En} (h : begB pre x.k = false) : fk pre (D ++ [x]) = fk pre D := by simp [fk, h]
theorem fk_len (pre : ByteArray) (D : List En) : (fk pre D).length ≤ D.length := by
  unfold fk
  rw [List.length_map]
  exact List.length_filter_le _ _
theorem row_ne_it {w : World} {base r c n : Nat} {m : Option Nat} {s : Array Nat} {v : Value} {xs : List Value} (h : w.ownsRow base 9 1 v n xs) (hr : w.heap[r]? = some (.mapIter m c s c)) : v.ownBlock ≠ some r := by
  intro e
  obtain ⟨_, ⟨rfl, _⟩ | ⟨g, cap, cur, rfl, _, x2, _⟩⟩ := h
  · cases e
  · cases e
    rw [hr] at x2
    cases x2
theorem set_own {w : World} {base r n : Nat} {o : Obj} {v : Value} {xs : List Value} (h : w.ownsRow base 9 1 v n xs) (hr : v.ownBlock ≠ some r) : (setBlock w r o).ownsRow base 9 1 v n xs := own_same h (fun g e => setBlock_other w r g o (fun x => hr (x ▸ e)))
theorem drew_own {w w1 : World} {base n : Nat} {v : Value} {xs : List Value} (h : w.ownsRow base 9 1 v n xs) (hw : w1.heap = w.heap) : w1.ownsRow base 9 1 v n xs := own_same h (fun g _ => by rw [hw])
theorem one_cell {W : World} {b : Nat} {v : Value} {T : TypeId} (h : W.heap[b]? = some (.cells #[v] T)) : W.cell? ⟨b, 0, none⟩ = some v := by simp [World.cell?, h]
set_option maxRecDepth 100000 in
set_option maxHeartbeats 4000000 in
theorem rising_seq (n n₀ base p b : Nat) (L : List Pr) (pre : ByteArray) (b1 b2 : Nat) (w : World) (h : IsM base p b L w) (hL : L.length ≤ 128) (hlo : p < n₀ ∧ b < n₀) (g1 : w.heap[b1]? = some (.cells #[.pointer (some ⟨p, 0, none⟩)] 23)) (g2 : w.heap[b2]? = some (.cells #[.string pre] 9)) (hb : n₀ ≤ b1 ∧ n₀ ≤ b2) :
    SeqOwn Fence.wide n Try.prog 43 #[] #[.pointer (some ⟨b1, 0, none⟩), .pointer (some ⟨b2, 0, none⟩)] (fun k => #[pairV (scanM L pre) k]) n₀ (scanM L pre).length (fun j => j = b1 ∨ j = b2) GK w := fun lp J Jx W hW hnw hJ hY h0 => by
  have hMW := h.below hW
  have q1 := (hW.block b1 (hp_lt g1)).trans g1
  have q2 := (hW.block b2 (hp_lt g2)).trans g2
  have c1 := one_cell q1
  have c2 := one_cell q2
  have c0 := hMW.cell
  obtain ⟨l, c, hb', ho, hp, hl⟩ := hMW.held
  have hbl := hp_lt hb'
  have hrg := run_range_map (P := Try.prog) W _ _ _ b (enA l) c undM hb'
  have hro : Fence.wide.round = none := rfl
  have hpl : p < W.heap.size := hp_lt hMW.here
  have HH := hide (And.intro hMW (And.intro q1 (And.intro q2 (And.intro hb' (And.intro ho hp)))))
  have HJ := hide (And.intro hJ h0)
  have HY := hide hY
  clear hMW q1 q2 hb' ho hp hJ h0 hY h g1 g2
  refine callsIn_of_wp Try.func43 rfl trivial ?_ hro
  simp only [Try.ntmps43, List.size_toArray, List.length_cons, List.length_nil, Nat.reduceAdd, Nat.reduceSub, Array.replicate_succ, Array.replicate_zero, List.push_toArray, List.append_toArray, List.nil_append, List.cons_append]
  gi_wp2_with fail
  gi_loopw [4] (fun ks wr => ∃ D : List En, D.Nodup ∧ (∀ x ∈ D, x ∈ l) ∧ wr.heap[W.heap.size]? = some (.mapIter (some b) c (bornA D) c) ∧ wr.ownsRow W.heap.size 9 1 ks (fk pre D).length (strC (fk pre D)) ∧ Below W.heap.size W wr) (fun _ wr => l.length - (wr.iterSeen W.heap.size).size)
  case atStart => exact ⟨[], List.nodup_nil, by simp, heap_alloc_new W _, World.ownsRow_nil _ _ _ _, (Below.refl _ W).alloc (Nat.le_refl _) _⟩
  case round =>
    obtain ⟨D, hD, hDl, hr, hrow, hbw⟩ := hrel
    have hbr := (hbw.block b hbl).trans HH.out.2.2.2.1
    have hsr := hp_lt hr
    have hl1 := nodup_len hD hDl
    rcases run_next (T := 0) HH.out.2.2.2.2.1 hr hbr hD hDl with ⟨hpm, hnx⟩ | ⟨x, hx, hxD, w1, hw1, hnx⟩
    · obtain ⟨S, hS⟩ : ∃ S, scanM L pre = S := ⟨_, rfl⟩
      have hks : sortS (fk pre D) = S.map (·.1) := by rw [← hS]; exact sorted_keys HH.out.1.rise HH.out.2.2.2.2.1 HH.out.2.2.2.2.2 hpm
      have hkl : (fk pre D).length = S.length := by
        have h1 := sortS_len (fk pre D)
        rw [hks] at h1
        simpa using h1.symm
      have hSl : S.length ≤ 128 := by
        rw [← hS]
        exact Nat.le_trans (List.length_filter_le _ _) hL
      have HS := hide (sort_any W.heap.size u4 (fk pre D) wr hrow (by omega))
      rw [hks, hkl] at HS
      rw [hS] at HY
      rw [hkl] at hrow
      have hwz := hbw.size
      have HB := hide (And.intro hbw hrow)
      have HSm := hide hS
      obtain ⟨m4, hm4⟩ : ∃ m4, S.length = m4 := ⟨_, rfl⟩
      have hs4 := own_shape hrow
      rw [hm4] at hs4
      obtain ⟨ga4, gc4, rfl⟩ := hs4
      have HM4 := hide hm4
      have HLn := hide (show (scanM L pre).length = m4 by rw [hS, hm4])
      have hm128 : m4 ≤ 128 := by omega
      clear hbw hrow hr hbr hsr hD hDl hl1 hpm hks hkl hS hm4 hSl hrg
      gi_wp2_with fail
      refine ⟨trivial, fun h => by simp [Fence.wide] at h, (callsIn_wide.2 HS.out).mono ?_⟩
      rintro e w2 ⟨rfl, y1, y2⟩
      have hBw : Below W.heap.size W w2 := HB.out.1.grown y2 hwz (fun k e => own_base HB.out.2 k e)
      have h2z := hBw.size
      obtain ⟨M1, hM1⟩ : ∃ M1 : Blk, M1 = (fun j => (j = b1 ∨ j = b2) ∨ (Value.slice ga4 m4 gc4).ownBlock = some j) := ⟨_, rfl⟩
      have hnW : n₀ ≤ W.heap.size := Nat.le_trans hnw hW.size
      have hJ0 : J M1 0 w2 := HJ.out.1 _ _ _ _ _ HJ.out.2 (hBw.mono hnW) (fun j hj _ => hBw.block j hj) (fun j hj hm => by
        rw [hM1] at hm
        rcases hm with hm | hm
        · exact hm
        · have := own_base y1 j hm
          omega)
      have hlt1 := hp_lt HH.out.2.1
      have hlt2 := hp_lt HH.out.2.2.1
      have hMb : ∀ j, M1 j → n₀ ≤ j ∧ ∃ o, w2.heap[j]? = some o ∧ GK o := fun j hm => by
        rw [hM1] at hm
        rcases hm with (rfl | rfl) | hm
        · exact ⟨hb.1, _, (hBw.block _ hlt1).trans HH.out.2.1, _, _, rfl, .inl rfl⟩
        · exact ⟨hb.2, _, (hBw.block _ hlt2).trans HH.out.2.2.1, _, _, rfl, .inr rfl⟩
        · obtain ⟨_, ⟨e1, _⟩ | ⟨g, cap, cur, e1, x1, x2, _⟩⟩ := y1
          · rw [e1] at hm
            cases hm
          · rw [e1] at hm
            cases hm
            exact ⟨Nat.le_trans hnW x1, _, x2, _, _, rfl, .inr rfl⟩
      have HN := hide (And.intro y1 (And.intro hBw (And.intro hJ0 hMb)))
      clear y1 y2 hBw hJ0 hMb HS HB
      gi_wp2_with fail
      gi_loopw [28] (fun i wx => ∃ k : Nat, k ≤ m4 ∧ i = .int .i64 k ∧ J M1 k wx ∧ Below n₀ w2 wx ∧ ∀ j, M1 j → wx.heap[j]? = w2.heap[j]?) (fun i _ => m4 - (intOf i).toNat)
      case atStart => exact ⟨0, Nat.zero_le _, rfl, HN.out.2.2.1, Below.refl _ _, fun _ _ => rfl⟩
      case round =>
        obtain ⟨k, hk, rfl, hJk, hbx, hsB⟩ := hrel
        have hw1 : IntKind.i64.wrap ((k : Int) + 1) = k + 1 := by rw [IntKind.wrap_i64]; omega
        by_cases hlt : k < m4
        · have hkS : k < S.length := by rw [HM4.out]; exact hlt
          obtain ⟨x, hx⟩ : ∃ x, S[k]? = some x := ⟨S[k], by simp [hkS]⟩
          have hkx : (S.map (·.1))[k]? = some x.1 := by simp [hx]
          obtain ⟨h1, ⟨e1, e2⟩ | ⟨g, cap, cur, e1, x1, x2, x3, x4, x5, x6⟩⟩ := id HN.out.1
          · omega
          cases e1
          have m1 : M1 b1 := by rw [hM1]; exact .inl (.inl rfl)
          have mg : M1 g := by rw [hM1]; exact .inr rfl
          have hgx := (hsB g mg).trans x2
          have hcg : wr.cell? ⟨g, 0 + k, none⟩ = some (.string x.1) := by
            have hxx : (strC (S.map (·.1)))[k]? = some (.string x.1) := by simp [strC, hx]
            rw [← x6, List.getElem?_take_of_lt (by omega)] at hxx
            simp [World.cell?, hgx]
            simpa using hxx
          rw [Nat.zero_add] at hcg
          have hc1 : wr.cell? ⟨b1, 0, none⟩ = some (.pointer (some ⟨p, 0, none⟩)) := one_cell ((hsB b1 m1).trans ((HN.out.2.1.block b1 hlt1).trans HH.out.2.1))
          have hpx : wr.heap[p]? = W.heap[p]? := (hbx.block p hlo.1).trans (HN.out.2.1.block p hpl)
          have hbxx : wr.heap[b]? = W.heap[b]? := (hbx.block b hlo.2).trans (HN.out.2.1.block b hbl)
          have hc0 : wr.cell? ⟨p, 0, none⟩ = some (.map (some b)) := (World.cell?_of_block hpx).trans c0
          have hlk := run_lookup1 x.1 (hbxx.trans HH.out.2.2.2.1) HH.out.1.rise HH.out.2.2.2.2.2
          have hxL : x ∈ L := (List.mem_filter.1 (by rw [show L.filter (fun x => begB pre x.1) = S from HSm.out]; exact List.mem_of_getElem? hx)).1
          rw [getM_mem HH.out.1.rise (show (x.1, x.2) ∈ L from hxL), Option.getD_some] at hlk
          have hfl : ∀ w, (Instr.field 66 (.agg #[.string x.2]) 0).run Try.prog w = .ok (.string x.2) w := fun w => by kernel_rfl
          have hpv : pairV S k = .agg #[.string x.1, .string x.2] := by simp [pairV, hx]
          have hfin := (HY.out M1 k wr hJk hkS (fun j hj => ⟨(HN.out.2.2.2 j hj).1, by
            obtain ⟨_, o, ho, hG⟩ := HN.out.2.2.2 j hj
            exact ⟨o, (hsB j hj).trans ho, hG⟩⟩)).mono (R' := fun e W6 => (e = .returned (.bool true) ∧ J M1 (k + 1) W6 ∧ Below n₀ w2 W6 ∧ ∀ j, M1 j → W6.heap[j]? = w2.heap[j]?) ∨ (e = .returned (.bool false) ∧ Jx (k + 1) W6)) (by
            rintro e W6 (⟨rfl, h1, h2, h3⟩ | h)
            · exact .inl ⟨rfl, h1, hbx.trans h3, fun j hj => (h2 j hj).trans (hsB j hj)⟩
            · exact .inr h)
          obtain ⟨fn, tmps, assign, body, hy, hR⟩ := hfin
          rw [hpv] at hy
          have HRR := hide hR
          clear hR hJk hbx hsB hgx x2 x3 x4 x5 x6 hpx hbxx hpv hxL hkx
          gi_wp2_with fail
          refine ⟨fun h => by simp [Fence.wide] at h, HRR.out.mono ?_⟩
          rintro e W6 (⟨rfl, j1, j2, j3⟩ | ⟨rfl, j1⟩)
          · gi_wp2_with fail
            go_roundw
            case rel => exact ⟨k + 1, by omega, by simp, j1, j2, j3⟩
            case measure => simp [intOf]; omega
          · gi_wp2_with fail
            refine bodyPost_ret (results_none rfl _ _ _) rfl ?_
            exact ⟨⟨_, rfl⟩, .inr ⟨_, by rw [HLn.out]; omega, j1⟩⟩
        · obtain rfl : k = m4 := by omega
          have hlt' : ¬ ((k : Int) < k) := by omega
          gi_wp2_with fail
          go_end0
          exact ⟨⟨_, rfl⟩, .inl ⟨_, by rw [HLn.out]; exact hJk⟩⟩
    · obtain ⟨hbd, hheap⟩ := drew_cases hw1
      obtain ⟨W2, hW2⟩ : ∃ W2, setBlock w1 W.heap.size (.mapIter (some b) c (bornA (D ++ [x])) c) = W2 := ⟨_, rfl⟩
      have hr2 : W2.heap[W.heap.size]? = some (.mapIter (some b) c (bornA (D ++ [x])) c) := by
        rw [← hW2]
        exact setBlock_same w1 _ _ (by rw [hheap]; exact hsr)
      have hB2 : Below W.heap.size W W2 := by
        rw [← hW2]
        exact below_setBlock (hbw.trans (hbd.mono hbw.size)) (Nat.le_refl _) _
      have hrow2 : W2.ownsRow W.heap.size 9 1 u4 (fk pre D).length (strC (fk pre D)) := by
        rw [← hW2]
        exact set_own (drew_own hrow hheap) (row_ne_it hrow hr)
      have hen := run_entry HH.out.2.2.2.2.1 hr2 ((hB2.block b hbl).trans HH.out.2.2.2.1) hx
      rw [hW2] at hnx
      have hDn := snoc_nodup hD hxD
      have hDs : ∀ y ∈ D ++ [x], y ∈ l := fun y hy => by
        rcases List.mem_append.1 hy with h | h
        · exact hDl y h
        · simp at h
          subst h
          exact hx
      have hlen := nodup_len hDn hDs
      rw [List.length_append] at hlen
      simp at hlen
      have hsz1 : (wr.iterSeen W.heap.size).size = D.length := by rw [iter_at hr, bornA_size]
      have hfl := fk_len pre D
      have d2 := (hB2.cell (p := ⟨b2, 0, none⟩) (hp_lt HH.out.2.2.1)).trans c2
      have hz2 : W.heap.size < W2.heap.size := hp_lt hr2
      have HP := hide (hasPrefix_any x.k pre W2)
      cases hbeg : begB pre x.k with
      | false =>
        rw [hbeg] at HP
        have hfk := fk_no (D := D) hbeg
        have HB := hide (And.intro hB2 (And.intro hr2 (And.intro hDn (And.intro hDs (And.intro hrow2 (And.intro hsz1 (And.intro hlen hfk)))))))
        clear hB2 hr2 hbw hr hbr hDn hDs hD hDl hW2 hbd hheap hw1 hsz1 hlen hx hxD hrow hrow2 hl1 hfl hbeg hfk
        gi_wp2_with fail
        refine ⟨trivial, fun h => by simp [Fence.wide] at h, (callsIn_wide.2 HP.out).mono ?_⟩
        rintro e w' ⟨rfl, hw⟩
        rw [hw]
        clear hw
        gi_wp2_with fail
        go_roundw
        case rel => exact ⟨D ++ [x], HB.out.2.2.1, HB.out.2.2.2.1, HB.out.2.1, by rw [HB.out.2.2.2.2.2.2.2]; exact HB.out.2.2.2.2.1, HB.out.1⟩
        case measure =>
          rw [HB.out.2.2.2.2.2.1, iter_at HB.out.2.1, bornA_size]
          have := HB.out.2.2.2.2.2.2.1
          simp
          omega
      | true =>
        rw [hbeg] at HP
        have hfk := fk_yes (D := D) hbeg
        obtain ⟨ti, t1, t2, t3, t4⟩ := info_parts info9
        obtain ⟨W3, hW3⟩ : ∃ W3, W2.alloc (.cells #[.string x.k] 9) = W3 := ⟨_, rfl⟩
        have hB3 : Below W2.heap.size W2 W3 := by rw [← hW3]; exact (Below.refl _ W2).alloc (Nat.le_refl _) _
        have hz3 : W2.heap.size ≤ W3.heap.size := hB3.size
        have hc3 := cell_one_new W2 (.string x.k) 9
        rw [hW3] at hc3
        obtain ⟨v', w4, hap, y1, y2, _, y4⟩ := run_append_own_at (P := Try.prog) W3 W.heap.size 80 80 9 ti _ 1 16 Try.underlying80 t1 t2 t3 t4 rfl (by omega) u4 (fk pre D).length (strC (fk pre D)) (own_same hrow2 (fun g e => hB3.block g (own_lt hrow2 g e))) ⟨W2.heap.size, 0, none⟩ 1 1 [.string x.k] rfl hc3 (by simp [Value.oneCell']) (by unfold maxLen; omega) (by omega) (by omega)
        have hne := row_ne_it hrow2 hr2
        have hB4 : Below W.heap.size W w4 := (hB2.trans (hB3.mono (by omega))).grown y2 (by omega) (fun k e => own_base hrow2 k e)
        have hr4 : w4.heap[W.heap.size]? = some (.mapIter (some b) c (bornA (D ++ [x])) c) := (y2.block _ (by omega) (fun e => hne e.symm)).trans ((hB3.block _ hz2).trans hr2)
        have hrow4 : w4.ownsRow W.heap.size 9 1 v' (fk pre (D ++ [x])).length (strC (fk pre (D ++ [x]))) := by
          rw [hfk, List.length_append, show strC (fk pre D ++ [x.k]) = strC (fk pre D) ++ [Value.string x.k] by simp [strC]]
          exact y1
        have HB := hide (And.intro hB4 (And.intro hr4 (And.intro hDn (And.intro hDs (And.intro hrow4 (And.intro hsz1 hlen))))))
        have HA := hide hap
        have hs4 := own_shape hrow2
        obtain ⟨m4, hm4⟩ : ∃ m4, (fk pre D).length = m4 := ⟨_, rfl⟩
        rw [hm4] at hs4
        obtain ⟨ga4, gc4, rfl⟩ := hs4
        have hs5 := own_shape y1
        obtain ⟨m5, hm5⟩ : ∃ m5, (fk pre D).length + 1 = m5 := ⟨_, rfl⟩
        rw [hm5] at hs5
        obtain ⟨ga5, gc5, rfl⟩ := hs5
        clear hB2 hr2 hbw hr hbr hDn hDs hD hDl hW2 hbd hheap hw1 hsz1 hlen hx hxD hrow hrow2 hl1 hfl hbeg hfk hB3 hap y1 y2 y4 hne hB4 hr4 hrow4 hc3 t1 t2 t3 t4 hm4 hm5
        gi_wp2_with fail
        refine ⟨trivial, fun h => by simp [Fence.wide] at h, (callsIn_wide.2 HP.out).mono ?_⟩
        rintro e w' ⟨rfl, hw⟩
        rw [hw]
        clear hw
        gi_wp2_with (refine i_append (t := 80) (t' := 80) rfl rfl rfl rfl HA.out ?_)
        go_roundw
        case rel => exact ⟨D ++ [x], HB.out.2.2.1, HB.out.2.2.2.1, HB.out.2.1, HB.out.2.2.2.2.1, HB.out.1⟩
        case measure =>
          rw [HB.out.2.2.2.2.2.1, iter_at HB.out.2.1, bornA_size]
          have := HB.out.2.2.2.2.2.2
          simp
          omega
end Go.Proofs.Ytjdcgndcljmieaa
