/- Stanzas: few; Result. The document's Same of stanzas. Stanzas as values that are loaded and stored. -/
import Derived.Test.YtpknifioflagaaaDoorXL
namespace Go.Proofs.YtpknifioflagaaaDoor
open Go.RowKit Go.Shelf

theorem results_st2 {fn : Func} {tmps : Array Value} {w : World} {b : Nat} {v0 v1 v2 v3 v4 v5 : Value} (h : fn.results = #[.cell 2 25]) (hp : tmps[2]?.getD undef = .pointer (some ⟨b, 0, none⟩)) (hc : w.heap[b]? = some (.cells #[v0, v1, v2, v3, v4, v5] 25)) : (results fn tmps).run Tryd.prog w = .ok (.agg #[v0, v1, v2, v3, v4, v5]) w := by
  obtain ⟨c0, c1, c2, c3, c4, c5⟩ := cells6 hc
  simp [results, h, hp, c0, c1, c2, c3, c4, c5, go_sem, Tryd.isAgg25, Tryd.sizeOf25]
set_option maxRecDepth 100000 in
set_option maxHeartbeats 4000000 in
theorem few6_any (k : Int) (ty fr tt id : ByteArray) (pa : Option Addr) (pc : Nat) (ts : List Tok) (w : World) (hc : ts.length ≤ pc) (hl : ts.length ≤ 2199023255488) :
    Calls Tryd.prog 9 #[.agg #[.int .u8 k, .string ty, .string fr, .string tt, .string id, .slice pa ts.length pc]] w fun e w' => e = .returned (.agg #[.int .u8 k, .string ty, .string fr, .string tt, .string id, .slice pa (ts.take 70).length pc]) ∧ Below w.heap.size w w' := by
  obtain ⟨m, hml⟩ : ∃ m, ts.length = m := ⟨_, rfl⟩
  have hmin : (ts.take 70).length = min 70 m := by rw [List.length_take, hml]
  rw [hmin]
  rw [hml] at hc hl ⊢
  clear hmin hml
  obtain ⟨Wa, hWa, aa, ba, za⟩ := newV w 25 #[.int .u8 k, .string ty, .string fr, .string tt, .string id, .slice pa m pc]
  obtain ⟨Wb, hWb, ab, bb, zb⟩ := newV Wa 25 #[.int .u8 0, .string ⟨#[]⟩, .string ⟨#[]⟩, .string ⟨#[]⟩, .string ⟨#[]⟩, .slice none 0 0]
  rw [za] at ab
  have aB := (bb.block w.heap.size (by omega)).trans aa
  have bB : Below w.heap.size w Wb := ba.trans (bb.mono (by omega))
  obtain ⟨x0, x1, x2, x3, x4, x5⟩ := cells6 aB
  obtain ⟨y0, y1, y2, y3, y4, y5⟩ := cells6 ab
  have hfa := frozen6 aB
  have hfb := frozen6 ab
  by_cases h70 : 70 < m
  · have h70i : (70 : Int) < m := by omega
    have hci : (70 : Int) ≤ pc := by omega
    rw [show min 70 m = 70 by omega]
    obtain ⟨Wc, hWc⟩ : ∃ Wc, Wb.setCell ⟨w.heap.size, 5, none⟩ (.slice pa 70 pc) = Wc := ⟨_, rfl⟩
    have aC : Wc.heap[w.heap.size]? = some (.cells #[.int .u8 k, .string ty, .string fr, .string tt, .string id, .slice pa 70 pc] 25) := by rw [← hWc]; exact heap_setCell_same _ _ 5 _ _ _ aB
    have abC : Wc.heap[w.heap.size + 1]? = some (.cells #[.int .u8 0, .string ⟨#[]⟩, .string ⟨#[]⟩, .string ⟨#[]⟩, .string ⟨#[]⟩, .slice none 0 0] 25) := by rw [← hWc]; exact (Below.heap_setCell _ _ _ _ (by show w.heap.size + 1 ≠ w.heap.size; omega)).trans ab
    have bC : Below w.heap.size w Wc := by rw [← hWc]; exact bB.setCell (p := ⟨w.heap.size, 5, none⟩) (Nat.le_refl _) _
    obtain ⟨u0, u1, u2, u3, u4, u5⟩ := cells6 aC
    obtain ⟨z0, z1, z2, z3, z4, z5⟩ := cells6 abC
    have hfc := frozen6 abC
    have H0 := hide (And.intro abC bC)
    clear aa ba ab bb aB bB aC abC bC
    go_enter Tryd.func9, Tryd.ntmps9
    go_wp2_with fail
    exact bodyPost_ret (results_st2 rfl rfl (set6 H0.out.1 _ _ _ _ _ _)) rfl ⟨rfl, below6 H0.out.2 (by omega) _ _ _ _ _ _⟩
  · have h70i : ¬ ((70 : Int) < m) := by omega
    rw [show min 70 m = m by omega]
    have H0 := hide (And.intro ab bB)
    clear aa ba ab bb aB bB
    go_enter Tryd.func9, Tryd.ntmps9
    go_wp2_with fail
    exact bodyPost_ret (results_st2 rfl rfl (set6 H0.out.1 _ _ _ _ _ _)) rfl ⟨rfl, below6 H0.out.2 (by omega) _ _ _ _ _ _⟩
end Go.Proofs.YtpknifioflagaaaDoor
namespace Go.Proofs.YtpknifioflagaaaDoor
open Go.RowKit Go.Shelf

set_option maxRecDepth 100000 in
set_option maxHeartbeats 1000000 in
theorem rSame6_any (k1 : Int) (ty1 fr1 tt1 id1 : ByteArray) (pa1 : Option Addr) (pc1 : Nat) (ts1 : List Tok) (av1 : Nat → Option Addr × Nat) (k2 : Int) (ty2 fr2 tt2 id2 : ByteArray) (pa2 : Option Addr) (pc2 : Nat) (ts2 : List Tok) (av2 : Nat → Option Addr × Nat) (w : World) (hT1 : TokMem w.heap.size w pa1 ts1 av1) (hT2 : TokMem w.heap.size w pa2 ts2 av2) :
    Calls Tryd.prog 18 #[.agg #[.int .u8 k1, .string ty1, .string fr1, .string tt1, .string id1, .slice pa1 ts1.length pc1], .agg #[.int .u8 k2, .string ty2, .string fr2, .string tt2, .string id2, .slice pa2 ts2.length pc2]] w fun e w' => Tells (SameSt k1 ty1 fr1 tt1 id1 ts1 k2 ty2 fr2 tt2 id2 ts2) e ∧ Below w.heap.size w w' := by
  obtain ⟨Wa, hWa, aa, ba, za⟩ := newV w 25 #[.int .u8 k1, .string ty1, .string fr1, .string tt1, .string id1, .slice pa1 ts1.length pc1]
  obtain ⟨Wb, hWb, ab, bb, zb⟩ := newV Wa 25 #[.int .u8 k2, .string ty2, .string fr2, .string tt2, .string id2, .slice pa2 ts2.length pc2]
  rw [za] at ab
  have hbb := ba.trans (bb.mono (by omega))
  have a1 := (bb.block w.heap.size (by omega)).trans aa
  obtain ⟨x0, x1, x2, x3, x4, x5⟩ := cells6 a1
  obtain ⟨y0, y1, y2, y3, y4, y5⟩ := cells6 ab
  have HSM := hide (refSame_any pa1 pa2 pc1 pc2 ts1 ts2 av1 av2 Wb ((hT1.below hbb).raise hbb.size) ((hT2.below hbb).raise hbb.size))
  have H0 := hide (And.intro a1 (And.intro ab hbb))
  clear aa ba ab bb a1 hbb hT1 hT2
  go_enter Tryd.func18, Tryd.ntmps18
  by_cases ek : k1 = k2
  · subst ek
    by_cases e0 : ty1 = ty2
    · subst e0
      by_cases e1 : fr1 = fr2
      · subst e1
        by_cases e2 : tt1 = tt2
        · subst e2
          by_cases e3 : id1 = id2
          · subst e3
            go_wp2_with fail
            refine HSM.out.mono ?_
            rintro e w1 ⟨ht, hb1⟩
            have H1 := hide (H0.out.2.2.trans (hb1.mono (by omega)))
            clear hb1
            rcases ht with ⟨hq, rfl⟩ | ⟨hq, rfl⟩
            · have HQ := hide hq
              clear hq
              go_wp2_with fail
              go_ret
              exact ⟨.inl ⟨⟨rfl, rfl, rfl, rfl, rfl, HQ.out⟩, rfl⟩, H1.out⟩
            · have HQ := hide hq
              clear hq
              go_wp2_with fail
              go_ret
              exact ⟨.inr ⟨fun h => HQ.out h.2.2.2.2.2, rfl⟩, H1.out⟩
          · have HN := hide (show ¬ SameSt _ _ _ _ _ _ _ _ _ _ _ _ from fun (h : SameSt k1 ty1 fr1 tt1 id1 ts1 k1 ty1 fr1 tt1 id2 ts2) => e3 h.2.2.2.2.1)
            have n3 := str_ne e3
            clear e3
            go_wp2_with fail
            go_ret
            exact ⟨.inr ⟨HN.out, rfl⟩, H0.out.2.2⟩
        · have HN := hide (show ¬ SameSt _ _ _ _ _ _ _ _ _ _ _ _ from fun (h : SameSt k1 ty1 fr1 tt1 id1 ts1 k1 ty1 fr1 tt2 id2 ts2) => e2 h.2.2.2.1)
          have n2 := str_ne e2
          clear e2
          go_wp2_with fail
          go_ret
          exact ⟨.inr ⟨HN.out, rfl⟩, H0.out.2.2⟩
      · have HN := hide (show ¬ SameSt _ _ _ _ _ _ _ _ _ _ _ _ from fun (h : SameSt k1 ty1 fr1 tt1 id1 ts1 k1 ty1 fr2 tt2 id2 ts2) => e1 h.2.2.1)
        have n1 := str_ne e1
        clear e1
        go_wp2_with fail
        go_ret
        exact ⟨.inr ⟨HN.out, rfl⟩, H0.out.2.2⟩
    · have HN := hide (show ¬ SameSt _ _ _ _ _ _ _ _ _ _ _ _ from fun (h : SameSt k1 ty1 fr1 tt1 id1 ts1 k1 ty2 fr2 tt2 id2 ts2) => e0 h.2.1)
      have n0 := str_ne e0
      clear e0
      go_wp2_with fail
      go_ret
      exact ⟨.inr ⟨HN.out, rfl⟩, H0.out.2.2⟩
  · have HN := hide (show ¬ SameSt _ _ _ _ _ _ _ _ _ _ _ _ from fun (h : SameSt k1 ty1 fr1 tt1 id1 ts1 k2 ty2 fr2 tt2 id2 ts2) => ek h.1)
    have nk : (k1 == k2) = false := by rw [beq_eq_false_iff_ne]; exact ek
    clear ek
    go_wp2_with fail
    go_ret
    exact ⟨.inr ⟨HN.out, rfl⟩, H0.out.2.2⟩
end Go.Proofs.YtpknifioflagaaaDoor
namespace Go.Proofs.YtpknifioflagaaaDoor
open Go.RowKit Go.Shelf

theorem other6 {w : World} {b j : Nat} (a0 a1 a2 a3 a4 a5 : Value) (hj : j ≠ b) : ((((((w.setCell ⟨b, 0, none⟩ a0).setCell ⟨b, 1, none⟩ a1).setCell ⟨b, 2, none⟩ a2).setCell ⟨b, 3, none⟩ a3).setCell ⟨b, 4, none⟩ a4).setCell ⟨b, 5, none⟩ a5).heap[j]? = w.heap[j]? :=
  (Below.heap_setCell _ _ _ _ hj).trans ((Below.heap_setCell _ _ _ _ hj).trans ((Below.heap_setCell _ _ _ _ hj).trans ((Below.heap_setCell _ _ _ _ hj).trans ((Below.heap_setCell _ _ _ _ hj).trans (Below.heap_setCell _ _ _ _ hj)))))
theorem run_load_st {w : World} {b : Nat} {v0 v1 v2 v3 v4 v5 : Value} {T : TypeId} (h : w.heap[b]? = some (.cells #[v0, v1, v2, v3, v4, v5] T)) : (Instr.loadAt 25 (.pointer (some ⟨b, 0, none⟩))).run Tryd.prog w = .ok (.agg #[v0, v1, v2, v3, v4, v5]) w := by
  have a := Tryd.isAgg25
  have z := Tryd.sizeOf25
  obtain ⟨c0, c1, c2, c3, c4, c5⟩ := cells6 h
  simp [Instr.loadAt, Instr.sureAddr, loadVar, loadCellsFrom, a, z, c0, c1, c2, c3, c4, c5, go_sem, Addr.add]
theorem run_store_st {w : World} {b : Nat} {v0 v1 v2 v3 v4 v5 : Value} {T : TypeId} (h : w.heap[b]? = some (.cells #[v0, v1, v2, v3, v4, v5] T)) (k : Int) (ty fr tt id : ByteArray) (pa : Option Addr) (pn pc : Nat) : (Instr.storeAt 25 (.pointer (some ⟨b, 0, none⟩)) (.agg #[.int .u8 k, .string ty, .string fr, .string tt, .string id, .slice pa pn pc])).run Tryd.prog w = .ok () ((((((w.setCell ⟨b, 0, none⟩ (.int .u8 k)).setCell ⟨b, 1, none⟩ (.string ty)).setCell ⟨b, 2, none⟩ (.string fr)).setCell ⟨b, 3, none⟩ (.string tt)).setCell ⟨b, 4, none⟩ (.string id)).setCell ⟨b, 5, none⟩ (.slice pa pn pc)) := by
  have a := Tryd.isAgg25
  have z := Tryd.sizeOf25
  have f : ∀ i, w.frozen? ⟨b, i, none⟩ = false := frozen6 h
  obtain ⟨c0, c1, c2, c3, c4, c5⟩ := cells6 h
  go_simp
end Go.Proofs.YtpknifioflagaaaDoor
