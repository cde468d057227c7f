/- Stanzas: few; Result. -/
import Derived.Test.YtpknifioflagaaaDoorSt11
namespace Go.Proofs.YtpknifioflagaaaDoor
open Go.RowKit Go.Shelf

theorem results_st2 {fn : Func} {tmps : Array Value} {w : World} {b : Nat} {v0 v1 v2 v3 v4 v5 : Value} (h : fn.results = #[.cell 2 25]) (hp : tmps[2]?.getD undef = .pointer (some ⟨b, 0, none⟩)) (hc : w.heap[b]? = some (.cells #[v0, v1, v2, v3, v4, v5] 25)) : (results fn tmps).run Tryd.prog w = .ok (.agg #[v0, v1, v2, v3, v4, v5]) w := by
  obtain ⟨c0, c1, c2, c3, c4, c5⟩ := cells6 hc
  simp [results, h, hp, c0, c1, c2, c3, c4, c5, go_sem, Tryd.isAgg25, Tryd.sizeOf25]
set_option maxRecDepth 100000 in
set_option maxHeartbeats 4000000 in
theorem few6_any (k : Int) (ty fr tt id : ByteArray) (pa : Option Addr) (pc : Nat) (ts : List Tok) (w : World) (hc : ts.length ≤ pc) (hl : ts.length ≤ 2199023255488) :
    Calls Tryd.prog 9 #[.agg #[.int .u8 k, .string ty, .string fr, .string tt, .string id, .slice pa ts.length pc]] w fun e w' => e = .returned (.agg #[.int .u8 k, .string ty, .string fr, .string tt, .string id, .slice pa (ts.take 70).length pc]) ∧ Below w.heap.size w w' := by
  obtain ⟨m, hml⟩ : ∃ m, ts.length = m := ⟨_, rfl⟩
  have hmin : (ts.take 70).length = min 70 m := by rw [List.length_take, hml]
  rw [hmin]
  rw [hml] at hc hl ⊢
  clear hmin hml
  obtain ⟨Wa, hWa, aa, ba, za⟩ := newV w 25 #[.int .u8 k, .string ty, .string fr, .string tt, .string id, .slice pa m pc]
  obtain ⟨Wb, hWb, ab, bb, zb⟩ := newV Wa 25 #[.int .u8 0, .string ⟨#[]⟩, .string ⟨#[]⟩, .string ⟨#[]⟩, .string ⟨#[]⟩, .slice none 0 0]
  rw [za] at ab
  have aB := (bb.block w.heap.size (by omega)).trans aa
  have bB : Below w.heap.size w Wb := ba.trans (bb.mono (by omega))
  obtain ⟨x0, x1, x2, x3, x4, x5⟩ := cells6 aB
  obtain ⟨y0, y1, y2, y3, y4, y5⟩ := cells6 ab
  have hfa := frozen6 aB
  have hfb := frozen6 ab
  by_cases h70 : 70 < m
  · have h70i : (70 : Int) < m := by omega
    have hci : (70 : Int) ≤ pc := by omega
    rw [show min 70 m = 70 by omega]
    obtain ⟨Wc, hWc⟩ : ∃ Wc, Wb.setCell ⟨w.heap.size, 5, none⟩ (.slice pa 70 pc) = Wc := ⟨_, rfl⟩
    have aC : Wc.heap[w.heap.size]? = some (.cells #[.int .u8 k, .string ty, .string fr, .string tt, .string id, .slice pa 70 pc] 25) := by rw [← hWc]; exact heap_setCell_same _ _ 5 _ _ _ aB
    have abC : Wc.heap[w.heap.size + 1]? = some (.cells #[.int .u8 0, .string ⟨#[]⟩, .string ⟨#[]⟩, .string ⟨#[]⟩, .string ⟨#[]⟩, .slice none 0 0] 25) := by rw [← hWc]; exact (Below.heap_setCell _ _ _ _ (by show w.heap.size + 1 ≠ w.heap.size; omega)).trans ab
    have bC : Below w.heap.size w Wc := by rw [← hWc]; exact bB.setCell (p := ⟨w.heap.size, 5, none⟩) (Nat.le_refl _) _
    obtain ⟨u0, u1, u2, u3, u4, u5⟩ := cells6 aC
    obtain ⟨z0, z1, z2, z3, z4, z5⟩ := cells6 abC
    have hfc := frozen6 abC
    have H0 := hide (And.intro abC bC)
    clear aa ba ab bb aB bB aC abC bC
    go_enter Tryd.func9, Tryd.ntmps9
    go_wp2_with fail
    exact bodyPost_ret (results_st2 rfl rfl (set6 H0.out.1 _ _ _ _ _ _)) rfl ⟨rfl, below6 H0.out.2 (by omega) _ _ _ _ _ _⟩
  · have h70i : ¬ ((70 : Int) < m) := by omega
    rw [show min 70 m = m by omega]
    have H0 := hide (And.intro ab bB)
    clear aa ba ab bb aB bB
    go_enter Tryd.func9, Tryd.ntmps9
    go_wp2_with fail
    exact bodyPost_ret (results_st2 rfl rfl (set6 H0.out.1 _ _ _ _ _ _)) rfl ⟨rfl, below6 H0.out.2 (by omega) _ _ _ _ _ _⟩
end Go.Proofs.YtpknifioflagaaaDoor
