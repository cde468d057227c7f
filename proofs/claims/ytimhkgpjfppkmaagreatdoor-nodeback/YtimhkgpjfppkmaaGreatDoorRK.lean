/- Lists of a node: those of a key are struck. A node with lists of its own. A node's newest items; a refusal. -/
import Derived.Test.YtimhkgpjfppkmaaGreatDoorRJ
import Derived.Test.YtimhkgpjfppkmaaGreatDoorQI
import Derived.Test.YtimhkgpjfppkmaaGreatDoorQS
import Derived.Test.YtimhkgpjfppkmaaGreatDoorQJ
namespace Go.Proofs.YtimhkgpjfppkmaaGreatDoor
open Go.RowKit

theorem take_setL {α : Type} {R : List α} {i : Nat} {x : α} (hi : i < R.length) : (R.set i x).take (i + 1) = R.take i ++ [x] := by
  rw [List.take_add_one, List.take_set_of_le (Nat.le_refl i)]
  simp [hi]
theorem drop_setL {α : Type} {R : List α} {i j : Nat} {x : α} (hij : i < j) : (R.set i x).drop j = R.drop j := by
  rw [List.drop_set_of_lt hij]
theorem filter_take {α : Type} {L : List α} {p : α → Bool} {j : Nat} {x : α} (hx : L[j]? = some x) : (L.take (j + 1)).filter p = (L.take j).filter p ++ (if p x = true then [x] else []) := by
  rw [List.take_add_one, hx, List.filter_append]
  simp only [Option.toList_some, List.filter_cons, List.filter_nil]
/-- What is left behind those of a key are struck. -/
def woAff (k : ByteArray) (L : List (ByteArray × Nat)) : List (ByteArray × Nat) := L.filter fun y => !decide (y.1 = k)
theorem own_cell_a {W : World} {base g cap i : Nat} {L : List (ByteArray × Nat)} {x : ByteArray × Nat} (h : W.ownsRow base 55 2 (.slice (some ⟨g, 0, none⟩) L.length cap) L.length (aC L)) (hx : L[i]? = some x) : W.cell? ⟨g, i * 2, none⟩ = some (.string x.1) ∧ W.cell? ⟨g, i * 2 + 1, none⟩ = some (.int .u8 x.2) ∧ W.frozen? ⟨g, i * 2, none⟩ = false ∧ W.frozen? ⟨g, i * 2 + 1, none⟩ = false := by
  have hlt := (List.getElem?_eq_some_iff.1 hx).1
  obtain ⟨h1, ⟨e, h2⟩ | ⟨g', cap', cur, e, x1, x2, x3, x4, x5, x6⟩⟩ := h
  · omega
  · cases e
    have e := aC_get L i x hx
    have e0 := e 0 (by omega)
    rw [← x6, List.getElem?_take_of_lt (by omega)] at e0
    have e1 := e 1 (by omega)
    rw [← x6, List.getElem?_take_of_lt (by omega)] at e1
    simp only [List.getElem_cons_zero, List.getElem_cons_succ, Nat.add_zero] at e0 e1
    refine ⟨?_, ?_, by simp [World.frozen?, x2], by simp [World.frozen?, x2]⟩
    · rw [cell_of_row W g _ _ _ _ x2]
      simpa using e0
    · rw [cell_of_row W g _ _ _ _ x2]
      simpa using e1
/-- What is left behind those of a key are struck. -/
def woSub (k : ByteArray) (L : List (ByteArray × Bool × Int)) : List (ByteArray × Bool × Int) := L.filter fun y => !decide (y.1 = k)
theorem own_cell_s {W : World} {base g cap i : Nat} {L : List (ByteArray × Bool × Int)} {x : ByteArray × Bool × Int} (h : W.ownsRow base 58 3 (.slice (some ⟨g, 0, none⟩) L.length cap) L.length (sC L)) (hx : L[i]? = some x) : W.cell? ⟨g, i * 3, none⟩ = some (.string x.1) ∧ W.cell? ⟨g, i * 3 + 1, none⟩ = some (.bool x.2.1) ∧ W.cell? ⟨g, i * 3 + 2, none⟩ = some (.int .i64 x.2.2) ∧ W.frozen? ⟨g, i * 3, none⟩ = false ∧ W.frozen? ⟨g, i * 3 + 1, none⟩ = false ∧ W.frozen? ⟨g, i * 3 + 2, none⟩ = false := by
  have hlt := (List.getElem?_eq_some_iff.1 hx).1
  obtain ⟨h1, ⟨e, h2⟩ | ⟨g', cap', cur, e, x1, x2, x3, x4, x5, x6⟩⟩ := h
  · omega
  · cases e
    have e := sC_get L i x hx
    have e0 := e 0 (by omega)
    rw [← x6, List.getElem?_take_of_lt (by omega)] at e0
    have e1 := e 1 (by omega)
    rw [← x6, List.getElem?_take_of_lt (by omega)] at e1
    have e2 := e 2 (by omega)
    rw [← x6, List.getElem?_take_of_lt (by omega)] at e2
    simp only [List.getElem_cons_zero, List.getElem_cons_succ, Nat.add_zero] at e0 e1 e2
    refine ⟨?_, ?_, ?_, by simp [World.frozen?, x2], by simp [World.frozen?, x2], by simp [World.frozen?, x2]⟩
    · rw [cell_of_row W g _ _ _ _ x2]
      simpa using e0
    · rw [cell_of_row W g _ _ _ _ x2]
      simpa using e1
    · rw [cell_of_row W g _ _ _ _ x2]
      simpa using e2
set_option maxRecDepth 100000 in
set_option maxHeartbeats 4000000 in
theorem del_s (L : List (ByteArray × Bool × Int)) (k : ByteArray) (v : Value) (base bf bk : Nat) (w : World) (hf : w.heap[bf]? = some (.cells #[.func (.func 38) #[] #[]] 84)) (hk : w.heap[bk]? = some (.cells #[.string k] 9)) (hfb : bf < base) (hkb : bk < base) (hown : w.ownsRow base 58 3 v L.length (sC L)) (hl : L.length ≤ 1000000) (hb : base ≤ w.heap.size) :
    Calls Tryz.prog 82 #[v, .func (.func 83) #[] #[.pointer (some ⟨bf, 0, none⟩), .pointer (some ⟨bk, 0, none⟩)]] w fun e w' => ∃ v', e = .returned v' ∧ w'.ownsRow base 58 3 v' (woSub k L).length (sC (woSub k L)) ∧ Below base w w' := by
  have hfl := (Array.getElem?_eq_some_iff.1 hf).1
  have hkl := (Array.getElem?_eq_some_iff.1 hk).1
  obtain ⟨ao, cap, rfl, hm, hcap, hcm, hbase⟩ := own_s hown hl
  have hix := idx_s L k ao cap bf bk w hf hk hm
  obtain ⟨m, hml⟩ : ∃ m, L.length = m := ⟨_, rfl⟩
  have HH := hide (And.intro hf (And.intro hk (And.intro hown (And.intro hml (And.intro hm hbase)))))
  rw [hml] at hix hcap hl ⊢
  have HIX := hide hix
  clear hf hk hown hm hml hix hbase
  obtain ⟨F, hF⟩ : ∃ F, woSub k L = F := ⟨_, rfl⟩
  rw [hF]
  have HF := hide hF
  clear hF
  go_enter Tryz.func82, Tryz.ntmps82
  go_wp2_with fail
  refine HIX.out.mono ?_
  rintro e w1 ⟨⟨i0, x0, hx0, hk0, hno, rfl⟩ | ⟨hno, rfl⟩, b1⟩
  rotate_left
  · have hall : woSub k L = L := by
      unfold woSub
      rw [List.filter_eq_self]
      intro y hy
      simp [hno y hy]
    have H1 := hide (And.intro (HF.out.symm.trans hall) b1)
    clear hall b1 hno HIX
    go_wp2_with fail
    go_ret
    refine ⟨_, rfl, ?_, H1.out.2.mono hb⟩
    · rw [H1.out.1, HH.out.2.2.2.1]
      have h := own_same HH.out.2.2.1 (fun g e => H1.out.2.block g (own_lt HH.out.2.2.1 g e))
      rw [HH.out.2.2.2.1] at h
      exact h
  · have hi0 : i0 < m := by have := (List.getElem?_eq_some_iff.1 hx0).1; have := HH.out.2.2.2.1; omega
    obtain ⟨gb, goff, hge, hgl, _⟩ := HH.out.2.2.2.2.1.2 i0 x0 hx0
    have hgb := HH.out.2.2.2.2.2 _ hge
    have hgo : goff = 0 := hgb.2
    subst hgo
    obtain ⟨g, hg⟩ : ∃ g, gb = g := ⟨_, rfl⟩
    rw [hg] at hge hgl hgb
    have hgb1 : base ≤ g := hgb.1
    have hown1 := own_same HH.out.2.2.1 (fun g e => b1.block g (own_lt HH.out.2.2.1 g e))
    rw [hge] at hown1 ⊢
    have hst : L.take i0 = (L.take (i0 + 1)).filter (fun y => !decide (y.1 = k)) := by
      rw [filter_take hx0, List.filter_eq_self.2 (fun y hy => by simp [hno y hy])]
      simp [hk0]
    have hb1 : Below base w w1 := b1.mono hb
    have H1 := hide (And.intro hown1 (And.intro hb1 (And.intro hst hge)))
    have hi00 : (0 : Int) ≤ i0 := by omega
    have him1 : ((i0 : Int) == -1) = false := by rw [beq_eq_false_iff_ne]; omega
    clear hown1 hb1 hst b1 hno hx0 hk0 HIX hgb hg hge
    go_wp2_with fail
    go_loopw [5, 6] (fun iv jv wr => ∃ (i j : Nat) (R : List (ByteArray × Bool × Int)), i < j ∧ j ≤ m ∧ R.length = m ∧ iv = .int .i64 i ∧ jv = .int .i64 j ∧ R.take i = (L.take j).filter (fun y => !decide (y.1 = k)) ∧ R.drop j = L.drop j ∧ wr.ownsRow base 58 3 (.slice (some ⟨g, 0, none⟩) m cap) m (sC R) ∧ Below base w wr) (fun _ jv _ => m - (intOf jv).toNat)
    case atStart => exact ⟨i0, i0 + 1, L, by omega, by omega, HH.out.2.2.2.1, rfl, by simp, H1.out.2.2.1, rfl, by rw [HH.out.2.2.2.1] at H1; exact H1.out.1, H1.out.2.1⟩
    case round =>
      obtain ⟨i, j, R, hij, hjm, hRl, rfl, rfl, hRi, hRj, hownR, hbw⟩ := hrel
      by_cases hlt : (j : Int) < m
      · obtain ⟨x, hx⟩ : ∃ x, L[j]? = some x := ⟨_, List.getElem?_eq_getElem (by have := HH.out.2.2.2.1; omega)⟩
        have hxR : R[j]? = some x := by
          have h1 : (R.drop j)[0]? = (L.drop j)[0]? := by rw [hRj]
          rw [List.getElem?_drop, List.getElem?_drop, Nat.add_zero] at h1
          rw [h1]
          exact hx
        obtain ⟨z, hz⟩ : ∃ z, R[i]? = some z := ⟨_, List.getElem?_eq_getElem (by omega)⟩
        rw [← hRl] at hownR
        obtain ⟨c0, c1, c2, _, _, _⟩ := own_cell_s hownR hxR
        have hglr : g < wr.heap.size := own_lt hownR g rfl
        have hj0 : (0 : Int) ≤ j := by omega
        have hi0' : (0 : Int) ≤ i := by omega
        have him : (i : Int) < m := by omega
        have bbx : Below wr.heap.size wr (wr.alloc (.cells #[.string x.1, .bool x.2.1, .int .i64 x.2.2] 58)) := (Below.refl _ wr).alloc (Nat.le_refl _) _
        have hbase1 : base ≤ wr.heap.size := by omega
        have hfn := wo_s x k bf bk (wr.alloc (.cells #[.string x.1, .bool x.2.1, .int .i64 x.2.2] 58)) ((bbx.block bf (by omega)).trans ((hbw.block bf hfb).trans HH.out.1)) ((bbx.block bk (by omega)).trans ((hbw.block bk hkb).trans HH.out.2.1))
        obtain ⟨r, hr⟩ : ∃ r, (x.1.toList == k.toList) = r := ⟨_, rfl⟩
        rw [hr] at hfn
        have HI := hide (And.intro hfn (And.intro hbw (And.intro hownR (And.intro hRi (And.intro hRj (And.intro hx (And.intro hz (And.intro bbx (And.intro hRl hr)))))))))
        clear hfn hbw hownR hRi hRj hx hz bbx hxR hRl hr
        go_wp2_with (go_at_call 83; refine HI.out.1.mono ?_; rintro e w2 ⟨rfl, b2⟩; refine stopNd ?_)
        unfold Hid
        have B2 : Below wr.heap.size wr w2 := HI.out.2.2.2.2.2.2.2.1.trans (b2.mono HI.out.2.2.2.2.2.2.2.1.size)
        have f2 : w2.heap[wr.heap.size]? = some (.cells #[.string x.1, .bool x.2.1, .int .i64 x.2.2] 58) := (b2.block _ (by simp)).trans (World.alloc_heap_new wr _)
        have own2 := own_same HI.out.2.2.1 (fun g e => B2.block g (own_lt HI.out.2.2.1 g e))
        obtain ⟨g0, g1, g2, _, _, _⟩ := cells_s f2
        have BW := HI.out.2.1.trans (B2.mono hbase1)
        have H2 := hide (And.intro own2 BW)
        clear b2 B2 f2 BW c0 c1 c2
        cases r with
        | true =>
          have hs : x.1 = k := ba_ext (by simpa using HI.out.2.2.2.2.2.2.2.2.2)
          have HS := hide hs
          clear hs own2
          go_wp2_with fail
          refine ⟨⟨i, j + 1, R, by omega, by omega, HI.out.2.2.2.2.2.2.2.2.1, rfl, by simp, ?_, ?_, by have h := H2.out.1; rw [HI.out.2.2.2.2.2.2.2.2.1] at h; exact h, H2.out.2⟩, by simp [intOf]; omega⟩
          · rw [filter_take HI.out.2.2.2.2.2.1, HI.out.2.2.2.1]
            simp [HS.out]
          · have h := congrArg (List.drop 1) HI.out.2.2.2.2.1
            rw [List.drop_drop, List.drop_drop] at h
            exact h
        | false =>
          have hs : ¬ x.1 = k := fun e => by
            have h := HI.out.2.2.2.2.2.2.2.2.2
            rw [e] at h
            simp at h
          obtain ⟨o0, o1, o2, p0, p1, p2⟩ := own_cell_s own2 HI.out.2.2.2.2.2.2.1
          have HS := hide hs
          clear hs own2
          go_wp2_with fail
          have hset := own_set_s x H2.out.1 (show i < R.length by have := HI.out.2.2.2.2.2.2.2.2.1; omega)
          have hbs : Below base w (((w2.setCell ⟨g, i * 3, none⟩ (.string x.1)).setCell ⟨g, i * 3 + 1, none⟩ (.bool x.2.1)).setCell ⟨g, i * 3 + 2, none⟩ (.int .i64 x.2.2)) := (((H2.out.2.setCell (p := ⟨g, _, none⟩) hgb1 _)).setCell (p := ⟨g, _, none⟩) hgb1 _).setCell (p := ⟨g, _, none⟩) hgb1 _
          refine ⟨⟨i + 1, j + 1, R.set i x, by omega, by omega, by rw [List.length_set]; exact HI.out.2.2.2.2.2.2.2.2.1, by simp, by simp, ?_, ?_, by rw [HI.out.2.2.2.2.2.2.2.2.1] at hset; exact hset, hbs⟩, by simp [intOf]; omega⟩
          · rw [take_setL (by have := HI.out.2.2.2.2.2.2.2.2.1; omega), filter_take HI.out.2.2.2.2.2.1, HI.out.2.2.2.1]
            simp [HS.out]
          · rw [drop_setL (by omega)]
            have h := congrArg (List.drop 1) HI.out.2.2.2.2.1
            rw [List.drop_drop, List.drop_drop] at h
            exact h
      · have hjm' : j = m := by omega
        have hi0' : (0 : Int) ≤ i := by omega
        have him : (i : Int) ≤ m := by omega
        have hic : (i : Int) ≤ cap := by omega
        have hcne : ¬ cap = i := by omega
        have hres : R.take i = F := by
          rw [hRi, hjm', List.take_of_length_le (by have := HH.out.2.2.2.1; omega)]
          exact HF.out
        rw [← hRl] at hownR
        obtain ⟨W9, hcl, own9, b9⟩ := clear_s (c := cap - i) (ty := 0) hownR (show i < R.length by omega)
        rw [hRl] at hcl
        rw [hres] at own9
        have hiF : i = F.length := by rw [← hres, List.length_take]; omega
        have H9 := hide (And.intro own9 (And.intro (hbw.trans b9) hiF))
        clear own9 b9 hownR hRi hRj hbw hres hRl hiF
        go_wp2_with fail
        go_ret
        exact ⟨_, rfl, by have h := H9.out.1; rw [H9.out.2.2] at h ⊢; exact h, H9.out.2.1⟩
set_option maxRecDepth 100000 in
set_option maxHeartbeats 4000000 in
theorem without_s (ao : Option Addr) (cap : Nat) (L : List (ByteArray × Bool × Int)) (k : ByteArray) (w : World) (hm : SubMem w.heap.size w ao L) :
    Calls Tryz.prog 67 #[.slice ao L.length cap, .func (.func 38) #[] #[], .string k] w fun e w' => ∃ v', e = .returned v' ∧ w'.ownsRow w.heap.size 58 3 v' (woSub k L).length (sC (woSub k L)) ∧ Below w.heap.size w w' := by
  have hmf : ∀ (fn : Fn) (first cap : Array Value) (w : World), (Instr.makeFunc fn first cap).run Tryz.prog w = .ok (.func fn first cap) w := fun _ _ _ _ => rfl
  have hl := hm.1
  obtain ⟨Wa, hWa⟩ : ∃ Wa, w.alloc (.cells #[.func (.func 38) #[] #[]] 84) = Wa := ⟨_, rfl⟩
  have fa := World.alloc_heap_new w (.cells #[.func (.func 38) #[] #[]] 84)
  have za : Wa.heap.size = w.heap.size + 1 := by rw [← hWa]; simp
  have ba : Below w.heap.size w Wa := by rw [← hWa]; exact (Below.refl _ w).alloc (Nat.le_refl _) _
  rw [hWa] at fa
  obtain ⟨Wb, hWb⟩ : ∃ Wb, Wa.alloc (.cells #[.string k] 9) = Wb := ⟨_, rfl⟩
  have fb := World.alloc_heap_new Wa (.cells #[.string k] 9)
  have zb : Wb.heap.size = w.heap.size + 1 + 1 := by rw [← hWb, World.size_alloc, za]
  have bb : Below Wa.heap.size Wa Wb := by rw [← hWb]; exact (Below.refl _ Wa).alloc (Nat.le_refl _) _
  rw [hWb, za] at fb
  have bw := ba.trans (bb.mono ba.size)
  have fa' := (bb.block _ (by omega)).trans fa
  have HC := hide (copied_s ao cap L Wb ((hm.below bw).raise bw.size))
  obtain ⟨m, hml⟩ : ∃ m, L.length = m := ⟨_, rfl⟩
  have HH := hide (And.intro fa' (And.intro fb (And.intro bw (And.intro hml (And.intro hl zb)))))
  rw [← hWb, ← hWa, hml] at HC
  rw [hml]
  have HW := hide (And.intro hWa hWb)
  clear fa fa' fb bw ba bb hm hml hl za zb hWa hWb
  go_enter Tryz.func67, Tryz.ntmps67
  go_wp2_with fail
  refine HC.out.mono ?_
  rintro e w1 ⟨v1, rfl, hown1, b1⟩
  rw [HW.out.1, HW.out.2] at hown1 b1
  have hdel := del_s L k v1 Wb.heap.size w.heap.size (w.heap.size + 1) w1 ((b1.block _ (by have := HH.out.2.2.2.2.2; omega)).trans HH.out.1) ((b1.block _ (by have := HH.out.2.2.2.2.2; omega)).trans HH.out.2.1) (by have := HH.out.2.2.2.2.2; omega) (by have := HH.out.2.2.2.2.2; omega) (by rw [HH.out.2.2.2.1]; exact hown1) HH.out.2.2.2.2.1 b1.size
  obtain ⟨g1, c1, rfl⟩ := own_shape1 hown1
  have H1 := hide (And.intro hdel b1)
  clear hdel hown1 b1 HC
  go_wp2_with fail
  refine H1.out.1.mono ?_
  rintro e w2 ⟨v2, rfl, hown2, b2⟩
  have B2 : Below w.heap.size w w2 := HH.out.2.2.1.trans ((H1.out.2.trans b2).mono HH.out.2.2.1.size)
  have own2 := own_lowN (b' := w.heap.size) hown2 HH.out.2.2.1.size
  obtain ⟨g2, c2, rfl⟩ := own_shape1 own2
  have H2 := hide (And.intro own2 B2)
  clear own2 hown2 b2 B2
  go_wp2_with fail
  go_ret
  exact ⟨_, rfl, H2.out.1, H2.out.2⟩
/-- What is left behind those of a key are struck. -/
def woItem (k : ByteArray) (L : List (ByteArray × ByteArray × ByteArray)) : List (ByteArray × ByteArray × ByteArray) := L.filter fun y => !decide (y.1 = k)
theorem own_cell_i {W : World} {base g cap i : Nat} {L : List (ByteArray × ByteArray × ByteArray)} {x : ByteArray × ByteArray × ByteArray} (h : W.ownsRow base 61 3 (.slice (some ⟨g, 0, none⟩) L.length cap) L.length (iC L)) (hx : L[i]? = some x) : W.cell? ⟨g, i * 3, none⟩ = some (.string x.1) ∧ W.cell? ⟨g, i * 3 + 1, none⟩ = some (.string x.2.1) ∧ W.cell? ⟨g, i * 3 + 2, none⟩ = some (.string x.2.2) ∧ W.frozen? ⟨g, i * 3, none⟩ = false ∧ W.frozen? ⟨g, i * 3 + 1, none⟩ = false ∧ W.frozen? ⟨g, i * 3 + 2, none⟩ = false := by
  have hlt := (List.getElem?_eq_some_iff.1 hx).1
  obtain ⟨h1, ⟨e, h2⟩ | ⟨g', cap', cur, e, x1, x2, x3, x4, x5, x6⟩⟩ := h
  · omega
  · cases e
    have e := iC_get L i x hx
    have e0 := e 0 (by omega)
    rw [← x6, List.getElem?_take_of_lt (by omega)] at e0
    have e1 := e 1 (by omega)
    rw [← x6, List.getElem?_take_of_lt (by omega)] at e1
    have e2 := e 2 (by omega)
    rw [← x6, List.getElem?_take_of_lt (by omega)] at e2
    simp only [List.getElem_cons_zero, List.getElem_cons_succ, Nat.add_zero] at e0 e1 e2
    refine ⟨?_, ?_, ?_, by simp [World.frozen?, x2], by simp [World.frozen?, x2], by simp [World.frozen?, x2]⟩
    · rw [cell_of_row W g _ _ _ _ x2]
      simpa using e0
    · rw [cell_of_row W g _ _ _ _ x2]
      simpa using e1
    · rw [cell_of_row W g _ _ _ _ x2]
      simpa using e2
end Go.Proofs.YtimhkgpjfppkmaaGreatDoor
namespace Go.Proofs.YtimhkgpjfppkmaaGreatDoor
open Go.RowKit

theorem load_slT {T : TypeId} {w : World} {b i : Nat} {v : Value} (hT : (isAgg T).run Tryz.prog w = .ok false w) (hc : w.cell? ⟨b, i, none⟩ = some v) : (Instr.loadAt T (.pointer (some ⟨b, i, none⟩))).run Tryz.prog w = .ok v w := by
  simp [Instr.loadAt, Instr.sureAddr, loadVar, hT, hc, go_sem]
theorem load_anyA {w : World} {b i : Nat} {v : Value} (hc : w.cell? ⟨b, i, none⟩ = some v) : (Instr.loadAt 23 (.pointer (some ⟨b, i, none⟩))).run Tryz.prog w = .ok v w := load_slT (by
  unfold isAgg
  rw [Sem.run_bind, run_underlying Tryz.underlying23 w]
  simp) hc
theorem load_anyS {w : World} {b i : Nat} {v : Value} (hc : w.cell? ⟨b, i, none⟩ = some v) : (Instr.loadAt 24 (.pointer (some ⟨b, i, none⟩))).run Tryz.prog w = .ok v w := load_slT (by
  unfold isAgg
  rw [Sem.run_bind, run_underlying Tryz.underlying24 w]
  simp) hc
theorem load_anyI {w : World} {b i : Nat} {v : Value} (hc : w.cell? ⟨b, i, none⟩ = some v) : (Instr.loadAt 25 (.pointer (some ⟨b, i, none⟩))).run Tryz.prog w = .ok v w := load_slT (by
  unfold isAgg
  rw [Sem.run_bind, run_underlying Tryz.underlying25 w]
  simp) hc
theorem ex_fldNd4 {o : Oper} {a : Act} {w : World} {x : Operand} {b : Nat} (ho : o.op = .fieldAddr 27 x 4) (hx : a.eval x = .pointer (some ⟨b, 0, none⟩)) : (execOp a.eval o).run Tryz.prog w = .ok (.value (.pointer (some ⟨b, 4, none⟩))) w := by
  unfold execOp
  simp only [ho, hx]
  go_simp
theorem ex_fldNd5 {o : Oper} {a : Act} {w : World} {x : Operand} {b : Nat} (ho : o.op = .fieldAddr 27 x 5) (hx : a.eval x = .pointer (some ⟨b, 0, none⟩)) : (execOp a.eval o).run Tryz.prog w = .ok (.value (.pointer (some ⟨b, 5, none⟩))) w := by
  unfold execOp
  simp only [ho, hx]
  go_simp
theorem ex_fldNd6 {o : Oper} {a : Act} {w : World} {x : Operand} {b : Nat} (ho : o.op = .fieldAddr 27 x 6) (hx : a.eval x = .pointer (some ⟨b, 0, none⟩)) : (execOp a.eval o).run Tryz.prog w = .ok (.value (.pointer (some ⟨b, 6, none⟩))) w := by
  unfold execOp
  simp only [ho, hx]
  go_simp
theorem store_any {T : TypeId} {w : World} {b i : Nat} {v : Value} {ga : Option Addr} {n gc : Nat} (hT : (Go.sizeOf T).run Tryz.prog w = .ok 1 w) (hc : w.cell? ⟨b, i, none⟩ = some v) (hf : w.frozen? ⟨b, i, none⟩ = false) : (Instr.storeAt T (.pointer (some ⟨b, i, none⟩)) (.slice ga n gc)).run Tryz.prog w = .ok () (w.setCell ⟨b, i, none⟩ (.slice ga n gc)) := by
  simp [Instr.storeAt, Instr.sureAddr, storeVar, hT, hc, hf, go_sem]
theorem size_one24 (w : World) : (Go.sizeOf 23).run Tryz.prog w = .ok 1 w := by
  have h : (Tryz.prog.info? 23).map (fun i => (i.zero, i.size, i.bytes)) = some (some (.slice none 0 0), 1, 24) := by kernel_rfl
  obtain ⟨ti, t1, t2, t3, t4⟩ := info_parts h
  simp [Go.sizeOf, typeInfo, t1, t3]
theorem size_one25 (w : World) : (Go.sizeOf 24).run Tryz.prog w = .ok 1 w := by
  have h : (Tryz.prog.info? 24).map (fun i => (i.zero, i.size, i.bytes)) = some (some (.slice none 0 0), 1, 24) := by kernel_rfl
  obtain ⟨ti, t1, t2, t3, t4⟩ := info_parts h
  simp [Go.sizeOf, typeInfo, t1, t3]
theorem size_one26 (w : World) : (Go.sizeOf 25).run Tryz.prog w = .ok 1 w := by
  have h : (Tryz.prog.info? 25).map (fun i => (i.zero, i.size, i.bytes)) = some (some (.slice none 0 0), 1, 24) := by kernel_rfl
  obtain ⟨ti, t1, t2, t3, t4⟩ := info_parts h
  simp [Go.sizeOf, typeInfo, t1, t3]
theorem box_cell {w : World} {b i : Nat} {cs : Array Value} {v : Value} {T : TypeId} (h : w.heap[b]? = some (.cells cs T)) (hi : cs[i]? = some v) : w.cell? ⟨b, i, none⟩ = some v := by simp [World.cell?, h, hi]
theorem box_froz {w : World} {b i : Nat} {cs : Array Value} {T : TypeId} (h : w.heap[b]? = some (.cells cs T)) : w.frozen? ⟨b, i, none⟩ = false := by simp [World.frozen?, h]
/-- How a node stands that has lists of its own: in the box b; r is the result's box. -/
structure FreshE (wk : Nat) (w : World) (b r : Nat) (n : Nd) (u : NdW) (W : World) : Prop where
  box : W.heap[b]? = some (.cells (ndA n u) 27)
  res : W.heap[r]? = some (.cells #[.string ⟨#[]⟩, .bool false, .int .u8 0, .int .i64 0, .slice none 0 0, .slice none 0 0, .slice none 0 0, .string ⟨#[]⟩] 27)
  mem : NdM W.heap.size W n u
  far : (∀ a, u.aa = some a → a.block ≠ r ∧ wk ≤ a.block) ∧ (∀ a, u.sa = some a → a.block ≠ r ∧ wk ≤ a.block) ∧ ∀ a, u.ia = some a → a.block ≠ r ∧ wk ≤ a.block
  bel : Below wk w W
theorem fresh_end {wk : Nat} {w V0 V : World} {b r : Nat} {n : Nd} {v : NdW} {aa sa ia : Option Addr} {ac sc ic : Nat} {m0 : Nat} {wm : World} (hm : NdM m0 wm n v) (f3 : V.heap[b]? = some (.cells (ndA n v) 27)) (hbr : b ≠ r) (hr : V.heap[r]? = V0.heap[r]?) (hr0 : V0.heap[r]? = some (.cells #[.string ⟨#[]⟩, .bool false, .int .u8 0, .int .i64 0, .slice none 0 0, .slice none 0 0, .slice none 0 0, .string ⟨#[]⟩] 27))
    (hb : Below wk w (((V.setCell ⟨b, 4, none⟩ (.slice aa n.affs.length ac)).setCell ⟨b, 5, none⟩ (.slice sa n.subs.length sc)).setCell ⟨b, 6, none⟩ (.slice ia n.items.length ic)))
    (ma : AffMem V.heap.size V aa n.affs ∧ ∀ a, aa = some a → a.block ≠ b ∧ a.block ≠ r ∧ wk ≤ a.block) (ms : SubMem V.heap.size V sa n.subs ∧ ∀ a, sa = some a → a.block ≠ b ∧ a.block ≠ r ∧ wk ≤ a.block) (mi : ItMem V.heap.size V ia n.items ∧ ∀ a, ia = some a → a.block ≠ b ∧ a.block ≠ r ∧ wk ≤ a.block) (la : n.affs.length ≤ ac) (ls : n.subs.length ≤ sc) (li : n.items.length ≤ ic) :
    FreshE wk w b r n ⟨aa, ac, sa, sc, ia, ic⟩ (((V.setCell ⟨b, 4, none⟩ (.slice aa n.affs.length ac)).setCell ⟨b, 5, none⟩ (.slice sa n.subs.length sc)).setCell ⟨b, 6, none⟩ (.slice ia n.items.length ic)) := by
  obtain ⟨W, hW⟩ : ∃ W, ((V.setCell ⟨b, 4, none⟩ (.slice aa n.affs.length ac)).setCell ⟨b, 5, none⟩ (.slice sa n.subs.length sc)).setCell ⟨b, 6, none⟩ (.slice ia n.items.length ic) = W := ⟨_, rfl⟩
  have hz : W.heap.size = V.heap.size := by rw [← hW, size_set, size_set, size_set]
  have hblk : ∀ k, k ≠ b → W.heap[k]? = V.heap[k]? := fun k hk => by rw [← hW, set_blk _ _ _ _ hk, set_blk _ _ _ _ hk, set_blk _ _ _ _ hk]
  have hcell : ∀ k o, k ≠ b → W.cell? ⟨k, o, none⟩ = V.cell? ⟨k, o, none⟩ := fun k o hk => World.cell?_of_block (hblk k hk)
  have h3 : W.heap[b]? = some (.cells (ndA n ⟨aa, ac, sa, sc, ia, ic⟩) 27) := by
    rw [← hW]
    exact heap_setk (i := 6) (heap_setk (i := 5) (heap_setk (i := 4) f3))
  rw [hW] at hb ⊢
  refine ⟨h3, ?_, ⟨⟨?_, ?_, la, ls⟩, ?_, li, hm.fits⟩, ⟨fun a e => (ma.2 a e).2, fun a e => (ms.2 a e).2, fun a e => (mi.2 a e).2⟩, hb⟩
  · exact (hblk r (fun e => hbr e.symm)).trans (hr.trans hr0)
  · refine ⟨ma.1.1, fun k x hx => ?_⟩
    obtain ⟨g, o, e, hl, c0, c1⟩ := ma.1.2 k x hx
    have hg := (ma.2 _ e).1
    exact ⟨g, o, e, by omega, (hcell g _ hg).trans c0, (hcell g _ hg).trans c1⟩
  · refine ⟨ms.1.1, fun k x hx => ?_⟩
    obtain ⟨g, o, e, hl, c0, c1, c2⟩ := ms.1.2 k x hx
    have hg := (ms.2 _ e).1
    exact ⟨g, o, e, by omega, (hcell g _ hg).trans c0, (hcell g _ hg).trans c1, (hcell g _ hg).trans c2⟩
  · refine ⟨mi.1.1, fun k x hx => ?_⟩
    obtain ⟨g, o, e, hl, c0, c1, c2⟩ := mi.1.2 k x hx
    have hg := (mi.2 _ e).1
    exact ⟨g, o, e, by omega, (hcell g _ hg).trans c0, (hcell g _ hg).trans c1, (hcell g _ hg).trans c2⟩
theorem set8_nd {w : World} {r : Nat} {n : Nd} {u : NdW} (h : w.heap[r]? = some (.cells #[.string ⟨#[]⟩, .bool false, .int .u8 0, .int .i64 0, .slice none 0 0, .slice none 0 0, .slice none 0 0, .string ⟨#[]⟩] 27)) : ((((((((w.setCell ⟨r, 0, none⟩ (.string n.name)).setCell ⟨r, 1, none⟩ (.bool n.coll)).setCell ⟨r, 2, none⟩ (.int .u8 n.acc)).setCell ⟨r, 3, none⟩ (.int .i64 n.max)).setCell ⟨r, 4, none⟩ (.slice u.aa n.affs.length u.ac)).setCell ⟨r, 5, none⟩ (.slice u.sa n.subs.length u.sc)).setCell ⟨r, 6, none⟩ (.slice u.ia n.items.length u.ic)).setCell ⟨r, 7, none⟩ (.string n.parent)).heap[r]? = some (.cells (ndA n u) 27) := by
  have h0 := heap_setk (i := 0) (v := .string n.name) h
  simp only [List.setIfInBounds_toArray, List.set_cons_zero] at h0
  have h1 := heap_setk (i := 1) (v := .bool n.coll) h0
  simp only [List.setIfInBounds_toArray, List.set_cons_zero, List.set_cons_succ] at h1
  have h2 := heap_setk (i := 2) (v := .int .u8 n.acc) h1
  simp only [List.setIfInBounds_toArray, List.set_cons_zero, List.set_cons_succ] at h2
  have h3 := heap_setk (i := 3) (v := .int .i64 n.max) h2
  simp only [List.setIfInBounds_toArray, List.set_cons_zero, List.set_cons_succ] at h3
  have h4 := heap_setk (i := 4) (v := .slice u.aa n.affs.length u.ac) h3
  simp only [List.setIfInBounds_toArray, List.set_cons_zero, List.set_cons_succ] at h4
  have h5 := heap_setk (i := 5) (v := .slice u.sa n.subs.length u.sc) h4
  simp only [List.setIfInBounds_toArray, List.set_cons_zero, List.set_cons_succ] at h5
  have h6 := heap_setk (i := 6) (v := .slice u.ia n.items.length u.ic) h5
  simp only [List.setIfInBounds_toArray, List.set_cons_zero, List.set_cons_succ] at h6
  have h7 := heap_setk (i := 7) (v := .string n.parent) h6
  simp only [List.setIfInBounds_toArray, List.set_cons_zero, List.set_cons_succ] at h7
  exact h7
theorem bel8_nd {k r : Nat} {w0 w : World} {n : Nd} {u : NdW} (h : Below k w0 w) (hr : k ≤ r) : Below k w0 ((((((((w.setCell ⟨r, 0, none⟩ (.string n.name)).setCell ⟨r, 1, none⟩ (.bool n.coll)).setCell ⟨r, 2, none⟩ (.int .u8 n.acc)).setCell ⟨r, 3, none⟩ (.int .i64 n.max)).setCell ⟨r, 4, none⟩ (.slice u.aa n.affs.length u.ac)).setCell ⟨r, 5, none⟩ (.slice u.sa n.subs.length u.sc)).setCell ⟨r, 6, none⟩ (.slice u.ia n.items.length u.ic)).setCell ⟨r, 7, none⟩ (.string n.parent)) := ((((((((h.setCell (p := ⟨r, 0, none⟩) hr _).setCell (p := ⟨r, 1, none⟩) hr _).setCell (p := ⟨r, 2, none⟩) hr _).setCell (p := ⟨r, 3, none⟩) hr _).setCell (p := ⟨r, 4, none⟩) hr _).setCell (p := ⟨r, 5, none⟩) hr _).setCell (p := ⟨r, 6, none⟩) hr _).setCell (p := ⟨r, 7, none⟩) hr _)
theorem far8_nd {w : World} {r : Nat} {n : Nd} {u : NdW} : ∀ k, k ≠ r → ((((((((w.setCell ⟨r, 0, none⟩ (.string n.name)).setCell ⟨r, 1, none⟩ (.bool n.coll)).setCell ⟨r, 2, none⟩ (.int .u8 n.acc)).setCell ⟨r, 3, none⟩ (.int .i64 n.max)).setCell ⟨r, 4, none⟩ (.slice u.aa n.affs.length u.ac)).setCell ⟨r, 5, none⟩ (.slice u.sa n.subs.length u.sc)).setCell ⟨r, 6, none⟩ (.slice u.ia n.items.length u.ic)).setCell ⟨r, 7, none⟩ (.string n.parent)).heap[k]? = w.heap[k]? := fun k hk => by
  rw [set_blk _ _ _ _ hk, set_blk _ _ _ _ hk, set_blk _ _ _ _ hk, set_blk _ _ _ _ hk, set_blk _ _ _ _ hk, set_blk _ _ _ _ hk, set_blk _ _ _ _ hk, set_blk _ _ _ _ hk]
theorem results_nd {fn : Func} {tmps : Array Value} {w : World} {r : Nat} {n : Nd} {u : NdW} (h : fn.results = #[.cell 2 27]) (hp : tmps[2]?.getD undef = .pointer (some ⟨r, 0, none⟩)) (hb : w.heap[r]? = some (.cells (ndA n u) 27)) : (results fn tmps).run Tryz.prog w = .ok (.agg (ndA n u)) w := by
  obtain ⟨c0, c1, c2, c3, c4, c5, c6, c7⟩ := nd_box hb
  unfold ndA
  simp [results, h, hp, c0, c1, c2, c3, c4, c5, c6, c7, go_sem, Tryz.isAgg27, Tryz.sizeOf27]
/-- A node stands where only a block that holds none of its lists is written. -/
theorem ndM_far {w w' : World} {r : Nat} {n : Nd} {u : NdW} (hm : NdM w.heap.size w n u) (hz : w'.heap.size = w.heap.size) (hb : ∀ k, k ≠ r → w'.heap[k]? = w.heap[k]?) (hr : (∀ a, u.aa = some a → a.block ≠ r) ∧ (∀ a, u.sa = some a → a.block ≠ r) ∧ ∀ a, u.ia = some a → a.block ≠ r) : NdM w'.heap.size w' n u := by
  have hcell : ∀ k o, k ≠ r → w'.cell? ⟨k, o, none⟩ = w.cell? ⟨k, o, none⟩ := fun k o hk => World.cell?_of_block (hb k hk)
  refine ⟨⟨⟨hm.ok.1.1, fun k x hx => ?_⟩, ⟨hm.ok.2.1.1, fun k x hx => ?_⟩, hm.ok.2.2.1, hm.ok.2.2.2⟩, ⟨hm.it.1, fun k x hx => ?_⟩, hm.ic, hm.fits⟩
  · obtain ⟨g, o, e, hl, c0, c1⟩ := hm.ok.1.2 k x hx
    exact ⟨g, o, e, by omega, (hcell g _ (hr.1 _ e)).trans c0, (hcell g _ (hr.1 _ e)).trans c1⟩
  · obtain ⟨g, o, e, hl, c0, c1, c2⟩ := hm.ok.2.1.2 k x hx
    exact ⟨g, o, e, by omega, (hcell g _ (hr.2.1 _ e)).trans c0, (hcell g _ (hr.2.1 _ e)).trans c1, (hcell g _ (hr.2.1 _ e)).trans c2⟩
  · obtain ⟨g, o, e, hl, c0, c1, c2⟩ := hm.it.2 k x hx
    exact ⟨g, o, e, by omega, (hcell g _ (hr.2.2 _ e)).trans c0, (hcell g _ (hr.2.2 _ e)).trans c1, (hcell g _ (hr.2.2 _ e)).trans c2⟩
set_option maxRecDepth 100000 in
set_option maxHeartbeats 8000000 in
theorem fresh_any (n : Nd) (v : NdW) (w : World) (hm : NdM w.heap.size w n v) :
    Calls Tryz.prog 36 #[.agg (ndA n v)] w fun e w' => ∃ u, e = .returned (.agg (ndA n u)) ∧ NdM w'.heap.size w' n u ∧ ((∀ a, u.aa = some a → w.heap.size ≤ a.block) ∧ (∀ a, u.sa = some a → w.heap.size ≤ a.block) ∧ ∀ a, u.ia = some a → w.heap.size ≤ a.block) ∧ Below w.heap.size w w' := by
  obtain ⟨Wa, hWa⟩ : ∃ Wa, w.alloc (.cells (ndA n v) 27) = Wa := ⟨_, rfl⟩
  have fa := World.alloc_heap_new w (.cells (ndA n v) 27)
  have za : Wa.heap.size = w.heap.size + 1 := by rw [← hWa]; simp
  have ba : Below w.heap.size w Wa := by rw [← hWa]; exact (Below.refl _ w).alloc (Nat.le_refl _) _
  rw [hWa] at fa
  obtain ⟨Wb, hWb⟩ : ∃ Wb, Wa.alloc (.cells #[.string ⟨#[]⟩, .bool false, .int .u8 0, .int .i64 0, .slice none 0 0, .slice none 0 0, .slice none 0 0, .string ⟨#[]⟩] 27) = Wb := ⟨_, rfl⟩
  have fb := World.alloc_heap_new Wa (.cells #[.string ⟨#[]⟩, .bool false, .int .u8 0, .int .i64 0, .slice none 0 0, .slice none 0 0, .slice none 0 0, .string ⟨#[]⟩] 27)
  have zb : Wb.heap.size = w.heap.size + 1 + 1 := by rw [← hWb, World.size_alloc, za]
  have bb : Below Wa.heap.size Wa Wb := by rw [← hWb]; exact (Below.refl _ Wa).alloc (Nat.le_refl _) _
  rw [hWb, za] at fb
  have hkW := ba.trans (bb.mono ba.size)
  have fa' := (bb.block _ (by omega)).trans fa
  have HW := hide (And.intro hWa hWb)
  unfold ndA
  clear hWa hWb
  go_enter Tryz.func36, Tryz.ntmps36
  go_wp2_with fail
  have hA : (#[.string n.name, .bool n.coll, .int .u8 n.acc, .int .i64 n.max, .slice v.aa n.affs.length v.ac, .slice v.sa n.subs.length v.sc, .slice v.ia n.items.length v.ic, .string n.parent] : Array Value) = ndA n v := rfl
  rw [hA, HW.out.1, HW.out.2]
  obtain ⟨b, hb⟩ : ∃ b, w.heap.size = b := ⟨_, rfl⟩
  obtain ⟨r, hr⟩ : ∃ r, w.heap.size + 1 = r := ⟨_, rfl⟩
  obtain ⟨V0, hV0⟩ : ∃ V0, Wb.drew = V0 := ⟨_, rfl⟩
  have d0 : Below Wb.heap.size Wb V0 := by rw [← hV0]; exact (Below.refl _ Wb).drew
  have hkW0 : Below w.heap.size w V0 := hkW.trans (d0.mono hkW.size)
  have f0 := (d0.block _ (by omega)).trans fa'
  have g0 := (d0.block _ (by omega)).trans fb
  have hbV : w.heap.size < V0.heap.size := by have := d0.size; omega
  have hrV : w.heap.size + 1 < V0.heap.size := by have := d0.size; omega
  rw [hb] at f0 hbV
  rw [hr] at g0 hrV
  have hbne : b ≠ r := by omega
  have hr0 := g0
  obtain ⟨wk, hwk⟩ : ∃ wk, w.heap.size = wk := ⟨_, rfl⟩
  have hkb : wk ≤ b := by omega
  have hkV : wk ≤ V0.heap.size := by omega
  rw [show (w.heap.size : Nat) + 1 = r from hr, show w.heap.size = b from hb]
  rw [hwk] at hkW0 hm
  have hm := hm.below hkW0
  have hkW := hkW0
  obtain ⟨_, _, _, _, c4, c5, c6, _⟩ := nd_box f0
  clear fa fa' fb ba bb za zb hkW0 hA g0
  refine region_rel (S := fun V => Below wk V0 V) (fun a Wz => ∃ (u : NdW) (xx : Nat → Value), FreshE wk w b r n u Wz ∧ a = { tmps := #[xx 0, .pointer (some ⟨b, 0, none⟩), .pointer (some ⟨r, 0, none⟩), xx 3, xx 4, xx 5, xx 6, xx 7, xx 8, xx 9, xx 10, xx 11, xx 12, xx 13, xx 14, xx 15], defers := [] }) (by kernel_rfl) ?any ?fin
  case any =>
    rw [hV0]
    clear hV0 d0
    have SV0 : Below V0.heap.size V0 V0 := Below.refl _ _
    refine anyH_take (i := 0) (v := .pointer (some ⟨b, 4, none⟩)) rfl (some 3) rfl (by kernel_rfl) (by kernel_rfl) (by kernel_rfl) (fun _ _ _ h => by cases h.1) (by kernel_rfl) (fun _ _ => ex_fldNd4 rfl rfl) (SV0.mono hkV) ?_
    simp only [Act.put, List.setIfInBounds_toArray, List.set_cons_zero, List.set_cons_succ]
    refine anyH_take (i := 3) (v := .pointer (some ⟨b, 5, none⟩)) rfl (some 6) rfl (by kernel_rfl) (by kernel_rfl) (by kernel_rfl) (fun _ _ _ h => by cases h.1) (by kernel_rfl) (fun _ _ => ex_fldNd5 rfl rfl) (SV0.mono hkV) ?_
    simp only [Act.put, List.setIfInBounds_toArray, List.set_cons_zero, List.set_cons_succ]
    refine anyH_take (i := 6) (v := .pointer (some ⟨b, 6, none⟩)) rfl (some 9) rfl (by kernel_rfl) (by kernel_rfl) (by kernel_rfl) (fun _ _ _ h => by cases h.1) (by kernel_rfl) (fun _ _ => ex_fldNd6 rfl rfl) (SV0.mono hkV) ?_
    simp only [Act.put, List.setIfInBounds_toArray, List.set_cons_zero, List.set_cons_succ]
    refine anyH_three (i := 1) (j := 4) (k := 7) (by kernel_rfl) ?p1x1 ?p1x4 ?p1x7
    case p1x1 =>
      refine op_val rfl (some 4) rfl (by kernel_rfl) (ex_load rfl rfl (load_anyA ((SV0.cell (p := ⟨b, 4, none⟩) hbV).trans c4))) ?_
      refine ⟨SV0.mono hkV, ?_⟩
      simp only [Act.put, List.setIfInBounds_toArray, List.set_cons_zero, List.set_cons_succ]
      refine anyH_three (i := 2) (j := 4) (k := 7) (by kernel_rfl) ?p2x2 ?p2x4 ?p2x7
      case p2x2 =>
        refine op_call rfl (some 5) rfl (by kernel_rfl) #[.slice v.aa n.affs.length v.ac] rfl (by simp [Act.eval]) (fun _ _ => rfl) (copied_a v.aa v.ac n.affs V0 ((hm.ok.1.below (SV0.mono hkV)).raise (Nat.le_trans hkV SV0.size))) ?_
        rintro e V1 ⟨va, rfl, oa, b1⟩
        obtain ⟨aa, ac, rfl, ma_, la, _, ha_⟩ := own_a oa hm.ok.1.1
        have ma := And.intro ma_ (show ∀ a, aa = some a → a.block ≠ b ∧ a.block ≠ r ∧ wk ≤ a.block from fun a e => by have := (ha_ a e).1; have := SV0.size; omega)
        have SV1 : Below V0.heap.size V0 V1 := SV0.trans (b1.mono SV0.size)
        refine ⟨_, rfl, SV1.mono hkV, ?_⟩
        simp only [Act.put, List.setIfInBounds_toArray, List.set_cons_zero, List.set_cons_succ]
        refine anyH_two (i := 4) (j := 7) (by kernel_rfl) ?p3x4 ?p3x7
        case p3x4 =>
          refine op_val rfl (some 7) rfl (by kernel_rfl) (ex_load rfl rfl (load_anyS ((SV1.cell (p := ⟨b, 5, none⟩) hbV).trans c5))) ?_
          refine ⟨SV1.mono hkV, ?_⟩
          simp only [Act.put, List.setIfInBounds_toArray, List.set_cons_zero, List.set_cons_succ]
          refine anyH_two (i := 5) (j := 7) (by kernel_rfl) ?p4x5 ?p4x7
          case p4x5 =>
            refine op_call rfl (some 8) rfl (by kernel_rfl) #[.slice v.sa n.subs.length v.sc] rfl (by simp [Act.eval]) (fun _ _ => rfl) (copied_s v.sa v.sc n.subs V1 ((hm.ok.2.1.below (SV1.mono hkV)).raise (Nat.le_trans hkV SV1.size))) ?_
            rintro e V2 ⟨vs, rfl, os, b2⟩
            obtain ⟨sa, sc, rfl, ms_, ls, _, hs_⟩ := own_s os hm.ok.2.1.1
            have ms := And.intro ms_ (show ∀ a, sa = some a → a.block ≠ b ∧ a.block ≠ r ∧ wk ≤ a.block from fun a e => by have := (hs_ a e).1; have := SV1.size; omega)
            have SV2 : Below V0.heap.size V0 V2 := SV1.trans (b2.mono SV1.size)
            replace ma := And.intro ((ma.1.below b2).raise b2.size) ma.2
            refine ⟨_, rfl, SV2.mono hkV, ?_⟩
            simp only [Act.put, List.setIfInBounds_toArray, List.set_cons_zero, List.set_cons_succ]
            refine anyH_one (i := 7) (by kernel_rfl) ?_
            refine op_val rfl (some 10) rfl (by kernel_rfl) (ex_load rfl rfl (load_anyI ((SV2.cell (p := ⟨b, 6, none⟩) hbV).trans c6))) ?_
            refine ⟨SV2.mono hkV, ?_⟩
            simp only [Act.put, List.setIfInBounds_toArray, List.set_cons_zero, List.set_cons_succ]
            refine anyH_take (i := 9) (v := .pointer (some ⟨b, 4, none⟩)) rfl (some 12) rfl (by kernel_rfl) (by kernel_rfl) (by kernel_rfl) (fun _ _ _ h => by cases h.1) (by kernel_rfl) (fun _ _ => ex_fldNd4 rfl rfl) (SV2.mono hkV) ?_
            simp only [Act.put, List.setIfInBounds_toArray, List.set_cons_zero, List.set_cons_succ]
            refine anyH_one (i := 8) (by kernel_rfl) ?_
            refine op_call rfl (some 11) rfl (by kernel_rfl) #[.slice v.ia n.items.length v.ic] rfl (by simp [Act.eval]) (fun _ _ => rfl) (copied_i v.ia v.ic n.items V2 ((hm.it.below (SV2.mono hkV)).raise (Nat.le_trans hkV SV2.size))) ?_
            rintro e V3 ⟨vi, rfl, oi, b3⟩
            obtain ⟨ia, ic, rfl, mi_, li, _, hi_⟩ := own_i oi hm.it.1
            have mi := And.intro mi_ (show ∀ a, ia = some a → a.block ≠ b ∧ a.block ≠ r ∧ wk ≤ a.block from fun a e => by have := (hi_ a e).1; have := SV2.size; omega)
            have SV3 : Below V0.heap.size V0 V3 := SV2.trans (b3.mono SV2.size)
            replace ma := And.intro ((ma.1.below b3).raise b3.size) ma.2
            replace ms := And.intro ((ms.1.below b3).raise b3.size) ms.2
            refine ⟨_, rfl, SV3.mono hkV, ?_⟩
            simp only [Act.put, List.setIfInBounds_toArray, List.set_cons_zero, List.set_cons_succ]
            have f3 := (SV3.block b hbV).trans f0
            have h1 := heap_setk (i := 4) (v := .slice aa n.affs.length ac) f3
            have h2 := heap_setk (i := 5) (v := .slice sa n.subs.length sc) h1
            have h3 := heap_setk (i := 6) (v := .slice ia n.items.length ic) h2
            have t0 : Below wk V0 V3 := SV3.mono hkV
            have t1 : Below wk V0 (V3.setCell ⟨b, 4, none⟩ (.slice aa n.affs.length ac)) := t0.setCell (p := ⟨b, 4, none⟩) hkb _
            have t2 : Below wk V0 ((V3.setCell ⟨b, 4, none⟩ (.slice aa n.affs.length ac)).setCell ⟨b, 5, none⟩ (.slice sa n.subs.length sc)) := t1.setCell (p := ⟨b, 5, none⟩) hkb _
            have t3 : Below wk V0 (((V3.setCell ⟨b, 4, none⟩ (.slice aa n.affs.length ac)).setCell ⟨b, 5, none⟩ (.slice sa n.subs.length sc)).setCell ⟨b, 6, none⟩ (.slice ia n.items.length ic)) := t2.setCell (p := ⟨b, 6, none⟩) hkb _
            refine anyH_skip (i := 10) (by kernel_rfl) rfl none rfl (by kernel_rfl) (ex_store rfl rfl rfl (store_any (size_one24 _) (box_cell f3 rfl) (box_froz f3))) t1 ?_
            simp only [Act.put]
            refine anyH_take (i := 11) (v := .pointer (some ⟨b, 5, none⟩)) rfl (some 13) rfl (by kernel_rfl) (by kernel_rfl) (by kernel_rfl) (fun _ _ _ h => by cases h.1) (by kernel_rfl) (fun _ _ => ex_fldNd5 rfl rfl) t1 ?_
            simp only [Act.put, List.setIfInBounds_toArray, List.set_cons_zero, List.set_cons_succ]
            refine anyH_skip (i := 12) (by kernel_rfl) rfl none rfl (by kernel_rfl) (ex_store rfl rfl rfl (store_any (size_one25 _) (box_cell h1 rfl) (box_froz h1))) t2 ?_
            simp only [Act.put]
            refine anyH_take (i := 13) (v := .pointer (some ⟨b, 6, none⟩)) rfl (some 14) rfl (by kernel_rfl) (by kernel_rfl) (by kernel_rfl) (fun _ _ _ h => by cases h.1) (by kernel_rfl) (fun _ _ => ex_fldNd6 rfl rfl) t2 ?_
            simp only [Act.put, List.setIfInBounds_toArray, List.set_cons_zero, List.set_cons_succ]
            refine anyH_skip (i := 14) (by kernel_rfl) rfl none rfl (by kernel_rfl) (ex_store rfl rfl rfl (store_any (size_one26 _) (box_cell h2 rfl) (box_froz h2))) t3 ?_
            simp only [Act.put]
            exact wpAnyH_done (by kernel_rfl) ⟨rfl, ⟨aa, ac, sa, sc, ia, ic⟩, fill (fresh_end hm f3 hbne (SV3.block r hrV) hr0 (hkW.trans t3) ma ms mi la ls li) (by kernel_rfl)⟩ _
          case p4x7 =>
            refine op_val rfl (some 10) rfl (by kernel_rfl) (ex_load rfl rfl (load_anyI ((SV1.cell (p := ⟨b, 6, none⟩) hbV).trans c6))) ?_
            refine ⟨SV1.mono hkV, ?_⟩
            simp only [Act.put, List.setIfInBounds_toArray, List.set_cons_zero, List.set_cons_succ]
            refine anyH_take (i := 9) (v := .pointer (some ⟨b, 4, none⟩)) rfl (some 12) rfl (by kernel_rfl) (by kernel_rfl) (by kernel_rfl) (fun _ _ _ h => by cases h.1) (by kernel_rfl) (fun _ _ => ex_fldNd4 rfl rfl) (SV1.mono hkV) ?_
            simp only [Act.put, List.setIfInBounds_toArray, List.set_cons_zero, List.set_cons_succ]
            refine anyH_one (i := 5) (by kernel_rfl) ?_
            refine op_call rfl (some 8) rfl (by kernel_rfl) #[.slice v.sa n.subs.length v.sc] rfl (by simp [Act.eval]) (fun _ _ => rfl) (copied_s v.sa v.sc n.subs V1 ((hm.ok.2.1.below (SV1.mono hkV)).raise (Nat.le_trans hkV SV1.size))) ?_
            rintro e V2 ⟨vs, rfl, os, b2⟩
            obtain ⟨sa, sc, rfl, ms_, ls, _, hs_⟩ := own_s os hm.ok.2.1.1
            have ms := And.intro ms_ (show ∀ a, sa = some a → a.block ≠ b ∧ a.block ≠ r ∧ wk ≤ a.block from fun a e => by have := (hs_ a e).1; have := SV1.size; omega)
            have SV2 : Below V0.heap.size V0 V2 := SV1.trans (b2.mono SV1.size)
            replace ma := And.intro ((ma.1.below b2).raise b2.size) ma.2
            refine ⟨_, rfl, SV2.mono hkV, ?_⟩
            simp only [Act.put, List.setIfInBounds_toArray, List.set_cons_zero, List.set_cons_succ]
            refine anyH_one (i := 8) (by kernel_rfl) ?_
            refine op_call rfl (some 11) rfl (by kernel_rfl) #[.slice v.ia n.items.length v.ic] rfl (by simp [Act.eval]) (fun _ _ => rfl) (copied_i v.ia v.ic n.items V2 ((hm.it.below (SV2.mono hkV)).raise (Nat.le_trans hkV SV2.size))) ?_
            rintro e V3 ⟨vi, rfl, oi, b3⟩
            obtain ⟨ia, ic, rfl, mi_, li, _, hi_⟩ := own_i oi hm.it.1
            have mi := And.intro mi_ (show ∀ a, ia = some a → a.block ≠ b ∧ a.block ≠ r ∧ wk ≤ a.block from fun a e => by have := (hi_ a e).1; have := SV2.size; omega)
            have SV3 : Below V0.heap.size V0 V3 := SV2.trans (b3.mono SV2.size)
            replace ma := And.intro ((ma.1.below b3).raise b3.size) ma.2
            replace ms := And.intro ((ms.1.below b3).raise b3.size) ms.2
            refine ⟨_, rfl, SV3.mono hkV, ?_⟩
            simp only [Act.put, List.setIfInBounds_toArray, List.set_cons_zero, List.set_cons_succ]
            have f3 := (SV3.block b hbV).trans f0
            have h1 := heap_setk (i := 4) (v := .slice aa n.affs.length ac) f3
            have h2 := heap_setk (i := 5) (v := .slice sa n.subs.length sc) h1
            have h3 := heap_setk (i := 6) (v := .slice ia n.items.length ic) h2
            have t0 : Below wk V0 V3 := SV3.mono hkV
            have t1 : Below wk V0 (V3.setCell ⟨b, 4, none⟩ (.slice aa n.affs.length ac)) := t0.setCell (p := ⟨b, 4, none⟩) hkb _
            have t2 : Below wk V0 ((V3.setCell ⟨b, 4, none⟩ (.slice aa n.affs.length ac)).setCell ⟨b, 5, none⟩ (.slice sa n.subs.length sc)) := t1.setCell (p := ⟨b, 5, none⟩) hkb _
            have t3 : Below wk V0 (((V3.setCell ⟨b, 4, none⟩ (.slice aa n.affs.length ac)).setCell ⟨b, 5, none⟩ (.slice sa n.subs.length sc)).setCell ⟨b, 6, none⟩ (.slice ia n.items.length ic)) := t2.setCell (p := ⟨b, 6, none⟩) hkb _
            refine anyH_skip (i := 10) (by kernel_rfl) rfl none rfl (by kernel_rfl) (ex_store rfl rfl rfl (store_any (size_one24 _) (box_cell f3 rfl) (box_froz f3))) t1 ?_
            simp only [Act.put]
            refine anyH_take (i := 11) (v := .pointer (some ⟨b, 5, none⟩)) rfl (some 13) rfl (by kernel_rfl) (by kernel_rfl) (by kernel_rfl) (fun _ _ _ h => by cases h.1) (by kernel_rfl) (fun _ _ => ex_fldNd5 rfl rfl) t1 ?_
            simp only [Act.put, List.setIfInBounds_toArray, List.set_cons_zero, List.set_cons_succ]
            refine anyH_skip (i := 12) (by kernel_rfl) rfl none rfl (by kernel_rfl) (ex_store rfl rfl rfl (store_any (size_one25 _) (box_cell h1 rfl) (box_froz h1))) t2 ?_
            simp only [Act.put]
            refine anyH_take (i := 13) (v := .pointer (some ⟨b, 6, none⟩)) rfl (some 14) rfl (by kernel_rfl) (by kernel_rfl) (by kernel_rfl) (fun _ _ _ h => by cases h.1) (by kernel_rfl) (fun _ _ => ex_fldNd6 rfl rfl) t2 ?_
            simp only [Act.put, List.setIfInBounds_toArray, List.set_cons_zero, List.set_cons_succ]
            refine anyH_skip (i := 14) (by kernel_rfl) rfl none rfl (by kernel_rfl) (ex_store rfl rfl rfl (store_any (size_one26 _) (box_cell h2 rfl) (box_froz h2))) t3 ?_
            simp only [Act.put]
            exact wpAnyH_done (by kernel_rfl) ⟨rfl, ⟨aa, ac, sa, sc, ia, ic⟩, fill (fresh_end hm f3 hbne (SV3.block r hrV) hr0 (hkW.trans t3) ma ms mi la ls li) (by kernel_rfl)⟩ _
        case p3x7 =>
          refine op_val rfl (some 10) rfl (by kernel_rfl) (ex_load rfl rfl (load_anyI ((SV1.cell (p := ⟨b, 6, none⟩) hbV).trans c6))) ?_
          refine ⟨SV1.mono hkV, ?_⟩
          simp only [Act.put, List.setIfInBounds_toArray, List.set_cons_zero, List.set_cons_succ]
          refine anyH_one (i := 4) (by kernel_rfl) ?_
          refine op_val rfl (some 7) rfl (by kernel_rfl) (ex_load rfl rfl (load_anyS ((SV1.cell (p := ⟨b, 5, none⟩) hbV).trans c5))) ?_
          refine ⟨SV1.mono hkV, ?_⟩
          simp only [Act.put, List.setIfInBounds_toArray, List.set_cons_zero, List.set_cons_succ]
          refine anyH_take (i := 9) (v := .pointer (some ⟨b, 4, none⟩)) rfl (some 12) rfl (by kernel_rfl) (by kernel_rfl) (by kernel_rfl) (fun _ _ _ h => by cases h.1) (by kernel_rfl) (fun _ _ => ex_fldNd4 rfl rfl) (SV1.mono hkV) ?_
          simp only [Act.put, List.setIfInBounds_toArray, List.set_cons_zero, List.set_cons_succ]
          refine anyH_one (i := 5) (by kernel_rfl) ?_
          refine op_call rfl (some 8) rfl (by kernel_rfl) #[.slice v.sa n.subs.length v.sc] rfl (by simp [Act.eval]) (fun _ _ => rfl) (copied_s v.sa v.sc n.subs V1 ((hm.ok.2.1.below (SV1.mono hkV)).raise (Nat.le_trans hkV SV1.size))) ?_
          rintro e V2 ⟨vs, rfl, os, b2⟩
          obtain ⟨sa, sc, rfl, ms_, ls, _, hs_⟩ := own_s os hm.ok.2.1.1
          have ms := And.intro ms_ (show ∀ a, sa = some a → a.block ≠ b ∧ a.block ≠ r ∧ wk ≤ a.block from fun a e => by have := (hs_ a e).1; have := SV1.size; omega)
          have SV2 : Below V0.heap.size V0 V2 := SV1.trans (b2.mono SV1.size)
          replace ma := And.intro ((ma.1.below b2).raise b2.size) ma.2
          refine ⟨_, rfl, SV2.mono hkV, ?_⟩
          simp only [Act.put, List.setIfInBounds_toArray, List.set_cons_zero, List.set_cons_succ]
          refine anyH_one (i := 8) (by kernel_rfl) ?_
          refine op_call rfl (some 11) rfl (by kernel_rfl) #[.slice v.ia n.items.length v.ic] rfl (by simp [Act.eval]) (fun _ _ => rfl) (copied_i v.ia v.ic n.items V2 ((hm.it.below (SV2.mono hkV)).raise (Nat.le_trans hkV SV2.size))) ?_
          rintro e V3 ⟨vi, rfl, oi, b3⟩
          obtain ⟨ia, ic, rfl, mi_, li, _, hi_⟩ := own_i oi hm.it.1
          have mi := And.intro mi_ (show ∀ a, ia = some a → a.block ≠ b ∧ a.block ≠ r ∧ wk ≤ a.block from fun a e => by have := (hi_ a e).1; have := SV2.size; omega)
          have SV3 : Below V0.heap.size V0 V3 := SV2.trans (b3.mono SV2.size)
          replace ma := And.intro ((ma.1.below b3).raise b3.size) ma.2
          replace ms := And.intro ((ms.1.below b3).raise b3.size) ms.2
          refine ⟨_, rfl, SV3.mono hkV, ?_⟩
          simp only [Act.put, List.setIfInBounds_toArray, List.set_cons_zero, List.set_cons_succ]
          have f3 := (SV3.block b hbV).trans f0
          have h1 := heap_setk (i := 4) (v := .slice aa n.affs.length ac) f3
          have h2 := heap_setk (i := 5) (v := .slice sa n.subs.length sc) h1
          have h3 := heap_setk (i := 6) (v := .slice ia n.items.length ic) h2
          have t0 : Below wk V0 V3 := SV3.mono hkV
          have t1 : Below wk V0 (V3.setCell ⟨b, 4, none⟩ (.slice aa n.affs.length ac)) := t0.setCell (p := ⟨b, 4, none⟩) hkb _
          have t2 : Below wk V0 ((V3.setCell ⟨b, 4, none⟩ (.slice aa n.affs.length ac)).setCell ⟨b, 5, none⟩ (.slice sa n.subs.length sc)) := t1.setCell (p := ⟨b, 5, none⟩) hkb _
          have t3 : Below wk V0 (((V3.setCell ⟨b, 4, none⟩ (.slice aa n.affs.length ac)).setCell ⟨b, 5, none⟩ (.slice sa n.subs.length sc)).setCell ⟨b, 6, none⟩ (.slice ia n.items.length ic)) := t2.setCell (p := ⟨b, 6, none⟩) hkb _
          refine anyH_skip (i := 10) (by kernel_rfl) rfl none rfl (by kernel_rfl) (ex_store rfl rfl rfl (store_any (size_one24 _) (box_cell f3 rfl) (box_froz f3))) t1 ?_
          simp only [Act.put]
          refine anyH_take (i := 11) (v := .pointer (some ⟨b, 5, none⟩)) rfl (some 13) rfl (by kernel_rfl) (by kernel_rfl) (by kernel_rfl) (fun _ _ _ h => by cases h.1) (by kernel_rfl) (fun _ _ => ex_fldNd5 rfl rfl) t1 ?_
          simp only [Act.put, List.setIfInBounds_toArray, List.set_cons_zero, List.set_cons_succ]
          refine anyH_skip (i := 12) (by kernel_rfl) rfl none rfl (by kernel_rfl) (ex_store rfl rfl rfl (store_any (size_one25 _) (box_cell h1 rfl) (box_froz h1))) t2 ?_
          simp only [Act.put]
          refine anyH_take (i := 13) (v := .pointer (some ⟨b, 6, none⟩)) rfl (some 14) rfl (by kernel_rfl) (by kernel_rfl) (by kernel_rfl) (fun _ _ _ h => by cases h.1) (by kernel_rfl) (fun _ _ => ex_fldNd6 rfl rfl) t2 ?_
          simp only [Act.put, List.setIfInBounds_toArray, List.set_cons_zero, List.set_cons_succ]
          refine anyH_skip (i := 14) (by kernel_rfl) rfl none rfl (by kernel_rfl) (ex_store rfl rfl rfl (store_any (size_one26 _) (box_cell h2 rfl) (box_froz h2))) t3 ?_
          simp only [Act.put]
          exact wpAnyH_done (by kernel_rfl) ⟨rfl, ⟨aa, ac, sa, sc, ia, ic⟩, fill (fresh_end hm f3 hbne (SV3.block r hrV) hr0 (hkW.trans t3) ma ms mi la ls li) (by kernel_rfl)⟩ _
      case p2x4 =>
        refine op_val rfl (some 7) rfl (by kernel_rfl) (ex_load rfl rfl (load_anyS ((SV0.cell (p := ⟨b, 5, none⟩) hbV).trans c5))) ?_
        refine ⟨SV0.mono hkV, ?_⟩
        simp only [Act.put, List.setIfInBounds_toArray, List.set_cons_zero, List.set_cons_succ]
        refine anyH_two (i := 2) (j := 7) (by kernel_rfl) ?p5x2 ?p5x7
        case p5x2 =>
          refine op_call rfl (some 5) rfl (by kernel_rfl) #[.slice v.aa n.affs.length v.ac] rfl (by simp [Act.eval]) (fun _ _ => rfl) (copied_a v.aa v.ac n.affs V0 ((hm.ok.1.below (SV0.mono hkV)).raise (Nat.le_trans hkV SV0.size))) ?_
          rintro e V1 ⟨va, rfl, oa, b1⟩
          obtain ⟨aa, ac, rfl, ma_, la, _, ha_⟩ := own_a oa hm.ok.1.1
          have ma := And.intro ma_ (show ∀ a, aa = some a → a.block ≠ b ∧ a.block ≠ r ∧ wk ≤ a.block from fun a e => by have := (ha_ a e).1; have := SV0.size; omega)
          have SV1 : Below V0.heap.size V0 V1 := SV0.trans (b1.mono SV0.size)
          refine ⟨_, rfl, SV1.mono hkV, ?_⟩
          simp only [Act.put, List.setIfInBounds_toArray, List.set_cons_zero, List.set_cons_succ]
          refine anyH_two (i := 5) (j := 7) (by kernel_rfl) ?p6x5 ?p6x7
          case p6x5 =>
            refine op_call rfl (some 8) rfl (by kernel_rfl) #[.slice v.sa n.subs.length v.sc] rfl (by simp [Act.eval]) (fun _ _ => rfl) (copied_s v.sa v.sc n.subs V1 ((hm.ok.2.1.below (SV1.mono hkV)).raise (Nat.le_trans hkV SV1.size))) ?_
            rintro e V2 ⟨vs, rfl, os, b2⟩
            obtain ⟨sa, sc, rfl, ms_, ls, _, hs_⟩ := own_s os hm.ok.2.1.1
            have ms := And.intro ms_ (show ∀ a, sa = some a → a.block ≠ b ∧ a.block ≠ r ∧ wk ≤ a.block from fun a e => by have := (hs_ a e).1; have := SV1.size; omega)
            have SV2 : Below V0.heap.size V0 V2 := SV1.trans (b2.mono SV1.size)
            replace ma := And.intro ((ma.1.below b2).raise b2.size) ma.2
            refine ⟨_, rfl, SV2.mono hkV, ?_⟩
            simp only [Act.put, List.setIfInBounds_toArray, List.set_cons_zero, List.set_cons_succ]
            refine anyH_one (i := 7) (by kernel_rfl) ?_
            refine op_val rfl (some 10) rfl (by kernel_rfl) (ex_load rfl rfl (load_anyI ((SV2.cell (p := ⟨b, 6, none⟩) hbV).trans c6))) ?_
            refine ⟨SV2.mono hkV, ?_⟩
            simp only [Act.put, List.setIfInBounds_toArray, List.set_cons_zero, List.set_cons_succ]
            refine anyH_take (i := 9) (v := .pointer (some ⟨b, 4, none⟩)) rfl (some 12) rfl (by kernel_rfl) (by kernel_rfl) (by kernel_rfl) (fun _ _ _ h => by cases h.1) (by kernel_rfl) (fun _ _ => ex_fldNd4 rfl rfl) (SV2.mono hkV) ?_
            simp only [Act.put, List.setIfInBounds_toArray, List.set_cons_zero, List.set_cons_succ]
            refine anyH_one (i := 8) (by kernel_rfl) ?_
            refine op_call rfl (some 11) rfl (by kernel_rfl) #[.slice v.ia n.items.length v.ic] rfl (by simp [Act.eval]) (fun _ _ => rfl) (copied_i v.ia v.ic n.items V2 ((hm.it.below (SV2.mono hkV)).raise (Nat.le_trans hkV SV2.size))) ?_
            rintro e V3 ⟨vi, rfl, oi, b3⟩
            obtain ⟨ia, ic, rfl, mi_, li, _, hi_⟩ := own_i oi hm.it.1
            have mi := And.intro mi_ (show ∀ a, ia = some a → a.block ≠ b ∧ a.block ≠ r ∧ wk ≤ a.block from fun a e => by have := (hi_ a e).1; have := SV2.size; omega)
            have SV3 : Below V0.heap.size V0 V3 := SV2.trans (b3.mono SV2.size)
            replace ma := And.intro ((ma.1.below b3).raise b3.size) ma.2
            replace ms := And.intro ((ms.1.below b3).raise b3.size) ms.2
            refine ⟨_, rfl, SV3.mono hkV, ?_⟩
            simp only [Act.put, List.setIfInBounds_toArray, List.set_cons_zero, List.set_cons_succ]
            have f3 := (SV3.block b hbV).trans f0
            have h1 := heap_setk (i := 4) (v := .slice aa n.affs.length ac) f3
            have h2 := heap_setk (i := 5) (v := .slice sa n.subs.length sc) h1
            have h3 := heap_setk (i := 6) (v := .slice ia n.items.length ic) h2
            have t0 : Below wk V0 V3 := SV3.mono hkV
            have t1 : Below wk V0 (V3.setCell ⟨b, 4, none⟩ (.slice aa n.affs.length ac)) := t0.setCell (p := ⟨b, 4, none⟩) hkb _
            have t2 : Below wk V0 ((V3.setCell ⟨b, 4, none⟩ (.slice aa n.affs.length ac)).setCell ⟨b, 5, none⟩ (.slice sa n.subs.length sc)) := t1.setCell (p := ⟨b, 5, none⟩) hkb _
            have t3 : Below wk V0 (((V3.setCell ⟨b, 4, none⟩ (.slice aa n.affs.length ac)).setCell ⟨b, 5, none⟩ (.slice sa n.subs.length sc)).setCell ⟨b, 6, none⟩ (.slice ia n.items.length ic)) := t2.setCell (p := ⟨b, 6, none⟩) hkb _
            refine anyH_skip (i := 10) (by kernel_rfl) rfl none rfl (by kernel_rfl) (ex_store rfl rfl rfl (store_any (size_one24 _) (box_cell f3 rfl) (box_froz f3))) t1 ?_
            simp only [Act.put]
            refine anyH_take (i := 11) (v := .pointer (some ⟨b, 5, none⟩)) rfl (some 13) rfl (by kernel_rfl) (by kernel_rfl) (by kernel_rfl) (fun _ _ _ h => by cases h.1) (by kernel_rfl) (fun _ _ => ex_fldNd5 rfl rfl) t1 ?_
            simp only [Act.put, List.setIfInBounds_toArray, List.set_cons_zero, List.set_cons_succ]
            refine anyH_skip (i := 12) (by kernel_rfl) rfl none rfl (by kernel_rfl) (ex_store rfl rfl rfl (store_any (size_one25 _) (box_cell h1 rfl) (box_froz h1))) t2 ?_
            simp only [Act.put]
            refine anyH_take (i := 13) (v := .pointer (some ⟨b, 6, none⟩)) rfl (some 14) rfl (by kernel_rfl) (by kernel_rfl) (by kernel_rfl) (fun _ _ _ h => by cases h.1) (by kernel_rfl) (fun _ _ => ex_fldNd6 rfl rfl) t2 ?_
            simp only [Act.put, List.setIfInBounds_toArray, List.set_cons_zero, List.set_cons_succ]
            refine anyH_skip (i := 14) (by kernel_rfl) rfl none rfl (by kernel_rfl) (ex_store rfl rfl rfl (store_any (size_one26 _) (box_cell h2 rfl) (box_froz h2))) t3 ?_
            simp only [Act.put]
            exact wpAnyH_done (by kernel_rfl) ⟨rfl, ⟨aa, ac, sa, sc, ia, ic⟩, fill (fresh_end hm f3 hbne (SV3.block r hrV) hr0 (hkW.trans t3) ma ms mi la ls li) (by kernel_rfl)⟩ _
          case p6x7 =>
            refine op_val rfl (some 10) rfl (by kernel_rfl) (ex_load rfl rfl (load_anyI ((SV1.cell (p := ⟨b, 6, none⟩) hbV).trans c6))) ?_
            refine ⟨SV1.mono hkV, ?_⟩
            simp only [Act.put, List.setIfInBounds_toArray, List.set_cons_zero, List.set_cons_succ]
            refine anyH_take (i := 9) (v := .pointer (some ⟨b, 4, none⟩)) rfl (some 12) rfl (by kernel_rfl) (by kernel_rfl) (by kernel_rfl) (fun _ _ _ h => by cases h.1) (by kernel_rfl) (fun _ _ => ex_fldNd4 rfl rfl) (SV1.mono hkV) ?_
            simp only [Act.put, List.setIfInBounds_toArray, List.set_cons_zero, List.set_cons_succ]
            refine anyH_one (i := 5) (by kernel_rfl) ?_
            refine op_call rfl (some 8) rfl (by kernel_rfl) #[.slice v.sa n.subs.length v.sc] rfl (by simp [Act.eval]) (fun _ _ => rfl) (copied_s v.sa v.sc n.subs V1 ((hm.ok.2.1.below (SV1.mono hkV)).raise (Nat.le_trans hkV SV1.size))) ?_
            rintro e V2 ⟨vs, rfl, os, b2⟩
            obtain ⟨sa, sc, rfl, ms_, ls, _, hs_⟩ := own_s os hm.ok.2.1.1
            have ms := And.intro ms_ (show ∀ a, sa = some a → a.block ≠ b ∧ a.block ≠ r ∧ wk ≤ a.block from fun a e => by have := (hs_ a e).1; have := SV1.size; omega)
            have SV2 : Below V0.heap.size V0 V2 := SV1.trans (b2.mono SV1.size)
            replace ma := And.intro ((ma.1.below b2).raise b2.size) ma.2
            refine ⟨_, rfl, SV2.mono hkV, ?_⟩
            simp only [Act.put, List.setIfInBounds_toArray, List.set_cons_zero, List.set_cons_succ]
            refine anyH_one (i := 8) (by kernel_rfl) ?_
            refine op_call rfl (some 11) rfl (by kernel_rfl) #[.slice v.ia n.items.length v.ic] rfl (by simp [Act.eval]) (fun _ _ => rfl) (copied_i v.ia v.ic n.items V2 ((hm.it.below (SV2.mono hkV)).raise (Nat.le_trans hkV SV2.size))) ?_
            rintro e V3 ⟨vi, rfl, oi, b3⟩
            obtain ⟨ia, ic, rfl, mi_, li, _, hi_⟩ := own_i oi hm.it.1
            have mi := And.intro mi_ (show ∀ a, ia = some a → a.block ≠ b ∧ a.block ≠ r ∧ wk ≤ a.block from fun a e => by have := (hi_ a e).1; have := SV2.size; omega)
            have SV3 : Below V0.heap.size V0 V3 := SV2.trans (b3.mono SV2.size)
            replace ma := And.intro ((ma.1.below b3).raise b3.size) ma.2
            replace ms := And.intro ((ms.1.below b3).raise b3.size) ms.2
            refine ⟨_, rfl, SV3.mono hkV, ?_⟩
            simp only [Act.put, List.setIfInBounds_toArray, List.set_cons_zero, List.set_cons_succ]
            have f3 := (SV3.block b hbV).trans f0
            have h1 := heap_setk (i := 4) (v := .slice aa n.affs.length ac) f3
            have h2 := heap_setk (i := 5) (v := .slice sa n.subs.length sc) h1
            have h3 := heap_setk (i := 6) (v := .slice ia n.items.length ic) h2
            have t0 : Below wk V0 V3 := SV3.mono hkV
            have t1 : Below wk V0 (V3.setCell ⟨b, 4, none⟩ (.slice aa n.affs.length ac)) := t0.setCell (p := ⟨b, 4, none⟩) hkb _
            have t2 : Below wk V0 ((V3.setCell ⟨b, 4, none⟩ (.slice aa n.affs.length ac)).setCell ⟨b, 5, none⟩ (.slice sa n.subs.length sc)) := t1.setCell (p := ⟨b, 5, none⟩) hkb _
            have t3 : Below wk V0 (((V3.setCell ⟨b, 4, none⟩ (.slice aa n.affs.length ac)).setCell ⟨b, 5, none⟩ (.slice sa n.subs.length sc)).setCell ⟨b, 6, none⟩ (.slice ia n.items.length ic)) := t2.setCell (p := ⟨b, 6, none⟩) hkb _
            refine anyH_skip (i := 10) (by kernel_rfl) rfl none rfl (by kernel_rfl) (ex_store rfl rfl rfl (store_any (size_one24 _) (box_cell f3 rfl) (box_froz f3))) t1 ?_
            simp only [Act.put]
            refine anyH_take (i := 11) (v := .pointer (some ⟨b, 5, none⟩)) rfl (some 13) rfl (by kernel_rfl) (by kernel_rfl) (by kernel_rfl) (fun _ _ _ h => by cases h.1) (by kernel_rfl) (fun _ _ => ex_fldNd5 rfl rfl) t1 ?_
            simp only [Act.put, List.setIfInBounds_toArray, List.set_cons_zero, List.set_cons_succ]
            refine anyH_skip (i := 12) (by kernel_rfl) rfl none rfl (by kernel_rfl) (ex_store rfl rfl rfl (store_any (size_one25 _) (box_cell h1 rfl) (box_froz h1))) t2 ?_
            simp only [Act.put]
            refine anyH_take (i := 13) (v := .pointer (some ⟨b, 6, none⟩)) rfl (some 14) rfl (by kernel_rfl) (by kernel_rfl) (by kernel_rfl) (fun _ _ _ h => by cases h.1) (by kernel_rfl) (fun _ _ => ex_fldNd6 rfl rfl) t2 ?_
            simp only [Act.put, List.setIfInBounds_toArray, List.set_cons_zero, List.set_cons_succ]
            refine anyH_skip (i := 14) (by kernel_rfl) rfl none rfl (by kernel_rfl) (ex_store rfl rfl rfl (store_any (size_one26 _) (box_cell h2 rfl) (box_froz h2))) t3 ?_
            simp only [Act.put]
            exact wpAnyH_done (by kernel_rfl) ⟨rfl, ⟨aa, ac, sa, sc, ia, ic⟩, fill (fresh_end hm f3 hbne (SV3.block r hrV) hr0 (hkW.trans t3) ma ms mi la ls li) (by kernel_rfl)⟩ _
        case p5x7 =>
          refine op_val rfl (some 10) rfl (by kernel_rfl) (ex_load rfl rfl (load_anyI ((SV0.cell (p := ⟨b, 6, none⟩) hbV).trans c6))) ?_
          refine ⟨SV0.mono hkV, ?_⟩
          simp only [Act.put, List.setIfInBounds_toArray, List.set_cons_zero, List.set_cons_succ]
          refine anyH_one (i := 2) (by kernel_rfl) ?_
          refine op_call rfl (some 5) rfl (by kernel_rfl) #[.slice v.aa n.affs.length v.ac] rfl (by simp [Act.eval]) (fun _ _ => rfl) (copied_a v.aa v.ac n.affs V0 ((hm.ok.1.below (SV0.mono hkV)).raise (Nat.le_trans hkV SV0.size))) ?_
          rintro e V1 ⟨va, rfl, oa, b1⟩
          obtain ⟨aa, ac, rfl, ma_, la, _, ha_⟩ := own_a oa hm.ok.1.1
          have ma := And.intro ma_ (show ∀ a, aa = some a → a.block ≠ b ∧ a.block ≠ r ∧ wk ≤ a.block from fun a e => by have := (ha_ a e).1; have := SV0.size; omega)
          have SV1 : Below V0.heap.size V0 V1 := SV0.trans (b1.mono SV0.size)
          refine ⟨_, rfl, SV1.mono hkV, ?_⟩
          simp only [Act.put, List.setIfInBounds_toArray, List.set_cons_zero, List.set_cons_succ]
          refine anyH_take (i := 9) (v := .pointer (some ⟨b, 4, none⟩)) rfl (some 12) rfl (by kernel_rfl) (by kernel_rfl) (by kernel_rfl) (fun _ _ _ h => by cases h.1) (by kernel_rfl) (fun _ _ => ex_fldNd4 rfl rfl) (SV1.mono hkV) ?_
          simp only [Act.put, List.setIfInBounds_toArray, List.set_cons_zero, List.set_cons_succ]
          refine anyH_one (i := 5) (by kernel_rfl) ?_
          refine op_call rfl (some 8) rfl (by kernel_rfl) #[.slice v.sa n.subs.length v.sc] rfl (by simp [Act.eval]) (fun _ _ => rfl) (copied_s v.sa v.sc n.subs V1 ((hm.ok.2.1.below (SV1.mono hkV)).raise (Nat.le_trans hkV SV1.size))) ?_
          rintro e V2 ⟨vs, rfl, os, b2⟩
          obtain ⟨sa, sc, rfl, ms_, ls, _, hs_⟩ := own_s os hm.ok.2.1.1
          have ms := And.intro ms_ (show ∀ a, sa = some a → a.block ≠ b ∧ a.block ≠ r ∧ wk ≤ a.block from fun a e => by have := (hs_ a e).1; have := SV1.size; omega)
          have SV2 : Below V0.heap.size V0 V2 := SV1.trans (b2.mono SV1.size)
          replace ma := And.intro ((ma.1.below b2).raise b2.size) ma.2
          refine ⟨_, rfl, SV2.mono hkV, ?_⟩
          simp only [Act.put, List.setIfInBounds_toArray, List.set_cons_zero, List.set_cons_succ]
          refine anyH_one (i := 8) (by kernel_rfl) ?_
          refine op_call rfl (some 11) rfl (by kernel_rfl) #[.slice v.ia n.items.length v.ic] rfl (by simp [Act.eval]) (fun _ _ => rfl) (copied_i v.ia v.ic n.items V2 ((hm.it.below (SV2.mono hkV)).raise (Nat.le_trans hkV SV2.size))) ?_
          rintro e V3 ⟨vi, rfl, oi, b3⟩
          obtain ⟨ia, ic, rfl, mi_, li, _, hi_⟩ := own_i oi hm.it.1
          have mi := And.intro mi_ (show ∀ a, ia = some a → a.block ≠ b ∧ a.block ≠ r ∧ wk ≤ a.block from fun a e => by have := (hi_ a e).1; have := SV2.size; omega)
          have SV3 : Below V0.heap.size V0 V3 := SV2.trans (b3.mono SV2.size)
          replace ma := And.intro ((ma.1.below b3).raise b3.size) ma.2
          replace ms := And.intro ((ms.1.below b3).raise b3.size) ms.2
          refine ⟨_, rfl, SV3.mono hkV, ?_⟩
          simp only [Act.put, List.setIfInBounds_toArray, List.set_cons_zero, List.set_cons_succ]
          have f3 := (SV3.block b hbV).trans f0
          have h1 := heap_setk (i := 4) (v := .slice aa n.affs.length ac) f3
          have h2 := heap_setk (i := 5) (v := .slice sa n.subs.length sc) h1
          have h3 := heap_setk (i := 6) (v := .slice ia n.items.length ic) h2
          have t0 : Below wk V0 V3 := SV3.mono hkV
          have t1 : Below wk V0 (V3.setCell ⟨b, 4, none⟩ (.slice aa n.affs.length ac)) := t0.setCell (p := ⟨b, 4, none⟩) hkb _
          have t2 : Below wk V0 ((V3.setCell ⟨b, 4, none⟩ (.slice aa n.affs.length ac)).setCell ⟨b, 5, none⟩ (.slice sa n.subs.length sc)) := t1.setCell (p := ⟨b, 5, none⟩) hkb _
          have t3 : Below wk V0 (((V3.setCell ⟨b, 4, none⟩ (.slice aa n.affs.length ac)).setCell ⟨b, 5, none⟩ (.slice sa n.subs.length sc)).setCell ⟨b, 6, none⟩ (.slice ia n.items.length ic)) := t2.setCell (p := ⟨b, 6, none⟩) hkb _
          refine anyH_skip (i := 10) (by kernel_rfl) rfl none rfl (by kernel_rfl) (ex_store rfl rfl rfl (store_any (size_one24 _) (box_cell f3 rfl) (box_froz f3))) t1 ?_
          simp only [Act.put]
          refine anyH_take (i := 11) (v := .pointer (some ⟨b, 5, none⟩)) rfl (some 13) rfl (by kernel_rfl) (by kernel_rfl) (by kernel_rfl) (fun _ _ _ h => by cases h.1) (by kernel_rfl) (fun _ _ => ex_fldNd5 rfl rfl) t1 ?_
          simp only [Act.put, List.setIfInBounds_toArray, List.set_cons_zero, List.set_cons_succ]
          refine anyH_skip (i := 12) (by kernel_rfl) rfl none rfl (by kernel_rfl) (ex_store rfl rfl rfl (store_any (size_one25 _) (box_cell h1 rfl) (box_froz h1))) t2 ?_
          simp only [Act.put]
          refine anyH_take (i := 13) (v := .pointer (some ⟨b, 6, none⟩)) rfl (some 14) rfl (by kernel_rfl) (by kernel_rfl) (by kernel_rfl) (fun _ _ _ h => by cases h.1) (by kernel_rfl) (fun _ _ => ex_fldNd6 rfl rfl) t2 ?_
          simp only [Act.put, List.setIfInBounds_toArray, List.set_cons_zero, List.set_cons_succ]
          refine anyH_skip (i := 14) (by kernel_rfl) rfl none rfl (by kernel_rfl) (ex_store rfl rfl rfl (store_any (size_one26 _) (box_cell h2 rfl) (box_froz h2))) t3 ?_
          simp only [Act.put]
          exact wpAnyH_done (by kernel_rfl) ⟨rfl, ⟨aa, ac, sa, sc, ia, ic⟩, fill (fresh_end hm f3 hbne (SV3.block r hrV) hr0 (hkW.trans t3) ma ms mi la ls li) (by kernel_rfl)⟩ _
      case p2x7 =>
        refine op_val rfl (some 10) rfl (by kernel_rfl) (ex_load rfl rfl (load_anyI ((SV0.cell (p := ⟨b, 6, none⟩) hbV).trans c6))) ?_
        refine ⟨SV0.mono hkV, ?_⟩
        simp only [Act.put, List.setIfInBounds_toArray, List.set_cons_zero, List.set_cons_succ]
        refine anyH_two (i := 2) (j := 4) (by kernel_rfl) ?p7x2 ?p7x4
        case p7x2 =>
          refine op_call rfl (some 5) rfl (by kernel_rfl) #[.slice v.aa n.affs.length v.ac] rfl (by simp [Act.eval]) (fun _ _ => rfl) (copied_a v.aa v.ac n.affs V0 ((hm.ok.1.below (SV0.mono hkV)).raise (Nat.le_trans hkV SV0.size))) ?_
          rintro e V1 ⟨va, rfl, oa, b1⟩
          obtain ⟨aa, ac, rfl, ma_, la, _, ha_⟩ := own_a oa hm.ok.1.1
          have ma := And.intro ma_ (show ∀ a, aa = some a → a.block ≠ b ∧ a.block ≠ r ∧ wk ≤ a.block from fun a e => by have := (ha_ a e).1; have := SV0.size; omega)
          have SV1 : Below V0.heap.size V0 V1 := SV0.trans (b1.mono SV0.size)
          refine ⟨_, rfl, SV1.mono hkV, ?_⟩
          simp only [Act.put, List.setIfInBounds_toArray, List.set_cons_zero, List.set_cons_succ]
          refine anyH_one (i := 4) (by kernel_rfl) ?_
          refine op_val rfl (some 7) rfl (by kernel_rfl) (ex_load rfl rfl (load_anyS ((SV1.cell (p := ⟨b, 5, none⟩) hbV).trans c5))) ?_
          refine ⟨SV1.mono hkV, ?_⟩
          simp only [Act.put, List.setIfInBounds_toArray, List.set_cons_zero, List.set_cons_succ]
          refine anyH_take (i := 9) (v := .pointer (some ⟨b, 4, none⟩)) rfl (some 12) rfl (by kernel_rfl) (by kernel_rfl) (by kernel_rfl) (fun _ _ _ h => by cases h.1) (by kernel_rfl) (fun _ _ => ex_fldNd4 rfl rfl) (SV1.mono hkV) ?_
          simp only [Act.put, List.setIfInBounds_toArray, List.set_cons_zero, List.set_cons_succ]
          refine anyH_one (i := 5) (by kernel_rfl) ?_
          refine op_call rfl (some 8) rfl (by kernel_rfl) #[.slice v.sa n.subs.length v.sc] rfl (by simp [Act.eval]) (fun _ _ => rfl) (copied_s v.sa v.sc n.subs V1 ((hm.ok.2.1.below (SV1.mono hkV)).raise (Nat.le_trans hkV SV1.size))) ?_
          rintro e V2 ⟨vs, rfl, os, b2⟩
          obtain ⟨sa, sc, rfl, ms_, ls, _, hs_⟩ := own_s os hm.ok.2.1.1
          have ms := And.intro ms_ (show ∀ a, sa = some a → a.block ≠ b ∧ a.block ≠ r ∧ wk ≤ a.block from fun a e => by have := (hs_ a e).1; have := SV1.size; omega)
          have SV2 : Below V0.heap.size V0 V2 := SV1.trans (b2.mono SV1.size)
          replace ma := And.intro ((ma.1.below b2).raise b2.size) ma.2
          refine ⟨_, rfl, SV2.mono hkV, ?_⟩
          simp only [Act.put, List.setIfInBounds_toArray, List.set_cons_zero, List.set_cons_succ]
          refine anyH_one (i := 8) (by kernel_rfl) ?_
          refine op_call rfl (some 11) rfl (by kernel_rfl) #[.slice v.ia n.items.length v.ic] rfl (by simp [Act.eval]) (fun _ _ => rfl) (copied_i v.ia v.ic n.items V2 ((hm.it.below (SV2.mono hkV)).raise (Nat.le_trans hkV SV2.size))) ?_
          rintro e V3 ⟨vi, rfl, oi, b3⟩
          obtain ⟨ia, ic, rfl, mi_, li, _, hi_⟩ := own_i oi hm.it.1
          have mi := And.intro mi_ (show ∀ a, ia = some a → a.block ≠ b ∧ a.block ≠ r ∧ wk ≤ a.block from fun a e => by have := (hi_ a e).1; have := SV2.size; omega)
          have SV3 : Below V0.heap.size V0 V3 := SV2.trans (b3.mono SV2.size)
          replace ma := And.intro ((ma.1.below b3).raise b3.size) ma.2
          replace ms := And.intro ((ms.1.below b3).raise b3.size) ms.2
          refine ⟨_, rfl, SV3.mono hkV, ?_⟩
          simp only [Act.put, List.setIfInBounds_toArray, List.set_cons_zero, List.set_cons_succ]
          have f3 := (SV3.block b hbV).trans f0
          have h1 := heap_setk (i := 4) (v := .slice aa n.affs.length ac) f3
          have h2 := heap_setk (i := 5) (v := .slice sa n.subs.length sc) h1
          have h3 := heap_setk (i := 6) (v := .slice ia n.items.length ic) h2
          have t0 : Below wk V0 V3 := SV3.mono hkV
          have t1 : Below wk V0 (V3.setCell ⟨b, 4, none⟩ (.slice aa n.affs.length ac)) := t0.setCell (p := ⟨b, 4, none⟩) hkb _
          have t2 : Below wk V0 ((V3.setCell ⟨b, 4, none⟩ (.slice aa n.affs.length ac)).setCell ⟨b, 5, none⟩ (.slice sa n.subs.length sc)) := t1.setCell (p := ⟨b, 5, none⟩) hkb _
          have t3 : Below wk V0 (((V3.setCell ⟨b, 4, none⟩ (.slice aa n.affs.length ac)).setCell ⟨b, 5, none⟩ (.slice sa n.subs.length sc)).setCell ⟨b, 6, none⟩ (.slice ia n.items.length ic)) := t2.setCell (p := ⟨b, 6, none⟩) hkb _
          refine anyH_skip (i := 10) (by kernel_rfl) rfl none rfl (by kernel_rfl) (ex_store rfl rfl rfl (store_any (size_one24 _) (box_cell f3 rfl) (box_froz f3))) t1 ?_
          simp only [Act.put]
          refine anyH_take (i := 11) (v := .pointer (some ⟨b, 5, none⟩)) rfl (some 13) rfl (by kernel_rfl) (by kernel_rfl) (by kernel_rfl) (fun _ _ _ h => by cases h.1) (by kernel_rfl) (fun _ _ => ex_fldNd5 rfl rfl) t1 ?_
          simp only [Act.put, List.setIfInBounds_toArray, List.set_cons_zero, List.set_cons_succ]
          refine anyH_skip (i := 12) (by kernel_rfl) rfl none rfl (by kernel_rfl) (ex_store rfl rfl rfl (store_any (size_one25 _) (box_cell h1 rfl) (box_froz h1))) t2 ?_
          simp only [Act.put]
          refine anyH_take (i := 13) (v := .pointer (some ⟨b, 6, none⟩)) rfl (some 14) rfl (by kernel_rfl) (by kernel_rfl) (by kernel_rfl) (fun _ _ _ h => by cases h.1) (by kernel_rfl) (fun _ _ => ex_fldNd6 rfl rfl) t2 ?_
          simp only [Act.put, List.setIfInBounds_toArray, List.set_cons_zero, List.set_cons_succ]
          refine anyH_skip (i := 14) (by kernel_rfl) rfl none rfl (by kernel_rfl) (ex_store rfl rfl rfl (store_any (size_one26 _) (box_cell h2 rfl) (box_froz h2))) t3 ?_
          simp only [Act.put]
          exact wpAnyH_done (by kernel_rfl) ⟨rfl, ⟨aa, ac, sa, sc, ia, ic⟩, fill (fresh_end hm f3 hbne (SV3.block r hrV) hr0 (hkW.trans t3) ma ms mi la ls li) (by kernel_rfl)⟩ _
        case p7x4 =>
          refine op_val rfl (some 7) rfl (by kernel_rfl) (ex_load rfl rfl (load_anyS ((SV0.cell (p := ⟨b, 5, none⟩) hbV).trans c5))) ?_
          refine ⟨SV0.mono hkV, ?_⟩
          simp only [Act.put, List.setIfInBounds_toArray, List.set_cons_zero, List.set_cons_succ]
          refine anyH_one (i := 2) (by kernel_rfl) ?_
          refine op_call rfl (some 5) rfl (by kernel_rfl) #[.slice v.aa n.affs.length v.ac] rfl (by simp [Act.eval]) (fun _ _ => rfl) (copied_a v.aa v.ac n.affs V0 ((hm.ok.1.below (SV0.mono hkV)).raise (Nat.le_trans hkV SV0.size))) ?_
          rintro e V1 ⟨va, rfl, oa, b1⟩
          obtain ⟨aa, ac, rfl, ma_, la, _, ha_⟩ := own_a oa hm.ok.1.1
          have ma := And.intro ma_ (show ∀ a, aa = some a → a.block ≠ b ∧ a.block ≠ r ∧ wk ≤ a.block from fun a e => by have := (ha_ a e).1; have := SV0.size; omega)
          have SV1 : Below V0.heap.size V0 V1 := SV0.trans (b1.mono SV0.size)
          refine ⟨_, rfl, SV1.mono hkV, ?_⟩
          simp only [Act.put, List.setIfInBounds_toArray, List.set_cons_zero, List.set_cons_succ]
          refine anyH_take (i := 9) (v := .pointer (some ⟨b, 4, none⟩)) rfl (some 12) rfl (by kernel_rfl) (by kernel_rfl) (by kernel_rfl) (fun _ _ _ h => by cases h.1) (by kernel_rfl) (fun _ _ => ex_fldNd4 rfl rfl) (SV1.mono hkV) ?_
          simp only [Act.put, List.setIfInBounds_toArray, List.set_cons_zero, List.set_cons_succ]
          refine anyH_one (i := 5) (by kernel_rfl) ?_
          refine op_call rfl (some 8) rfl (by kernel_rfl) #[.slice v.sa n.subs.length v.sc] rfl (by simp [Act.eval]) (fun _ _ => rfl) (copied_s v.sa v.sc n.subs V1 ((hm.ok.2.1.below (SV1.mono hkV)).raise (Nat.le_trans hkV SV1.size))) ?_
          rintro e V2 ⟨vs, rfl, os, b2⟩
          obtain ⟨sa, sc, rfl, ms_, ls, _, hs_⟩ := own_s os hm.ok.2.1.1
          have ms := And.intro ms_ (show ∀ a, sa = some a → a.block ≠ b ∧ a.block ≠ r ∧ wk ≤ a.block from fun a e => by have := (hs_ a e).1; have := SV1.size; omega)
          have SV2 : Below V0.heap.size V0 V2 := SV1.trans (b2.mono SV1.size)
          replace ma := And.intro ((ma.1.below b2).raise b2.size) ma.2
          refine ⟨_, rfl, SV2.mono hkV, ?_⟩
          simp only [Act.put, List.setIfInBounds_toArray, List.set_cons_zero, List.set_cons_succ]
          refine anyH_one (i := 8) (by kernel_rfl) ?_
          refine op_call rfl (some 11) rfl (by kernel_rfl) #[.slice v.ia n.items.length v.ic] rfl (by simp [Act.eval]) (fun _ _ => rfl) (copied_i v.ia v.ic n.items V2 ((hm.it.below (SV2.mono hkV)).raise (Nat.le_trans hkV SV2.size))) ?_
          rintro e V3 ⟨vi, rfl, oi, b3⟩
          obtain ⟨ia, ic, rfl, mi_, li, _, hi_⟩ := own_i oi hm.it.1
          have mi := And.intro mi_ (show ∀ a, ia = some a → a.block ≠ b ∧ a.block ≠ r ∧ wk ≤ a.block from fun a e => by have := (hi_ a e).1; have := SV2.size; omega)
          have SV3 : Below V0.heap.size V0 V3 := SV2.trans (b3.mono SV2.size)
          replace ma := And.intro ((ma.1.below b3).raise b3.size) ma.2
          replace ms := And.intro ((ms.1.below b3).raise b3.size) ms.2
          refine ⟨_, rfl, SV3.mono hkV, ?_⟩
          simp only [Act.put, List.setIfInBounds_toArray, List.set_cons_zero, List.set_cons_succ]
          have f3 := (SV3.block b hbV).trans f0
          have h1 := heap_setk (i := 4) (v := .slice aa n.affs.length ac) f3
          have h2 := heap_setk (i := 5) (v := .slice sa n.subs.length sc) h1
          have h3 := heap_setk (i := 6) (v := .slice ia n.items.length ic) h2
          have t0 : Below wk V0 V3 := SV3.mono hkV
          have t1 : Below wk V0 (V3.setCell ⟨b, 4, none⟩ (.slice aa n.affs.length ac)) := t0.setCell (p := ⟨b, 4, none⟩) hkb _
          have t2 : Below wk V0 ((V3.setCell ⟨b, 4, none⟩ (.slice aa n.affs.length ac)).setCell ⟨b, 5, none⟩ (.slice sa n.subs.length sc)) := t1.setCell (p := ⟨b, 5, none⟩) hkb _
          have t3 : Below wk V0 (((V3.setCell ⟨b, 4, none⟩ (.slice aa n.affs.length ac)).setCell ⟨b, 5, none⟩ (.slice sa n.subs.length sc)).setCell ⟨b, 6, none⟩ (.slice ia n.items.length ic)) := t2.setCell (p := ⟨b, 6, none⟩) hkb _
          refine anyH_skip (i := 10) (by kernel_rfl) rfl none rfl (by kernel_rfl) (ex_store rfl rfl rfl (store_any (size_one24 _) (box_cell f3 rfl) (box_froz f3))) t1 ?_
          simp only [Act.put]
          refine anyH_take (i := 11) (v := .pointer (some ⟨b, 5, none⟩)) rfl (some 13) rfl (by kernel_rfl) (by kernel_rfl) (by kernel_rfl) (fun _ _ _ h => by cases h.1) (by kernel_rfl) (fun _ _ => ex_fldNd5 rfl rfl) t1 ?_
          simp only [Act.put, List.setIfInBounds_toArray, List.set_cons_zero, List.set_cons_succ]
          refine anyH_skip (i := 12) (by kernel_rfl) rfl none rfl (by kernel_rfl) (ex_store rfl rfl rfl (store_any (size_one25 _) (box_cell h1 rfl) (box_froz h1))) t2 ?_
          simp only [Act.put]
          refine anyH_take (i := 13) (v := .pointer (some ⟨b, 6, none⟩)) rfl (some 14) rfl (by kernel_rfl) (by kernel_rfl) (by kernel_rfl) (fun _ _ _ h => by cases h.1) (by kernel_rfl) (fun _ _ => ex_fldNd6 rfl rfl) t2 ?_
          simp only [Act.put, List.setIfInBounds_toArray, List.set_cons_zero, List.set_cons_succ]
          refine anyH_skip (i := 14) (by kernel_rfl) rfl none rfl (by kernel_rfl) (ex_store rfl rfl rfl (store_any (size_one26 _) (box_cell h2 rfl) (box_froz h2))) t3 ?_
          simp only [Act.put]
          exact wpAnyH_done (by kernel_rfl) ⟨rfl, ⟨aa, ac, sa, sc, ia, ic⟩, fill (fresh_end hm f3 hbne (SV3.block r hrV) hr0 (hkW.trans t3) ma ms mi la ls li) (by kernel_rfl)⟩ _
    case p1x4 =>
      refine op_val rfl (some 7) rfl (by kernel_rfl) (ex_load rfl rfl (load_anyS ((SV0.cell (p := ⟨b, 5, none⟩) hbV).trans c5))) ?_
      refine ⟨SV0.mono hkV, ?_⟩
      simp only [Act.put, List.setIfInBounds_toArray, List.set_cons_zero, List.set_cons_succ]
      refine anyH_two (i := 1) (j := 7) (by kernel_rfl) ?p8x1 ?p8x7
      case p8x1 =>
        refine op_val rfl (some 4) rfl (by kernel_rfl) (ex_load rfl rfl (load_anyA ((SV0.cell (p := ⟨b, 4, none⟩) hbV).trans c4))) ?_
        refine ⟨SV0.mono hkV, ?_⟩
        simp only [Act.put, List.setIfInBounds_toArray, List.set_cons_zero, List.set_cons_succ]
        refine anyH_two (i := 2) (j := 7) (by kernel_rfl) ?p9x2 ?p9x7
        case p9x2 =>
          refine op_call rfl (some 5) rfl (by kernel_rfl) #[.slice v.aa n.affs.length v.ac] rfl (by simp [Act.eval]) (fun _ _ => rfl) (copied_a v.aa v.ac n.affs V0 ((hm.ok.1.below (SV0.mono hkV)).raise (Nat.le_trans hkV SV0.size))) ?_
          rintro e V1 ⟨va, rfl, oa, b1⟩
          obtain ⟨aa, ac, rfl, ma_, la, _, ha_⟩ := own_a oa hm.ok.1.1
          have ma := And.intro ma_ (show ∀ a, aa = some a → a.block ≠ b ∧ a.block ≠ r ∧ wk ≤ a.block from fun a e => by have := (ha_ a e).1; have := SV0.size; omega)
          have SV1 : Below V0.heap.size V0 V1 := SV0.trans (b1.mono SV0.size)
          refine ⟨_, rfl, SV1.mono hkV, ?_⟩
          simp only [Act.put, List.setIfInBounds_toArray, List.set_cons_zero, List.set_cons_succ]
          refine anyH_two (i := 5) (j := 7) (by kernel_rfl) ?p10x5 ?p10x7
          case p10x5 =>
            refine op_call rfl (some 8) rfl (by kernel_rfl) #[.slice v.sa n.subs.length v.sc] rfl (by simp [Act.eval]) (fun _ _ => rfl) (copied_s v.sa v.sc n.subs V1 ((hm.ok.2.1.below (SV1.mono hkV)).raise (Nat.le_trans hkV SV1.size))) ?_
            rintro e V2 ⟨vs, rfl, os, b2⟩
            obtain ⟨sa, sc, rfl, ms_, ls, _, hs_⟩ := own_s os hm.ok.2.1.1
            have ms := And.intro ms_ (show ∀ a, sa = some a → a.block ≠ b ∧ a.block ≠ r ∧ wk ≤ a.block from fun a e => by have := (hs_ a e).1; have := SV1.size; omega)
            have SV2 : Below V0.heap.size V0 V2 := SV1.trans (b2.mono SV1.size)
            replace ma := And.intro ((ma.1.below b2).raise b2.size) ma.2
            refine ⟨_, rfl, SV2.mono hkV, ?_⟩
            simp only [Act.put, List.setIfInBounds_toArray, List.set_cons_zero, List.set_cons_succ]
            refine anyH_one (i := 7) (by kernel_rfl) ?_
            refine op_val rfl (some 10) rfl (by kernel_rfl) (ex_load rfl rfl (load_anyI ((SV2.cell (p := ⟨b, 6, none⟩) hbV).trans c6))) ?_
            refine ⟨SV2.mono hkV, ?_⟩
            simp only [Act.put, List.setIfInBounds_toArray, List.set_cons_zero, List.set_cons_succ]
            refine anyH_take (i := 9) (v := .pointer (some ⟨b, 4, none⟩)) rfl (some 12) rfl (by kernel_rfl) (by kernel_rfl) (by kernel_rfl) (fun _ _ _ h => by cases h.1) (by kernel_rfl) (fun _ _ => ex_fldNd4 rfl rfl) (SV2.mono hkV) ?_
            simp only [Act.put, List.setIfInBounds_toArray, List.set_cons_zero, List.set_cons_succ]
            refine anyH_one (i := 8) (by kernel_rfl) ?_
            refine op_call rfl (some 11) rfl (by kernel_rfl) #[.slice v.ia n.items.length v.ic] rfl (by simp [Act.eval]) (fun _ _ => rfl) (copied_i v.ia v.ic n.items V2 ((hm.it.below (SV2.mono hkV)).raise (Nat.le_trans hkV SV2.size))) ?_
            rintro e V3 ⟨vi, rfl, oi, b3⟩
            obtain ⟨ia, ic, rfl, mi_, li, _, hi_⟩ := own_i oi hm.it.1
            have mi := And.intro mi_ (show ∀ a, ia = some a → a.block ≠ b ∧ a.block ≠ r ∧ wk ≤ a.block from fun a e => by have := (hi_ a e).1; have := SV2.size; omega)
            have SV3 : Below V0.heap.size V0 V3 := SV2.trans (b3.mono SV2.size)
            replace ma := And.intro ((ma.1.below b3).raise b3.size) ma.2
            replace ms := And.intro ((ms.1.below b3).raise b3.size) ms.2
            refine ⟨_, rfl, SV3.mono hkV, ?_⟩
            simp only [Act.put, List.setIfInBounds_toArray, List.set_cons_zero, List.set_cons_succ]
            have f3 := (SV3.block b hbV).trans f0
            have h1 := heap_setk (i := 4) (v := .slice aa n.affs.length ac) f3
            have h2 := heap_setk (i := 5) (v := .slice sa n.subs.length sc) h1
            have h3 := heap_setk (i := 6) (v := .slice ia n.items.length ic) h2
            have t0 : Below wk V0 V3 := SV3.mono hkV
            have t1 : Below wk V0 (V3.setCell ⟨b, 4, none⟩ (.slice aa n.affs.length ac)) := t0.setCell (p := ⟨b, 4, none⟩) hkb _
            have t2 : Below wk V0 ((V3.setCell ⟨b, 4, none⟩ (.slice aa n.affs.length ac)).setCell ⟨b, 5, none⟩ (.slice sa n.subs.length sc)) := t1.setCell (p := ⟨b, 5, none⟩) hkb _
            have t3 : Below wk V0 (((V3.setCell ⟨b, 4, none⟩ (.slice aa n.affs.length ac)).setCell ⟨b, 5, none⟩ (.slice sa n.subs.length sc)).setCell ⟨b, 6, none⟩ (.slice ia n.items.length ic)) := t2.setCell (p := ⟨b, 6, none⟩) hkb _
            refine anyH_skip (i := 10) (by kernel_rfl) rfl none rfl (by kernel_rfl) (ex_store rfl rfl rfl (store_any (size_one24 _) (box_cell f3 rfl) (box_froz f3))) t1 ?_
            simp only [Act.put]
            refine anyH_take (i := 11) (v := .pointer (some ⟨b, 5, none⟩)) rfl (some 13) rfl (by kernel_rfl) (by kernel_rfl) (by kernel_rfl) (fun _ _ _ h => by cases h.1) (by kernel_rfl) (fun _ _ => ex_fldNd5 rfl rfl) t1 ?_
            simp only [Act.put, List.setIfInBounds_toArray, List.set_cons_zero, List.set_cons_succ]
            refine anyH_skip (i := 12) (by kernel_rfl) rfl none rfl (by kernel_rfl) (ex_store rfl rfl rfl (store_any (size_one25 _) (box_cell h1 rfl) (box_froz h1))) t2 ?_
            simp only [Act.put]
            refine anyH_take (i := 13) (v := .pointer (some ⟨b, 6, none⟩)) rfl (some 14) rfl (by kernel_rfl) (by kernel_rfl) (by kernel_rfl) (fun _ _ _ h => by cases h.1) (by kernel_rfl) (fun _ _ => ex_fldNd6 rfl rfl) t2 ?_
            simp only [Act.put, List.setIfInBounds_toArray, List.set_cons_zero, List.set_cons_succ]
            refine anyH_skip (i := 14) (by kernel_rfl) rfl none rfl (by kernel_rfl) (ex_store rfl rfl rfl (store_any (size_one26 _) (box_cell h2 rfl) (box_froz h2))) t3 ?_
            simp only [Act.put]
            exact wpAnyH_done (by kernel_rfl) ⟨rfl, ⟨aa, ac, sa, sc, ia, ic⟩, fill (fresh_end hm f3 hbne (SV3.block r hrV) hr0 (hkW.trans t3) ma ms mi la ls li) (by kernel_rfl)⟩ _
          case p10x7 =>
            refine op_val rfl (some 10) rfl (by kernel_rfl) (ex_load rfl rfl (load_anyI ((SV1.cell (p := ⟨b, 6, none⟩) hbV).trans c6))) ?_
            refine ⟨SV1.mono hkV, ?_⟩
            simp only [Act.put, List.setIfInBounds_toArray, List.set_cons_zero, List.set_cons_succ]
            refine anyH_take (i := 9) (v := .pointer (some ⟨b, 4, none⟩)) rfl (some 12) rfl (by kernel_rfl) (by kernel_rfl) (by kernel_rfl) (fun _ _ _ h => by cases h.1) (by kernel_rfl) (fun _ _ => ex_fldNd4 rfl rfl) (SV1.mono hkV) ?_
            simp only [Act.put, List.setIfInBounds_toArray, List.set_cons_zero, List.set_cons_succ]
            refine anyH_one (i := 5) (by kernel_rfl) ?_
            refine op_call rfl (some 8) rfl (by kernel_rfl) #[.slice v.sa n.subs.length v.sc] rfl (by simp [Act.eval]) (fun _ _ => rfl) (copied_s v.sa v.sc n.subs V1 ((hm.ok.2.1.below (SV1.mono hkV)).raise (Nat.le_trans hkV SV1.size))) ?_
            rintro e V2 ⟨vs, rfl, os, b2⟩
            obtain ⟨sa, sc, rfl, ms_, ls, _, hs_⟩ := own_s os hm.ok.2.1.1
            have ms := And.intro ms_ (show ∀ a, sa = some a → a.block ≠ b ∧ a.block ≠ r ∧ wk ≤ a.block from fun a e => by have := (hs_ a e).1; have := SV1.size; omega)
            have SV2 : Below V0.heap.size V0 V2 := SV1.trans (b2.mono SV1.size)
            replace ma := And.intro ((ma.1.below b2).raise b2.size) ma.2
            refine ⟨_, rfl, SV2.mono hkV, ?_⟩
            simp only [Act.put, List.setIfInBounds_toArray, List.set_cons_zero, List.set_cons_succ]
            refine anyH_one (i := 8) (by kernel_rfl) ?_
            refine op_call rfl (some 11) rfl (by kernel_rfl) #[.slice v.ia n.items.length v.ic] rfl (by simp [Act.eval]) (fun _ _ => rfl) (copied_i v.ia v.ic n.items V2 ((hm.it.below (SV2.mono hkV)).raise (Nat.le_trans hkV SV2.size))) ?_
            rintro e V3 ⟨vi, rfl, oi, b3⟩
            obtain ⟨ia, ic, rfl, mi_, li, _, hi_⟩ := own_i oi hm.it.1
            have mi := And.intro mi_ (show ∀ a, ia = some a → a.block ≠ b ∧ a.block ≠ r ∧ wk ≤ a.block from fun a e => by have := (hi_ a e).1; have := SV2.size; omega)
            have SV3 : Below V0.heap.size V0 V3 := SV2.trans (b3.mono SV2.size)
            replace ma := And.intro ((ma.1.below b3).raise b3.size) ma.2
            replace ms := And.intro ((ms.1.below b3).raise b3.size) ms.2
            refine ⟨_, rfl, SV3.mono hkV, ?_⟩
            simp only [Act.put, List.setIfInBounds_toArray, List.set_cons_zero, List.set_cons_succ]
            have f3 := (SV3.block b hbV).trans f0
            have h1 := heap_setk (i := 4) (v := .slice aa n.affs.length ac) f3
            have h2 := heap_setk (i := 5) (v := .slice sa n.subs.length sc) h1
            have h3 := heap_setk (i := 6) (v := .slice ia n.items.length ic) h2
            have t0 : Below wk V0 V3 := SV3.mono hkV
            have t1 : Below wk V0 (V3.setCell ⟨b, 4, none⟩ (.slice aa n.affs.length ac)) := t0.setCell (p := ⟨b, 4, none⟩) hkb _
            have t2 : Below wk V0 ((V3.setCell ⟨b, 4, none⟩ (.slice aa n.affs.length ac)).setCell ⟨b, 5, none⟩ (.slice sa n.subs.length sc)) := t1.setCell (p := ⟨b, 5, none⟩) hkb _
            have t3 : Below wk V0 (((V3.setCell ⟨b, 4, none⟩ (.slice aa n.affs.length ac)).setCell ⟨b, 5, none⟩ (.slice sa n.subs.length sc)).setCell ⟨b, 6, none⟩ (.slice ia n.items.length ic)) := t2.setCell (p := ⟨b, 6, none⟩) hkb _
            refine anyH_skip (i := 10) (by kernel_rfl) rfl none rfl (by kernel_rfl) (ex_store rfl rfl rfl (store_any (size_one24 _) (box_cell f3 rfl) (box_froz f3))) t1 ?_
            simp only [Act.put]
            refine anyH_take (i := 11) (v := .pointer (some ⟨b, 5, none⟩)) rfl (some 13) rfl (by kernel_rfl) (by kernel_rfl) (by kernel_rfl) (fun _ _ _ h => by cases h.1) (by kernel_rfl) (fun _ _ => ex_fldNd5 rfl rfl) t1 ?_
            simp only [Act.put, List.setIfInBounds_toArray, List.set_cons_zero, List.set_cons_succ]
            refine anyH_skip (i := 12) (by kernel_rfl) rfl none rfl (by kernel_rfl) (ex_store rfl rfl rfl (store_any (size_one25 _) (box_cell h1 rfl) (box_froz h1))) t2 ?_
            simp only [Act.put]
            refine anyH_take (i := 13) (v := .pointer (some ⟨b, 6, none⟩)) rfl (some 14) rfl (by kernel_rfl) (by kernel_rfl) (by kernel_rfl) (fun _ _ _ h => by cases h.1) (by kernel_rfl) (fun _ _ => ex_fldNd6 rfl rfl) t2 ?_
            simp only [Act.put, List.setIfInBounds_toArray, List.set_cons_zero, List.set_cons_succ]
            refine anyH_skip (i := 14) (by kernel_rfl) rfl none rfl (by kernel_rfl) (ex_store rfl rfl rfl (store_any (size_one26 _) (box_cell h2 rfl) (box_froz h2))) t3 ?_
            simp only [Act.put]
            exact wpAnyH_done (by kernel_rfl) ⟨rfl, ⟨aa, ac, sa, sc, ia, ic⟩, fill (fresh_end hm f3 hbne (SV3.block r hrV) hr0 (hkW.trans t3) ma ms mi la ls li) (by kernel_rfl)⟩ _
        case p9x7 =>
          refine op_val rfl (some 10) rfl (by kernel_rfl) (ex_load rfl rfl (load_anyI ((SV0.cell (p := ⟨b, 6, none⟩) hbV).trans c6))) ?_
          refine ⟨SV0.mono hkV, ?_⟩
          simp only [Act.put, List.setIfInBounds_toArray, List.set_cons_zero, List.set_cons_succ]
          refine anyH_one (i := 2) (by kernel_rfl) ?_
          refine op_call rfl (some 5) rfl (by kernel_rfl) #[.slice v.aa n.affs.length v.ac] rfl (by simp [Act.eval]) (fun _ _ => rfl) (copied_a v.aa v.ac n.affs V0 ((hm.ok.1.below (SV0.mono hkV)).raise (Nat.le_trans hkV SV0.size))) ?_
          rintro e V1 ⟨va, rfl, oa, b1⟩
          obtain ⟨aa, ac, rfl, ma_, la, _, ha_⟩ := own_a oa hm.ok.1.1
          have ma := And.intro ma_ (show ∀ a, aa = some a → a.block ≠ b ∧ a.block ≠ r ∧ wk ≤ a.block from fun a e => by have := (ha_ a e).1; have := SV0.size; omega)
          have SV1 : Below V0.heap.size V0 V1 := SV0.trans (b1.mono SV0.size)
          refine ⟨_, rfl, SV1.mono hkV, ?_⟩
          simp only [Act.put, List.setIfInBounds_toArray, List.set_cons_zero, List.set_cons_succ]
          refine anyH_take (i := 9) (v := .pointer (some ⟨b, 4, none⟩)) rfl (some 12) rfl (by kernel_rfl) (by kernel_rfl) (by kernel_rfl) (fun _ _ _ h => by cases h.1) (by kernel_rfl) (fun _ _ => ex_fldNd4 rfl rfl) (SV1.mono hkV) ?_
          simp only [Act.put, List.setIfInBounds_toArray, List.set_cons_zero, List.set_cons_succ]
          refine anyH_one (i := 5) (by kernel_rfl) ?_
          refine op_call rfl (some 8) rfl (by kernel_rfl) #[.slice v.sa n.subs.length v.sc] rfl (by simp [Act.eval]) (fun _ _ => rfl) (copied_s v.sa v.sc n.subs V1 ((hm.ok.2.1.below (SV1.mono hkV)).raise (Nat.le_trans hkV SV1.size))) ?_
          rintro e V2 ⟨vs, rfl, os, b2⟩
          obtain ⟨sa, sc, rfl, ms_, ls, _, hs_⟩ := own_s os hm.ok.2.1.1
          have ms := And.intro ms_ (show ∀ a, sa = some a → a.block ≠ b ∧ a.block ≠ r ∧ wk ≤ a.block from fun a e => by have := (hs_ a e).1; have := SV1.size; omega)
          have SV2 : Below V0.heap.size V0 V2 := SV1.trans (b2.mono SV1.size)
          replace ma := And.intro ((ma.1.below b2).raise b2.size) ma.2
          refine ⟨_, rfl, SV2.mono hkV, ?_⟩
          simp only [Act.put, List.setIfInBounds_toArray, List.set_cons_zero, List.set_cons_succ]
          refine anyH_one (i := 8) (by kernel_rfl) ?_
          refine op_call rfl (some 11) rfl (by kernel_rfl) #[.slice v.ia n.items.length v.ic] rfl (by simp [Act.eval]) (fun _ _ => rfl) (copied_i v.ia v.ic n.items V2 ((hm.it.below (SV2.mono hkV)).raise (Nat.le_trans hkV SV2.size))) ?_
          rintro e V3 ⟨vi, rfl, oi, b3⟩
          obtain ⟨ia, ic, rfl, mi_, li, _, hi_⟩ := own_i oi hm.it.1
          have mi := And.intro mi_ (show ∀ a, ia = some a → a.block ≠ b ∧ a.block ≠ r ∧ wk ≤ a.block from fun a e => by have := (hi_ a e).1; have := SV2.size; omega)
          have SV3 : Below V0.heap.size V0 V3 := SV2.trans (b3.mono SV2.size)
          replace ma := And.intro ((ma.1.below b3).raise b3.size) ma.2
          replace ms := And.intro ((ms.1.below b3).raise b3.size) ms.2
          refine ⟨_, rfl, SV3.mono hkV, ?_⟩
          simp only [Act.put, List.setIfInBounds_toArray, List.set_cons_zero, List.set_cons_succ]
          have f3 := (SV3.block b hbV).trans f0
          have h1 := heap_setk (i := 4) (v := .slice aa n.affs.length ac) f3
          have h2 := heap_setk (i := 5) (v := .slice sa n.subs.length sc) h1
          have h3 := heap_setk (i := 6) (v := .slice ia n.items.length ic) h2
          have t0 : Below wk V0 V3 := SV3.mono hkV
          have t1 : Below wk V0 (V3.setCell ⟨b, 4, none⟩ (.slice aa n.affs.length ac)) := t0.setCell (p := ⟨b, 4, none⟩) hkb _
          have t2 : Below wk V0 ((V3.setCell ⟨b, 4, none⟩ (.slice aa n.affs.length ac)).setCell ⟨b, 5, none⟩ (.slice sa n.subs.length sc)) := t1.setCell (p := ⟨b, 5, none⟩) hkb _
          have t3 : Below wk V0 (((V3.setCell ⟨b, 4, none⟩ (.slice aa n.affs.length ac)).setCell ⟨b, 5, none⟩ (.slice sa n.subs.length sc)).setCell ⟨b, 6, none⟩ (.slice ia n.items.length ic)) := t2.setCell (p := ⟨b, 6, none⟩) hkb _
          refine anyH_skip (i := 10) (by kernel_rfl) rfl none rfl (by kernel_rfl) (ex_store rfl rfl rfl (store_any (size_one24 _) (box_cell f3 rfl) (box_froz f3))) t1 ?_
          simp only [Act.put]
          refine anyH_take (i := 11) (v := .pointer (some ⟨b, 5, none⟩)) rfl (some 13) rfl (by kernel_rfl) (by kernel_rfl) (by kernel_rfl) (fun _ _ _ h => by cases h.1) (by kernel_rfl) (fun _ _ => ex_fldNd5 rfl rfl) t1 ?_
          simp only [Act.put, List.setIfInBounds_toArray, List.set_cons_zero, List.set_cons_succ]
          refine anyH_skip (i := 12) (by kernel_rfl) rfl none rfl (by kernel_rfl) (ex_store rfl rfl rfl (store_any (size_one25 _) (box_cell h1 rfl) (box_froz h1))) t2 ?_
          simp only [Act.put]
          refine anyH_take (i := 13) (v := .pointer (some ⟨b, 6, none⟩)) rfl (some 14) rfl (by kernel_rfl) (by kernel_rfl) (by kernel_rfl) (fun _ _ _ h => by cases h.1) (by kernel_rfl) (fun _ _ => ex_fldNd6 rfl rfl) t2 ?_
          simp only [Act.put, List.setIfInBounds_toArray, List.set_cons_zero, List.set_cons_succ]
          refine anyH_skip (i := 14) (by kernel_rfl) rfl none rfl (by kernel_rfl) (ex_store rfl rfl rfl (store_any (size_one26 _) (box_cell h2 rfl) (box_froz h2))) t3 ?_
          simp only [Act.put]
          exact wpAnyH_done (by kernel_rfl) ⟨rfl, ⟨aa, ac, sa, sc, ia, ic⟩, fill (fresh_end hm f3 hbne (SV3.block r hrV) hr0 (hkW.trans t3) ma ms mi la ls li) (by kernel_rfl)⟩ _
      case p8x7 =>
        refine op_val rfl (some 10) rfl (by kernel_rfl) (ex_load rfl rfl (load_anyI ((SV0.cell (p := ⟨b, 6, none⟩) hbV).trans c6))) ?_
        refine ⟨SV0.mono hkV, ?_⟩
        simp only [Act.put, List.setIfInBounds_toArray, List.set_cons_zero, List.set_cons_succ]
        refine anyH_one (i := 1) (by kernel_rfl) ?_
        refine op_val rfl (some 4) rfl (by kernel_rfl) (ex_load rfl rfl (load_anyA ((SV0.cell (p := ⟨b, 4, none⟩) hbV).trans c4))) ?_
        refine ⟨SV0.mono hkV, ?_⟩
        simp only [Act.put, List.setIfInBounds_toArray, List.set_cons_zero, List.set_cons_succ]
        refine anyH_one (i := 2) (by kernel_rfl) ?_
        refine op_call rfl (some 5) rfl (by kernel_rfl) #[.slice v.aa n.affs.length v.ac] rfl (by simp [Act.eval]) (fun _ _ => rfl) (copied_a v.aa v.ac n.affs V0 ((hm.ok.1.below (SV0.mono hkV)).raise (Nat.le_trans hkV SV0.size))) ?_
        rintro e V1 ⟨va, rfl, oa, b1⟩
        obtain ⟨aa, ac, rfl, ma_, la, _, ha_⟩ := own_a oa hm.ok.1.1
        have ma := And.intro ma_ (show ∀ a, aa = some a → a.block ≠ b ∧ a.block ≠ r ∧ wk ≤ a.block from fun a e => by have := (ha_ a e).1; have := SV0.size; omega)
        have SV1 : Below V0.heap.size V0 V1 := SV0.trans (b1.mono SV0.size)
        refine ⟨_, rfl, SV1.mono hkV, ?_⟩
        simp only [Act.put, List.setIfInBounds_toArray, List.set_cons_zero, List.set_cons_succ]
        refine anyH_take (i := 9) (v := .pointer (some ⟨b, 4, none⟩)) rfl (some 12) rfl (by kernel_rfl) (by kernel_rfl) (by kernel_rfl) (fun _ _ _ h => by cases h.1) (by kernel_rfl) (fun _ _ => ex_fldNd4 rfl rfl) (SV1.mono hkV) ?_
        simp only [Act.put, List.setIfInBounds_toArray, List.set_cons_zero, List.set_cons_succ]
        refine anyH_one (i := 5) (by kernel_rfl) ?_
        refine op_call rfl (some 8) rfl (by kernel_rfl) #[.slice v.sa n.subs.length v.sc] rfl (by simp [Act.eval]) (fun _ _ => rfl) (copied_s v.sa v.sc n.subs V1 ((hm.ok.2.1.below (SV1.mono hkV)).raise (Nat.le_trans hkV SV1.size))) ?_
        rintro e V2 ⟨vs, rfl, os, b2⟩
        obtain ⟨sa, sc, rfl, ms_, ls, _, hs_⟩ := own_s os hm.ok.2.1.1
        have ms := And.intro ms_ (show ∀ a, sa = some a → a.block ≠ b ∧ a.block ≠ r ∧ wk ≤ a.block from fun a e => by have := (hs_ a e).1; have := SV1.size; omega)
        have SV2 : Below V0.heap.size V0 V2 := SV1.trans (b2.mono SV1.size)
        replace ma := And.intro ((ma.1.below b2).raise b2.size) ma.2
        refine ⟨_, rfl, SV2.mono hkV, ?_⟩
        simp only [Act.put, List.setIfInBounds_toArray, List.set_cons_zero, List.set_cons_succ]
        refine anyH_one (i := 8) (by kernel_rfl) ?_
        refine op_call rfl (some 11) rfl (by kernel_rfl) #[.slice v.ia n.items.length v.ic] rfl (by simp [Act.eval]) (fun _ _ => rfl) (copied_i v.ia v.ic n.items V2 ((hm.it.below (SV2.mono hkV)).raise (Nat.le_trans hkV SV2.size))) ?_
        rintro e V3 ⟨vi, rfl, oi, b3⟩
        obtain ⟨ia, ic, rfl, mi_, li, _, hi_⟩ := own_i oi hm.it.1
        have mi := And.intro mi_ (show ∀ a, ia = some a → a.block ≠ b ∧ a.block ≠ r ∧ wk ≤ a.block from fun a e => by have := (hi_ a e).1; have := SV2.size; omega)
        have SV3 : Below V0.heap.size V0 V3 := SV2.trans (b3.mono SV2.size)
        replace ma := And.intro ((ma.1.below b3).raise b3.size) ma.2
        replace ms := And.intro ((ms.1.below b3).raise b3.size) ms.2
        refine ⟨_, rfl, SV3.mono hkV, ?_⟩
        simp only [Act.put, List.setIfInBounds_toArray, List.set_cons_zero, List.set_cons_succ]
        have f3 := (SV3.block b hbV).trans f0
        have h1 := heap_setk (i := 4) (v := .slice aa n.affs.length ac) f3
        have h2 := heap_setk (i := 5) (v := .slice sa n.subs.length sc) h1
        have h3 := heap_setk (i := 6) (v := .slice ia n.items.length ic) h2
        have t0 : Below wk V0 V3 := SV3.mono hkV
        have t1 : Below wk V0 (V3.setCell ⟨b, 4, none⟩ (.slice aa n.affs.length ac)) := t0.setCell (p := ⟨b, 4, none⟩) hkb _
        have t2 : Below wk V0 ((V3.setCell ⟨b, 4, none⟩ (.slice aa n.affs.length ac)).setCell ⟨b, 5, none⟩ (.slice sa n.subs.length sc)) := t1.setCell (p := ⟨b, 5, none⟩) hkb _
        have t3 : Below wk V0 (((V3.setCell ⟨b, 4, none⟩ (.slice aa n.affs.length ac)).setCell ⟨b, 5, none⟩ (.slice sa n.subs.length sc)).setCell ⟨b, 6, none⟩ (.slice ia n.items.length ic)) := t2.setCell (p := ⟨b, 6, none⟩) hkb _
        refine anyH_skip (i := 10) (by kernel_rfl) rfl none rfl (by kernel_rfl) (ex_store rfl rfl rfl (store_any (size_one24 _) (box_cell f3 rfl) (box_froz f3))) t1 ?_
        simp only [Act.put]
        refine anyH_take (i := 11) (v := .pointer (some ⟨b, 5, none⟩)) rfl (some 13) rfl (by kernel_rfl) (by kernel_rfl) (by kernel_rfl) (fun _ _ _ h => by cases h.1) (by kernel_rfl) (fun _ _ => ex_fldNd5 rfl rfl) t1 ?_
        simp only [Act.put, List.setIfInBounds_toArray, List.set_cons_zero, List.set_cons_succ]
        refine anyH_skip (i := 12) (by kernel_rfl) rfl none rfl (by kernel_rfl) (ex_store rfl rfl rfl (store_any (size_one25 _) (box_cell h1 rfl) (box_froz h1))) t2 ?_
        simp only [Act.put]
        refine anyH_take (i := 13) (v := .pointer (some ⟨b, 6, none⟩)) rfl (some 14) rfl (by kernel_rfl) (by kernel_rfl) (by kernel_rfl) (fun _ _ _ h => by cases h.1) (by kernel_rfl) (fun _ _ => ex_fldNd6 rfl rfl) t2 ?_
        simp only [Act.put, List.setIfInBounds_toArray, List.set_cons_zero, List.set_cons_succ]
        refine anyH_skip (i := 14) (by kernel_rfl) rfl none rfl (by kernel_rfl) (ex_store rfl rfl rfl (store_any (size_one26 _) (box_cell h2 rfl) (box_froz h2))) t3 ?_
        simp only [Act.put]
        exact wpAnyH_done (by kernel_rfl) ⟨rfl, ⟨aa, ac, sa, sc, ia, ic⟩, fill (fresh_end hm f3 hbne (SV3.block r hrV) hr0 (hkW.trans t3) ma ms mi la ls li) (by kernel_rfl)⟩ _
    case p1x7 =>
      refine op_val rfl (some 10) rfl (by kernel_rfl) (ex_load rfl rfl (load_anyI ((SV0.cell (p := ⟨b, 6, none⟩) hbV).trans c6))) ?_
      refine ⟨SV0.mono hkV, ?_⟩
      simp only [Act.put, List.setIfInBounds_toArray, List.set_cons_zero, List.set_cons_succ]
      refine anyH_two (i := 1) (j := 4) (by kernel_rfl) ?p11x1 ?p11x4
      case p11x1 =>
        refine op_val rfl (some 4) rfl (by kernel_rfl) (ex_load rfl rfl (load_anyA ((SV0.cell (p := ⟨b, 4, none⟩) hbV).trans c4))) ?_
        refine ⟨SV0.mono hkV, ?_⟩
        simp only [Act.put, List.setIfInBounds_toArray, List.set_cons_zero, List.set_cons_succ]
        refine anyH_two (i := 2) (j := 4) (by kernel_rfl) ?p12x2 ?p12x4
        case p12x2 =>
          refine op_call rfl (some 5) rfl (by kernel_rfl) #[.slice v.aa n.affs.length v.ac] rfl (by simp [Act.eval]) (fun _ _ => rfl) (copied_a v.aa v.ac n.affs V0 ((hm.ok.1.below (SV0.mono hkV)).raise (Nat.le_trans hkV SV0.size))) ?_
          rintro e V1 ⟨va, rfl, oa, b1⟩
          obtain ⟨aa, ac, rfl, ma_, la, _, ha_⟩ := own_a oa hm.ok.1.1
          have ma := And.intro ma_ (show ∀ a, aa = some a → a.block ≠ b ∧ a.block ≠ r ∧ wk ≤ a.block from fun a e => by have := (ha_ a e).1; have := SV0.size; omega)
          have SV1 : Below V0.heap.size V0 V1 := SV0.trans (b1.mono SV0.size)
          refine ⟨_, rfl, SV1.mono hkV, ?_⟩
          simp only [Act.put, List.setIfInBounds_toArray, List.set_cons_zero, List.set_cons_succ]
          refine anyH_one (i := 4) (by kernel_rfl) ?_
          refine op_val rfl (some 7) rfl (by kernel_rfl) (ex_load rfl rfl (load_anyS ((SV1.cell (p := ⟨b, 5, none⟩) hbV).trans c5))) ?_
          refine ⟨SV1.mono hkV, ?_⟩
          simp only [Act.put, List.setIfInBounds_toArray, List.set_cons_zero, List.set_cons_succ]
          refine anyH_take (i := 9) (v := .pointer (some ⟨b, 4, none⟩)) rfl (some 12) rfl (by kernel_rfl) (by kernel_rfl) (by kernel_rfl) (fun _ _ _ h => by cases h.1) (by kernel_rfl) (fun _ _ => ex_fldNd4 rfl rfl) (SV1.mono hkV) ?_
          simp only [Act.put, List.setIfInBounds_toArray, List.set_cons_zero, List.set_cons_succ]
          refine anyH_one (i := 5) (by kernel_rfl) ?_
          refine op_call rfl (some 8) rfl (by kernel_rfl) #[.slice v.sa n.subs.length v.sc] rfl (by simp [Act.eval]) (fun _ _ => rfl) (copied_s v.sa v.sc n.subs V1 ((hm.ok.2.1.below (SV1.mono hkV)).raise (Nat.le_trans hkV SV1.size))) ?_
          rintro e V2 ⟨vs, rfl, os, b2⟩
          obtain ⟨sa, sc, rfl, ms_, ls, _, hs_⟩ := own_s os hm.ok.2.1.1
          have ms := And.intro ms_ (show ∀ a, sa = some a → a.block ≠ b ∧ a.block ≠ r ∧ wk ≤ a.block from fun a e => by have := (hs_ a e).1; have := SV1.size; omega)
          have SV2 : Below V0.heap.size V0 V2 := SV1.trans (b2.mono SV1.size)
          replace ma := And.intro ((ma.1.below b2).raise b2.size) ma.2
          refine ⟨_, rfl, SV2.mono hkV, ?_⟩
          simp only [Act.put, List.setIfInBounds_toArray, List.set_cons_zero, List.set_cons_succ]
          refine anyH_one (i := 8) (by kernel_rfl) ?_
          refine op_call rfl (some 11) rfl (by kernel_rfl) #[.slice v.ia n.items.length v.ic] rfl (by simp [Act.eval]) (fun _ _ => rfl) (copied_i v.ia v.ic n.items V2 ((hm.it.below (SV2.mono hkV)).raise (Nat.le_trans hkV SV2.size))) ?_
          rintro e V3 ⟨vi, rfl, oi, b3⟩
          obtain ⟨ia, ic, rfl, mi_, li, _, hi_⟩ := own_i oi hm.it.1
          have mi := And.intro mi_ (show ∀ a, ia = some a → a.block ≠ b ∧ a.block ≠ r ∧ wk ≤ a.block from fun a e => by have := (hi_ a e).1; have := SV2.size; omega)
          have SV3 : Below V0.heap.size V0 V3 := SV2.trans (b3.mono SV2.size)
          replace ma := And.intro ((ma.1.below b3).raise b3.size) ma.2
          replace ms := And.intro ((ms.1.below b3).raise b3.size) ms.2
          refine ⟨_, rfl, SV3.mono hkV, ?_⟩
          simp only [Act.put, List.setIfInBounds_toArray, List.set_cons_zero, List.set_cons_succ]
          have f3 := (SV3.block b hbV).trans f0
          have h1 := heap_setk (i := 4) (v := .slice aa n.affs.length ac) f3
          have h2 := heap_setk (i := 5) (v := .slice sa n.subs.length sc) h1
          have h3 := heap_setk (i := 6) (v := .slice ia n.items.length ic) h2
          have t0 : Below wk V0 V3 := SV3.mono hkV
          have t1 : Below wk V0 (V3.setCell ⟨b, 4, none⟩ (.slice aa n.affs.length ac)) := t0.setCell (p := ⟨b, 4, none⟩) hkb _
          have t2 : Below wk V0 ((V3.setCell ⟨b, 4, none⟩ (.slice aa n.affs.length ac)).setCell ⟨b, 5, none⟩ (.slice sa n.subs.length sc)) := t1.setCell (p := ⟨b, 5, none⟩) hkb _
          have t3 : Below wk V0 (((V3.setCell ⟨b, 4, none⟩ (.slice aa n.affs.length ac)).setCell ⟨b, 5, none⟩ (.slice sa n.subs.length sc)).setCell ⟨b, 6, none⟩ (.slice ia n.items.length ic)) := t2.setCell (p := ⟨b, 6, none⟩) hkb _
          refine anyH_skip (i := 10) (by kernel_rfl) rfl none rfl (by kernel_rfl) (ex_store rfl rfl rfl (store_any (size_one24 _) (box_cell f3 rfl) (box_froz f3))) t1 ?_
          simp only [Act.put]
          refine anyH_take (i := 11) (v := .pointer (some ⟨b, 5, none⟩)) rfl (some 13) rfl (by kernel_rfl) (by kernel_rfl) (by kernel_rfl) (fun _ _ _ h => by cases h.1) (by kernel_rfl) (fun _ _ => ex_fldNd5 rfl rfl) t1 ?_
          simp only [Act.put, List.setIfInBounds_toArray, List.set_cons_zero, List.set_cons_succ]
          refine anyH_skip (i := 12) (by kernel_rfl) rfl none rfl (by kernel_rfl) (ex_store rfl rfl rfl (store_any (size_one25 _) (box_cell h1 rfl) (box_froz h1))) t2 ?_
          simp only [Act.put]
          refine anyH_take (i := 13) (v := .pointer (some ⟨b, 6, none⟩)) rfl (some 14) rfl (by kernel_rfl) (by kernel_rfl) (by kernel_rfl) (fun _ _ _ h => by cases h.1) (by kernel_rfl) (fun _ _ => ex_fldNd6 rfl rfl) t2 ?_
          simp only [Act.put, List.setIfInBounds_toArray, List.set_cons_zero, List.set_cons_succ]
          refine anyH_skip (i := 14) (by kernel_rfl) rfl none rfl (by kernel_rfl) (ex_store rfl rfl rfl (store_any (size_one26 _) (box_cell h2 rfl) (box_froz h2))) t3 ?_
          simp only [Act.put]
          exact wpAnyH_done (by kernel_rfl) ⟨rfl, ⟨aa, ac, sa, sc, ia, ic⟩, fill (fresh_end hm f3 hbne (SV3.block r hrV) hr0 (hkW.trans t3) ma ms mi la ls li) (by kernel_rfl)⟩ _
        case p12x4 =>
          refine op_val rfl (some 7) rfl (by kernel_rfl) (ex_load rfl rfl (load_anyS ((SV0.cell (p := ⟨b, 5, none⟩) hbV).trans c5))) ?_
          refine ⟨SV0.mono hkV, ?_⟩
          simp only [Act.put, List.setIfInBounds_toArray, List.set_cons_zero, List.set_cons_succ]
          refine anyH_one (i := 2) (by kernel_rfl) ?_
          refine op_call rfl (some 5) rfl (by kernel_rfl) #[.slice v.aa n.affs.length v.ac] rfl (by simp [Act.eval]) (fun _ _ => rfl) (copied_a v.aa v.ac n.affs V0 ((hm.ok.1.below (SV0.mono hkV)).raise (Nat.le_trans hkV SV0.size))) ?_
          rintro e V1 ⟨va, rfl, oa, b1⟩
          obtain ⟨aa, ac, rfl, ma_, la, _, ha_⟩ := own_a oa hm.ok.1.1
          have ma := And.intro ma_ (show ∀ a, aa = some a → a.block ≠ b ∧ a.block ≠ r ∧ wk ≤ a.block from fun a e => by have := (ha_ a e).1; have := SV0.size; omega)
          have SV1 : Below V0.heap.size V0 V1 := SV0.trans (b1.mono SV0.size)
          refine ⟨_, rfl, SV1.mono hkV, ?_⟩
          simp only [Act.put, List.setIfInBounds_toArray, List.set_cons_zero, List.set_cons_succ]
          refine anyH_take (i := 9) (v := .pointer (some ⟨b, 4, none⟩)) rfl (some 12) rfl (by kernel_rfl) (by kernel_rfl) (by kernel_rfl) (fun _ _ _ h => by cases h.1) (by kernel_rfl) (fun _ _ => ex_fldNd4 rfl rfl) (SV1.mono hkV) ?_
          simp only [Act.put, List.setIfInBounds_toArray, List.set_cons_zero, List.set_cons_succ]
          refine anyH_one (i := 5) (by kernel_rfl) ?_
          refine op_call rfl (some 8) rfl (by kernel_rfl) #[.slice v.sa n.subs.length v.sc] rfl (by simp [Act.eval]) (fun _ _ => rfl) (copied_s v.sa v.sc n.subs V1 ((hm.ok.2.1.below (SV1.mono hkV)).raise (Nat.le_trans hkV SV1.size))) ?_
          rintro e V2 ⟨vs, rfl, os, b2⟩
          obtain ⟨sa, sc, rfl, ms_, ls, _, hs_⟩ := own_s os hm.ok.2.1.1
          have ms := And.intro ms_ (show ∀ a, sa = some a → a.block ≠ b ∧ a.block ≠ r ∧ wk ≤ a.block from fun a e => by have := (hs_ a e).1; have := SV1.size; omega)
          have SV2 : Below V0.heap.size V0 V2 := SV1.trans (b2.mono SV1.size)
          replace ma := And.intro ((ma.1.below b2).raise b2.size) ma.2
          refine ⟨_, rfl, SV2.mono hkV, ?_⟩
          simp only [Act.put, List.setIfInBounds_toArray, List.set_cons_zero, List.set_cons_succ]
          refine anyH_one (i := 8) (by kernel_rfl) ?_
          refine op_call rfl (some 11) rfl (by kernel_rfl) #[.slice v.ia n.items.length v.ic] rfl (by simp [Act.eval]) (fun _ _ => rfl) (copied_i v.ia v.ic n.items V2 ((hm.it.below (SV2.mono hkV)).raise (Nat.le_trans hkV SV2.size))) ?_
          rintro e V3 ⟨vi, rfl, oi, b3⟩
          obtain ⟨ia, ic, rfl, mi_, li, _, hi_⟩ := own_i oi hm.it.1
          have mi := And.intro mi_ (show ∀ a, ia = some a → a.block ≠ b ∧ a.block ≠ r ∧ wk ≤ a.block from fun a e => by have := (hi_ a e).1; have := SV2.size; omega)
          have SV3 : Below V0.heap.size V0 V3 := SV2.trans (b3.mono SV2.size)
          replace ma := And.intro ((ma.1.below b3).raise b3.size) ma.2
          replace ms := And.intro ((ms.1.below b3).raise b3.size) ms.2
          refine ⟨_, rfl, SV3.mono hkV, ?_⟩
          simp only [Act.put, List.setIfInBounds_toArray, List.set_cons_zero, List.set_cons_succ]
          have f3 := (SV3.block b hbV).trans f0
          have h1 := heap_setk (i := 4) (v := .slice aa n.affs.length ac) f3
          have h2 := heap_setk (i := 5) (v := .slice sa n.subs.length sc) h1
          have h3 := heap_setk (i := 6) (v := .slice ia n.items.length ic) h2
          have t0 : Below wk V0 V3 := SV3.mono hkV
          have t1 : Below wk V0 (V3.setCell ⟨b, 4, none⟩ (.slice aa n.affs.length ac)) := t0.setCell (p := ⟨b, 4, none⟩) hkb _
          have t2 : Below wk V0 ((V3.setCell ⟨b, 4, none⟩ (.slice aa n.affs.length ac)).setCell ⟨b, 5, none⟩ (.slice sa n.subs.length sc)) := t1.setCell (p := ⟨b, 5, none⟩) hkb _
          have t3 : Below wk V0 (((V3.setCell ⟨b, 4, none⟩ (.slice aa n.affs.length ac)).setCell ⟨b, 5, none⟩ (.slice sa n.subs.length sc)).setCell ⟨b, 6, none⟩ (.slice ia n.items.length ic)) := t2.setCell (p := ⟨b, 6, none⟩) hkb _
          refine anyH_skip (i := 10) (by kernel_rfl) rfl none rfl (by kernel_rfl) (ex_store rfl rfl rfl (store_any (size_one24 _) (box_cell f3 rfl) (box_froz f3))) t1 ?_
          simp only [Act.put]
          refine anyH_take (i := 11) (v := .pointer (some ⟨b, 5, none⟩)) rfl (some 13) rfl (by kernel_rfl) (by kernel_rfl) (by kernel_rfl) (fun _ _ _ h => by cases h.1) (by kernel_rfl) (fun _ _ => ex_fldNd5 rfl rfl) t1 ?_
          simp only [Act.put, List.setIfInBounds_toArray, List.set_cons_zero, List.set_cons_succ]
          refine anyH_skip (i := 12) (by kernel_rfl) rfl none rfl (by kernel_rfl) (ex_store rfl rfl rfl (store_any (size_one25 _) (box_cell h1 rfl) (box_froz h1))) t2 ?_
          simp only [Act.put]
          refine anyH_take (i := 13) (v := .pointer (some ⟨b, 6, none⟩)) rfl (some 14) rfl (by kernel_rfl) (by kernel_rfl) (by kernel_rfl) (fun _ _ _ h => by cases h.1) (by kernel_rfl) (fun _ _ => ex_fldNd6 rfl rfl) t2 ?_
          simp only [Act.put, List.setIfInBounds_toArray, List.set_cons_zero, List.set_cons_succ]
          refine anyH_skip (i := 14) (by kernel_rfl) rfl none rfl (by kernel_rfl) (ex_store rfl rfl rfl (store_any (size_one26 _) (box_cell h2 rfl) (box_froz h2))) t3 ?_
          simp only [Act.put]
          exact wpAnyH_done (by kernel_rfl) ⟨rfl, ⟨aa, ac, sa, sc, ia, ic⟩, fill (fresh_end hm f3 hbne (SV3.block r hrV) hr0 (hkW.trans t3) ma ms mi la ls li) (by kernel_rfl)⟩ _
      case p11x4 =>
        refine op_val rfl (some 7) rfl (by kernel_rfl) (ex_load rfl rfl (load_anyS ((SV0.cell (p := ⟨b, 5, none⟩) hbV).trans c5))) ?_
        refine ⟨SV0.mono hkV, ?_⟩
        simp only [Act.put, List.setIfInBounds_toArray, List.set_cons_zero, List.set_cons_succ]
        refine anyH_one (i := 1) (by kernel_rfl) ?_
        refine op_val rfl (some 4) rfl (by kernel_rfl) (ex_load rfl rfl (load_anyA ((SV0.cell (p := ⟨b, 4, none⟩) hbV).trans c4))) ?_
        refine ⟨SV0.mono hkV, ?_⟩
        simp only [Act.put, List.setIfInBounds_toArray, List.set_cons_zero, List.set_cons_succ]
        refine anyH_one (i := 2) (by kernel_rfl) ?_
        refine op_call rfl (some 5) rfl (by kernel_rfl) #[.slice v.aa n.affs.length v.ac] rfl (by simp [Act.eval]) (fun _ _ => rfl) (copied_a v.aa v.ac n.affs V0 ((hm.ok.1.below (SV0.mono hkV)).raise (Nat.le_trans hkV SV0.size))) ?_
        rintro e V1 ⟨va, rfl, oa, b1⟩
        obtain ⟨aa, ac, rfl, ma_, la, _, ha_⟩ := own_a oa hm.ok.1.1
        have ma := And.intro ma_ (show ∀ a, aa = some a → a.block ≠ b ∧ a.block ≠ r ∧ wk ≤ a.block from fun a e => by have := (ha_ a e).1; have := SV0.size; omega)
        have SV1 : Below V0.heap.size V0 V1 := SV0.trans (b1.mono SV0.size)
        refine ⟨_, rfl, SV1.mono hkV, ?_⟩
        simp only [Act.put, List.setIfInBounds_toArray, List.set_cons_zero, List.set_cons_succ]
        refine anyH_take (i := 9) (v := .pointer (some ⟨b, 4, none⟩)) rfl (some 12) rfl (by kernel_rfl) (by kernel_rfl) (by kernel_rfl) (fun _ _ _ h => by cases h.1) (by kernel_rfl) (fun _ _ => ex_fldNd4 rfl rfl) (SV1.mono hkV) ?_
        simp only [Act.put, List.setIfInBounds_toArray, List.set_cons_zero, List.set_cons_succ]
        refine anyH_one (i := 5) (by kernel_rfl) ?_
        refine op_call rfl (some 8) rfl (by kernel_rfl) #[.slice v.sa n.subs.length v.sc] rfl (by simp [Act.eval]) (fun _ _ => rfl) (copied_s v.sa v.sc n.subs V1 ((hm.ok.2.1.below (SV1.mono hkV)).raise (Nat.le_trans hkV SV1.size))) ?_
        rintro e V2 ⟨vs, rfl, os, b2⟩
        obtain ⟨sa, sc, rfl, ms_, ls, _, hs_⟩ := own_s os hm.ok.2.1.1
        have ms := And.intro ms_ (show ∀ a, sa = some a → a.block ≠ b ∧ a.block ≠ r ∧ wk ≤ a.block from fun a e => by have := (hs_ a e).1; have := SV1.size; omega)
        have SV2 : Below V0.heap.size V0 V2 := SV1.trans (b2.mono SV1.size)
        replace ma := And.intro ((ma.1.below b2).raise b2.size) ma.2
        refine ⟨_, rfl, SV2.mono hkV, ?_⟩
        simp only [Act.put, List.setIfInBounds_toArray, List.set_cons_zero, List.set_cons_succ]
        refine anyH_one (i := 8) (by kernel_rfl) ?_
        refine op_call rfl (some 11) rfl (by kernel_rfl) #[.slice v.ia n.items.length v.ic] rfl (by simp [Act.eval]) (fun _ _ => rfl) (copied_i v.ia v.ic n.items V2 ((hm.it.below (SV2.mono hkV)).raise (Nat.le_trans hkV SV2.size))) ?_
        rintro e V3 ⟨vi, rfl, oi, b3⟩
        obtain ⟨ia, ic, rfl, mi_, li, _, hi_⟩ := own_i oi hm.it.1
        have mi := And.intro mi_ (show ∀ a, ia = some a → a.block ≠ b ∧ a.block ≠ r ∧ wk ≤ a.block from fun a e => by have := (hi_ a e).1; have := SV2.size; omega)
        have SV3 : Below V0.heap.size V0 V3 := SV2.trans (b3.mono SV2.size)
        replace ma := And.intro ((ma.1.below b3).raise b3.size) ma.2
        replace ms := And.intro ((ms.1.below b3).raise b3.size) ms.2
        refine ⟨_, rfl, SV3.mono hkV, ?_⟩
        simp only [Act.put, List.setIfInBounds_toArray, List.set_cons_zero, List.set_cons_succ]
        have f3 := (SV3.block b hbV).trans f0
        have h1 := heap_setk (i := 4) (v := .slice aa n.affs.length ac) f3
        have h2 := heap_setk (i := 5) (v := .slice sa n.subs.length sc) h1
        have h3 := heap_setk (i := 6) (v := .slice ia n.items.length ic) h2
        have t0 : Below wk V0 V3 := SV3.mono hkV
        have t1 : Below wk V0 (V3.setCell ⟨b, 4, none⟩ (.slice aa n.affs.length ac)) := t0.setCell (p := ⟨b, 4, none⟩) hkb _
        have t2 : Below wk V0 ((V3.setCell ⟨b, 4, none⟩ (.slice aa n.affs.length ac)).setCell ⟨b, 5, none⟩ (.slice sa n.subs.length sc)) := t1.setCell (p := ⟨b, 5, none⟩) hkb _
        have t3 : Below wk V0 (((V3.setCell ⟨b, 4, none⟩ (.slice aa n.affs.length ac)).setCell ⟨b, 5, none⟩ (.slice sa n.subs.length sc)).setCell ⟨b, 6, none⟩ (.slice ia n.items.length ic)) := t2.setCell (p := ⟨b, 6, none⟩) hkb _
        refine anyH_skip (i := 10) (by kernel_rfl) rfl none rfl (by kernel_rfl) (ex_store rfl rfl rfl (store_any (size_one24 _) (box_cell f3 rfl) (box_froz f3))) t1 ?_
        simp only [Act.put]
        refine anyH_take (i := 11) (v := .pointer (some ⟨b, 5, none⟩)) rfl (some 13) rfl (by kernel_rfl) (by kernel_rfl) (by kernel_rfl) (fun _ _ _ h => by cases h.1) (by kernel_rfl) (fun _ _ => ex_fldNd5 rfl rfl) t1 ?_
        simp only [Act.put, List.setIfInBounds_toArray, List.set_cons_zero, List.set_cons_succ]
        refine anyH_skip (i := 12) (by kernel_rfl) rfl none rfl (by kernel_rfl) (ex_store rfl rfl rfl (store_any (size_one25 _) (box_cell h1 rfl) (box_froz h1))) t2 ?_
        simp only [Act.put]
        refine anyH_take (i := 13) (v := .pointer (some ⟨b, 6, none⟩)) rfl (some 14) rfl (by kernel_rfl) (by kernel_rfl) (by kernel_rfl) (fun _ _ _ h => by cases h.1) (by kernel_rfl) (fun _ _ => ex_fldNd6 rfl rfl) t2 ?_
        simp only [Act.put, List.setIfInBounds_toArray, List.set_cons_zero, List.set_cons_succ]
        refine anyH_skip (i := 14) (by kernel_rfl) rfl none rfl (by kernel_rfl) (ex_store rfl rfl rfl (store_any (size_one26 _) (box_cell h2 rfl) (box_froz h2))) t3 ?_
        simp only [Act.put]
        exact wpAnyH_done (by kernel_rfl) ⟨rfl, ⟨aa, ac, sa, sc, ia, ic⟩, fill (fresh_end hm f3 hbne (SV3.block r hrV) hr0 (hkW.trans t3) ma ms mi la ls li) (by kernel_rfl)⟩ _
  case fin =>
    rintro a W2 ⟨u, xx, hE, rfl⟩
    clear hV0 d0 f0 c4 c5 c6
    obtain ⟨hbox, hres, hmem, hfar, hbel⟩ := hE
    have hkr : wk ≤ r := by omega
    obtain ⟨c0, c1, c2, c3, c4, c5, c6, c7⟩ := nd_box hbox
    obtain ⟨z0, z1, z2, z3, z4, z5, z6, z7⟩ := nd_box (n := ⟨⟨#[]⟩, false, 0, 0, [], [], [], ⟨#[]⟩⟩) (v := ⟨none, 0, none, 0, none, 0⟩) hres
    have y0 : W2.frozen? ⟨r, 0, none⟩ = false := by simp [World.frozen?, hres]
    have y1 : W2.frozen? ⟨r, 1, none⟩ = false := by simp [World.frozen?, hres]
    have y2 : W2.frozen? ⟨r, 2, none⟩ = false := by simp [World.frozen?, hres]
    have y3 : W2.frozen? ⟨r, 3, none⟩ = false := by simp [World.frozen?, hres]
    have y4 : W2.frozen? ⟨r, 4, none⟩ = false := by simp [World.frozen?, hres]
    have y5 : W2.frozen? ⟨r, 5, none⟩ = false := by simp [World.frozen?, hres]
    have y6 : W2.frozen? ⟨r, 6, none⟩ = false := by simp [World.frozen?, hres]
    have y7 : W2.frozen? ⟨r, 7, none⟩ = false := by simp [World.frozen?, hres]
    have HE := hide (And.intro hbox (And.intro hres (And.intro hmem (And.intro hfar hbel))))
    clear hbox hres hmem hfar hbel
    go_wp2_with fail
    obtain ⟨hbox, hres, hmem, hfar, hbel⟩ := HE.out
    have hfin := set8_nd (n := n) (u := u) hres
    have hend := bel8_nd (n := n) (u := u) hbel hkr
    have hfb := far8_nd (w := W2) (n := n) (u := u) (r := r)
    have hz8 : ((((((((W2.setCell ⟨r, 0, none⟩ (.string n.name)).setCell ⟨r, 1, none⟩ (.bool n.coll)).setCell ⟨r, 2, none⟩ (.int .u8 n.acc)).setCell ⟨r, 3, none⟩ (.int .i64 n.max)).setCell ⟨r, 4, none⟩ (.slice u.aa n.affs.length u.ac)).setCell ⟨r, 5, none⟩ (.slice u.sa n.subs.length u.sc)).setCell ⟨r, 6, none⟩ (.slice u.ia n.items.length u.ic)).setCell ⟨r, 7, none⟩ (.string n.parent)).heap.size = W2.heap.size := by simp only [size_set]
    refine bodyPost_ret (results_nd rfl rfl hfin) rfl ⟨u, rfl, ?_, ?_, ?_⟩
    · exact ndM_far hmem hz8 hfb ⟨fun a e => (hfar.1 a e).1, fun a e => (hfar.2.1 a e).1, fun a e => (hfar.2.2 a e).1⟩
    · exact ⟨fun a e => by have := (hfar.1 a e).2; omega, fun a e => by have := (hfar.2.1 a e).2; omega, fun a e => by have := (hfar.2.2 a e).2; omega⟩
    · have hend2 := hend
      rw [← hwk, hb] at hend2
      exact hend2
end Go.Proofs.YtimhkgpjfppkmaaGreatDoor
namespace Go.Proofs.YtimhkgpjfppkmaaGreatDoor
open Go.RowKit

def offI (ao : Option Addr) (j cap : Nat) : Option Addr := if cap = j then ao else ao.map (·.add (j * 3))
theorem ItMem.drop {n₀ : Nat} {w : World} {ao : Option Addr} {l : List (ByteArray × ByteArray × ByteArray)} (h : ItMem n₀ w ao l) (j : Nat) {cap : Nat} (hc : l.length ≤ cap) : ItMem n₀ w (offI ao j cap) (l.drop j) := by
  refine ⟨by have := h.1; rw [List.length_drop]; omega, fun i x hx => ?_⟩
  rw [List.getElem?_drop] at hx
  have hlt := (List.getElem?_eq_some_iff.1 hx).1
  obtain ⟨b, off, e, hb, c0, c1, c2⟩ := h.2 _ x hx
  refine ⟨b, off + j * 3, ?_, hb, ?_, ?_, ?_⟩
  · unfold offI
    rw [if_neg (by omega), e]
    simp [Addr.add]
  · rw [← c0]
    congr 2
    omega
  · rw [← c1]
    congr 2
    omega
  · rw [← c2]
    congr 2
    omega
theorem ex_hiI {o : Oper} {a : Act} {w : World} {x y : Operand} {ao : Option Addr} {m cap k : Nat} (ho : o.op = .slice 25 x (some y) none none) (hx : a.eval x = .slice ao m cap) (hy : a.eval y = .int .i64 k) (hk : k ≤ m) : (execOp a.eval o).run Tryz.prog w = .ok (.value (.slice (offI ao k cap) (m - k) (cap - k))) w := by
  have hu : Tryz.prog.underlying 25 = some (.slice (Tryz.prog.elem 25)) := by rw [itemsE]; exact Tryz.underlying25
  obtain ⟨ti, t1, t2, t3, t4⟩ := info_parts infoItem
  have hsz : (Go.sizeOf 61).run Tryz.prog w = .ok 3 w := by simp [Go.sizeOf, typeInfo, t1, t3]
  have h1 := run_slice_l (P := Tryz.prog) (w := w) 25 ao m cap hu .i64 k (by omega) (by omega)
  rw [itemsE, hsz] at h1
  have h2 := run_sliceAt_slice (P := Tryz.prog) (w := w) 25 (.slice ao m cap) (some (.int .i64 k)) none none hu
  rw [h1] at h2
  unfold execOp
  simp [ho, hx, hy, h2, Result.andThen, sliced, offI]
/-- The last ones, at most so many. -/
def lastL {α : Type} (L : List α) (most : Nat) : List α := L.drop (L.length - most)
theorem results_no {c d : Nat} {fn : Func} {tmps : Array Value} {w : World} {r : Nat} {z : Value} (h : fn.results = #[.cell c 27, .tmp d]) (hp : tmps[c]?.getD undef = .pointer (some ⟨r, 0, none⟩)) (hz : tmps[d]?.getD undef = z) (hb : w.heap[r]? = some (.cells #[.string ⟨#[]⟩, .bool false, .int .u8 0, .int .i64 0, .slice none 0 0, .slice none 0 0, .slice none 0 0, .string ⟨#[]⟩] 27)) : (results fn tmps).run Tryz.prog w = .ok (.tuple #[.agg #[.string ⟨#[]⟩, .bool false, .int .u8 0, .int .i64 0, .slice none 0 0, .slice none 0 0, .slice none 0 0, .string ⟨#[]⟩], z]) w := by
  obtain ⟨c0, c1, c2, c3, c4, c5, c6, c7⟩ := nd_box (n := ⟨⟨#[]⟩, false, 0, 0, [], [], [], ⟨#[]⟩⟩) (v := ⟨none, 0, none, 0, none, 0⟩) hb
  simp only [List.length_nil] at c4 c5 c6
  simp [results, h, hp, hz, c0, c1, c2, c3, c4, c5, c6, c7, go_sem, Tryz.isAgg27, Tryz.sizeOf27]
def noNd : Array Value := #[.string ⟨#[]⟩, .bool false, .int .u8 0, .int .i64 0, .slice none 0 0, .slice none 0 0, .slice none 0 0, .string ⟨#[]⟩]
set_option maxRecDepth 100000 in
theorem refuse_any (c : Int) (w : World) : Calls Tryz.prog 35 #[.int .i64 c] w fun e w' => e = .returned (.tuple #[.agg noNd, .int .i64 c]) ∧ Below w.heap.size w w' := by
  unfold noNd
  go_enter Tryz.func35, Tryz.ntmps35
  go_wp2_with fail
  have fb := World.alloc_heap_new w (.cells #[.string ⟨#[]⟩, .bool false, .int .u8 0, .int .i64 0, .slice none 0 0, .slice none 0 0, .slice none 0 0, .string ⟨#[]⟩] 27)
  exact bodyPost_ret (results_no (c := 2) (d := 3) rfl rfl rfl fb) rfl ⟨rfl, (Below.refl _ w).alloc (Nat.le_refl _) _⟩
/-- A node is stored in a box. -/
def setNd (w : World) (r : Nat) (n : Nd) (u : NdW) : World := ((((((((w.setCell ⟨r, 0, none⟩ (.string n.name)).setCell ⟨r, 1, none⟩ (.bool n.coll)).setCell ⟨r, 2, none⟩ (.int .u8 n.acc)).setCell ⟨r, 3, none⟩ (.int .i64 n.max)).setCell ⟨r, 4, none⟩ (.slice u.aa n.affs.length u.ac)).setCell ⟨r, 5, none⟩ (.slice u.sa n.subs.length u.sc)).setCell ⟨r, 6, none⟩ (.slice u.ia n.items.length u.ic)).setCell ⟨r, 7, none⟩ (.string n.parent))
theorem setNd_heap {w : World} {r : Nat} {n n0 : Nd} {u u0 : NdW} (h : w.heap[r]? = some (.cells (ndA n0 u0) 27)) : (setNd w r n u).heap[r]? = some (.cells (ndA n u) 27) := by
  unfold ndA at h
  have h0 := heap_setk (i := 0) (v := .string n.name) h
  simp only [List.setIfInBounds_toArray, List.set_cons_zero] at h0
  have h1 := heap_setk (i := 1) (v := .bool n.coll) h0
  simp only [List.setIfInBounds_toArray, List.set_cons_zero, List.set_cons_succ] at h1
  have h2 := heap_setk (i := 2) (v := .int .u8 n.acc) h1
  simp only [List.setIfInBounds_toArray, List.set_cons_zero, List.set_cons_succ] at h2
  have h3 := heap_setk (i := 3) (v := .int .i64 n.max) h2
  simp only [List.setIfInBounds_toArray, List.set_cons_zero, List.set_cons_succ] at h3
  have h4 := heap_setk (i := 4) (v := .slice u.aa n.affs.length u.ac) h3
  simp only [List.setIfInBounds_toArray, List.set_cons_zero, List.set_cons_succ] at h4
  have h5 := heap_setk (i := 5) (v := .slice u.sa n.subs.length u.sc) h4
  simp only [List.setIfInBounds_toArray, List.set_cons_zero, List.set_cons_succ] at h5
  have h6 := heap_setk (i := 6) (v := .slice u.ia n.items.length u.ic) h5
  simp only [List.setIfInBounds_toArray, List.set_cons_zero, List.set_cons_succ] at h6
  have h7 := heap_setk (i := 7) (v := .string n.parent) h6
  simp only [List.setIfInBounds_toArray, List.set_cons_zero, List.set_cons_succ] at h7
  exact h7
theorem setNd_far {w : World} {r : Nat} {n : Nd} {u : NdW} : ∀ k, k ≠ r → (setNd w r n u).heap[k]? = w.heap[k]? := far8_nd
theorem setNd_below {k r : Nat} {w0 w : World} {n : Nd} {u : NdW} (h : Below k w0 w) (hr : k ≤ r) : Below k w0 (setNd w r n u) := bel8_nd h hr
theorem setNd_size {w : World} {r : Nat} {n : Nd} {u : NdW} : (setNd w r n u).heap.size = w.heap.size := by simp only [setNd, size_set]
theorem store_nd {w : World} {r : Nat} {n n0 : Nd} {u u0 : NdW} (h : w.heap[r]? = some (.cells (ndA n0 u0) 27)) : (Instr.storeAt 27 (.pointer (some ⟨r, 0, none⟩)) (.agg (ndA n u))).run Tryz.prog w = .ok () (setNd w r n u) := by
  obtain ⟨z0, z1, z2, z3, z4, z5, z6, z7⟩ := nd_box h
  have y0 : w.frozen? ⟨r, 0, none⟩ = false := by simp [World.frozen?, h]
  have y1 : w.frozen? ⟨r, 1, none⟩ = false := by simp [World.frozen?, h]
  have y2 : w.frozen? ⟨r, 2, none⟩ = false := by simp [World.frozen?, h]
  have y3 : w.frozen? ⟨r, 3, none⟩ = false := by simp [World.frozen?, h]
  have y4 : w.frozen? ⟨r, 4, none⟩ = false := by simp [World.frozen?, h]
  have y5 : w.frozen? ⟨r, 5, none⟩ = false := by simp [World.frozen?, h]
  have y6 : w.frozen? ⟨r, 6, none⟩ = false := by simp [World.frozen?, h]
  have y7 : w.frozen? ⟨r, 7, none⟩ = false := by simp [World.frozen?, h]
  unfold setNd ndA
  go_simp
theorem noNd_eq : noNd = ndA ⟨⟨#[]⟩, false, 0, 0, [], [], [], ⟨#[]⟩⟩ ⟨none, 0, none, 0, none, 0⟩ := rfl
def noN : Nd := ⟨⟨#[]⟩, false, 0, 0, [], [], [], ⟨#[]⟩⟩
def noW : NdW := ⟨none, 0, none, 0, none, 0⟩
theorem noN_mem (w : World) : NdM w.heap.size w noN noW := ⟨⟨⟨by simp [noN], fun k x h => by simp [noN] at h⟩, ⟨by simp [noN], fun k x h => by simp [noN] at h⟩, by simp [noN, noW], by simp [noN, noW]⟩, ⟨by simp [noN], fun k x h => by simp [noN] at h⟩, by simp [noN, noW], ⟨Nat.zero_le _, Nat.zero_le _, fun x h => by simp [noN] at h, fun x h => by simp [noN] at h, fun x h => by simp [noN] at h⟩⟩
theorem results_nc {c d : Nat} {fn : Func} {tmps : Array Value} {w : World} {r : Nat} {n : Nd} {u : NdW} {z : Value} (h : fn.results = #[.cell c 27, .tmp d]) (hp : tmps[c]?.getD undef = .pointer (some ⟨r, 0, none⟩)) (hz : tmps[d]?.getD undef = z) (hb : w.heap[r]? = some (.cells (ndA n u) 27)) : (results fn tmps).run Tryz.prog w = .ok (.tuple #[.agg (ndA n u), z]) w := by
  obtain ⟨c0, c1, c2, c3, c4, c5, c6, c7⟩ := nd_box hb
  unfold ndA
  simp [results, h, hp, hz, c0, c1, c2, c3, c4, c5, c6, c7, go_sem, Tryz.isAgg27, Tryz.sizeOf27]
/-- Why somebody may not change the items of a node. -/
def BarC (n : Nd) (s : ByteArray) (least : Nat) (c : Int) : Prop := (¬ RightN n ∧ c = 1) ∨ (RightN n ∧ n.coll = true ∧ c = 6) ∨ (RightN n ∧ n.coll = false ∧ roleL n.affs s < least ∧ c = 3) ∨ (RightN n ∧ n.coll = false ∧ least ≤ roleL n.affs s ∧ c = 0)
end Go.Proofs.YtimhkgpjfppkmaaGreatDoor
