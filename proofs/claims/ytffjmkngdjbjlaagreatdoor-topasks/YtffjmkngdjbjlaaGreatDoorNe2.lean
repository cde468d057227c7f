/- Lists of a node: those of a key are struck. -/
import Derived.Test.YtffjmkngdjbjlaaGreatDoorNe1
import Derived.Test.YtffjmkngdjbjlaaGreatDoorQI
namespace Go.Proofs.YtffjmkngdjbjlaaGreatDoor
open Go.RowKit

theorem take_setL {α : Type} {R : List α} {i : Nat} {x : α} (hi : i < R.length) : (R.set i x).take (i + 1) = R.take i ++ [x] := by
  rw [List.take_add_one, List.take_set_of_le (Nat.le_refl i)]
  simp [hi]
theorem drop_setL {α : Type} {R : List α} {i j : Nat} {x : α} (hij : i < j) : (R.set i x).drop j = R.drop j := by
  rw [List.drop_set_of_lt hij]
theorem filter_take {α : Type} {L : List α} {p : α → Bool} {j : Nat} {x : α} (hx : L[j]? = some x) : (L.take (j + 1)).filter p = (L.take j).filter p ++ (if p x = true then [x] else []) := by
  rw [List.take_add_one, hx, List.filter_append]
  simp only [Option.toList_some, List.filter_cons, List.filter_nil]
/-- What is left behind those of a key are struck. -/
def woAff (k : ByteArray) (L : List (ByteArray × Nat)) : List (ByteArray × Nat) := L.filter fun y => !decide (y.1 = k)
theorem own_cell_a {W : World} {base g cap i : Nat} {L : List (ByteArray × Nat)} {x : ByteArray × Nat} (h : W.ownsRow base 25 2 (.slice (some ⟨g, 0, none⟩) L.length cap) L.length (aC L)) (hx : L[i]? = some x) : W.cell? ⟨g, i * 2, none⟩ = some (.string x.1) ∧ W.cell? ⟨g, i * 2 + 1, none⟩ = some (.int .u8 x.2) ∧ W.frozen? ⟨g, i * 2, none⟩ = false ∧ W.frozen? ⟨g, i * 2 + 1, none⟩ = false := by
  have hlt := (List.getElem?_eq_some_iff.1 hx).1
  obtain ⟨h1, ⟨e, h2⟩ | ⟨g', cap', cur, e, x1, x2, x3, x4, x5, x6⟩⟩ := h
  · omega
  · cases e
    have e := aC_get L i x hx
    have e0 := e 0 (by omega)
    rw [← x6, List.getElem?_take_of_lt (by omega)] at e0
    have e1 := e 1 (by omega)
    rw [← x6, List.getElem?_take_of_lt (by omega)] at e1
    simp only [List.getElem_cons_zero, List.getElem_cons_succ, Nat.add_zero] at e0 e1
    refine ⟨?_, ?_, by simp [World.frozen?, x2], by simp [World.frozen?, x2]⟩
    · rw [cell_of_row W g _ _ _ _ x2]
      simpa using e0
    · rw [cell_of_row W g _ _ _ _ x2]
      simpa using e1
set_option maxRecDepth 100000 in
set_option maxHeartbeats 4000000 in
theorem del_a (L : List (ByteArray × Nat)) (k : ByteArray) (v : Value) (base bf bk : Nat) (w : World) (hf : w.heap[bf]? = some (.cells #[.func (.func 32) #[] #[]] 67)) (hk : w.heap[bk]? = some (.cells #[.string k] 9)) (hfb : bf < base) (hkb : bk < base) (hown : w.ownsRow base 25 2 v L.length (aC L)) (hl : L.length ≤ 1000000) (hb : base ≤ w.heap.size) :
    Calls Tryz.prog 81 #[v, .func (.func 82) #[] #[.pointer (some ⟨bf, 0, none⟩), .pointer (some ⟨bk, 0, none⟩)]] w fun e w' => ∃ v', e = .returned v' ∧ w'.ownsRow base 25 2 v' (woAff k L).length (aC (woAff k L)) ∧ Below base w w' := by
  have hfl := (Array.getElem?_eq_some_iff.1 hf).1
  have hkl := (Array.getElem?_eq_some_iff.1 hk).1
  obtain ⟨ao, cap, rfl, hm, hcap, hcm, hbase⟩ := own_a hown hl
  have hix := idx_a L k ao cap bf bk w hf hk hm
  obtain ⟨m, hml⟩ : ∃ m, L.length = m := ⟨_, rfl⟩
  have HH := hide (And.intro hf (And.intro hk (And.intro hown (And.intro hml (And.intro hm hbase)))))
  rw [hml] at hix hcap hl ⊢
  have HIX := hide hix
  clear hf hk hown hm hml hix hbase
  obtain ⟨F, hF⟩ : ∃ F, woAff k L = F := ⟨_, rfl⟩
  rw [hF]
  have HF := hide hF
  clear hF
  go_enter Tryz.func81, Tryz.ntmps81
  go_wp2_with fail
  refine HIX.out.mono ?_
  rintro e w1 ⟨⟨i0, x0, hx0, hk0, hno, rfl⟩ | ⟨hno, rfl⟩, b1⟩
  rotate_left
  · have hall : woAff k L = L := by
      unfold woAff
      rw [List.filter_eq_self]
      intro y hy
      simp [hno y hy]
    have H1 := hide (And.intro (HF.out.symm.trans hall) b1)
    clear hall b1 hno HIX
    go_wp2_with fail
    go_ret
    refine ⟨_, rfl, ?_, H1.out.2.mono hb⟩
    · rw [H1.out.1, HH.out.2.2.2.1]
      have h := own_same HH.out.2.2.1 (fun g e => H1.out.2.block g (own_lt HH.out.2.2.1 g e))
      rw [HH.out.2.2.2.1] at h
      exact h
  · have hi0 : i0 < m := by have := (List.getElem?_eq_some_iff.1 hx0).1; have := HH.out.2.2.2.1; omega
    obtain ⟨gb, goff, hge, hgl, _⟩ := HH.out.2.2.2.2.1.2 i0 x0 hx0
    have hgb := HH.out.2.2.2.2.2 _ hge
    have hgo : goff = 0 := hgb.2
    subst hgo
    obtain ⟨g, hg⟩ : ∃ g, gb = g := ⟨_, rfl⟩
    rw [hg] at hge hgl hgb
    have hgb1 : base ≤ g := hgb.1
    have hown1 := own_same HH.out.2.2.1 (fun g e => b1.block g (own_lt HH.out.2.2.1 g e))
    rw [hge] at hown1 ⊢
    have hst : L.take i0 = (L.take (i0 + 1)).filter (fun y => !decide (y.1 = k)) := by
      rw [filter_take hx0, List.filter_eq_self.2 (fun y hy => by simp [hno y hy])]
      simp [hk0]
    have hb1 : Below base w w1 := b1.mono hb
    have H1 := hide (And.intro hown1 (And.intro hb1 (And.intro hst hge)))
    have hi00 : (0 : Int) ≤ i0 := by omega
    have him1 : ((i0 : Int) == -1) = false := by rw [beq_eq_false_iff_ne]; omega
    clear hown1 hb1 hst b1 hno hx0 hk0 HIX hgb hg hge
    go_wp2_with fail
    go_loopw [5, 6] (fun iv jv wr => ∃ (i j : Nat) (R : List (ByteArray × Nat)), i < j ∧ j ≤ m ∧ R.length = m ∧ iv = .int .i64 i ∧ jv = .int .i64 j ∧ R.take i = (L.take j).filter (fun y => !decide (y.1 = k)) ∧ R.drop j = L.drop j ∧ wr.ownsRow base 25 2 (.slice (some ⟨g, 0, none⟩) m cap) m (aC R) ∧ Below base w wr) (fun _ jv _ => m - (intOf jv).toNat)
    case atStart => exact ⟨i0, i0 + 1, L, by omega, by omega, HH.out.2.2.2.1, rfl, by simp, H1.out.2.2.1, rfl, by rw [HH.out.2.2.2.1] at H1; exact H1.out.1, H1.out.2.1⟩
    case round =>
      obtain ⟨i, j, R, hij, hjm, hRl, rfl, rfl, hRi, hRj, hownR, hbw⟩ := hrel
      by_cases hlt : (j : Int) < m
      · obtain ⟨x, hx⟩ : ∃ x, L[j]? = some x := ⟨_, List.getElem?_eq_getElem (by have := HH.out.2.2.2.1; omega)⟩
        have hxR : R[j]? = some x := by
          have h1 : (R.drop j)[0]? = (L.drop j)[0]? := by rw [hRj]
          rw [List.getElem?_drop, List.getElem?_drop, Nat.add_zero] at h1
          rw [h1]
          exact hx
        obtain ⟨z, hz⟩ : ∃ z, R[i]? = some z := ⟨_, List.getElem?_eq_getElem (by omega)⟩
        rw [← hRl] at hownR
        obtain ⟨c0, c1, _, _⟩ := own_cell_a hownR hxR
        have hglr : g < wr.heap.size := own_lt hownR g rfl
        have hj0 : (0 : Int) ≤ j := by omega
        have hi0' : (0 : Int) ≤ i := by omega
        have him : (i : Int) < m := by omega
        have bbx : Below wr.heap.size wr (wr.alloc (.cells #[.string x.1, .int .u8 x.2] 25)) := (Below.refl _ wr).alloc (Nat.le_refl _) _
        have hbase1 : base ≤ wr.heap.size := by omega
        have hfn := wo_a x k bf bk (wr.alloc (.cells #[.string x.1, .int .u8 x.2] 25)) ((bbx.block bf (by omega)).trans ((hbw.block bf hfb).trans HH.out.1)) ((bbx.block bk (by omega)).trans ((hbw.block bk hkb).trans HH.out.2.1))
        obtain ⟨r, hr⟩ : ∃ r, (x.1.toList == k.toList) = r := ⟨_, rfl⟩
        rw [hr] at hfn
        have HI := hide (And.intro hfn (And.intro hbw (And.intro hownR (And.intro hRi (And.intro hRj (And.intro hx (And.intro hz (And.intro bbx (And.intro hRl hr)))))))))
        clear hfn hbw hownR hRi hRj hx hz bbx hxR hRl hr
        go_wp2_with (go_at_call 82; refine HI.out.1.mono ?_; rintro e w2 ⟨rfl, b2⟩; refine stopNd ?_)
        unfold Hid
        have B2 : Below wr.heap.size wr w2 := HI.out.2.2.2.2.2.2.2.1.trans (b2.mono HI.out.2.2.2.2.2.2.2.1.size)
        have f2 : w2.heap[wr.heap.size]? = some (.cells #[.string x.1, .int .u8 x.2] 25) := (b2.block _ (by simp)).trans (World.alloc_heap_new wr _)
        have own2 := own_same HI.out.2.2.1 (fun g e => B2.block g (own_lt HI.out.2.2.1 g e))
        obtain ⟨g0, g1⟩ := cell01 f2
        have BW := HI.out.2.1.trans (B2.mono hbase1)
        have H2 := hide (And.intro own2 BW)
        clear b2 B2 f2 BW c0 c1
        cases r with
        | true =>
          have hs : x.1 = k := ba_ext (by simpa using HI.out.2.2.2.2.2.2.2.2.2)
          have HS := hide hs
          clear hs own2
          go_wp2_with fail
          refine ⟨⟨i, j + 1, R, by omega, by omega, HI.out.2.2.2.2.2.2.2.2.1, rfl, by simp, ?_, ?_, by have h := H2.out.1; rw [HI.out.2.2.2.2.2.2.2.2.1] at h; exact h, H2.out.2⟩, by simp [intOf]; omega⟩
          · rw [filter_take HI.out.2.2.2.2.2.1, HI.out.2.2.2.1]
            simp [HS.out]
          · have h := congrArg (List.drop 1) HI.out.2.2.2.2.1
            rw [List.drop_drop, List.drop_drop] at h
            exact h
        | false =>
          have hs : ¬ x.1 = k := fun e => by
            have h := HI.out.2.2.2.2.2.2.2.2.2
            rw [e] at h
            simp at h
          obtain ⟨o0, o1, p0, p1⟩ := own_cell_a own2 HI.out.2.2.2.2.2.2.1
          have HS := hide hs
          clear hs own2
          go_wp2_with fail
          have hset := own_set_a x H2.out.1 (show i < R.length by have := HI.out.2.2.2.2.2.2.2.2.1; omega)
          have hbs : Below base w ((w2.setCell ⟨g, i * 2, none⟩ (.string x.1)).setCell ⟨g, i * 2 + 1, none⟩ (.int .u8 x.2)) := ((H2.out.2.setCell (p := ⟨g, _, none⟩) hgb1 _)).setCell (p := ⟨g, _, none⟩) hgb1 _
          refine ⟨⟨i + 1, j + 1, R.set i x, by omega, by omega, by rw [List.length_set]; exact HI.out.2.2.2.2.2.2.2.2.1, by simp, by simp, ?_, ?_, by rw [HI.out.2.2.2.2.2.2.2.2.1] at hset; exact hset, hbs⟩, by simp [intOf]; omega⟩
          · rw [take_setL (by have := HI.out.2.2.2.2.2.2.2.2.1; omega), filter_take HI.out.2.2.2.2.2.1, HI.out.2.2.2.1]
            simp [HS.out]
          · rw [drop_setL (by omega)]
            have h := congrArg (List.drop 1) HI.out.2.2.2.2.1
            rw [List.drop_drop, List.drop_drop] at h
            exact h
      · have hjm' : j = m := by omega
        have hi0' : (0 : Int) ≤ i := by omega
        have him : (i : Int) ≤ m := by omega
        have hic : (i : Int) ≤ cap := by omega
        have hcne : ¬ cap = i := by omega
        have hres : R.take i = F := by
          rw [hRi, hjm', List.take_of_length_le (by have := HH.out.2.2.2.1; omega)]
          exact HF.out
        rw [← hRl] at hownR
        obtain ⟨W9, hcl, own9, b9⟩ := clear_a (c := cap - i) (ty := 0) hownR (show i < R.length by omega)
        rw [hRl] at hcl
        rw [hres] at own9
        have hiF : i = F.length := by rw [← hres, List.length_take]; omega
        have H9 := hide (And.intro own9 (And.intro (hbw.trans b9) hiF))
        clear own9 b9 hownR hRi hRj hbw hres hRl hiF
        go_wp2_with fail
        go_ret
        exact ⟨_, rfl, by have h := H9.out.1; rw [H9.out.2.2] at h ⊢; exact h, H9.out.2.1⟩
set_option maxRecDepth 100000 in
set_option maxHeartbeats 4000000 in
theorem without_a (ao : Option Addr) (cap : Nat) (L : List (ByteArray × Nat)) (k : ByteArray) (w : World) (hm : AffMem w.heap.size w ao L) :
    Calls Tryz.prog 55 #[.slice ao L.length cap, .func (.func 32) #[] #[], .string k] w fun e w' => ∃ v', e = .returned v' ∧ w'.ownsRow w.heap.size 25 2 v' (woAff k L).length (aC (woAff k L)) ∧ Below w.heap.size w w' := by
  have hmf : ∀ (fn : Fn) (first cap : Array Value) (w : World), (Instr.makeFunc fn first cap).run Tryz.prog w = .ok (.func fn first cap) w := fun _ _ _ _ => rfl
  have hl := hm.1
  obtain ⟨Wa, hWa⟩ : ∃ Wa, w.alloc (.cells #[.func (.func 32) #[] #[]] 67) = Wa := ⟨_, rfl⟩
  have fa := World.alloc_heap_new w (.cells #[.func (.func 32) #[] #[]] 67)
  have za : Wa.heap.size = w.heap.size + 1 := by rw [← hWa]; simp
  have ba : Below w.heap.size w Wa := by rw [← hWa]; exact (Below.refl _ w).alloc (Nat.le_refl _) _
  rw [hWa] at fa
  obtain ⟨Wb, hWb⟩ : ∃ Wb, Wa.alloc (.cells #[.string k] 9) = Wb := ⟨_, rfl⟩
  have fb := World.alloc_heap_new Wa (.cells #[.string k] 9)
  have zb : Wb.heap.size = w.heap.size + 1 + 1 := by rw [← hWb, World.size_alloc, za]
  have bb : Below Wa.heap.size Wa Wb := by rw [← hWb]; exact (Below.refl _ Wa).alloc (Nat.le_refl _) _
  rw [hWb, za] at fb
  have bw := ba.trans (bb.mono ba.size)
  have fa' := (bb.block _ (by omega)).trans fa
  have HC := hide (copied_a ao cap L Wb ((hm.below bw).raise bw.size))
  obtain ⟨m, hml⟩ : ∃ m, L.length = m := ⟨_, rfl⟩
  have HH := hide (And.intro fa' (And.intro fb (And.intro bw (And.intro hml (And.intro hl zb)))))
  rw [← hWb, ← hWa, hml] at HC
  rw [hml]
  have HW := hide (And.intro hWa hWb)
  clear fa fa' fb bw ba bb hm hml hl za zb hWa hWb
  go_enter Tryz.func55, Tryz.ntmps55
  go_wp2_with fail
  refine HC.out.mono ?_
  rintro e w1 ⟨v1, rfl, hown1, b1⟩
  rw [HW.out.1, HW.out.2] at hown1 b1
  have hdel := del_a L k v1 Wb.heap.size w.heap.size (w.heap.size + 1) w1 ((b1.block _ (by have := HH.out.2.2.2.2.2; omega)).trans HH.out.1) ((b1.block _ (by have := HH.out.2.2.2.2.2; omega)).trans HH.out.2.1) (by have := HH.out.2.2.2.2.2; omega) (by have := HH.out.2.2.2.2.2; omega) (by rw [HH.out.2.2.2.1]; exact hown1) HH.out.2.2.2.2.1 b1.size
  obtain ⟨g1, c1, rfl⟩ := own_shape1 hown1
  have H1 := hide (And.intro hdel b1)
  clear hdel hown1 b1 HC
  go_wp2_with fail
  refine H1.out.1.mono ?_
  rintro e w2 ⟨v2, rfl, hown2, b2⟩
  have B2 : Below w.heap.size w w2 := HH.out.2.2.1.trans ((H1.out.2.trans b2).mono HH.out.2.2.1.size)
  have own2 := own_lowN (b' := w.heap.size) hown2 HH.out.2.2.1.size
  obtain ⟨g2, c2, rfl⟩ := own_shape1 own2
  have H2 := hide (And.intro own2 B2)
  clear own2 hown2 b2 B2
  go_wp2_with fail
  go_ret
  exact ⟨_, rfl, H2.out.1, H2.out.2⟩
/-- What is left behind those of a key are struck. -/
def woSub (k : ByteArray) (L : List (ByteArray × Bool × Int)) : List (ByteArray × Bool × Int) := L.filter fun y => !decide (y.1 = k)
theorem own_cell_s {W : World} {base g cap i : Nat} {L : List (ByteArray × Bool × Int)} {x : ByteArray × Bool × Int} (h : W.ownsRow base 43 3 (.slice (some ⟨g, 0, none⟩) L.length cap) L.length (sC L)) (hx : L[i]? = some x) : W.cell? ⟨g, i * 3, none⟩ = some (.string x.1) ∧ W.cell? ⟨g, i * 3 + 1, none⟩ = some (.bool x.2.1) ∧ W.cell? ⟨g, i * 3 + 2, none⟩ = some (.int .i64 x.2.2) ∧ W.frozen? ⟨g, i * 3, none⟩ = false ∧ W.frozen? ⟨g, i * 3 + 1, none⟩ = false ∧ W.frozen? ⟨g, i * 3 + 2, none⟩ = false := by
  have hlt := (List.getElem?_eq_some_iff.1 hx).1
  obtain ⟨h1, ⟨e, h2⟩ | ⟨g', cap', cur, e, x1, x2, x3, x4, x5, x6⟩⟩ := h
  · omega
  · cases e
    have e := sC_get L i x hx
    have e0 := e 0 (by omega)
    rw [← x6, List.getElem?_take_of_lt (by omega)] at e0
    have e1 := e 1 (by omega)
    rw [← x6, List.getElem?_take_of_lt (by omega)] at e1
    have e2 := e 2 (by omega)
    rw [← x6, List.getElem?_take_of_lt (by omega)] at e2
    simp only [List.getElem_cons_zero, List.getElem_cons_succ, Nat.add_zero] at e0 e1 e2
    refine ⟨?_, ?_, ?_, by simp [World.frozen?, x2], by simp [World.frozen?, x2], by simp [World.frozen?, x2]⟩
    · rw [cell_of_row W g _ _ _ _ x2]
      simpa using e0
    · rw [cell_of_row W g _ _ _ _ x2]
      simpa using e1
    · rw [cell_of_row W g _ _ _ _ x2]
      simpa using e2
set_option maxRecDepth 100000 in
set_option maxHeartbeats 4000000 in
theorem del_s (L : List (ByteArray × Bool × Int)) (k : ByteArray) (v : Value) (base bf bk : Nat) (w : World) (hf : w.heap[bf]? = some (.cells #[.func (.func 17) #[] #[]] 52)) (hk : w.heap[bk]? = some (.cells #[.string k] 9)) (hfb : bf < base) (hkb : bk < base) (hown : w.ownsRow base 43 3 v L.length (sC L)) (hl : L.length ≤ 1000000) (hb : base ≤ w.heap.size) :
    Calls Tryz.prog 46 #[v, .func (.func 47) #[] #[.pointer (some ⟨bf, 0, none⟩), .pointer (some ⟨bk, 0, none⟩)]] w fun e w' => ∃ v', e = .returned v' ∧ w'.ownsRow base 43 3 v' (woSub k L).length (sC (woSub k L)) ∧ Below base w w' := by
  have hfl := (Array.getElem?_eq_some_iff.1 hf).1
  have hkl := (Array.getElem?_eq_some_iff.1 hk).1
  obtain ⟨ao, cap, rfl, hm, hcap, hcm, hbase⟩ := own_s hown hl
  have hix := idx_s L k ao cap bf bk w hf hk hm
  obtain ⟨m, hml⟩ : ∃ m, L.length = m := ⟨_, rfl⟩
  have HH := hide (And.intro hf (And.intro hk (And.intro hown (And.intro hml (And.intro hm hbase)))))
  rw [hml] at hix hcap hl ⊢
  have HIX := hide hix
  clear hf hk hown hm hml hix hbase
  obtain ⟨F, hF⟩ : ∃ F, woSub k L = F := ⟨_, rfl⟩
  rw [hF]
  have HF := hide hF
  clear hF
  go_enter Tryz.func46, Tryz.ntmps46
  go_wp2_with fail
  refine HIX.out.mono ?_
  rintro e w1 ⟨⟨i0, x0, hx0, hk0, hno, rfl⟩ | ⟨hno, rfl⟩, b1⟩
  rotate_left
  · have hall : woSub k L = L := by
      unfold woSub
      rw [List.filter_eq_self]
      intro y hy
      simp [hno y hy]
    have H1 := hide (And.intro (HF.out.symm.trans hall) b1)
    clear hall b1 hno HIX
    go_wp2_with fail
    go_ret
    refine ⟨_, rfl, ?_, H1.out.2.mono hb⟩
    · rw [H1.out.1, HH.out.2.2.2.1]
      have h := own_same HH.out.2.2.1 (fun g e => H1.out.2.block g (own_lt HH.out.2.2.1 g e))
      rw [HH.out.2.2.2.1] at h
      exact h
  · have hi0 : i0 < m := by have := (List.getElem?_eq_some_iff.1 hx0).1; have := HH.out.2.2.2.1; omega
    obtain ⟨gb, goff, hge, hgl, _⟩ := HH.out.2.2.2.2.1.2 i0 x0 hx0
    have hgb := HH.out.2.2.2.2.2 _ hge
    have hgo : goff = 0 := hgb.2
    subst hgo
    obtain ⟨g, hg⟩ : ∃ g, gb = g := ⟨_, rfl⟩
    rw [hg] at hge hgl hgb
    have hgb1 : base ≤ g := hgb.1
    have hown1 := own_same HH.out.2.2.1 (fun g e => b1.block g (own_lt HH.out.2.2.1 g e))
    rw [hge] at hown1 ⊢
    have hst : L.take i0 = (L.take (i0 + 1)).filter (fun y => !decide (y.1 = k)) := by
      rw [filter_take hx0, List.filter_eq_self.2 (fun y hy => by simp [hno y hy])]
      simp [hk0]
    have hb1 : Below base w w1 := b1.mono hb
    have H1 := hide (And.intro hown1 (And.intro hb1 (And.intro hst hge)))
    have hi00 : (0 : Int) ≤ i0 := by omega
    have him1 : ((i0 : Int) == -1) = false := by rw [beq_eq_false_iff_ne]; omega
    clear hown1 hb1 hst b1 hno hx0 hk0 HIX hgb hg hge
    go_wp2_with fail
    go_loopw [5, 6] (fun iv jv wr => ∃ (i j : Nat) (R : List (ByteArray × Bool × Int)), i < j ∧ j ≤ m ∧ R.length = m ∧ iv = .int .i64 i ∧ jv = .int .i64 j ∧ R.take i = (L.take j).filter (fun y => !decide (y.1 = k)) ∧ R.drop j = L.drop j ∧ wr.ownsRow base 43 3 (.slice (some ⟨g, 0, none⟩) m cap) m (sC R) ∧ Below base w wr) (fun _ jv _ => m - (intOf jv).toNat)
    case atStart => exact ⟨i0, i0 + 1, L, by omega, by omega, HH.out.2.2.2.1, rfl, by simp, H1.out.2.2.1, rfl, by rw [HH.out.2.2.2.1] at H1; exact H1.out.1, H1.out.2.1⟩
    case round =>
      obtain ⟨i, j, R, hij, hjm, hRl, rfl, rfl, hRi, hRj, hownR, hbw⟩ := hrel
      by_cases hlt : (j : Int) < m
      · obtain ⟨x, hx⟩ : ∃ x, L[j]? = some x := ⟨_, List.getElem?_eq_getElem (by have := HH.out.2.2.2.1; omega)⟩
        have hxR : R[j]? = some x := by
          have h1 : (R.drop j)[0]? = (L.drop j)[0]? := by rw [hRj]
          rw [List.getElem?_drop, List.getElem?_drop, Nat.add_zero] at h1
          rw [h1]
          exact hx
        obtain ⟨z, hz⟩ : ∃ z, R[i]? = some z := ⟨_, List.getElem?_eq_getElem (by omega)⟩
        rw [← hRl] at hownR
        obtain ⟨c0, c1, c2, _, _, _⟩ := own_cell_s hownR hxR
        have hglr : g < wr.heap.size := own_lt hownR g rfl
        have hj0 : (0 : Int) ≤ j := by omega
        have hi0' : (0 : Int) ≤ i := by omega
        have him : (i : Int) < m := by omega
        have bbx : Below wr.heap.size wr (wr.alloc (.cells #[.string x.1, .bool x.2.1, .int .i64 x.2.2] 43)) := (Below.refl _ wr).alloc (Nat.le_refl _) _
        have hbase1 : base ≤ wr.heap.size := by omega
        have hfn := wo_s x k bf bk (wr.alloc (.cells #[.string x.1, .bool x.2.1, .int .i64 x.2.2] 43)) ((bbx.block bf (by omega)).trans ((hbw.block bf hfb).trans HH.out.1)) ((bbx.block bk (by omega)).trans ((hbw.block bk hkb).trans HH.out.2.1))
        obtain ⟨r, hr⟩ : ∃ r, (x.1.toList == k.toList) = r := ⟨_, rfl⟩
        rw [hr] at hfn
        have HI := hide (And.intro hfn (And.intro hbw (And.intro hownR (And.intro hRi (And.intro hRj (And.intro hx (And.intro hz (And.intro bbx (And.intro hRl hr)))))))))
        clear hfn hbw hownR hRi hRj hx hz bbx hxR hRl hr
        go_wp2_with (go_at_call 47; refine HI.out.1.mono ?_; rintro e w2 ⟨rfl, b2⟩; refine stopNd ?_)
        unfold Hid
        have B2 : Below wr.heap.size wr w2 := HI.out.2.2.2.2.2.2.2.1.trans (b2.mono HI.out.2.2.2.2.2.2.2.1.size)
        have f2 : w2.heap[wr.heap.size]? = some (.cells #[.string x.1, .bool x.2.1, .int .i64 x.2.2] 43) := (b2.block _ (by simp)).trans (World.alloc_heap_new wr _)
        have own2 := own_same HI.out.2.2.1 (fun g e => B2.block g (own_lt HI.out.2.2.1 g e))
        obtain ⟨g0, g1, g2, _, _, _⟩ := cells_s f2
        have BW := HI.out.2.1.trans (B2.mono hbase1)
        have H2 := hide (And.intro own2 BW)
        clear b2 B2 f2 BW c0 c1 c2
        cases r with
        | true =>
          have hs : x.1 = k := ba_ext (by simpa using HI.out.2.2.2.2.2.2.2.2.2)
          have HS := hide hs
          clear hs own2
          go_wp2_with fail
          refine ⟨⟨i, j + 1, R, by omega, by omega, HI.out.2.2.2.2.2.2.2.2.1, rfl, by simp, ?_, ?_, by have h := H2.out.1; rw [HI.out.2.2.2.2.2.2.2.2.1] at h; exact h, H2.out.2⟩, by simp [intOf]; omega⟩
          · rw [filter_take HI.out.2.2.2.2.2.1, HI.out.2.2.2.1]
            simp [HS.out]
          · have h := congrArg (List.drop 1) HI.out.2.2.2.2.1
            rw [List.drop_drop, List.drop_drop] at h
            exact h
        | false =>
          have hs : ¬ x.1 = k := fun e => by
            have h := HI.out.2.2.2.2.2.2.2.2.2
            rw [e] at h
            simp at h
          obtain ⟨o0, o1, o2, p0, p1, p2⟩ := own_cell_s own2 HI.out.2.2.2.2.2.2.1
          have HS := hide hs
          clear hs own2
          go_wp2_with fail
          have hset := own_set_s x H2.out.1 (show i < R.length by have := HI.out.2.2.2.2.2.2.2.2.1; omega)
          have hbs : Below base w (((w2.setCell ⟨g, i * 3, none⟩ (.string x.1)).setCell ⟨g, i * 3 + 1, none⟩ (.bool x.2.1)).setCell ⟨g, i * 3 + 2, none⟩ (.int .i64 x.2.2)) := (((H2.out.2.setCell (p := ⟨g, _, none⟩) hgb1 _)).setCell (p := ⟨g, _, none⟩) hgb1 _).setCell (p := ⟨g, _, none⟩) hgb1 _
          refine ⟨⟨i + 1, j + 1, R.set i x, by omega, by omega, by rw [List.length_set]; exact HI.out.2.2.2.2.2.2.2.2.1, by simp, by simp, ?_, ?_, by rw [HI.out.2.2.2.2.2.2.2.2.1] at hset; exact hset, hbs⟩, by simp [intOf]; omega⟩
          · rw [take_setL (by have := HI.out.2.2.2.2.2.2.2.2.1; omega), filter_take HI.out.2.2.2.2.2.1, HI.out.2.2.2.1]
            simp [HS.out]
          · rw [drop_setL (by omega)]
            have h := congrArg (List.drop 1) HI.out.2.2.2.2.1
            rw [List.drop_drop, List.drop_drop] at h
            exact h
      · have hjm' : j = m := by omega
        have hi0' : (0 : Int) ≤ i := by omega
        have him : (i : Int) ≤ m := by omega
        have hic : (i : Int) ≤ cap := by omega
        have hcne : ¬ cap = i := by omega
        have hres : R.take i = F := by
          rw [hRi, hjm', List.take_of_length_le (by have := HH.out.2.2.2.1; omega)]
          exact HF.out
        rw [← hRl] at hownR
        obtain ⟨W9, hcl, own9, b9⟩ := clear_s (c := cap - i) (ty := 0) hownR (show i < R.length by omega)
        rw [hRl] at hcl
        rw [hres] at own9
        have hiF : i = F.length := by rw [← hres, List.length_take]; omega
        have H9 := hide (And.intro own9 (And.intro (hbw.trans b9) hiF))
        clear own9 b9 hownR hRi hRj hbw hres hRl hiF
        go_wp2_with fail
        go_ret
        exact ⟨_, rfl, by have h := H9.out.1; rw [H9.out.2.2] at h ⊢; exact h, H9.out.2.1⟩
set_option maxRecDepth 100000 in
set_option maxHeartbeats 4000000 in
theorem without_s (ao : Option Addr) (cap : Nat) (L : List (ByteArray × Bool × Int)) (k : ByteArray) (w : World) (hm : SubMem w.heap.size w ao L) :
    Calls Tryz.prog 18 #[.slice ao L.length cap, .func (.func 17) #[] #[], .string k] w fun e w' => ∃ v', e = .returned v' ∧ w'.ownsRow w.heap.size 43 3 v' (woSub k L).length (sC (woSub k L)) ∧ Below w.heap.size w w' := by
  have hmf : ∀ (fn : Fn) (first cap : Array Value) (w : World), (Instr.makeFunc fn first cap).run Tryz.prog w = .ok (.func fn first cap) w := fun _ _ _ _ => rfl
  have hl := hm.1
  obtain ⟨Wa, hWa⟩ : ∃ Wa, w.alloc (.cells #[.func (.func 17) #[] #[]] 52) = Wa := ⟨_, rfl⟩
  have fa := World.alloc_heap_new w (.cells #[.func (.func 17) #[] #[]] 52)
  have za : Wa.heap.size = w.heap.size + 1 := by rw [← hWa]; simp
  have ba : Below w.heap.size w Wa := by rw [← hWa]; exact (Below.refl _ w).alloc (Nat.le_refl _) _
  rw [hWa] at fa
  obtain ⟨Wb, hWb⟩ : ∃ Wb, Wa.alloc (.cells #[.string k] 9) = Wb := ⟨_, rfl⟩
  have fb := World.alloc_heap_new Wa (.cells #[.string k] 9)
  have zb : Wb.heap.size = w.heap.size + 1 + 1 := by rw [← hWb, World.size_alloc, za]
  have bb : Below Wa.heap.size Wa Wb := by rw [← hWb]; exact (Below.refl _ Wa).alloc (Nat.le_refl _) _
  rw [hWb, za] at fb
  have bw := ba.trans (bb.mono ba.size)
  have fa' := (bb.block _ (by omega)).trans fa
  have HC := hide (copied_s ao cap L Wb ((hm.below bw).raise bw.size))
  obtain ⟨m, hml⟩ : ∃ m, L.length = m := ⟨_, rfl⟩
  have HH := hide (And.intro fa' (And.intro fb (And.intro bw (And.intro hml (And.intro hl zb)))))
  rw [← hWb, ← hWa, hml] at HC
  rw [hml]
  have HW := hide (And.intro hWa hWb)
  clear fa fa' fb bw ba bb hm hml hl za zb hWa hWb
  go_enter Tryz.func18, Tryz.ntmps18
  go_wp2_with fail
  refine HC.out.mono ?_
  rintro e w1 ⟨v1, rfl, hown1, b1⟩
  rw [HW.out.1, HW.out.2] at hown1 b1
  have hdel := del_s L k v1 Wb.heap.size w.heap.size (w.heap.size + 1) w1 ((b1.block _ (by have := HH.out.2.2.2.2.2; omega)).trans HH.out.1) ((b1.block _ (by have := HH.out.2.2.2.2.2; omega)).trans HH.out.2.1) (by have := HH.out.2.2.2.2.2; omega) (by have := HH.out.2.2.2.2.2; omega) (by rw [HH.out.2.2.2.1]; exact hown1) HH.out.2.2.2.2.1 b1.size
  obtain ⟨g1, c1, rfl⟩ := own_shape1 hown1
  have H1 := hide (And.intro hdel b1)
  clear hdel hown1 b1 HC
  go_wp2_with fail
  refine H1.out.1.mono ?_
  rintro e w2 ⟨v2, rfl, hown2, b2⟩
  have B2 : Below w.heap.size w w2 := HH.out.2.2.1.trans ((H1.out.2.trans b2).mono HH.out.2.2.1.size)
  have own2 := own_lowN (b' := w.heap.size) hown2 HH.out.2.2.1.size
  obtain ⟨g2, c2, rfl⟩ := own_shape1 own2
  have H2 := hide (And.intro own2 B2)
  clear own2 hown2 b2 B2
  go_wp2_with fail
  go_ret
  exact ⟨_, rfl, H2.out.1, H2.out.2⟩
/-- What is left behind those of a key are struck. -/
def woItem (k : ByteArray) (L : List (ByteArray × ByteArray × ByteArray)) : List (ByteArray × ByteArray × ByteArray) := L.filter fun y => !decide (y.1 = k)
theorem own_cell_i {W : World} {base g cap i : Nat} {L : List (ByteArray × ByteArray × ByteArray)} {x : ByteArray × ByteArray × ByteArray} (h : W.ownsRow base 83 3 (.slice (some ⟨g, 0, none⟩) L.length cap) L.length (iC L)) (hx : L[i]? = some x) : W.cell? ⟨g, i * 3, none⟩ = some (.string x.1) ∧ W.cell? ⟨g, i * 3 + 1, none⟩ = some (.string x.2.1) ∧ W.cell? ⟨g, i * 3 + 2, none⟩ = some (.string x.2.2) ∧ W.frozen? ⟨g, i * 3, none⟩ = false ∧ W.frozen? ⟨g, i * 3 + 1, none⟩ = false ∧ W.frozen? ⟨g, i * 3 + 2, none⟩ = false := by
  have hlt := (List.getElem?_eq_some_iff.1 hx).1
  obtain ⟨h1, ⟨e, h2⟩ | ⟨g', cap', cur, e, x1, x2, x3, x4, x5, x6⟩⟩ := h
  · omega
  · cases e
    have e := iC_get L i x hx
    have e0 := e 0 (by omega)
    rw [← x6, List.getElem?_take_of_lt (by omega)] at e0
    have e1 := e 1 (by omega)
    rw [← x6, List.getElem?_take_of_lt (by omega)] at e1
    have e2 := e 2 (by omega)
    rw [← x6, List.getElem?_take_of_lt (by omega)] at e2
    simp only [List.getElem_cons_zero, List.getElem_cons_succ, Nat.add_zero] at e0 e1 e2
    refine ⟨?_, ?_, ?_, by simp [World.frozen?, x2], by simp [World.frozen?, x2], by simp [World.frozen?, x2]⟩
    · rw [cell_of_row W g _ _ _ _ x2]
      simpa using e0
    · rw [cell_of_row W g _ _ _ _ x2]
      simpa using e1
    · rw [cell_of_row W g _ _ _ _ x2]
      simpa using e2
end Go.Proofs.YtffjmkngdjbjlaaGreatDoor
