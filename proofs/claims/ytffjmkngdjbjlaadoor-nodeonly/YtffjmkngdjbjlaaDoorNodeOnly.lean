/- NodeOnly: an edit of items changes items alone, one of people people alone. -/
import Derived.Test.YtffjmkngdjbjlaaDoorNe20
import Derived.Test.YtffjmkngdjbjlaaDoorQN
import Derived.Test.YtffjmkngdjbjlaaDoorNe18
import Derived.Test.YtffjmkngdjbjlaaDoorNodeMay
namespace Go.Proofs.YtffjmkngdjbjlaaDoor
open Go.RowKit

theorem mixS {w : World} {n m : Nd} {v u : NdW} (h : NdM w.heap.size w n v) (hm : NdM w.heap.size w m u) : NdM w.heap.size w { n with subs := m.subs } { v with sa := u.sa, sc := u.sc } :=
  ⟨⟨h.ok.1, hm.ok.2.1, h.ok.2.2.1, hm.ok.2.2.2⟩, h.it, h.ic, ⟨h.fits.name, h.fits.parent, h.fits.affs, hm.fits.subs, h.fits.items⟩⟩
theorem mixA {w : World} {n m : Nd} {v u : NdW} (h : NdM w.heap.size w n v) (hm : NdM w.heap.size w m u) : NdM w.heap.size w { n with affs := m.affs, subs := m.subs } { v with aa := u.aa, ac := u.ac, sa := u.sa, sc := u.sc } :=
  ⟨⟨hm.ok.1, hm.ok.2.1, hm.ok.2.2.1, hm.ok.2.2.2⟩, h.it, h.ic, ⟨h.fits.name, h.fits.parent, hm.fits.affs, hm.fits.subs, h.fits.items⟩⟩
theorem mixI {w : World} {n m : Nd} {v u : NdW} (h : NdM w.heap.size w n v) (hm : NdM w.heap.size w m u) : NdM w.heap.size w { n with items := m.items } { v with ia := u.ia, ic := u.ic } :=
  ⟨⟨h.ok.1, h.ok.2.1, h.ok.2.2.1, h.ok.2.2.2⟩, hm.it, hm.ic, ⟨h.fits.name, h.fits.parent, h.fits.affs, h.fits.subs, hm.fits.items⟩⟩
theorem mixC {w : World} {n m : Nd} {v u : NdW} (h : NdM w.heap.size w n v) (hm : NdM w.heap.size w m u) : NdM w.heap.size w { n with acc := m.acc, max := m.max, items := m.items } { v with ia := u.ia, ic := u.ic } :=
  ⟨⟨h.ok.1, h.ok.2.1, h.ok.2.2.1, h.ok.2.2.2⟩, hm.it, hm.ic, ⟨h.fits.name, h.fits.parent, h.fits.affs, h.fits.subs, hm.fits.items⟩⟩
theorem agg_one3 (w : World) : (isAgg 3).run Tryd.prog w = .ok false w := by
  unfold isAgg
  rw [Sem.run_bind, run_underlying Tryd.underlying3 w]
  simp
theorem agg_one22 (w : World) : (isAgg 22).run Tryd.prog w = .ok false w := by
  unfold isAgg
  rw [Sem.run_bind, run_underlying Tryd.underlying22 w]
  simp
theorem store_u8 {w : World} {b i : Nat} {v : Value} {z : Int} (hc : w.cell? ⟨b, i, none⟩ = some v) (hf : w.frozen? ⟨b, i, none⟩ = false) : (Instr.storeAt 22 (.pointer (some ⟨b, i, none⟩)) (.int .u8 z)).run Tryd.prog w = .ok () (w.setCell ⟨b, i, none⟩ (.int .u8 z)) := by
  simp [Instr.storeAt, Instr.sureAddr, storeVar, hc, hf, go_sem]
theorem store_i64 {w : World} {b i : Nat} {v : Value} {z : Int} (hc : w.cell? ⟨b, i, none⟩ = some v) (hf : w.frozen? ⟨b, i, none⟩ = false) : (Instr.storeAt 3 (.pointer (some ⟨b, i, none⟩)) (.int .i64 z)).run Tryd.prog w = .ok () (w.setCell ⟨b, i, none⟩ (.int .i64 z)) := by
  simp [Instr.storeAt, Instr.sureAddr, storeVar, hc, hf, go_sem]
theorem only_subs {n m : Nd} {x : Ed} (h : DoneC n x m) (hk : x.kind = 0 ∨ x.kind = 1 ∨ x.kind = 2) : { n with subs := m.subs } = m := by
  unfold DoneC at h
  rcases hk with hk | hk | hk
  · rw [hk] at h
    obtain ⟨_, _, rfl⟩ := h
    rfl
  · rw [hk] at h
    obtain ⟨_, _, rfl⟩ := h
    rfl
  · rw [hk] at h
    obtain ⟨_, _, _, _, rfl⟩ := h
    rfl
theorem only_affs {n m : Nd} {x : Ed} (h : DoneC n x m) (hk : x.kind = 3) : { n with affs := m.affs, subs := m.subs } = m := by
  unfold DoneC at h
  rw [hk] at h
  obtain ⟨_, _, _, _, _, _, _, rfl⟩ := h
  rfl
theorem only_items {n m : Nd} {x : Ed} (h : DoneC n x m) (hk : x.kind = 4 ∨ x.kind = 5 ∨ x.kind = 6) : { n with items := m.items } = m := by
  unfold DoneC at h
  rcases hk with hk | hk | hk
  · rw [hk] at h
    obtain ⟨_, _, _, _, _, rfl⟩ := h
    rfl
  · rw [hk] at h
    obtain ⟨_, _, _, rfl⟩ := h
    rfl
  · rw [hk] at h
    obtain ⟨_, _, _, rfl⟩ := h
    rfl
theorem only_cfg {n m : Nd} {x : Ed} (h : DoneC n x m) (h0 : x.kind ≠ 0) (h1 : x.kind ≠ 1) (h2 : x.kind ≠ 2) (h3 : x.kind ≠ 3) (h4 : x.kind ≠ 4) (h5 : x.kind ≠ 5) (h6 : x.kind ≠ 6) : { n with acc := m.acc, max := m.max, items := m.items } = m := by
  unfold DoneC at h
  rw [if_neg h0, if_neg h1, if_neg h2, if_neg h3, if_neg h4, if_neg h5, if_neg h6] at h
  obtain ⟨_, _, _, _, rfl⟩ := h
  rfl
set_option maxRecDepth 100000 in
set_option maxHeartbeats 1000000 in
theorem nodeOnly_any (n : Nd) (v : NdW) (x : Ed) (w : World) (hr : RawM w n v) (hg : Glob w) (hf : EdFits x) :
    Calls Tryd.prog 4 #[.agg (ndA n v), .agg (edA x)] w fun e w' => e = .returned (.bool true) ∧ Below w.heap.size w w' := by
  obtain ⟨Wa, hWa⟩ : ∃ Wa, w.alloc (.cells (ndA n v) 28) = Wa := ⟨_, rfl⟩
  have fa := World.alloc_heap_new w (.cells (ndA n v) 28)
  have ba : Below w.heap.size w Wa := by rw [← hWa]; exact (Below.refl _ w).alloc (Nat.le_refl _) _
  have za : Wa.heap.size = w.heap.size + 1 := by rw [← hWa]; simp
  obtain ⟨W, hW⟩ : ∃ W, Wa.alloc (.cells (edA x) 35) = W := ⟨_, rfl⟩
  have fb := World.alloc_heap_new Wa (.cells (edA x) 35)
  have bb : Below Wa.heap.size Wa W := by rw [← hW]; exact (Below.refl _ Wa).alloc (Nat.le_refl _) _
  have zb : W.heap.size = w.heap.size + 2 := by rw [← hW, World.size_alloc, za]
  rw [hWa] at fa
  rw [hW, za] at fb
  have f0 := (bb.block _ (by omega)).trans fa
  have bW : Below w.heap.size w W := ba.trans (bb.mono ba.size)
  rw [← hWa] at hW
  have HFew := hide (few_any n v W (hr.move bW))
  have HG := hide hg
  have HF := hide hf
  have HK := hide (And.intro f0 (And.intro fb (And.intro bW (And.intro zb hr.mem))))
  have HA := hide (load_nd f0)
  have HW := hide hW
  rw [← hW] at HFew HA
  clear hr hg hf fa ba za hWa fb bb zb f0 bW hW
  go_enter Tryd.func4, Tryd.ntmps4
  go_wp2_with (refine l_load _ HA.out rfl rfl rfl ?_)
  refine HFew.out.mono ?_
  rintro e w1 ⟨rfl, b1⟩
  have b1' : Below W.heap.size W w1 := by
    have h : _ = W := HW.out
    rw [h] at b1
    exact b1
  have g0 := (b1'.block _ (by have := HK.out.2.2.2.1; omega)).trans HK.out.1
  have g1 := (b1'.block _ (by have := HK.out.2.2.2.1; omega)).trans HK.out.2.1
  have B1 := HK.out.2.2.1.trans (b1'.mono HK.out.2.2.1.size)
  have Z1 := b1'.size
  have HR := hide g0
  clear b1 b1' HW HA HFew
  go_wp2_with (refine l_store _ (store_nd (n := fewN n) (u := v) HR.out) rfl rfl rfl rfl ?_; refine stopNd ?_)
  unfold Hid
  have h0 : (setNd w1 w.heap.size (fewN n) v).heap[w.heap.size]? = some (.cells (ndA (fewN n) v) 28) := setNd_heap g0
  have h1 : (setNd w1 w.heap.size (fewN n) v).heap[w.heap.size + 1]? = some (.cells (edA x) 35) := (setNd_far _ (by omega)).trans g1
  have B2 : Below w.heap.size w (setNd w1 w.heap.size (fewN n) v) := setNd_below B1 (Nat.le_refl _)
  have hz : (setNd w1 w.heap.size (fewN n) v).heap.size = w1.heap.size := setNd_size
  obtain ⟨W1, hW1⟩ : ∃ W1, setNd w1 w.heap.size (fewN n) v = W1 := ⟨_, rfl⟩
  rw [hW1] at h0 h1 B2 hz ⊢
  have hm1 := HK.out.2.2.2.2.move B2
  have hz1 : w.heap.size + 2 ≤ W1.heap.size := by have := HK.out.2.2.2.1; omega
  have HDo := hide (do_any (fewN n) v x W1 hm1 (HG.out.below B2) HF.out)
  have HK1 := hide (And.intro h0 (And.intro h1 (And.intro B2 (And.intro hz1 hm1))))
  have HL0 := hide (load_nd h0)
  have HL1 := hide (load_ed11 h1)
  clear g0 g1 B1 Z1 HR h0 h1 B2 hz hW1 hm1 hz1 HK
  go_wp2_with (first | refine l_load _ HL0.out rfl rfl rfl ?_ | refine l_load _ HL1.out rfl rfl rfl ?_)
  refine HDo.out.mono ?_
  rintro e w2 ⟨m, u, c, rfl, hC, hm2, b2, ho2⟩
  have HC := hide hC
  have h2 := World.alloc_heap_new w2 (.cells (ndA m u) 28)
  have B2 : Below w2.heap.size w2 (w2.alloc (.cells (ndA m u) 28)) := (Below.refl _ w2).alloc (Nat.le_refl _) _
  obtain ⟨W2, hW2⟩ : ∃ W2, w2.alloc (.cells (ndA m u) 28) = W2 := ⟨_, rfl⟩
  have hW2' : w2.alloc (.cells #[.string m.name, .bool m.coll, .int .u8 m.acc, .int .i64 m.max, .slice u.aa m.affs.length u.ac, .slice u.sa m.subs.length u.sc, .slice u.ia m.items.length u.ic, .string m.parent] 28) = W2 := hW2
  rw [hW2] at h2 B2
  obtain ⟨q, hq⟩ : ∃ q, w2.heap.size = q := ⟨_, rfl⟩
  have hq2 : w.heap.size + 2 ≤ q := by have := b2.size; have := HK1.out.2.2.2.1; omega
  have hm3 := hm2.move B2
  have B3 : Below W1.heap.size W1 W2 := b2.trans (B2.mono b2.size)
  rw [hq] at h2
  have HX2 := hide (And.intro ((B3.block _ (by have := HK1.out.2.2.2.1; omega)).trans HK1.out.1) (And.intro ((B3.block _ (by have := HK1.out.2.2.2.1; omega)).trans HK1.out.2.1) (And.intro h2 (And.intro (HK1.out.2.2.2.2.move B3) (And.intro hm3 (HK1.out.2.2.1.trans (B3.mono HK1.out.2.2.1.size)))))))
  have HQ := hide hq2
  have HQQ := hide hq
  have HLz := hide (load_nd HX2.out.1)
  rw [← hW2'] at HLz
  have HW2 := hide hW2'
  clear hC HDo HL0 HL1 hm2 b2 ho2 h2 B2 hW2 hW2' hq hq2 hm3 B3 HK1
  rw [show (ndA m u : Array Value) = #[.string m.name, .bool m.coll, .int .u8 m.acc, .int .i64 m.max, .slice u.aa m.affs.length u.ac, .slice u.sa m.subs.length u.sc, .slice u.ia m.items.length u.ic, .string m.parent] from rfl]
  by_cases hc0 : c = 0
  · subst hc0
    have HDn := hide (do_done HC.out)
    go_wp2_with (refine l_load _ HLz.out rfl rfl rfl ?_; refine stopNd ?_)
    unfold Hid
    have hW2 := HW2.out
    have hq := HQQ.out
    rw [hW2, hq]
    clear hW2 hq HW2 HQQ HLz
    obtain ⟨N, hN⟩ : ∃ N, fewN n = N := ⟨_, rfl⟩
    rw [hN] at HX2 HDn ⊢
    clear HC hN
    rw [show (ndA N v : Array Value) = #[.string N.name, .bool N.coll, .int .u8 N.acc, .int .i64 N.max, .slice v.aa N.affs.length v.ac, .slice v.sa N.subs.length v.sc, .slice v.ia N.items.length v.ic, .string N.parent] from rfl]
    have f3 := World.alloc_heap_new W2 (.cells (ndA N v) 28)
    have b3 : Below W2.heap.size W2 (W2.alloc (.cells (ndA N v) 28)) := (Below.refl _ W2).alloc (Nat.le_refl _) _
    obtain ⟨p, hp⟩ : ∃ p, W2.heap.size = p := ⟨_, rfl⟩
    obtain ⟨W3, hW3⟩ : ∃ W3, W2.alloc (.cells (ndA N v) 28) = W3 := ⟨_, rfl⟩
    have hW3' : W2.alloc (.cells #[.string N.name, .bool N.coll, .int .u8 N.acc, .int .i64 N.max, .slice v.aa N.affs.length v.ac, .slice v.sa N.subs.length v.sc, .slice v.ia N.items.length v.ic, .string N.parent] 28) = W3 := hW3
    rw [hW3] at f3 b3
    have hql : q < W2.heap.size := (Array.getElem?_eq_some_iff.1 HX2.out.2.2.1).1
    have e3 := (b3.block _ (Array.getElem?_eq_some_iff.1 HX2.out.2.1).1).trans HX2.out.2.1
    have m3 := (b3.block _ hql).trans HX2.out.2.2.1
    have B3 := HX2.out.2.2.2.2.2.trans (b3.mono HX2.out.2.2.2.2.2.size)
    have s3 := b3.size
    have HX3 := hide (And.intro e3 (And.intro m3 (And.intro (HX2.out.2.2.2.1.move b3) (And.intro (HX2.out.2.2.2.2.1.move b3) B3))))
    have hp2 : w.heap.size ≤ p := by have := HX2.out.2.2.2.2.2.size; omega
    have hpq : q < p := by omega
    rw [hp] at f3
    have bp : Below p W2 W3 := by rw [hp] at b3; exact b3
    have HP := hide (And.intro f3 (And.intro hp2 (And.intro hpq (And.intro bp (And.intro HX2.out.2.2.2.1 (And.intro HX2.out.2.2.2.2.1 hp))))))
    have HLk := hide (load_int (ed_box11 e3).1)
    rw [← hW3'] at HLk
    have HW3 := hide hW3'
    have HPP := hide hp
    clear f3 b3 hW3 hW3' hql e3 m3 B3 s3 hp2 hpq bp HX2 hp
    go_wp2_with (refine l_load _ HLk.out rfl rfl rfl ?_; refine stopNd ?_)
    unfold Hid
    have hW3 := HW3.out
    have hp := HPP.out
    rw [hW3, hp]
    clear hW3 hp HW3 HPP HLk
    obtain ⟨kd, hkd⟩ : ∃ kd, x.kind = kd := ⟨_, rfl⟩
    have c0 := (ed_box11 HX3.out.1).1
    rw [hkd] at c0 ⊢
    have HKD := hide hkd
    clear hkd
    by_cases h0 : kd = 0
    · subst h0
      have HON := hide (only_subs HDn.out (.inl HKD.out))
      have m5 : W3.cell? ⟨q, 5, none⟩ = some (.slice u.sa m.subs.length u.sc) := (nd_box HX3.out.2.1).2.2.2.2.2.1
      have y5 : W3.cell? ⟨p, 5, none⟩ = some (.slice v.sa N.subs.length v.sc) := (nd_box HP.out.1).2.2.2.2.2.1
      have z5 : W3.frozen? ⟨p, 5, none⟩ = false := by simp [World.frozen?, HP.out.1]
      have hy : (W3.setCell ⟨p, 5, none⟩ (.slice u.sa m.subs.length u.sc)).heap[p]? = some (.cells (ndA m { v with sa := u.sa, sc := u.sc }) 28) := by
        have h0 : W3.heap[p]? = some (.cells (ndA N v) 28) := HP.out.1
        have h1 := heap_setk (i := 5) (v := .slice u.sa m.subs.length u.sc) h0
        have h9 : (W3.setCell ⟨p, 5, none⟩ (.slice u.sa m.subs.length u.sc)).heap[p]? = some (.cells (ndA { N with subs := m.subs } { v with sa := u.sa, sc := u.sc }) 28) := by
          rw [h1]
          rfl
        rw [HON.out] at h9
        exact h9
      have bb : Below p W2 (W3.setCell ⟨p, 5, none⟩ (.slice u.sa m.subs.length u.sc)) := (HP.out.2.2.2.1.setCell (p := ⟨p, 5, none⟩) (Nat.le_refl _) (.slice u.sa m.subs.length u.sc))
      have hne : ∀ (V : World) (i : Nat) (z : Value), (V.setCell ⟨p, i, none⟩ z).heap[q]? = V.heap[q]? := fun V i z => set_blk _ _ _ _ (by show q ≠ p; have := HP.out.2.2.1; omega)
      have hmq : (W3.setCell ⟨p, 5, none⟩ (.slice u.sa m.subs.length u.sc)).heap[q]? = some (.cells (ndA m u) 28) := by rw [hne]; exact HX3.out.2.1
      have hB : Below w.heap.size w (W3.setCell ⟨p, 5, none⟩ (.slice u.sa m.subs.length u.sc)) := (HX3.out.2.2.2.2.setCell (p := ⟨p, 5, none⟩) HP.out.2.1 (.slice u.sa m.subs.length u.sc))
      have hmx := mixS HP.out.2.2.2.2.1 HP.out.2.2.2.2.2.1
      rw [HON.out] at hmx
      have HLi := hide (live11_any (W3.setCell ⟨p, 5, none⟩ (.slice u.sa m.subs.length u.sc)) (HG.out.below hB))
      have HY := hide (And.intro hy (And.intro hmq (And.intro hB (And.intro bb hmx))))
      clear hy bb hne hmq hB hmx
      go_wp2_with (refine l_store _ (store_any (size_one25 _) y5 z5) rfl rfl rfl rfl ?_)
      refine HLi.out.mono ?_
      rintro e w5 ⟨rfl, b5⟩
      obtain ⟨W4, hW4⟩ : ∃ W4, (W3.setCell ⟨p, 5, none⟩ (.slice u.sa m.subs.length u.sc)) = W4 := ⟨_, rfl⟩
      rw [hW4] at HY b5
      have hp := HP.out.2.2.2.2.2.2
      have b5' : Below W2.heap.size W2 w5 := by rw [hp]; exact HY.out.2.2.2.1.trans (b5.mono (by have := HY.out.2.2.2.1.size; omega))
      have n1 := (b5.block _ (Array.getElem?_eq_some_iff.1 HY.out.1).1).trans HY.out.1
      have n2 := (b5.block _ (Array.getElem?_eq_some_iff.1 HY.out.2.1).1).trans HY.out.2.1
      have HSm := hide (same_yes m u { v with sa := u.sa, sc := u.sc } w5 (HP.out.2.2.2.2.2.1.move b5') (HY.out.2.2.2.2.move b5'))
      have H5 := hide (HY.out.2.2.1.trans (b5.mono HY.out.2.2.1.size))
      obtain ⟨a0, a1, a2, a3, a4, a5, a6, a7⟩ := nd_box n1
      obtain ⟨d0, d1, d2, d3, d4, d5, d6, d7⟩ := nd_box n2
      clear hW4 b5 b5' n1 n2 hp m5 y5 z5
      go_wp2_with fail
      refine HSm.out.mono ?_
      rintro e w6 ⟨rfl, b6⟩
      have H6 := hide (H5.out.trans (b6.mono H5.out.size))
      clear b6 a0 a1 a2 a3 a4 a5 a6 a7 d0 d1 d2 d3 d4 d5 d6 d7
      go_wp2_with fail
      go_ret
      exact ⟨rfl, H6.out⟩
    · skip
      by_cases h1 : kd = 1
      · subst h1
        have HON := hide (only_subs HDn.out (.inr (.inl HKD.out)))
        have m5 : W3.cell? ⟨q, 5, none⟩ = some (.slice u.sa m.subs.length u.sc) := (nd_box HX3.out.2.1).2.2.2.2.2.1
        have y5 : W3.cell? ⟨p, 5, none⟩ = some (.slice v.sa N.subs.length v.sc) := (nd_box HP.out.1).2.2.2.2.2.1
        have z5 : W3.frozen? ⟨p, 5, none⟩ = false := by simp [World.frozen?, HP.out.1]
        have hy : (W3.setCell ⟨p, 5, none⟩ (.slice u.sa m.subs.length u.sc)).heap[p]? = some (.cells (ndA m { v with sa := u.sa, sc := u.sc }) 28) := by
          have h0 : W3.heap[p]? = some (.cells (ndA N v) 28) := HP.out.1
          have h1 := heap_setk (i := 5) (v := .slice u.sa m.subs.length u.sc) h0
          have h9 : (W3.setCell ⟨p, 5, none⟩ (.slice u.sa m.subs.length u.sc)).heap[p]? = some (.cells (ndA { N with subs := m.subs } { v with sa := u.sa, sc := u.sc }) 28) := by
            rw [h1]
            rfl
          rw [HON.out] at h9
          exact h9
        have bb : Below p W2 (W3.setCell ⟨p, 5, none⟩ (.slice u.sa m.subs.length u.sc)) := (HP.out.2.2.2.1.setCell (p := ⟨p, 5, none⟩) (Nat.le_refl _) (.slice u.sa m.subs.length u.sc))
        have hne : ∀ (V : World) (i : Nat) (z : Value), (V.setCell ⟨p, i, none⟩ z).heap[q]? = V.heap[q]? := fun V i z => set_blk _ _ _ _ (by show q ≠ p; have := HP.out.2.2.1; omega)
        have hmq : (W3.setCell ⟨p, 5, none⟩ (.slice u.sa m.subs.length u.sc)).heap[q]? = some (.cells (ndA m u) 28) := by rw [hne]; exact HX3.out.2.1
        have hB : Below w.heap.size w (W3.setCell ⟨p, 5, none⟩ (.slice u.sa m.subs.length u.sc)) := (HX3.out.2.2.2.2.setCell (p := ⟨p, 5, none⟩) HP.out.2.1 (.slice u.sa m.subs.length u.sc))
        have hmx := mixS HP.out.2.2.2.2.1 HP.out.2.2.2.2.2.1
        rw [HON.out] at hmx
        have HLi := hide (live11_any (W3.setCell ⟨p, 5, none⟩ (.slice u.sa m.subs.length u.sc)) (HG.out.below hB))
        have HY := hide (And.intro hy (And.intro hmq (And.intro hB (And.intro bb hmx))))
        clear hy bb hne hmq hB hmx
        go_wp2_with (refine l_store _ (store_any (size_one25 _) y5 z5) rfl rfl rfl rfl ?_)
        refine HLi.out.mono ?_
        rintro e w5 ⟨rfl, b5⟩
        obtain ⟨W4, hW4⟩ : ∃ W4, (W3.setCell ⟨p, 5, none⟩ (.slice u.sa m.subs.length u.sc)) = W4 := ⟨_, rfl⟩
        rw [hW4] at HY b5
        have hp := HP.out.2.2.2.2.2.2
        have b5' : Below W2.heap.size W2 w5 := by rw [hp]; exact HY.out.2.2.2.1.trans (b5.mono (by have := HY.out.2.2.2.1.size; omega))
        have n1 := (b5.block _ (Array.getElem?_eq_some_iff.1 HY.out.1).1).trans HY.out.1
        have n2 := (b5.block _ (Array.getElem?_eq_some_iff.1 HY.out.2.1).1).trans HY.out.2.1
        have HSm := hide (same_yes m u { v with sa := u.sa, sc := u.sc } w5 (HP.out.2.2.2.2.2.1.move b5') (HY.out.2.2.2.2.move b5'))
        have H5 := hide (HY.out.2.2.1.trans (b5.mono HY.out.2.2.1.size))
        obtain ⟨a0, a1, a2, a3, a4, a5, a6, a7⟩ := nd_box n1
        obtain ⟨d0, d1, d2, d3, d4, d5, d6, d7⟩ := nd_box n2
        clear hW4 b5 b5' n1 n2 hp m5 y5 z5
        go_wp2_with fail
        refine HSm.out.mono ?_
        rintro e w6 ⟨rfl, b6⟩
        have H6 := hide (H5.out.trans (b6.mono H5.out.size))
        clear b6 a0 a1 a2 a3 a4 a5 a6 a7 d0 d1 d2 d3 d4 d5 d6 d7
        go_wp2_with fail
        go_ret
        exact ⟨rfl, H6.out⟩
      · skip
        by_cases h2 : kd = 2
        · subst h2
          have HON := hide (only_subs HDn.out (.inr (.inr HKD.out)))
          have m5 : W3.cell? ⟨q, 5, none⟩ = some (.slice u.sa m.subs.length u.sc) := (nd_box HX3.out.2.1).2.2.2.2.2.1
          have y5 : W3.cell? ⟨p, 5, none⟩ = some (.slice v.sa N.subs.length v.sc) := (nd_box HP.out.1).2.2.2.2.2.1
          have z5 : W3.frozen? ⟨p, 5, none⟩ = false := by simp [World.frozen?, HP.out.1]
          have hy : (W3.setCell ⟨p, 5, none⟩ (.slice u.sa m.subs.length u.sc)).heap[p]? = some (.cells (ndA m { v with sa := u.sa, sc := u.sc }) 28) := by
            have h0 : W3.heap[p]? = some (.cells (ndA N v) 28) := HP.out.1
            have h1 := heap_setk (i := 5) (v := .slice u.sa m.subs.length u.sc) h0
            have h9 : (W3.setCell ⟨p, 5, none⟩ (.slice u.sa m.subs.length u.sc)).heap[p]? = some (.cells (ndA { N with subs := m.subs } { v with sa := u.sa, sc := u.sc }) 28) := by
              rw [h1]
              rfl
            rw [HON.out] at h9
            exact h9
          have bb : Below p W2 (W3.setCell ⟨p, 5, none⟩ (.slice u.sa m.subs.length u.sc)) := (HP.out.2.2.2.1.setCell (p := ⟨p, 5, none⟩) (Nat.le_refl _) (.slice u.sa m.subs.length u.sc))
          have hne : ∀ (V : World) (i : Nat) (z : Value), (V.setCell ⟨p, i, none⟩ z).heap[q]? = V.heap[q]? := fun V i z => set_blk _ _ _ _ (by show q ≠ p; have := HP.out.2.2.1; omega)
          have hmq : (W3.setCell ⟨p, 5, none⟩ (.slice u.sa m.subs.length u.sc)).heap[q]? = some (.cells (ndA m u) 28) := by rw [hne]; exact HX3.out.2.1
          have hB : Below w.heap.size w (W3.setCell ⟨p, 5, none⟩ (.slice u.sa m.subs.length u.sc)) := (HX3.out.2.2.2.2.setCell (p := ⟨p, 5, none⟩) HP.out.2.1 (.slice u.sa m.subs.length u.sc))
          have hmx := mixS HP.out.2.2.2.2.1 HP.out.2.2.2.2.2.1
          rw [HON.out] at hmx
          have HLi := hide (live11_any (W3.setCell ⟨p, 5, none⟩ (.slice u.sa m.subs.length u.sc)) (HG.out.below hB))
          have HY := hide (And.intro hy (And.intro hmq (And.intro hB (And.intro bb hmx))))
          clear hy bb hne hmq hB hmx
          go_wp2_with (refine l_store _ (store_any (size_one25 _) y5 z5) rfl rfl rfl rfl ?_)
          refine HLi.out.mono ?_
          rintro e w5 ⟨rfl, b5⟩
          obtain ⟨W4, hW4⟩ : ∃ W4, (W3.setCell ⟨p, 5, none⟩ (.slice u.sa m.subs.length u.sc)) = W4 := ⟨_, rfl⟩
          rw [hW4] at HY b5
          have hp := HP.out.2.2.2.2.2.2
          have b5' : Below W2.heap.size W2 w5 := by rw [hp]; exact HY.out.2.2.2.1.trans (b5.mono (by have := HY.out.2.2.2.1.size; omega))
          have n1 := (b5.block _ (Array.getElem?_eq_some_iff.1 HY.out.1).1).trans HY.out.1
          have n2 := (b5.block _ (Array.getElem?_eq_some_iff.1 HY.out.2.1).1).trans HY.out.2.1
          have HSm := hide (same_yes m u { v with sa := u.sa, sc := u.sc } w5 (HP.out.2.2.2.2.2.1.move b5') (HY.out.2.2.2.2.move b5'))
          have H5 := hide (HY.out.2.2.1.trans (b5.mono HY.out.2.2.1.size))
          obtain ⟨a0, a1, a2, a3, a4, a5, a6, a7⟩ := nd_box n1
          obtain ⟨d0, d1, d2, d3, d4, d5, d6, d7⟩ := nd_box n2
          clear hW4 b5 b5' n1 n2 hp m5 y5 z5
          go_wp2_with fail
          refine HSm.out.mono ?_
          rintro e w6 ⟨rfl, b6⟩
          have H6 := hide (H5.out.trans (b6.mono H5.out.size))
          clear b6 a0 a1 a2 a3 a4 a5 a6 a7 d0 d1 d2 d3 d4 d5 d6 d7
          go_wp2_with fail
          go_ret
          exact ⟨rfl, H6.out⟩
        · skip
          by_cases h3 : kd = 3
          · subst h3
            have HON := hide (only_affs HDn.out HKD.out)
            have m4 : W3.cell? ⟨q, 4, none⟩ = some (.slice u.aa m.affs.length u.ac) := (nd_box HX3.out.2.1).2.2.2.2.1
            have y4 : W3.cell? ⟨p, 4, none⟩ = some (.slice v.aa N.affs.length v.ac) := (nd_box HP.out.1).2.2.2.2.1
            have z4 : W3.frozen? ⟨p, 4, none⟩ = false := by simp [World.frozen?, HP.out.1]
            have m5 : W3.cell? ⟨q, 5, none⟩ = some (.slice u.sa m.subs.length u.sc) := (nd_box HX3.out.2.1).2.2.2.2.2.1
            have y5 : W3.cell? ⟨p, 5, none⟩ = some (.slice v.sa N.subs.length v.sc) := (nd_box HP.out.1).2.2.2.2.2.1
            have z5 : W3.frozen? ⟨p, 5, none⟩ = false := by simp [World.frozen?, HP.out.1]
            have hy : ((W3.drew.setCell ⟨p, 4, none⟩ (.slice u.aa m.affs.length u.ac)).setCell ⟨p, 5, none⟩ (.slice u.sa m.subs.length u.sc)).heap[p]? = some (.cells (ndA m { v with aa := u.aa, ac := u.ac, sa := u.sa, sc := u.sc }) 28) := by
              have h0 : W3.drew.heap[p]? = some (.cells (ndA N v) 28) := HP.out.1
              have h1 := heap_setk (i := 4) (v := .slice u.aa m.affs.length u.ac) h0
              have h2 := heap_setk (i := 5) (v := .slice u.sa m.subs.length u.sc) h1
              have h9 : ((W3.drew.setCell ⟨p, 4, none⟩ (.slice u.aa m.affs.length u.ac)).setCell ⟨p, 5, none⟩ (.slice u.sa m.subs.length u.sc)).heap[p]? = some (.cells (ndA { N with affs := m.affs, subs := m.subs } { v with aa := u.aa, ac := u.ac, sa := u.sa, sc := u.sc }) 28) := by
                rw [h2]
                rfl
              rw [HON.out] at h9
              exact h9
            have bb : Below p W2 ((W3.drew.setCell ⟨p, 4, none⟩ (.slice u.aa m.affs.length u.ac)).setCell ⟨p, 5, none⟩ (.slice u.sa m.subs.length u.sc)) := ((HP.out.2.2.2.1.drew.setCell (p := ⟨p, 4, none⟩) (Nat.le_refl _) (.slice u.aa m.affs.length u.ac)).setCell (p := ⟨p, 5, none⟩) (Nat.le_refl _) (.slice u.sa m.subs.length u.sc))
            have hne : ∀ (V : World) (i : Nat) (z : Value), (V.setCell ⟨p, i, none⟩ z).heap[q]? = V.heap[q]? := fun V i z => set_blk _ _ _ _ (by show q ≠ p; have := HP.out.2.2.1; omega)
            have hmq : ((W3.drew.setCell ⟨p, 4, none⟩ (.slice u.aa m.affs.length u.ac)).setCell ⟨p, 5, none⟩ (.slice u.sa m.subs.length u.sc)).heap[q]? = some (.cells (ndA m u) 28) := by rw [hne, hne]; exact HX3.out.2.1
            have hB : Below w.heap.size w ((W3.drew.setCell ⟨p, 4, none⟩ (.slice u.aa m.affs.length u.ac)).setCell ⟨p, 5, none⟩ (.slice u.sa m.subs.length u.sc)) := ((HX3.out.2.2.2.2.drew.setCell (p := ⟨p, 4, none⟩) HP.out.2.1 (.slice u.aa m.affs.length u.ac)).setCell (p := ⟨p, 5, none⟩) HP.out.2.1 (.slice u.sa m.subs.length u.sc))
            have hmx := mixA HP.out.2.2.2.2.1 HP.out.2.2.2.2.2.1
            rw [HON.out] at hmx
            have HLi := hide (live11_any ((W3.drew.setCell ⟨p, 4, none⟩ (.slice u.aa m.affs.length u.ac)).setCell ⟨p, 5, none⟩ (.slice u.sa m.subs.length u.sc)) (HG.out.below hB))
            have HY := hide (And.intro hy (And.intro hmq (And.intro hB (And.intro bb hmx))))
            clear hy bb hne hmq hB hmx
            go_wp2_with fail
            refine region_rel (S := fun V => V.heap[q]? = some (.cells (ndA m u) 28)) (fun a Wz => ∃ xx : Nat → Value, (Wz = ((W3.drew.setCell ⟨p, 4, none⟩ (.slice u.aa m.affs.length u.ac)).setCell ⟨p, 5, none⟩ (.slice u.sa m.subs.length u.sc))) ∧ a = { tmps := #[.agg (ndA n v), .agg (edA x), .pointer (some ⟨w.heap.size, 0, none⟩), .pointer (some ⟨w.heap.size + 1, 0, none⟩), .bool false, .pointer (some ⟨q, 0, none⟩), .int .i64 0, .pointer (some ⟨p, 0, none⟩), xx 8, xx 9, xx 10, xx 11, xx 12, xx 13, xx 14, xx 15, xx 16, xx 17, xx 18, xx 19, xx 20, xx 21, xx 22, xx 23, xx 24, xx 25, xx 26, xx 27, xx 28, xx 29, xx 30, xx 31, xx 32, xx 33, xx 34, xx 35, xx 36, xx 37, xx 38, xx 39, xx 40, xx 41, xx 42, xx 43, xx 44, xx 45, xx 46, xx 47, xx 48, xx 49, xx 50, xx 51, xx 52, xx 53, xx 54, xx 55, xx 56, xx 57, xx 58, xx 59, xx 60, xx 61, xx 62, xx 63, xx 64, xx 65, xx 66, xx 67, xx 68, xx 69, xx 70, xx 71, xx 72, undef, undef, undef, undef, undef, undef], defers := [] }) (by kernel_rfl) ?anyd ?find
            case anyd =>
              have S0 : (W3.drew).heap[q]? = some (.cells (ndA m u) 28) := HX3.out.2.1
              have h0 : (W3.drew).heap[p]? = some (.cells (ndA N v) 28) := HP.out.1
              refine anyH_take (i := 0) (v := .pointer (some ⟨q, 4, none⟩)) rfl (some 50) rfl (by kernel_rfl) (by kernel_rfl) (by kernel_rfl) (fun _ _ _ h => by cases h.1) (by kernel_rfl) (fun w0 hw0 => by first | rfl | kernel_rfl) S0 ?_
              simp only [Act.put, List.setIfInBounds_toArray, List.set_cons_zero, List.set_cons_succ]
              refine anyH_take (i := 1) (v := .slice u.aa m.affs.length u.ac) rfl (some 51) rfl (by kernel_rfl) (by kernel_rfl) (by kernel_rfl) (fun _ _ _ h => by cases h.1) (by kernel_rfl) (fun w0 hw0 => ex_load rfl rfl (load_one (agg_one24 _) (box_cell hw0 rfl))) S0 ?_
              simp only [Act.put, List.setIfInBounds_toArray, List.set_cons_zero, List.set_cons_succ]
              refine anyH_take (i := 2) (v := .pointer (some ⟨q, 5, none⟩)) rfl (some 52) rfl (by kernel_rfl) (by kernel_rfl) (by kernel_rfl) (fun _ _ _ h => by cases h.1) (by kernel_rfl) (fun w0 hw0 => by first | rfl | kernel_rfl) S0 ?_
              simp only [Act.put, List.setIfInBounds_toArray, List.set_cons_zero, List.set_cons_succ]
              refine anyH_take (i := 3) (v := .slice u.sa m.subs.length u.sc) rfl (some 53) rfl (by kernel_rfl) (by kernel_rfl) (by kernel_rfl) (fun _ _ _ h => by cases h.1) (by kernel_rfl) (fun w0 hw0 => ex_load rfl rfl (load_one (agg_one25 _) (box_cell hw0 rfl))) S0 ?_
              simp only [Act.put, List.setIfInBounds_toArray, List.set_cons_zero, List.set_cons_succ]
              refine anyH_take (i := 4) (v := .pointer (some ⟨p, 4, none⟩)) rfl (some 54) rfl (by kernel_rfl) (by kernel_rfl) (by kernel_rfl) (fun _ _ _ h => by cases h.1) (by kernel_rfl) (fun w0 hw0 => by first | rfl | kernel_rfl) S0 ?_
              simp only [Act.put, List.setIfInBounds_toArray, List.set_cons_zero, List.set_cons_succ]
              refine anyH_one (i := 5) (by kernel_rfl) ?_
              refine op_store rfl rfl (by kernel_rfl) (ex_store (u := .slice u.aa m.affs.length u.ac) rfl rfl rfl (store_any (size_one24 _) (box_cell h0 rfl) (box_froz h0))) ?_
              have S1 : (W3.drew.setCell ⟨p, 4, none⟩ (.slice u.aa m.affs.length u.ac)).heap[q]? = some (.cells (ndA m u) 28) := (set_blk _ _ _ _ (by show q ≠ p; have := HP.out.2.2.1; omega)).trans S0
              have h1 := heap_setk (i := 4) (v := .slice u.aa m.affs.length u.ac) h0
              refine ⟨S1, ?_⟩
              simp only [Act.put]
              refine anyH_take (i := 6) (v := .pointer (some ⟨p, 5, none⟩)) rfl (some 55) rfl (by kernel_rfl) (by kernel_rfl) (by kernel_rfl) (fun _ _ _ h => by cases h.1) (by kernel_rfl) (fun w0 hw0 => by first | rfl | kernel_rfl) S1 ?_
              simp only [Act.put, List.setIfInBounds_toArray, List.set_cons_zero, List.set_cons_succ]
              refine anyH_one (i := 7) (by kernel_rfl) ?_
              refine op_store rfl rfl (by kernel_rfl) (ex_store (u := .slice u.sa m.subs.length u.sc) rfl rfl rfl (store_any (size_one25 _) (box_cell h1 rfl) (box_froz h1))) ?_
              have S2 : ((W3.drew.setCell ⟨p, 4, none⟩ (.slice u.aa m.affs.length u.ac)).setCell ⟨p, 5, none⟩ (.slice u.sa m.subs.length u.sc)).heap[q]? = some (.cells (ndA m u) 28) := (set_blk _ _ _ _ (by show q ≠ p; have := HP.out.2.2.1; omega)).trans S1
              have h2 := heap_setk (i := 5) (v := .slice u.sa m.subs.length u.sc) h1
              refine ⟨S2, ?_⟩
              simp only [Act.put]
              exact wpAnyH_done (by kernel_rfl) ⟨rfl, fill (rfl) (by kernel_rfl)⟩ _
            case find =>
              rintro a W ⟨xx, hB, rfl⟩
              subst hB
              clear m4 y4 z4 m5 y5 z5
              go_wp2_with fail
              refine HLi.out.mono ?_
              rintro e w5 ⟨rfl, b5⟩
              obtain ⟨W4, hW4⟩ : ∃ W4, ((W3.drew.setCell ⟨p, 4, none⟩ (.slice u.aa m.affs.length u.ac)).setCell ⟨p, 5, none⟩ (.slice u.sa m.subs.length u.sc)) = W4 := ⟨_, rfl⟩
              rw [hW4] at HY b5
              have hp := HP.out.2.2.2.2.2.2
              have b5' : Below W2.heap.size W2 w5 := by rw [hp]; exact HY.out.2.2.2.1.trans (b5.mono (by have := HY.out.2.2.2.1.size; omega))
              have n1 := (b5.block _ (Array.getElem?_eq_some_iff.1 HY.out.1).1).trans HY.out.1
              have n2 := (b5.block _ (Array.getElem?_eq_some_iff.1 HY.out.2.1).1).trans HY.out.2.1
              have HSm := hide (same_yes m u { v with aa := u.aa, ac := u.ac, sa := u.sa, sc := u.sc } w5 (HP.out.2.2.2.2.2.1.move b5') (HY.out.2.2.2.2.move b5'))
              have H5 := hide (HY.out.2.2.1.trans (b5.mono HY.out.2.2.1.size))
              obtain ⟨a0, a1, a2, a3, a4, a5, a6, a7⟩ := nd_box n1
              obtain ⟨d0, d1, d2, d3, d4, d5, d6, d7⟩ := nd_box n2
              clear hW4 b5 b5' n1 n2 hp 
              go_wp2_with fail
              refine HSm.out.mono ?_
              rintro e w6 ⟨rfl, b6⟩
              have H6 := hide (H5.out.trans (b6.mono H5.out.size))
              clear b6 a0 a1 a2 a3 a4 a5 a6 a7 d0 d1 d2 d3 d4 d5 d6 d7
              go_wp2_with fail
              go_ret
              exact ⟨rfl, H6.out⟩
          · skip
            by_cases h4 : kd = 4
            · subst h4
              have HON := hide (only_items HDn.out (.inl HKD.out))
              have m6 : W3.cell? ⟨q, 6, none⟩ = some (.slice u.ia m.items.length u.ic) := (nd_box HX3.out.2.1).2.2.2.2.2.2.1
              have y6 : W3.cell? ⟨p, 6, none⟩ = some (.slice v.ia N.items.length v.ic) := (nd_box HP.out.1).2.2.2.2.2.2.1
              have z6 : W3.frozen? ⟨p, 6, none⟩ = false := by simp [World.frozen?, HP.out.1]
              have hy : (W3.setCell ⟨p, 6, none⟩ (.slice u.ia m.items.length u.ic)).heap[p]? = some (.cells (ndA m { v with ia := u.ia, ic := u.ic }) 28) := by
                have h0 : W3.heap[p]? = some (.cells (ndA N v) 28) := HP.out.1
                have h1 := heap_setk (i := 6) (v := .slice u.ia m.items.length u.ic) h0
                have h9 : (W3.setCell ⟨p, 6, none⟩ (.slice u.ia m.items.length u.ic)).heap[p]? = some (.cells (ndA { N with items := m.items } { v with ia := u.ia, ic := u.ic }) 28) := by
                  rw [h1]
                  rfl
                rw [HON.out] at h9
                exact h9
              have bb : Below p W2 (W3.setCell ⟨p, 6, none⟩ (.slice u.ia m.items.length u.ic)) := (HP.out.2.2.2.1.setCell (p := ⟨p, 6, none⟩) (Nat.le_refl _) (.slice u.ia m.items.length u.ic))
              have hne : ∀ (V : World) (i : Nat) (z : Value), (V.setCell ⟨p, i, none⟩ z).heap[q]? = V.heap[q]? := fun V i z => set_blk _ _ _ _ (by show q ≠ p; have := HP.out.2.2.1; omega)
              have hmq : (W3.setCell ⟨p, 6, none⟩ (.slice u.ia m.items.length u.ic)).heap[q]? = some (.cells (ndA m u) 28) := by rw [hne]; exact HX3.out.2.1
              have hB : Below w.heap.size w (W3.setCell ⟨p, 6, none⟩ (.slice u.ia m.items.length u.ic)) := (HX3.out.2.2.2.2.setCell (p := ⟨p, 6, none⟩) HP.out.2.1 (.slice u.ia m.items.length u.ic))
              have hmx := mixI HP.out.2.2.2.2.1 HP.out.2.2.2.2.2.1
              rw [HON.out] at hmx
              have HLi := hide (live11_any (W3.setCell ⟨p, 6, none⟩ (.slice u.ia m.items.length u.ic)) (HG.out.below hB))
              have HY := hide (And.intro hy (And.intro hmq (And.intro hB (And.intro bb hmx))))
              clear hy bb hne hmq hB hmx
              go_wp2_with (refine l_store _ (store_any (size_one26 _) y6 z6) rfl rfl rfl rfl ?_)
              refine HLi.out.mono ?_
              rintro e w5 ⟨rfl, b5⟩
              obtain ⟨W4, hW4⟩ : ∃ W4, (W3.setCell ⟨p, 6, none⟩ (.slice u.ia m.items.length u.ic)) = W4 := ⟨_, rfl⟩
              rw [hW4] at HY b5
              have hp := HP.out.2.2.2.2.2.2
              have b5' : Below W2.heap.size W2 w5 := by rw [hp]; exact HY.out.2.2.2.1.trans (b5.mono (by have := HY.out.2.2.2.1.size; omega))
              have n1 := (b5.block _ (Array.getElem?_eq_some_iff.1 HY.out.1).1).trans HY.out.1
              have n2 := (b5.block _ (Array.getElem?_eq_some_iff.1 HY.out.2.1).1).trans HY.out.2.1
              have HSm := hide (same_yes m u { v with ia := u.ia, ic := u.ic } w5 (HP.out.2.2.2.2.2.1.move b5') (HY.out.2.2.2.2.move b5'))
              have H5 := hide (HY.out.2.2.1.trans (b5.mono HY.out.2.2.1.size))
              obtain ⟨a0, a1, a2, a3, a4, a5, a6, a7⟩ := nd_box n1
              obtain ⟨d0, d1, d2, d3, d4, d5, d6, d7⟩ := nd_box n2
              clear hW4 b5 b5' n1 n2 hp m6 y6 z6
              go_wp2_with fail
              refine HSm.out.mono ?_
              rintro e w6 ⟨rfl, b6⟩
              have H6 := hide (H5.out.trans (b6.mono H5.out.size))
              clear b6 a0 a1 a2 a3 a4 a5 a6 a7 d0 d1 d2 d3 d4 d5 d6 d7
              go_wp2_with fail
              go_ret
              exact ⟨rfl, H6.out⟩
            · skip
              by_cases h5 : kd = 5
              · subst h5
                have HON := hide (only_items HDn.out (.inr (.inl HKD.out)))
                have m6 : W3.cell? ⟨q, 6, none⟩ = some (.slice u.ia m.items.length u.ic) := (nd_box HX3.out.2.1).2.2.2.2.2.2.1
                have y6 : W3.cell? ⟨p, 6, none⟩ = some (.slice v.ia N.items.length v.ic) := (nd_box HP.out.1).2.2.2.2.2.2.1
                have z6 : W3.frozen? ⟨p, 6, none⟩ = false := by simp [World.frozen?, HP.out.1]
                have hy : (W3.setCell ⟨p, 6, none⟩ (.slice u.ia m.items.length u.ic)).heap[p]? = some (.cells (ndA m { v with ia := u.ia, ic := u.ic }) 28) := by
                  have h0 : W3.heap[p]? = some (.cells (ndA N v) 28) := HP.out.1
                  have h1 := heap_setk (i := 6) (v := .slice u.ia m.items.length u.ic) h0
                  have h9 : (W3.setCell ⟨p, 6, none⟩ (.slice u.ia m.items.length u.ic)).heap[p]? = some (.cells (ndA { N with items := m.items } { v with ia := u.ia, ic := u.ic }) 28) := by
                    rw [h1]
                    rfl
                  rw [HON.out] at h9
                  exact h9
                have bb : Below p W2 (W3.setCell ⟨p, 6, none⟩ (.slice u.ia m.items.length u.ic)) := (HP.out.2.2.2.1.setCell (p := ⟨p, 6, none⟩) (Nat.le_refl _) (.slice u.ia m.items.length u.ic))
                have hne : ∀ (V : World) (i : Nat) (z : Value), (V.setCell ⟨p, i, none⟩ z).heap[q]? = V.heap[q]? := fun V i z => set_blk _ _ _ _ (by show q ≠ p; have := HP.out.2.2.1; omega)
                have hmq : (W3.setCell ⟨p, 6, none⟩ (.slice u.ia m.items.length u.ic)).heap[q]? = some (.cells (ndA m u) 28) := by rw [hne]; exact HX3.out.2.1
                have hB : Below w.heap.size w (W3.setCell ⟨p, 6, none⟩ (.slice u.ia m.items.length u.ic)) := (HX3.out.2.2.2.2.setCell (p := ⟨p, 6, none⟩) HP.out.2.1 (.slice u.ia m.items.length u.ic))
                have hmx := mixI HP.out.2.2.2.2.1 HP.out.2.2.2.2.2.1
                rw [HON.out] at hmx
                have HLi := hide (live11_any (W3.setCell ⟨p, 6, none⟩ (.slice u.ia m.items.length u.ic)) (HG.out.below hB))
                have HY := hide (And.intro hy (And.intro hmq (And.intro hB (And.intro bb hmx))))
                clear hy bb hne hmq hB hmx
                go_wp2_with (refine l_store _ (store_any (size_one26 _) y6 z6) rfl rfl rfl rfl ?_)
                refine HLi.out.mono ?_
                rintro e w5 ⟨rfl, b5⟩
                obtain ⟨W4, hW4⟩ : ∃ W4, (W3.setCell ⟨p, 6, none⟩ (.slice u.ia m.items.length u.ic)) = W4 := ⟨_, rfl⟩
                rw [hW4] at HY b5
                have hp := HP.out.2.2.2.2.2.2
                have b5' : Below W2.heap.size W2 w5 := by rw [hp]; exact HY.out.2.2.2.1.trans (b5.mono (by have := HY.out.2.2.2.1.size; omega))
                have n1 := (b5.block _ (Array.getElem?_eq_some_iff.1 HY.out.1).1).trans HY.out.1
                have n2 := (b5.block _ (Array.getElem?_eq_some_iff.1 HY.out.2.1).1).trans HY.out.2.1
                have HSm := hide (same_yes m u { v with ia := u.ia, ic := u.ic } w5 (HP.out.2.2.2.2.2.1.move b5') (HY.out.2.2.2.2.move b5'))
                have H5 := hide (HY.out.2.2.1.trans (b5.mono HY.out.2.2.1.size))
                obtain ⟨a0, a1, a2, a3, a4, a5, a6, a7⟩ := nd_box n1
                obtain ⟨d0, d1, d2, d3, d4, d5, d6, d7⟩ := nd_box n2
                clear hW4 b5 b5' n1 n2 hp m6 y6 z6
                go_wp2_with fail
                refine HSm.out.mono ?_
                rintro e w6 ⟨rfl, b6⟩
                have H6 := hide (H5.out.trans (b6.mono H5.out.size))
                clear b6 a0 a1 a2 a3 a4 a5 a6 a7 d0 d1 d2 d3 d4 d5 d6 d7
                go_wp2_with fail
                go_ret
                exact ⟨rfl, H6.out⟩
              · skip
                by_cases h6 : kd = 6
                · subst h6
                  have HON := hide (only_items HDn.out (.inr (.inr HKD.out)))
                  have m6 : W3.cell? ⟨q, 6, none⟩ = some (.slice u.ia m.items.length u.ic) := (nd_box HX3.out.2.1).2.2.2.2.2.2.1
                  have y6 : W3.cell? ⟨p, 6, none⟩ = some (.slice v.ia N.items.length v.ic) := (nd_box HP.out.1).2.2.2.2.2.2.1
                  have z6 : W3.frozen? ⟨p, 6, none⟩ = false := by simp [World.frozen?, HP.out.1]
                  have hy : (W3.setCell ⟨p, 6, none⟩ (.slice u.ia m.items.length u.ic)).heap[p]? = some (.cells (ndA m { v with ia := u.ia, ic := u.ic }) 28) := by
                    have h0 : W3.heap[p]? = some (.cells (ndA N v) 28) := HP.out.1
                    have h1 := heap_setk (i := 6) (v := .slice u.ia m.items.length u.ic) h0
                    have h9 : (W3.setCell ⟨p, 6, none⟩ (.slice u.ia m.items.length u.ic)).heap[p]? = some (.cells (ndA { N with items := m.items } { v with ia := u.ia, ic := u.ic }) 28) := by
                      rw [h1]
                      rfl
                    rw [HON.out] at h9
                    exact h9
                  have bb : Below p W2 (W3.setCell ⟨p, 6, none⟩ (.slice u.ia m.items.length u.ic)) := (HP.out.2.2.2.1.setCell (p := ⟨p, 6, none⟩) (Nat.le_refl _) (.slice u.ia m.items.length u.ic))
                  have hne : ∀ (V : World) (i : Nat) (z : Value), (V.setCell ⟨p, i, none⟩ z).heap[q]? = V.heap[q]? := fun V i z => set_blk _ _ _ _ (by show q ≠ p; have := HP.out.2.2.1; omega)
                  have hmq : (W3.setCell ⟨p, 6, none⟩ (.slice u.ia m.items.length u.ic)).heap[q]? = some (.cells (ndA m u) 28) := by rw [hne]; exact HX3.out.2.1
                  have hB : Below w.heap.size w (W3.setCell ⟨p, 6, none⟩ (.slice u.ia m.items.length u.ic)) := (HX3.out.2.2.2.2.setCell (p := ⟨p, 6, none⟩) HP.out.2.1 (.slice u.ia m.items.length u.ic))
                  have hmx := mixI HP.out.2.2.2.2.1 HP.out.2.2.2.2.2.1
                  rw [HON.out] at hmx
                  have HLi := hide (live11_any (W3.setCell ⟨p, 6, none⟩ (.slice u.ia m.items.length u.ic)) (HG.out.below hB))
                  have HY := hide (And.intro hy (And.intro hmq (And.intro hB (And.intro bb hmx))))
                  clear hy bb hne hmq hB hmx
                  go_wp2_with (refine l_store _ (store_any (size_one26 _) y6 z6) rfl rfl rfl rfl ?_)
                  refine HLi.out.mono ?_
                  rintro e w5 ⟨rfl, b5⟩
                  obtain ⟨W4, hW4⟩ : ∃ W4, (W3.setCell ⟨p, 6, none⟩ (.slice u.ia m.items.length u.ic)) = W4 := ⟨_, rfl⟩
                  rw [hW4] at HY b5
                  have hp := HP.out.2.2.2.2.2.2
                  have b5' : Below W2.heap.size W2 w5 := by rw [hp]; exact HY.out.2.2.2.1.trans (b5.mono (by have := HY.out.2.2.2.1.size; omega))
                  have n1 := (b5.block _ (Array.getElem?_eq_some_iff.1 HY.out.1).1).trans HY.out.1
                  have n2 := (b5.block _ (Array.getElem?_eq_some_iff.1 HY.out.2.1).1).trans HY.out.2.1
                  have HSm := hide (same_yes m u { v with ia := u.ia, ic := u.ic } w5 (HP.out.2.2.2.2.2.1.move b5') (HY.out.2.2.2.2.move b5'))
                  have H5 := hide (HY.out.2.2.1.trans (b5.mono HY.out.2.2.1.size))
                  obtain ⟨a0, a1, a2, a3, a4, a5, a6, a7⟩ := nd_box n1
                  obtain ⟨d0, d1, d2, d3, d4, d5, d6, d7⟩ := nd_box n2
                  clear hW4 b5 b5' n1 n2 hp m6 y6 z6
                  go_wp2_with fail
                  refine HSm.out.mono ?_
                  rintro e w6 ⟨rfl, b6⟩
                  have H6 := hide (H5.out.trans (b6.mono H5.out.size))
                  clear b6 a0 a1 a2 a3 a4 a5 a6 a7 d0 d1 d2 d3 d4 d5 d6 d7
                  go_wp2_with fail
                  go_ret
                  exact ⟨rfl, H6.out⟩
                · skip
                  have HON := hide (only_cfg HDn.out (by rw [HKD.out]; exact h0) (by rw [HKD.out]; exact h1) (by rw [HKD.out]; exact h2) (by rw [HKD.out]; exact h3) (by rw [HKD.out]; exact h4) (by rw [HKD.out]; exact h5) (by rw [HKD.out]; exact h6))
                  have k0 : (kd == 0) = false := by rw [beq_eq_false_iff_ne]; omega
                  have k1 : (kd == 1) = false := by rw [beq_eq_false_iff_ne]; omega
                  have k2 : (kd == 2) = false := by rw [beq_eq_false_iff_ne]; omega
                  have k3 : (kd == 3) = false := by rw [beq_eq_false_iff_ne]; omega
                  have k4 : (kd == 4) = false := by rw [beq_eq_false_iff_ne]; omega
                  have k5 : (kd == 5) = false := by rw [beq_eq_false_iff_ne]; omega
                  have k6 : (kd == 6) = false := by rw [beq_eq_false_iff_ne]; omega
                  have m2 : W3.cell? ⟨q, 2, none⟩ = some (.int .u8 m.acc) := (nd_box HX3.out.2.1).2.2.1
                  have y2 : W3.cell? ⟨p, 2, none⟩ = some (.int .u8 N.acc) := (nd_box HP.out.1).2.2.1
                  have z2 : W3.frozen? ⟨p, 2, none⟩ = false := by simp [World.frozen?, HP.out.1]
                  have m3 : W3.cell? ⟨q, 3, none⟩ = some (.int .i64 m.max) := (nd_box HX3.out.2.1).2.2.2.1
                  have y3 : W3.cell? ⟨p, 3, none⟩ = some (.int .i64 N.max) := (nd_box HP.out.1).2.2.2.1
                  have z3 : W3.frozen? ⟨p, 3, none⟩ = false := by simp [World.frozen?, HP.out.1]
                  have m6 : W3.cell? ⟨q, 6, none⟩ = some (.slice u.ia m.items.length u.ic) := (nd_box HX3.out.2.1).2.2.2.2.2.2.1
                  have y6 : W3.cell? ⟨p, 6, none⟩ = some (.slice v.ia N.items.length v.ic) := (nd_box HP.out.1).2.2.2.2.2.2.1
                  have z6 : W3.frozen? ⟨p, 6, none⟩ = false := by simp [World.frozen?, HP.out.1]
                  have hy : (((W3.drew.setCell ⟨p, 2, none⟩ (.int .u8 m.acc)).setCell ⟨p, 3, none⟩ (.int .i64 m.max)).setCell ⟨p, 6, none⟩ (.slice u.ia m.items.length u.ic)).heap[p]? = some (.cells (ndA m { v with ia := u.ia, ic := u.ic }) 28) := by
                    have h0 : W3.drew.heap[p]? = some (.cells (ndA N v) 28) := HP.out.1
                    have h1 := heap_setk (i := 2) (v := .int .u8 m.acc) h0
                    have h2 := heap_setk (i := 3) (v := .int .i64 m.max) h1
                    have h3 := heap_setk (i := 6) (v := .slice u.ia m.items.length u.ic) h2
                    have h9 : (((W3.drew.setCell ⟨p, 2, none⟩ (.int .u8 m.acc)).setCell ⟨p, 3, none⟩ (.int .i64 m.max)).setCell ⟨p, 6, none⟩ (.slice u.ia m.items.length u.ic)).heap[p]? = some (.cells (ndA { N with acc := m.acc, max := m.max, items := m.items } { v with ia := u.ia, ic := u.ic }) 28) := by
                      rw [h3]
                      rfl
                    rw [HON.out] at h9
                    exact h9
                  have bb : Below p W2 (((W3.drew.setCell ⟨p, 2, none⟩ (.int .u8 m.acc)).setCell ⟨p, 3, none⟩ (.int .i64 m.max)).setCell ⟨p, 6, none⟩ (.slice u.ia m.items.length u.ic)) := (((HP.out.2.2.2.1.drew.setCell (p := ⟨p, 2, none⟩) (Nat.le_refl _) (.int .u8 m.acc)).setCell (p := ⟨p, 3, none⟩) (Nat.le_refl _) (.int .i64 m.max)).setCell (p := ⟨p, 6, none⟩) (Nat.le_refl _) (.slice u.ia m.items.length u.ic))
                  have hne : ∀ (V : World) (i : Nat) (z : Value), (V.setCell ⟨p, i, none⟩ z).heap[q]? = V.heap[q]? := fun V i z => set_blk _ _ _ _ (by show q ≠ p; have := HP.out.2.2.1; omega)
                  have hmq : (((W3.drew.setCell ⟨p, 2, none⟩ (.int .u8 m.acc)).setCell ⟨p, 3, none⟩ (.int .i64 m.max)).setCell ⟨p, 6, none⟩ (.slice u.ia m.items.length u.ic)).heap[q]? = some (.cells (ndA m u) 28) := by rw [hne, hne, hne]; exact HX3.out.2.1
                  have hB : Below w.heap.size w (((W3.drew.setCell ⟨p, 2, none⟩ (.int .u8 m.acc)).setCell ⟨p, 3, none⟩ (.int .i64 m.max)).setCell ⟨p, 6, none⟩ (.slice u.ia m.items.length u.ic)) := (((HX3.out.2.2.2.2.drew.setCell (p := ⟨p, 2, none⟩) HP.out.2.1 (.int .u8 m.acc)).setCell (p := ⟨p, 3, none⟩) HP.out.2.1 (.int .i64 m.max)).setCell (p := ⟨p, 6, none⟩) HP.out.2.1 (.slice u.ia m.items.length u.ic))
                  have hmx := mixC HP.out.2.2.2.2.1 HP.out.2.2.2.2.2.1
                  rw [HON.out] at hmx
                  have HLi := hide (live11_any (((W3.drew.setCell ⟨p, 2, none⟩ (.int .u8 m.acc)).setCell ⟨p, 3, none⟩ (.int .i64 m.max)).setCell ⟨p, 6, none⟩ (.slice u.ia m.items.length u.ic)) (HG.out.below hB))
                  have HY := hide (And.intro hy (And.intro hmq (And.intro hB (And.intro bb hmx))))
                  clear hy bb hne hmq hB hmx
                  go_wp2_with fail
                  refine region_rel (S := fun V => V.heap[q]? = some (.cells (ndA m u) 28)) (fun a Wz => ∃ xx : Nat → Value, (Wz = (((W3.drew.setCell ⟨p, 2, none⟩ (.int .u8 m.acc)).setCell ⟨p, 3, none⟩ (.int .i64 m.max)).setCell ⟨p, 6, none⟩ (.slice u.ia m.items.length u.ic))) ∧ a = { tmps := #[.agg (ndA n v), .agg (edA x), .pointer (some ⟨w.heap.size, 0, none⟩), .pointer (some ⟨w.heap.size + 1, 0, none⟩), .bool false, .pointer (some ⟨q, 0, none⟩), .int .i64 0, .pointer (some ⟨p, 0, none⟩), xx 8, xx 9, xx 10, xx 11, xx 12, xx 13, xx 14, xx 15, xx 16, xx 17, xx 18, xx 19, xx 20, xx 21, xx 22, xx 23, xx 24, xx 25, xx 26, xx 27, xx 28, xx 29, xx 30, xx 31, xx 32, xx 33, xx 34, xx 35, xx 36, xx 37, xx 38, xx 39, xx 40, xx 41, xx 42, xx 43, xx 44, xx 45, xx 46, xx 47, xx 48, xx 49, xx 50, xx 51, xx 52, xx 53, xx 54, xx 55, xx 56, xx 57, xx 58, xx 59, xx 60, xx 61, xx 62, xx 63, xx 64, xx 65, xx 66, xx 67, xx 68, xx 69, xx 70, xx 71, xx 72, undef, undef, undef, undef, undef, undef], defers := [] }) (by kernel_rfl) ?anyd ?find
                  case anyd =>
                    have S0 : (W3.drew).heap[q]? = some (.cells (ndA m u) 28) := HX3.out.2.1
                    have h0 : (W3.drew).heap[p]? = some (.cells (ndA N v) 28) := HP.out.1
                    refine anyH_take (i := 0) (v := .pointer (some ⟨q, 2, none⟩)) rfl (some 20) rfl (by kernel_rfl) (by kernel_rfl) (by kernel_rfl) (fun _ _ _ h => by cases h.1) (by kernel_rfl) (fun w0 hw0 => by first | rfl | kernel_rfl) S0 ?_
                    simp only [Act.put, List.setIfInBounds_toArray, List.set_cons_zero, List.set_cons_succ]
                    refine anyH_take (i := 1) (v := .int .u8 m.acc) rfl (some 21) rfl (by kernel_rfl) (by kernel_rfl) (by kernel_rfl) (fun _ _ _ h => by cases h.1) (by kernel_rfl) (fun w0 hw0 => ex_load rfl rfl (load_one (agg_one22 _) (box_cell hw0 rfl))) S0 ?_
                    simp only [Act.put, List.setIfInBounds_toArray, List.set_cons_zero, List.set_cons_succ]
                    refine anyH_take (i := 2) (v := .pointer (some ⟨q, 3, none⟩)) rfl (some 22) rfl (by kernel_rfl) (by kernel_rfl) (by kernel_rfl) (fun _ _ _ h => by cases h.1) (by kernel_rfl) (fun w0 hw0 => by first | rfl | kernel_rfl) S0 ?_
                    simp only [Act.put, List.setIfInBounds_toArray, List.set_cons_zero, List.set_cons_succ]
                    refine anyH_take (i := 3) (v := .int .i64 m.max) rfl (some 23) rfl (by kernel_rfl) (by kernel_rfl) (by kernel_rfl) (fun _ _ _ h => by cases h.1) (by kernel_rfl) (fun w0 hw0 => ex_load rfl rfl (load_one (agg_one3 _) (box_cell hw0 rfl))) S0 ?_
                    simp only [Act.put, List.setIfInBounds_toArray, List.set_cons_zero, List.set_cons_succ]
                    refine anyH_take (i := 4) (v := .pointer (some ⟨q, 6, none⟩)) rfl (some 24) rfl (by kernel_rfl) (by kernel_rfl) (by kernel_rfl) (fun _ _ _ h => by cases h.1) (by kernel_rfl) (fun w0 hw0 => by first | rfl | kernel_rfl) S0 ?_
                    simp only [Act.put, List.setIfInBounds_toArray, List.set_cons_zero, List.set_cons_succ]
                    refine anyH_take (i := 5) (v := .slice u.ia m.items.length u.ic) rfl (some 25) rfl (by kernel_rfl) (by kernel_rfl) (by kernel_rfl) (fun _ _ _ h => by cases h.1) (by kernel_rfl) (fun w0 hw0 => ex_load rfl rfl (load_one (agg_one26 _) (box_cell hw0 rfl))) S0 ?_
                    simp only [Act.put, List.setIfInBounds_toArray, List.set_cons_zero, List.set_cons_succ]
                    refine anyH_take (i := 6) (v := .pointer (some ⟨p, 2, none⟩)) rfl (some 26) rfl (by kernel_rfl) (by kernel_rfl) (by kernel_rfl) (fun _ _ _ h => by cases h.1) (by kernel_rfl) (fun w0 hw0 => by first | rfl | kernel_rfl) S0 ?_
                    simp only [Act.put, List.setIfInBounds_toArray, List.set_cons_zero, List.set_cons_succ]
                    refine anyH_one (i := 7) (by kernel_rfl) ?_
                    refine op_store rfl rfl (by kernel_rfl) (ex_store (u := .int .u8 m.acc) rfl rfl rfl (store_u8 (box_cell h0 rfl) (box_froz h0))) ?_
                    have S1 : (W3.drew.setCell ⟨p, 2, none⟩ (.int .u8 m.acc)).heap[q]? = some (.cells (ndA m u) 28) := (set_blk _ _ _ _ (by show q ≠ p; have := HP.out.2.2.1; omega)).trans S0
                    have h1 := heap_setk (i := 2) (v := .int .u8 m.acc) h0
                    refine ⟨S1, ?_⟩
                    simp only [Act.put]
                    refine anyH_take (i := 8) (v := .pointer (some ⟨p, 3, none⟩)) rfl (some 27) rfl (by kernel_rfl) (by kernel_rfl) (by kernel_rfl) (fun _ _ _ h => by cases h.1) (by kernel_rfl) (fun w0 hw0 => by first | rfl | kernel_rfl) S1 ?_
                    simp only [Act.put, List.setIfInBounds_toArray, List.set_cons_zero, List.set_cons_succ]
                    refine anyH_one (i := 9) (by kernel_rfl) ?_
                    refine op_store rfl rfl (by kernel_rfl) (ex_store (u := .int .i64 m.max) rfl rfl rfl (store_i64 (box_cell h1 rfl) (box_froz h1))) ?_
                    have S2 : ((W3.drew.setCell ⟨p, 2, none⟩ (.int .u8 m.acc)).setCell ⟨p, 3, none⟩ (.int .i64 m.max)).heap[q]? = some (.cells (ndA m u) 28) := (set_blk _ _ _ _ (by show q ≠ p; have := HP.out.2.2.1; omega)).trans S1
                    have h2 := heap_setk (i := 3) (v := .int .i64 m.max) h1
                    refine ⟨S2, ?_⟩
                    simp only [Act.put]
                    refine anyH_take (i := 10) (v := .pointer (some ⟨p, 6, none⟩)) rfl (some 28) rfl (by kernel_rfl) (by kernel_rfl) (by kernel_rfl) (fun _ _ _ h => by cases h.1) (by kernel_rfl) (fun w0 hw0 => by first | rfl | kernel_rfl) S2 ?_
                    simp only [Act.put, List.setIfInBounds_toArray, List.set_cons_zero, List.set_cons_succ]
                    refine anyH_one (i := 11) (by kernel_rfl) ?_
                    refine op_store rfl rfl (by kernel_rfl) (ex_store (u := .slice u.ia m.items.length u.ic) rfl rfl rfl (store_any (size_one26 _) (box_cell h2 rfl) (box_froz h2))) ?_
                    have S3 : (((W3.drew.setCell ⟨p, 2, none⟩ (.int .u8 m.acc)).setCell ⟨p, 3, none⟩ (.int .i64 m.max)).setCell ⟨p, 6, none⟩ (.slice u.ia m.items.length u.ic)).heap[q]? = some (.cells (ndA m u) 28) := (set_blk _ _ _ _ (by show q ≠ p; have := HP.out.2.2.1; omega)).trans S2
                    have h3 := heap_setk (i := 6) (v := .slice u.ia m.items.length u.ic) h2
                    refine ⟨S3, ?_⟩
                    simp only [Act.put]
                    exact wpAnyH_done (by kernel_rfl) ⟨rfl, fill (rfl) (by kernel_rfl)⟩ _
                  case find =>
                    rintro a W ⟨xx, hB, rfl⟩
                    subst hB
                    clear m2 y2 z2 m3 y3 z3 m6 y6 z6
                    go_wp2_with fail
                    refine HLi.out.mono ?_
                    rintro e w5 ⟨rfl, b5⟩
                    obtain ⟨W4, hW4⟩ : ∃ W4, (((W3.drew.setCell ⟨p, 2, none⟩ (.int .u8 m.acc)).setCell ⟨p, 3, none⟩ (.int .i64 m.max)).setCell ⟨p, 6, none⟩ (.slice u.ia m.items.length u.ic)) = W4 := ⟨_, rfl⟩
                    rw [hW4] at HY b5
                    have hp := HP.out.2.2.2.2.2.2
                    have b5' : Below W2.heap.size W2 w5 := by rw [hp]; exact HY.out.2.2.2.1.trans (b5.mono (by have := HY.out.2.2.2.1.size; omega))
                    have n1 := (b5.block _ (Array.getElem?_eq_some_iff.1 HY.out.1).1).trans HY.out.1
                    have n2 := (b5.block _ (Array.getElem?_eq_some_iff.1 HY.out.2.1).1).trans HY.out.2.1
                    have HSm := hide (same_yes m u { v with ia := u.ia, ic := u.ic } w5 (HP.out.2.2.2.2.2.1.move b5') (HY.out.2.2.2.2.move b5'))
                    have H5 := hide (HY.out.2.2.1.trans (b5.mono HY.out.2.2.1.size))
                    obtain ⟨a0, a1, a2, a3, a4, a5, a6, a7⟩ := nd_box n1
                    obtain ⟨d0, d1, d2, d3, d4, d5, d6, d7⟩ := nd_box n2
                    clear hW4 b5 b5' n1 n2 hp 
                    go_wp2_with fail
                    refine HSm.out.mono ?_
                    rintro e w6 ⟨rfl, b6⟩
                    have H6 := hide (H5.out.trans (b6.mono H5.out.size))
                    clear b6 a0 a1 a2 a3 a4 a5 a6 a7 d0 d1 d2 d3 d4 d5 d6 d7
                    go_wp2_with fail
                    go_ret
                    exact ⟨rfl, H6.out⟩
  · have hc : (c != 0) = true := by rw [bne_iff_ne]; exact hc0
    have HLi := hide (live11_any W2 (HG.out.below HX2.out.2.2.2.2.2))
    have hW2 := HW2.out
    rw [← hW2] at HLi
    clear hW2 hc0
    go_wp2_with fail
    refine HLi.out.mono ?_
    rintro e w4 ⟨rfl, b4⟩
    have b4' : Below W2.heap.size W2 w4 := by
      have h : _ = W2 := HW2.out
      rw [h] at b4
      exact b4
    have H4 := hide (HX2.out.2.2.2.2.2.trans (b4'.mono HX2.out.2.2.2.2.2.size))
    clear b4 b4'
    go_wp2_with fail
    go_ret
    exact ⟨rfl, H4.out⟩
end Go.Proofs.YtffjmkngdjbjlaaDoor
