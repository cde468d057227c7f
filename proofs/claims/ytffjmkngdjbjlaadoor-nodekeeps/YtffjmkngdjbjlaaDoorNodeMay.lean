/- NodeMay: who is no publisher publishes nothing, who is no owner changes nothing of others. -/
import Derived.Test.YtffjmkngdjbjlaaDoorNe20
import Derived.Test.YtffjmkngdjbjlaaDoorQN
namespace Go.Proofs.YtffjmkngdjbjlaaDoor
open Go.RowKit

theorem infoEd11 : (Tryd.prog.info? 35).map (fun i => (i.zero, i.size, i.bytes)) = some (some (.agg #[.int .i64 0, .string ⟨#[]⟩, .string ⟨#[]⟩, .int .i64 0, .int .i64 0, .bool false, .int .u8 0, .int .u8 0, .string ⟨#[]⟩, .string ⟨#[]⟩]), 10, 96) := by kernel_rfl
theorem load_ed11 {w : World} {b : Nat} {x : Ed} (h : w.heap[b]? = some (.cells (edA x) 35)) : (Instr.loadAt 35 (.pointer (some ⟨b, 0, none⟩))).run Tryd.prog w = .ok (.agg (edA x)) w := run_load_row infoEd11 Tryd.underlying35 rfl rfl h
theorem may_items {n m : Nd} {x : Ed} {c : Int} (h : DoC n x m c) (hk : x.kind = 4 ∨ x.kind = 5) (hr : ¬ 4 ≤ roleL n.affs x.by_) : c ≠ 0 := by
  rintro rfl
  have hd := do_done h
  unfold DoneC at hd
  rcases hk with hk | hk
  · rw [hk] at hd
    exact hr hd.2.2.1
  · rw [hk] at hd
    exact hr hd.2.2.1
theorem may_owners {n m : Nd} {x : Ed} {c : Int} (h : DoC n x m c) (hk : x.kind = 2 ∨ x.kind = 3 ∨ x.kind < 0 ∨ 5 < x.kind) (hr : ¬ roleL n.affs x.by_ = 5) : c ≠ 0 := by
  rintro rfl
  have hd := do_done h
  unfold DoneC at hd
  rcases hk with hk | hk | hk
  · rw [hk] at hd
    exact hr hd.2.1
  · rw [hk] at hd
    exact hr hd.2.1
  · rw [if_neg (by omega), if_neg (by omega), if_neg (by omega), if_neg (by omega), if_neg (by omega), if_neg (by omega)] at hd
    split at hd
    · exact hr (by have := (role_le hd.1 x.by_).2; have := hd.2.2.1; omega)
    · exact hr hd.2.1
set_option maxRecDepth 100000 in
set_option maxHeartbeats 1000000 in
theorem nodeMay_any (n : Nd) (v : NdW) (x : Ed) (w : World) (hr : RawM w n v) (hg : Glob w) (hf : EdFits x) :
    Calls Tryd.prog 5 #[.agg (ndA n v), .agg (edA x)] w fun e w' => e = .returned (.bool true) ∧ Below w.heap.size w w' := by
  obtain ⟨Wa, hWa⟩ : ∃ Wa, w.alloc (.cells (ndA n v) 28) = Wa := ⟨_, rfl⟩
  have fa := World.alloc_heap_new w (.cells (ndA n v) 28)
  have ba : Below w.heap.size w Wa := by rw [← hWa]; exact (Below.refl _ w).alloc (Nat.le_refl _) _
  have za : Wa.heap.size = w.heap.size + 1 := by rw [← hWa]; simp
  obtain ⟨W, hW⟩ : ∃ W, Wa.alloc (.cells (edA x) 35) = W := ⟨_, rfl⟩
  have fb := World.alloc_heap_new Wa (.cells (edA x) 35)
  have bb : Below Wa.heap.size Wa W := by rw [← hW]; exact (Below.refl _ Wa).alloc (Nat.le_refl _) _
  have zb : W.heap.size = w.heap.size + 2 := by rw [← hW, World.size_alloc, za]
  rw [hWa] at fa
  rw [hW, za] at fb
  have f0 := (bb.block _ (by omega)).trans fa
  have bW : Below w.heap.size w W := ba.trans (bb.mono ba.size)
  rw [← hWa] at hW
  have HFew := hide (few_any n v W (hr.move bW))
  have HG := hide hg
  have HF := hide hf
  have HK := hide (And.intro f0 (And.intro fb (And.intro bW (And.intro zb hr.mem))))
  have HA := hide (load_nd f0)
  have HW := hide hW
  rw [← hW] at HFew HA
  clear hr hg hf fa ba za hWa fb bb zb f0 bW hW
  go_enter Tryd.func5, Tryd.ntmps5
  go_wp2_with (refine l_load _ HA.out rfl rfl rfl ?_)
  refine HFew.out.mono ?_
  rintro e w1 ⟨rfl, b1⟩
  have b1' : Below W.heap.size W w1 := by
    have h : _ = W := HW.out
    rw [h] at b1
    exact b1
  have g0 := (b1'.block _ (by have := HK.out.2.2.2.1; omega)).trans HK.out.1
  have g1 := (b1'.block _ (by have := HK.out.2.2.2.1; omega)).trans HK.out.2.1
  have B1 := HK.out.2.2.1.trans (b1'.mono HK.out.2.2.1.size)
  have Z1 := b1'.size
  have HR := hide g0
  clear b1 b1' HW HA HFew
  go_wp2_with (refine l_store _ (store_nd (n := fewN n) (u := v) HR.out) rfl rfl rfl rfl ?_; refine stopNd ?_)
  unfold Hid
  have h0 : (setNd w1 w.heap.size (fewN n) v).heap[w.heap.size]? = some (.cells (ndA (fewN n) v) 28) := setNd_heap g0
  have h1 : (setNd w1 w.heap.size (fewN n) v).heap[w.heap.size + 1]? = some (.cells (edA x) 35) := (setNd_far _ (by omega)).trans g1
  have B2 : Below w.heap.size w (setNd w1 w.heap.size (fewN n) v) := setNd_below B1 (Nat.le_refl _)
  have hz : (setNd w1 w.heap.size (fewN n) v).heap.size = w1.heap.size := setNd_size
  obtain ⟨W1, hW1⟩ : ∃ W1, setNd w1 w.heap.size (fewN n) v = W1 := ⟨_, rfl⟩
  rw [hW1] at h0 h1 B2 hz ⊢
  have hm1 := HK.out.2.2.2.2.move B2
  have hz1 : w.heap.size + 2 ≤ W1.heap.size := by have := HK.out.2.2.2.1; omega
  have HDo := hide (do_any (fewN n) v x W1 hm1 (HG.out.below B2) HF.out)
  have HK1 := hide (And.intro h0 (And.intro h1 (And.intro B2 (And.intro hz1 hm1))))
  have HL0 := hide (load_nd h0)
  have HL1 := hide (load_ed11 h1)
  clear g0 g1 B1 Z1 HR h0 h1 B2 hz hW1 hm1 hz1 HK
  go_wp2_with (first | refine l_load _ HL0.out rfl rfl rfl ?_ | refine l_load _ HL1.out rfl rfl rfl ?_)
  refine HDo.out.mono ?_
  rintro e w2 ⟨m, u, c, rfl, hC, hm2, b2, ho2⟩
  have HC := hide hC
  have h2 := World.alloc_heap_new w2 (.cells (ndA m u) 28)
  have B2 : Below w2.heap.size w2 (w2.alloc (.cells (ndA m u) 28)) := (Below.refl _ w2).alloc (Nat.le_refl _) _
  obtain ⟨W2, hW2⟩ : ∃ W2, w2.alloc (.cells (ndA m u) 28) = W2 := ⟨_, rfl⟩
  have hW2' : w2.alloc (.cells #[.string m.name, .bool m.coll, .int .u8 m.acc, .int .i64 m.max, .slice u.aa m.affs.length u.ac, .slice u.sa m.subs.length u.sc, .slice u.ia m.items.length u.ic, .string m.parent] 28) = W2 := hW2
  rw [hW2] at h2 B2
  obtain ⟨q, hq⟩ : ∃ q, w2.heap.size = q := ⟨_, rfl⟩
  have hq2 : w.heap.size + 2 ≤ q := by have := b2.size; have := HK1.out.2.2.2.1; omega
  have hm3 := hm2.move B2
  have B3 : Below W1.heap.size W1 W2 := b2.trans (B2.mono b2.size)
  rw [hq] at h2
  have HX2 := hide (And.intro ((B3.block _ (by have := HK1.out.2.2.2.1; omega)).trans HK1.out.1) (And.intro ((B3.block _ (by have := HK1.out.2.2.2.1; omega)).trans HK1.out.2.1) (And.intro h2 (And.intro (HK1.out.2.2.2.2.move B3) (And.intro hm3 (HK1.out.2.2.1.trans (B3.mono HK1.out.2.2.1.size)))))))
  have HQ := hide hq2
  have HQQ := hide hq
  have HLz := hide (load_nd HX2.out.1)
  rw [← hW2'] at HLz
  have HW2 := hide hW2'
  clear hC HDo HL0 HL1 hm2 b2 ho2 h2 B2 hW2 hW2' hq hq2 hm3 B3 HK1
  rw [show (ndA m u : Array Value) = #[.string m.name, .bool m.coll, .int .u8 m.acc, .int .i64 m.max, .slice u.aa m.affs.length u.ac, .slice u.sa m.subs.length u.sc, .slice u.ia m.items.length u.ic, .string m.parent] from rfl]
  go_wp2_with (refine l_load _ HLz.out rfl rfl rfl ?_; refine stopNd ?_)
  unfold Hid
  have hW2 := HW2.out
  have hq := HQQ.out
  rw [hW2, hq]
  clear hW2 hq HW2 HQQ HLz
  obtain ⟨ro, hro⟩ : ∃ ro, roleL (fewN n).affs x.by_ = ro := ⟨_, rfl⟩
  have hcall := role_any (fewN n) v x.by_ W2 HX2.out.2.2.2.1.ok
  rw [hro] at hcall
  have HRo := hide hcall
  have HI := hide (show (x.kind = 4 ∨ x.kind = 5) → ¬ 4 ≤ ro → c ≠ 0 from fun h1 h2 => may_items HC.out h1 (by rw [hro]; exact h2))
  have HO := hide (show (x.kind = 2 ∨ x.kind = 3 ∨ x.kind < 0 ∨ 5 < x.kind) → ¬ ro = 5 → c ≠ 0 from fun h1 h2 => may_owners HC.out h1 (by rw [hro]; exact h2))
  have c1 := (ed_box11 HX2.out.2.1).2.1
  clear hro hcall
  go_wp2_with fail
  refine HRo.out.mono ?_
  rintro e w3 ⟨rfl, b3⟩
  have H3 := hide (HX2.out.2.2.2.2.2.trans (b3.mono HX2.out.2.2.2.2.2.size))
  have c0 := (ed_box11 ((b3.block _ (Array.getElem?_eq_some_iff.1 HX2.out.2.1).1).trans HX2.out.2.1)).1
  obtain ⟨kd, hkd⟩ : ∃ kd, x.kind = kd := ⟨_, rfl⟩
  rw [hkd] at c0 HI HO
  have HLi := hide (live11_any w3 (HG.out.below H3.out))
  clear hkd c1 HRo b3
  by_cases h4 : kd = 4
  · subst h4
    by_cases hr : (4 : Int) ≤ (ro : Int)
    · skip
      have hr2 : (ro : Int) ≥ 4 := hr
      go_wp2_with fail
      refine HLi.out.mono ?_
      rintro e w4 ⟨rfl, b4⟩
      have H4 := hide (H3.out.trans (b4.mono H3.out.size))
      clear b4
      go_wp2_with fail
      go_ret
      exact ⟨rfl, H4.out⟩
    · have hc : (c != 0) = true := by rw [bne_iff_ne]; exact HI.out (.inl rfl) (by omega)
      have hr2 : ¬ ((ro : Int) ≥ 4) := hr
      go_wp2_with fail
      refine HLi.out.mono ?_
      rintro e w4 ⟨rfl, b4⟩
      have H4 := hide (H3.out.trans (b4.mono H3.out.size))
      clear b4
      go_wp2_with fail
      go_ret
      exact ⟨rfl, H4.out⟩
  · skip
    by_cases h5 : kd = 5
    · subst h5
      by_cases hr : (4 : Int) ≤ (ro : Int)
      · skip
        have hr2 : (ro : Int) ≥ 4 := hr
        go_wp2_with fail
        refine HLi.out.mono ?_
        rintro e w4 ⟨rfl, b4⟩
        have H4 := hide (H3.out.trans (b4.mono H3.out.size))
        clear b4
        go_wp2_with fail
        go_ret
        exact ⟨rfl, H4.out⟩
      · have hc : (c != 0) = true := by rw [bne_iff_ne]; exact HI.out (.inr rfl) (by omega)
        have hr2 : ¬ ((ro : Int) ≥ 4) := hr
        go_wp2_with fail
        refine HLi.out.mono ?_
        rintro e w4 ⟨rfl, b4⟩
        have H4 := hide (H3.out.trans (b4.mono H3.out.size))
        clear b4
        go_wp2_with fail
        go_ret
        exact ⟨rfl, H4.out⟩
    · skip
      by_cases h2 : kd = 2
      · subst h2
        by_cases hr : ro = 5
        · have hr2 : ((ro : Int) == 5) = true := by rw [hr]; rfl
          clear hr
          go_wp2_with fail
          refine HLi.out.mono ?_
          rintro e w4 ⟨rfl, b4⟩
          have H4 := hide (H3.out.trans (b4.mono H3.out.size))
          clear b4
          go_wp2_with fail
          go_ret
          exact ⟨rfl, H4.out⟩
        · have hc : (c != 0) = true := by rw [bne_iff_ne]; exact HO.out (.inl rfl) hr
          have hr2 : ((ro : Int) == 5) = false := by rw [beq_eq_false_iff_ne]; omega
          clear hr
          go_wp2_with fail
          refine HLi.out.mono ?_
          rintro e w4 ⟨rfl, b4⟩
          have H4 := hide (H3.out.trans (b4.mono H3.out.size))
          clear b4
          go_wp2_with fail
          go_ret
          exact ⟨rfl, H4.out⟩
      · skip
        by_cases h3 : kd = 3
        · subst h3
          by_cases hr : ro = 5
          · have hr2 : ((ro : Int) == 5) = true := by rw [hr]; rfl
            clear hr
            go_wp2_with fail
            refine HLi.out.mono ?_
            rintro e w4 ⟨rfl, b4⟩
            have H4 := hide (H3.out.trans (b4.mono H3.out.size))
            clear b4
            go_wp2_with fail
            go_ret
            exact ⟨rfl, H4.out⟩
          · have hc : (c != 0) = true := by rw [bne_iff_ne]; exact HO.out (.inr (.inl rfl)) hr
            have hr2 : ((ro : Int) == 5) = false := by rw [beq_eq_false_iff_ne]; omega
            clear hr
            go_wp2_with fail
            refine HLi.out.mono ?_
            rintro e w4 ⟨rfl, b4⟩
            have H4 := hide (H3.out.trans (b4.mono H3.out.size))
            clear b4
            go_wp2_with fail
            go_ret
            exact ⟨rfl, H4.out⟩
        · skip
          by_cases hneg : kd < 0
          · skip
            by_cases hr : ro = 5
            · have hr2 : ((ro : Int) == 5) = true := by rw [hr]; rfl
              clear hr
              have k4 : (kd == 4) = false := by rw [beq_eq_false_iff_ne]; omega
              have k5 : (kd == 5) = false := by rw [beq_eq_false_iff_ne]; omega
              have k2 : (kd == 2) = false := by rw [beq_eq_false_iff_ne]; omega
              have k3 : (kd == 3) = false := by rw [beq_eq_false_iff_ne]; omega
              go_wp2_with fail
              refine HLi.out.mono ?_
              rintro e w4 ⟨rfl, b4⟩
              have H4 := hide (H3.out.trans (b4.mono H3.out.size))
              clear b4
              go_wp2_with fail
              go_ret
              exact ⟨rfl, H4.out⟩
            · have hc : (c != 0) = true := by rw [bne_iff_ne]; exact HO.out (.inr (.inr (.inl hneg))) hr
              have hr2 : ((ro : Int) == 5) = false := by rw [beq_eq_false_iff_ne]; omega
              clear hr
              have k4 : (kd == 4) = false := by rw [beq_eq_false_iff_ne]; omega
              have k5 : (kd == 5) = false := by rw [beq_eq_false_iff_ne]; omega
              have k2 : (kd == 2) = false := by rw [beq_eq_false_iff_ne]; omega
              have k3 : (kd == 3) = false := by rw [beq_eq_false_iff_ne]; omega
              go_wp2_with fail
              refine HLi.out.mono ?_
              rintro e w4 ⟨rfl, b4⟩
              have H4 := hide (H3.out.trans (b4.mono H3.out.size))
              clear b4
              go_wp2_with fail
              go_ret
              exact ⟨rfl, H4.out⟩
          · skip
            by_cases hgt : 5 < kd
            · skip
              by_cases hr : ro = 5
              · have hr2 : ((ro : Int) == 5) = true := by rw [hr]; rfl
                clear hr
                have k4 : (kd == 4) = false := by rw [beq_eq_false_iff_ne]; omega
                have k5 : (kd == 5) = false := by rw [beq_eq_false_iff_ne]; omega
                have k2 : (kd == 2) = false := by rw [beq_eq_false_iff_ne]; omega
                have k3 : (kd == 3) = false := by rw [beq_eq_false_iff_ne]; omega
                go_wp2_with fail
                refine HLi.out.mono ?_
                rintro e w4 ⟨rfl, b4⟩
                have H4 := hide (H3.out.trans (b4.mono H3.out.size))
                clear b4
                go_wp2_with fail
                go_ret
                exact ⟨rfl, H4.out⟩
              · have hc : (c != 0) = true := by rw [bne_iff_ne]; exact HO.out (.inr (.inr (.inr hgt))) hr
                have hr2 : ((ro : Int) == 5) = false := by rw [beq_eq_false_iff_ne]; omega
                clear hr
                have k4 : (kd == 4) = false := by rw [beq_eq_false_iff_ne]; omega
                have k5 : (kd == 5) = false := by rw [beq_eq_false_iff_ne]; omega
                have k2 : (kd == 2) = false := by rw [beq_eq_false_iff_ne]; omega
                have k3 : (kd == 3) = false := by rw [beq_eq_false_iff_ne]; omega
                go_wp2_with fail
                refine HLi.out.mono ?_
                rintro e w4 ⟨rfl, b4⟩
                have H4 := hide (H3.out.trans (b4.mono H3.out.size))
                clear b4
                go_wp2_with fail
                go_ret
                exact ⟨rfl, H4.out⟩
            · skip
              have k4 : (kd == 4) = false := by rw [beq_eq_false_iff_ne]; omega
              have k5 : (kd == 5) = false := by rw [beq_eq_false_iff_ne]; omega
              have k2 : (kd == 2) = false := by rw [beq_eq_false_iff_ne]; omega
              have k3 : (kd == 3) = false := by rw [beq_eq_false_iff_ne]; omega
              go_wp2_with fail
              refine HLi.out.mono ?_
              rintro e w4 ⟨rfl, b4⟩
              have H4 := hide (H3.out.trans (b4.mono H3.out.size))
              clear b4
              go_wp2_with fail
              go_ret
              exact ⟨rfl, H4.out⟩
end Go.Proofs.YtffjmkngdjbjlaaDoor
