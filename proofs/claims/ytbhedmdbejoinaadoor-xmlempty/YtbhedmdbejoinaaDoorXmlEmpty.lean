/- XmlEmpty: an element that is empty is told the same, written in one tag or in two: whatever the letters and the blanks. -/
import Derived.Test.YtbhedmdbejoinaaDoorEmpM
import Derived.Test.YtbhedmdbejoinaaDoorTokRow
import Derived.Test.YtbhedmdbejoinaaDoorRefSame
namespace Go.Proofs.YtbhedmdbejoinaaDoor
open Go.RowKit

theorem conv_lit (b : UInt8) (w : World) : (convert 22 9 (.slice (some ⟨w.heap.size, 0, none⟩) 1 1)).run Tryd.prog (w.alloc (.cells #[.int .u8 (b.toNat : Int)] 5)) = .ok (.string ⟨[b].toArray⟩) (w.alloc (.cells #[.int .u8 (b.toNat : Int)] 5)) :=
  run_convert_bytes_back (P := Tryd.prog) _ 22 9 5 ⟨w.heap.size, 0, none⟩ 1 [b] Tryd.underlying22 Tryd.underlying5 Tryd.underlying9 (fun j hj => by
    have hj0 : j = 0 := by simpa using hj
    subst hj0
    have h : ∀ W : World, W.heap[w.heap.size]? = some (.cells #[.int .u8 (b.toNat : Int)] 5) → W.cell? ⟨w.heap.size, 0, none⟩ = some (.int .u8 (b.toNat : Int)) := fun W hW => by simp [World.cell?, hW]
    exact h _ (World.alloc_heap_new w _))
theorem TokMem.raise {a b : Nat} {w : World} {ao : Option Addr} {ts : List Tok} {av : Nat → Option Addr × Nat} (h : TokMem a w ao ts av) (hb : a ≤ b) : TokMem b w ao ts av := by
  refine ⟨h.1, fun k t hk => ?_⟩
  obtain ⟨s1, s2, s3, ⟨m1, m2, m3⟩, s5, bb, off, e1, e2, e3⟩ := h.2 k t hk
  refine ⟨s1, s2, s3, ⟨m1, m2, fun j x hj => ?_⟩, s5, bb, off, e1, by omega, e3⟩
  obtain ⟨b', o', f1, f2, f3⟩ := m3 j x hj
  exact ⟨b', o', f1, by omega, f3⟩

set_option maxRecDepth 100000 in
set_option maxHeartbeats 2000000 in
theorem xmlEmpty_any (a1 : Option Addr) (c1 : Nat) (l0 : List UInt8) (x : Int) (w : World) (_h1 : l0.length ≤ c1) (hm1 : ByteMem w.heap.size w a1 l0) (hx0 : 0 ≤ x) (hx1 : x ≤ 255) (hE : Env w) (h4 : 4 ≤ w.heap.size) :
    Calls Tryd.prog 6 #[.slice a1 l0.length c1, .int .u8 x] w fun e w' => e = .returned (.bool true) ∧ Below w.heap.size w w' := by
  have HM := hide (And.intro hm1 hE)
  clear hm1 hE
  obtain ⟨q, hq, hq0, hq6⟩ : ∃ q : Int, x % 6 = q ∧ 0 ≤ q ∧ q < 6 := ⟨_, rfl, by omega, by omega⟩
  go_enter Tryd.func6, Tryd.ntmps6
  go_wp2_with fail
  go_loopw [5, 6] (fun s i wr => ∃ (k : Nat) (acc : List UInt8), k ≤ 20 ∧ k ≤ l0.length ∧ acc.length = k ∧ Small acc ∧ s = .string ⟨(97 :: acc).toArray⟩ ∧ i = .int .i64 k ∧ Below w.heap.size w wr) (fun _ i _ => 20 - (intOf i).toNat)
  case atStart => exact ⟨0, [], Nat.zero_le _, Nat.zero_le _, rfl, fun b hb => by simp at hb, rfl, rfl, Below.refl _ _⟩
  case round =>
    obtain ⟨k, acc, hk, hkl, hal, hsm, rfl, rfl, hbw⟩ := hrel
    have hsw := hbw.size
    by_cases hgo : (k : Int) < l0.length ∧ (k : Int) < 20
    · obtain ⟨c, hc⟩ : ∃ c, l0[k]? = some c := ⟨_, List.getElem?_eq_getElem (by omega)⟩
      obtain ⟨b, o, hbe, hbl, hcell⟩ := HM.out.1 k c hc
      subst hbe
      have hcell' : wr.cell? ⟨b, o + k, none⟩ = _ := (hbw.cell (p := ⟨b, _, none⟩) hbl).trans hcell
      have g1 := hgo.1
      have g2 := hgo.2
      have cv := conv_one c wr
      have ad := add_one (97 :: acc) (letB c) (by simp; omega)
      have HR := hide (And.intro hbw (And.intro hsm hal))
      clear hbw hsm hcell hc hgo hal
      go_wp2_with fail
      refine ⟨⟨k + 1, acc ++ [letB c], by omega, by omega, by rw [List.length_append, HR.out.2.2]; rfl, small_more HR.out.2.1 c, by simp, by simp, HR.out.1.alloc hsw _⟩, by simp [intOf]; omega⟩
    · have hstop : ¬ ((k : Int) < l0.length) ∨ ((k : Int) < l0.length ∧ ¬ ((k : Int) < 20)) := by omega
      have HA := hide (And.intro hsm (show acc.length ≤ 20 by omega))
      have HA2 := hide hbw
      clear hsm hbw hgo hal
      rcases hstop with g1 | ⟨g1, g2⟩
      all_goals
        go_wp2_with fail
        go_loopw [7, 8] (fun s i wr => ∃ (k : Nat) (gp : List UInt8), (k : Int) ≤ q ∧ gp.length = k ∧ Blk gp ∧ s = .string ⟨gp.toArray⟩ ∧ i = .int .i64 k ∧ Below w.heap.size w wr) (fun _ i _ => 6 - (intOf i).toNat)
        case atStart => exact ⟨0, [], by omega, rfl, fun b hb => by simp at hb, rfl, rfl, HA2.out⟩
        case round =>
          obtain ⟨k2, gp, hk2, hgl, hgb, rfl, rfl, hbw⟩ := hrel
          have hsw := hbw.size
          by_cases hgo2 : (k2 : Int) < q
          · have c32 := conv_lit ((⟨#[32, 9, 10, 13]⟩ : ByteArray)[0]'(by decide)) wr
            have c9 := conv_lit ((⟨#[32, 9, 10, 13]⟩ : ByteArray)[1]'(by decide)) wr
            have c10 := conv_lit ((⟨#[32, 9, 10, 13]⟩ : ByteArray)[2]'(by decide)) wr
            have c13 := conv_lit ((⟨#[32, 9, 10, 13]⟩ : ByteArray)[3]'(by decide)) wr
            have d32 := add_one gp ((⟨#[32, 9, 10, 13]⟩ : ByteArray)[0]'(by decide)) (by omega)
            have d9 := add_one gp ((⟨#[32, 9, 10, 13]⟩ : ByteArray)[1]'(by decide)) (by omega)
            have d10 := add_one gp ((⟨#[32, 9, 10, 13]⟩ : ByteArray)[2]'(by decide)) (by omega)
            have d13 := add_one gp ((⟨#[32, 9, 10, 13]⟩ : ByteArray)[3]'(by decide)) (by omega)
            have HR := hide (And.intro hbw (And.intro hgb hgl))
            clear hbw hgb
            have key : ∀ b : UInt8, isBl b = true → Blk (gp ++ [b]) := fun b hb c hc => by
              rcases List.mem_append.1 hc with hc | hc
              · exact HR.out.2.1 c hc
              · rw [List.mem_singleton.1 hc]; exact hb
            have HK := hide key
            clear key
            rcases (show k2 = 0 ∨ k2 = 1 ∨ k2 = 2 ∨ k2 = 3 ∨ k2 = 4 by omega) with rfl | rfl | rfl | rfl | rfl
            all_goals
              go_wp2_with fail
              exact ⟨⟨gp.length + 1, _, by omega, by rw [List.length_append]; rfl, HK.out _ (by decide), rfl, by rw [hgl]; rfl, HR.out.1.alloc hsw _⟩, by simp [intOf]⟩
          · have hgl5 : gp.length ≤ 5 := by omega
            obtain ⟨nm, hnm⟩ : ∃ nm : List UInt8, 97 :: acc = nm := ⟨_, rfl⟩
            have hsmn : Small nm := by
              rw [← hnm]
              intro b hb
              rcases List.mem_cons.1 hb with rfl | hb
              · decide
              · exact HA.out.1 b hb
            have hnl1 : 1 ≤ nm.length := by rw [← hnm]; simp
            have hnl2 : nm.length ≤ 21 := by rw [← hnm]; simp; have := HA.out.2; omega
            have gA := feed_one (r := []) hsmn hnl1 (by omega) (g := []) (fun b hb => by simp at hb) (by simp)
            have gB := feed_two hsmn hnl1 (by omega) hgb (by omega)
            have gC := feed_one (r := gp) hsmn hnl1 (by omega) hgb (by omega)
            have gD := feed_blanks gp ⟨[], 0, [], true, true, 0⟩ hgb rfl (by simp; omega)
            obtain ⟨x1, hx1⟩ : ∃ x1 : List UInt8, [60] ++ nm = x1 := ⟨_, rfl⟩
            obtain ⟨bA, hbA⟩ : ∃ bA : List UInt8, x1 ++ [47, 62] = bA := ⟨_, rfl⟩
            obtain ⟨y2, hy2⟩ : ∃ y2 : List UInt8, x1 ++ gp = y2 := ⟨_, rfl⟩
            obtain ⟨y3, hy3⟩ : ∃ y3 : List UInt8, y2 ++ [62, 60, 47] = y3 := ⟨_, rfl⟩
            obtain ⟨y4, hy4⟩ : ∃ y4 : List UInt8, y3 ++ nm = y4 := ⟨_, rfl⟩
            obtain ⟨y5, hy5⟩ : ∃ y5 : List UInt8, y4 ++ gp = y5 := ⟨_, rfl⟩
            obtain ⟨bB, hbB⟩ : ∃ bB : List UInt8, y5 ++ [62] = bB := ⟨_, rfl⟩
            obtain ⟨z3, hz3⟩ : ∃ z3 : List UInt8, y2 ++ [47, 62] = z3 := ⟨_, rfl⟩
            obtain ⟨bC, hbC⟩ : ∃ bC : List UInt8, z3 ++ gp = bC := ⟨_, rfl⟩
            have lx1 : x1.length ≤ 22 := by rw [← hx1]; simp; omega
            have lbA : bA.length ≤ 30 := by rw [← hbA]; simp; omega
            have ly2 : y2.length ≤ 30 := by rw [← hy2]; simp; omega
            have ly3 : y3.length ≤ 40 := by rw [← hy3]; simp; omega
            have ly4 : y4.length ≤ 70 := by rw [← hy4]; simp; omega
            have ly5 : y5.length ≤ 80 := by rw [← hy5]; simp; omega
            have lbB : bB.length ≤ 90 := by rw [← hbB]; simp; omega
            have lz3 : z3.length ≤ 40 := by rw [← hz3]; simp; omega
            have lbC : bC.length ≤ 50 := by rw [← hbC]; simp; omega
            have t1 := add_two [60] nm (by simp; omega)
            have t2 := add_two x1 [47, 62] (by simp; omega)
            have t3 := add_two x1 gp (by omega)
            have t4 := add_two y2 [62, 60, 47] (by simp; omega)
            have t5 := add_two y3 nm (by omega)
            have t6 := add_two y4 gp (by omega)
            have t7 := add_two y5 [62] (by simp; omega)
            have t8 := add_two y2 [47, 62] (by simp; omega)
            have t9 := add_two z3 gp (by omega)
            have eA : 60 :: ((nm ++ ([] ++ [47])) ++ 62 :: []) = bA := by rw [← hbA, ← hx1]; simp
            have eB : 60 :: ((nm ++ gp) ++ 62 :: (60 :: ((47 :: (nm ++ gp)) ++ 62 :: []))) = bB := by rw [← hbB, ← hy5, ← hy4, ← hy3, ← hy2, ← hx1]; simp
            have eC : 60 :: ((nm ++ (gp ++ [47])) ++ 62 :: gp) = bC := by rw [← hbC, ← hz3, ← hy2, ← hx1]; simp
            rw [hx1] at t1
            rw [hbA] at t2
            rw [hy2] at t3
            rw [hy3] at t4
            rw [hy4] at t5
            rw [hy5] at t6
            rw [hbB] at t7
            rw [hz3] at t8
            rw [hbC] at t9
            rw [eA] at gA
            rw [eB] at gB
            rw [eC, gD.1] at gC
            have HFA := hide (show (feedF st0 bA).2 = empTok nm ∧ (feedF st0 bA).1.broken = 0 by rw [gA]; exact ⟨rfl, rfl⟩)
            have HFB := hide gB
            have HFC := hide (show (feedF st0 bC).2 = empTok nm ∧ (feedF st0 bC).1.broken = 0 by rw [gC]; exact ⟨by simp, gD.2⟩)
            have K0 := hide (And.intro hbw (And.intro (HM.out.2.below hbw h4) trivial))
            rw [hnm]
            clear gA gB gC gD eA eB eC hx1 hbA hy2 hy3 hy4 hy5 hbB hz3 hbC hsmn hnm hbw hgb
            go_wp2_with fail
            refine (new_any wr).mono ?_
            rintro e u1 ⟨rfl, hP1, hz1, hb1⟩
            obtain ⟨V1, cap1, cv1, hW2, z2, hb2⟩ := to_bytes ⟨bA.toArray⟩ u1
            have hP2 := hP1.below hb2
            have hbp := hb1.trans (hb2.mono (by omega))
            have hE2 : Env V1 := K0.out.2.1.below hbp (by omega)
            have hB2 : Bytes V1 wr.heap.size (.slice none 0 0) (.slice none 0 0) (some ⟨u1.heap.size, 0, none⟩) bA := bytes_block hP2 hW2.choose_spec.choose_spec.1 (by intro h; cases h) hW2.choose_spec.choose_spec.2
            have hfe := Feed_any wr.heap.size wr.heap.size st0 _ _ _ cap1 bA V1 hP2 inv0 hE2 (by omega) (by omega) hB2 (by omega)
            rw [FeedF_of (st := st0) rfl] at hfe
            have hcz : (⟨bA.toArray⟩ : ByteArray).size = bA.length := by rw [← size_list]
            rw [hcz] at cv1
            have HZ1 := hide (And.intro hz1 z2)
            have S1 := hide (And.intro hfe (And.intro hP2 (And.intro hE2 hbp)))
            clear hP1 hb1 hb2 hP2 hbp hE2 hB2 hfe hW2 hcz hz1 z2
            go_wp2_with fail
            refine S1.out.1.mono ?_
            rintro e w1 ⟨st1, v1, l1, vw, vo, rfl, q1, q2, q3, q4⟩
            rw [HFA.out.1] at q1
            have hbr : st1.broken = 0 := q4.broken.trans HFA.out.2
            rw [hbr]
            have hzz1 := HZ1.out.1
            have hzz2 := HZ1.out.2
            have hz1 := q3.below.size
            have hll1 : l1.length = 2 := by simpa [empTok] using congrArg List.length q1
            have hbu := Run.under S1.out.2.1 q3
            have hbn : Below wr.heap.size wr w1 := S1.out.2.2.2.trans (hbu.mono (by omega))
            have hEn := K0.out.2.1.below hbn (by omega)
            have hzn : wr.heap.size ≤ w1.heap.size := hbn.size
            obtain ⟨ga1, gc1, hv1⟩ := own_shape q2.1
            have hbw := K0.out.1.trans (hbn.mono (by omega))
            rw [hv1] at q2
            have K1 := hide (And.intro hbw (And.intro hEn (And.intro q2 q1)))
            rw [hv1]
            clear q1 q2 q3 q4 hbr hbu hbn hEn hbw hv1 hzz1 hzz2 cv1
            go_wp2_with fail
            refine (new_any w1).mono ?_
            rintro e u2 ⟨rfl, hP1, hz1, hb1⟩
            obtain ⟨V2, cap2, cv2, hW2, z2, hb2⟩ := to_bytes ⟨bB.toArray⟩ u2
            have hP2 := hP1.below hb2
            have hbp := hb1.trans (hb2.mono (by omega))
            have hE2 : Env V2 := K1.out.2.1.below hbp (by omega)
            have hB2 : Bytes V2 w1.heap.size (.slice none 0 0) (.slice none 0 0) (some ⟨u2.heap.size, 0, none⟩) bB := bytes_block hP2 hW2.choose_spec.choose_spec.1 (by intro h; cases h) hW2.choose_spec.choose_spec.2
            have hfe := Feed_any w1.heap.size w1.heap.size st0 _ _ _ cap2 bB V2 hP2 inv0 hE2 (by omega) (by omega) hB2 (by omega)
            rw [FeedF_of (st := st0) rfl] at hfe
            have hcz : (⟨bB.toArray⟩ : ByteArray).size = bB.length := by rw [← size_list]
            rw [hcz] at cv2
            have HZ2 := hide (And.intro hz1 z2)
            have S2 := hide (And.intro hfe (And.intro hP2 (And.intro hE2 hbp)))
            clear hP1 hb1 hb2 hP2 hbp hE2 hB2 hfe hW2 hcz hz1 z2
            go_wp2_with fail
            refine S2.out.1.mono ?_
            rintro e w2 ⟨st2, v2, l2, vw, vo, rfl, q1, q2, q3, q4⟩
            rw [HFB.out.1] at q1
            have hbr : st2.broken = 0 := q4.broken.trans HFB.out.2
            rw [hbr]
            have hzz1 := HZ2.out.1
            have hzz2 := HZ2.out.2
            have hz2 := q3.below.size
            have hll2 : l2.length = 2 := by simpa [empTok] using congrArg List.length q1
            have hbu := Run.under S2.out.2.1 q3
            have hbn : Below w1.heap.size w1 w2 := S2.out.2.2.2.trans (hbu.mono (by omega))
            have hEn := K1.out.2.1.below hbn (by omega)
            have hzn : w1.heap.size ≤ w2.heap.size := hbn.size
            obtain ⟨ga2, gc2, hv2⟩ := own_shape q2.1
            have hbw := K1.out.1.trans (hbn.mono (by omega))
            have kr := K1.out.2.2.1.below hbn
            rw [hv2] at q2
            have K2 := hide (And.intro hbw (And.intro hEn (And.intro (And.intro kr K1.out.2.2.2) (And.intro q2 q1))))
            rw [hv2]
            clear q1 q2 q3 q4 hbr hbu hbn hEn hbw hv2 hzz1 hzz2 cv2 kr
            go_wp2_with fail
            refine (new_any w2).mono ?_
            rintro e u3 ⟨rfl, hP1, hz1, hb1⟩
            obtain ⟨V3, cap3, cv3, hW2, z2, hb2⟩ := to_bytes ⟨bC.toArray⟩ u3
            have hP2 := hP1.below hb2
            have hbp := hb1.trans (hb2.mono (by omega))
            have hE2 : Env V3 := K2.out.2.1.below hbp (by omega)
            have hB2 : Bytes V3 w2.heap.size (.slice none 0 0) (.slice none 0 0) (some ⟨u3.heap.size, 0, none⟩) bC := bytes_block hP2 hW2.choose_spec.choose_spec.1 (by intro h; cases h) hW2.choose_spec.choose_spec.2
            have hfe := Feed_any w2.heap.size w2.heap.size st0 _ _ _ cap3 bC V3 hP2 inv0 hE2 (by omega) (by omega) hB2 (by omega)
            rw [FeedF_of (st := st0) rfl] at hfe
            have hcz : (⟨bC.toArray⟩ : ByteArray).size = bC.length := by rw [← size_list]
            rw [hcz] at cv3
            have HZ3 := hide (And.intro hz1 z2)
            have S3 := hide (And.intro hfe (And.intro hP2 (And.intro hE2 hbp)))
            clear hP1 hb1 hb2 hP2 hbp hE2 hB2 hfe hW2 hcz hz1 z2
            go_wp2_with fail
            refine S3.out.1.mono ?_
            rintro e w3 ⟨st3, v3, l3, vw, vo, rfl, q1, q2, q3, q4⟩
            rw [HFC.out.1] at q1
            have hbr : st3.broken = 0 := q4.broken.trans HFC.out.2
            rw [hbr]
            have hzz1 := HZ3.out.1
            have hzz2 := HZ3.out.2
            have hz3 := q3.below.size
            have hll3 : l3.length = 2 := by simpa [empTok] using congrArg List.length q1
            have hbu := Run.under S3.out.2.1 q3
            have hbn : Below w2.heap.size w2 w3 := S3.out.2.2.2.trans (hbu.mono (by omega))
            have hEn := K2.out.2.1.below hbn (by omega)
            have hzn : w2.heap.size ≤ w3.heap.size := hbn.size
            obtain ⟨ga3, gc3, hv3⟩ := own_shape q2.1
            have hbw := K2.out.1.trans (hbn.mono (by omega))
            have kr := K2.out.2.2.1.1.below hbn
            have ks := K2.out.2.2.2.1.below hbn
            rw [hv3] at q2
            have K3 := hide (And.intro hbw (And.intro hEn (And.intro (And.intro kr K2.out.2.2.1.2) (And.intro (And.intro ks K2.out.2.2.2.2) (And.intro q2 q1)))))
            rw [hv3]
            clear q1 q2 q3 q4 hbr hbu hbn hEn hbw hv3 hzz1 hzz2 cv3 kr ks
            have hlv := hide (live_any w3 K3.out.2.1 (by omega))
            rw [hll3]
            go_wp2_with fail
            refine hlv.out.mono ?_
            rintro e w4 ⟨rfl, hb4⟩
            have hz4 := hb4.size
            obtain ⟨ao, ca, ea, hTA⟩ := tokMem_own2 (K3.out.2.2.1.1.below hb4) (by omega)
            obtain ⟨bo, cb, eb, hTB⟩ := tokMem_own2 (K3.out.2.2.2.1.1.below hb4) (by omega)
            obtain ⟨co, cc, ec, hTC⟩ := tokMem_own2 (K3.out.2.2.2.2.1.below hb4) (by omega)
            have hs1 := refSame_any ao bo ca cb _ _ _ _ w4 hTA hTB
            have m1 : (l1.map (·.1)).length = 2 := by rw [List.length_map]; exact hll1
            have m2 : (l2.map (·.1)).length = 2 := by rw [List.length_map]; exact hll2
            have m3 : (l3.map (·.1)).length = 2 := by rw [List.length_map]; exact hll3
            rw [m1, m2] at hs1
            cases ea
            cases eb
            cases ec
            have H4 := hide (And.intro hs1 (And.intro hTA (And.intro hTC (K3.out.1.trans (hb4.mono (by omega))))))
            clear hb4 hs1 hTA hTB hTC
            go_wp2_with fail
            refine H4.out.1.mono ?_
            rintro e w5 ⟨hte, hb5⟩
            obtain rfl : e = .returned (.bool true) := by
              rcases hte with ⟨_, h⟩ | ⟨h, _⟩
              · exact h
              · exact absurd (K3.out.2.2.1.2.trans K3.out.2.2.2.1.2.symm) h
            have hz5 := hb5.size
            have hs2 := refSame_any ga1 ga3 gc1 gc3 _ _ _ _ w5 ((H4.out.2.1.below hb5).raise hz5) ((H4.out.2.2.1.below hb5).raise hz5)
            rw [m1, m3] at hs2
            have H5 := hide (And.intro hs2 (H4.out.2.2.2.trans (hb5.mono (by omega))))
            clear hb5 hs2 hte
            go_wp2_with fail
            refine H5.out.1.mono ?_
            rintro e w6 ⟨hte, hb6⟩
            obtain rfl : e = .returned (.bool true) := by
              rcases hte with ⟨_, h⟩ | ⟨h, _⟩
              · exact h
              · exact absurd (K3.out.2.2.1.2.trans K3.out.2.2.2.2.2.symm) h
            have H6 := hide (H5.out.2.trans (hb6.mono (by omega)))
            clear hb6 hte
            go_wp2_with fail
            go_ret
            exact ⟨rfl, H6.out⟩
end Go.Proofs.YtbhedmdbejoinaaDoor
