/- SlotsRaw. -/
import Derived.Test.YtfknjmfkkaoggaaSRw1
import Derived.Test.YtfknjmfkkaoggaaS28
import Derived.Test.YtfknjmfkkaoggaaS24
namespace Go.Proofs.Ytfknjmfkkaoggaa
open Go.RowKit Go.Shelf

theorem tto_size {base q p : Nat} {vl vw : Value} {d' : Dv} {w w' : World} (h : TTo base q p vl vw d' w w') : Below base w w' := by
  obtain ⟨vl', vw', _, k2, _⟩ := h
  exact k2.below
/-- Two devices that are the same, of twelve sectors. -/
structure TwoD (base p q n : Nat) (d : Dv) (vl vw ul uw : Value) (w : World) : Prop where
  dev : IsD base p d vl vw w
  ref : IsR base q d ul uw w
  low : base ≤ w.heap.size
  ok : DvOk d
  size : d.las.length = 12
  few : d.wr.length ≤ n
section
variable {base p q n : Nat} {d : Dv} {vl vw ul uw : Value} {w w1 w2 w3 : World}
theorem TwoD.below (h : TwoD base p q n d vl vw ul uw w) (hb : Below w.heap.size w w1) : TwoD base p q n d vl vw ul uw w1 := ⟨h.dev.below hb, h.ref.below hb, Nat.le_trans h.low hb.size, h.ok, h.size, h.few⟩
theorem TwoD.apart (h : TwoD base p q n d vl vw ul uw w) : ∀ j, foot p vl vw j → ¬ foot q ul uw j := foot_apart h.dev h.ref (by decide) (by decide) (by decide) (by decide) (by decide) (by decide) (by decide) (by decide) (by decide)
theorem TwoD.first {d' : Dv} (h : TwoD base p q n d vl vw ul uw w) (ht : ToD base p vl vw d' w w1) : IsR base q d ul uw w1 := by
  obtain ⟨vl', vw', k1, k2, k3⟩ := ht
  exact h.ref.apart k2 (fun j hj hf => h.apart j hf hj)
theorem toD_below {d' : Dv} (ht : ToD base p vl vw d' w w1) : Below base w w1 := by
  obtain ⟨vl', vw', k1, k2, k3⟩ := ht
  exact k2.below
theorem toD_keep {d' : Dv} (ht : ToD base p vl vw d' w w1) {g : Nat} {o : Obj} (hg : w.heap[g]? = some o) (hf : ¬ foot p vl vw g) : w1.heap[g]? = some o := by
  obtain ⟨vl', vw', _, k2, _⟩ := ht
  exact (k2.same g (hp_lt hg) hf).trans hg
theorem TwoD.both {i : Nat} {s : Sec} (h : TwoD base p q n d vl vw ul uw w) (hi : i < 12) (hs : s.length = 64) (hn : n < 1000000) (ht : ToD base p vl vw (dvWrite d i s) w w1) (hr : ToR base q ul uw (dvWrite d i s) w1 w2) : (∃ d' vl' vw' ul' uw', TwoD base p q (n + 1) d' vl' vw' ul' uw' w2) ∧ Below base w w2 := by
  have h1 := h.first ht
  obtain ⟨vl', vw', k1, k2, k3⟩ := ht
  obtain ⟨ul', uw', m1, m2, m3⟩ := hr
  have hap := foot_apart k1 h1 (by decide) (by decide) (by decide) (by decide) (by decide) (by decide) (by decide) (by decide) (by decide)
  have k4 := k1.apart m2 hap
  have hb : Below base w w2 := k2.below.trans m2.below
  have hf := h.few
  refine ⟨⟨dvWrite d i s, vl', vw', ul', uw', k4, m1, Nat.le_trans h.low hb.size, dvWrite_ok h.ok (by rw [h.size]; exact hi) hs (by omega), h.size, ?_⟩, hb⟩
  show (d.wr ++ [(i, s)]).length ≤ n + 1
  rw [List.length_append]
  show d.wr.length + 1 ≤ n + 1
  omega
end
theorem sec_new57 (w : World) (s : Sec) (hs : s.length = 64) : ∃ W, (Instr.storeAt 57 (.pointer (some ⟨w.heap.size, 0, none⟩)) (.agg (secA s))).run Try.prog (w.alloc (.cells (Lib.byteCells sec0).toArray 57)) = .ok () W ∧ W.heap[w.heap.size]? = some (.cells (secA s) 57) ∧ Below w.heap.size w W ∧ W.heap.size = w.heap.size + 1 :=
  ⟨_, run_store_new (P := Try.prog) infoSecA w (cs := secA s) (c := secA sec0) (by rw [secA_size, hs]) rfl (secA_one s), World.alloc_heap_new w _, (Below.refl _ w).alloc (Nat.le_refl _) _, by simp⟩
/-- Bytes, as they are handed in. -/
structure Bh (w : World) (a : Option Addr) (b : List UInt8) (l c : Nat) : Prop where
  mem : ByteMem w.heap.size w a b
  len : b.length = l
  cap : l ≤ c
  most : c ≤ 9223372036854775807
set_option maxRecDepth 100000 in
set_option maxHeartbeats 8000000 in
theorem slotsRaw_any (a0 a1 : Option Addr) (r0 r1 : List UInt8) (l0 l1 c0 c1 : Nat) (t0 t1 : V) (ba : Option Addr) (b : List UInt8) (ln cap : Nat) (w : World) (h0 : Bh w a0 r0 l0 c0) (h1 : Bh w a1 r1 l1 c1) (hB : Bh w ba b ln cap) :
    Calls Try.prog 9 #[.agg #[.slice a0 l0 c0, .slice a1 l1 c1], .agg #[.int .u64 t0.toNat, .int .u64 t1.toNat], .slice ba ln cap] w fun e w' => e = .returned (.bool true) ∧ Below w.heap.size w w' := by
  obtain ⟨W, hW, g0, g1, zW, bW⟩ := two_new w (.cells #[.slice a0 l0 c0, .slice a1 l1 c1] 52) (.cells #[.int .u64 t0.toNat, .int .u64 t1.toNat] 53)
  have hrt : ∀ k, k < 2 → ∃ ak bk bl ck, ∃ tk : V, Bh w ak bk bl ck ∧ W.cell? ⟨w.heap.size, k, none⟩ = some (.slice ak bl ck) ∧ W.cell? ⟨w.heap.size + 1, k, none⟩ = some (.int .u64 tk.toNat) := fun k hk => by
    rcases (show k = 0 ∨ k = 1 by omega) with rfl | rfl
    · exact ⟨a0, r0, l0, c0, t0, h0, by simp [World.cell?, g0], by simp [World.cell?, g1]⟩
    · exact ⟨a1, r1, l1, c1, t1, h1, by simp [World.cell?, g0], by simp [World.cell?, g1]⟩
  have hfw := fun (V : World) (hV : Below W.heap.size W V) => few_any ba b cap V (hB.mem.below (bW.trans (hV.mono (by omega)))) (by rw [hB.len]; exact hB.cap)
  obtain ⟨f, hf⟩ : ∃ f, b.take 700 = f := ⟨_, rfl⟩
  have hf7 : f.length ≤ 700 := by rw [← hf, List.length_take]; omega
  have hfc : f.length ≤ cap := by have := hB.cap; have := hB.len; rw [← hf, List.length_take]; omega
  have hcm := hB.most
  have HB := hide (show ByteMem w.heap.size w ba f from hf ▸ hB.mem.take 700)
  rw [hf, hB.len] at hfw
  obtain ⟨mf, hmf⟩ : ∃ mf, f.length = mf := ⟨_, rfl⟩
  rw [hmf] at hfw hf7 hfc
  have HFW := hide hfw
  have HMF := hide hmf
  have HBW := hide bW
  have HR0 := hide hrt
  have HW := hide hW
  clear hW g0 g1 bW hrt hfw hf hmf h0 h1 hB
  have HN := hide (new_any W.heap.size 12 W (Nat.le_refl _) (by omega) (by omega))
  go_enter Try.func9, Try.ntmps9
  go_wp2_with (first
    | (go_at_call 29; rw [show (w.alloc _).alloc _ = W from HW.out]; refine HN.out.mono ?_; rintro e w1 ⟨p, vl1, rfl, d1, hp1, b1⟩; have s1 := b1.size; have H1 := hide (And.intro d1 b1); clear d1 b1; refine stopHere ?_))
  unfold Hid
  have HN2 := hide (rnew_any W.heap.size 12 w1 (by omega) (by omega) (by omega))
  have hinv := inv_new (n := 12) (by omega) (by omega)
  have HI := hide hinv
  clear hinv
  go_wp2_with (first
    | (go_at_call 30; refine HN2.out.mono ?_; rintro e w2 ⟨q, ul2, rfl, d2, hp2, b2⟩; have s2 := b2.size; have H2 := hide (show (∃ d vl vw ul uw, TwoD W.heap.size p q 0 d vl vw ul uw w2) ∧ Below W.heap.size W w2 from ⟨⟨_, _, _, _, _, H1.out.1.below b2, d2, by omega, HI.out.2.1, List.length_replicate, Nat.le_refl _⟩, H1.out.2.trans (b2.mono s1)⟩); clear d2 b2; refine stopHere ?_))
  unfold Hid
  have HRT := hide fun (k : Nat) (hk : k < 2) (V : World) (hV : Below W.heap.size W V) => (trivial : True)
  go_wp2_with fail
  go_loopw [9] (fun i V => ∃ k : Nat, k ≤ 2 ∧ i = .int .i64 k ∧ (∃ d vl vw ul uw, TwoD W.heap.size p q (6 * k) d vl vw ul uw V) ∧ Below W.heap.size W V) (fun i _ => 2 - (intOf i).toNat)
  case atStart => exact ⟨0, Nat.zero_le _, rfl, H2.out.1, H2.out.2⟩
  case round =>
    obtain ⟨k, hk, rfl, hE, hbo⟩ := hrel
    by_cases hk2 : k < 2
    · have hk2i : (k : Int) < 2 := by omega
      obtain ⟨ak, bk, bl, cap', tk, hbk, hc0, hc1⟩ := HR0.out k hk2
      clear HRT
      have HRT := hide fun (k' : Nat) (hk' : k' < 2) (V : World) (hV : Below W.heap.size W V) => (show V.cell? ⟨w.heap.size, k, none⟩ = some (.slice ak bl cap') ∧ V.cell? ⟨w.heap.size + 1, k, none⟩ = some (.int .u64 tk.toNat) from ⟨(hV.cell (p := ⟨w.heap.size, k, none⟩) (show w.heap.size < W.heap.size by omega)).trans hc0, (hV.cell (p := ⟨w.heap.size + 1, k, none⟩) (show w.heap.size + 1 < W.heap.size by omega)).trans hc1⟩)
      have kc := (HRT.out k hk2 wr hbo).1
      have hcapk := hbk.cap
      have hcapm := hbk.most
      have HBK := hide (And.intro hbk.mem (And.intro hbk.len trivial))
      have HK := hide (And.intro hE hbo)
      clear hE hbo hbk hc0 hc1
      by_cases h320 : 320 < bl
      · have h32 : (320 : Int) < bl := by omega
        have h33 : (320 : Int) ≤ cap' := by omega
        obtain ⟨x0, hx0⟩ : ∃ x, bk[0]? = some x := ⟨bk[0]'(by have := HBK.out.2.1; omega), by simp⟩
        obtain ⟨ab, abo, rfl, hab, _⟩ := HBK.out.1 0 x0 hx0
        obtain ⟨b', hb'⟩ : ∃ b', bk.take 320 = b' := ⟨_, rfl⟩
        have HBL := hide (show b'.length = 320 ∧ ByteMem w.heap.size w (some ⟨ab, abo, none⟩) b' from ⟨by rw [← hb', List.length_take, HBK.out.2.1]; omega, hb' ▸ HBK.out.1.take 320⟩)
        obtain ⟨ba', hba'⟩ : ∃ a, a = some (⟨ab, abo, none⟩ : Addr) := ⟨_, rfl⟩
        go_wp2_with fail
        obtain ⟨L, hL⟩ : ∃ L, L = (320 : Nat) := ⟨_, rfl⟩
        rw [← hba'] at HBL ⊢
        rw [← hL] at HBL ⊢
        have hLb : L ≤ 320 := by omega
        clear hL h32 h33 hx0
        obtain ⟨cn, hcn⟩ : ∃ cn, (L + 63) / 64 = cn := ⟨_, rfl⟩
        have hcn5 : cn ≤ 5 := by omega
        clear hb' hba'
        go_loopw [11] (fun i V => ∃ j : Nat, j ≤ cn ∧ i = .int .i64 j ∧ (∃ d vl vw ul uw, TwoD W.heap.size p q (6 * k + j) d vl vw ul uw V) ∧ Below W.heap.size W V) (fun i _ => cn - (intOf i).toNat)
        case atStart => exact ⟨0, Nat.zero_le _, rfl, HK.out.1, HK.out.2⟩
        case round =>
          obtain ⟨i, hi, rfl, hE, hbo⟩ := hrel
          obtain ⟨wo, hwo⟩ : ∃ wo, wo = wr := ⟨_, rfl⟩
          subst hwo
          have hw1 : IntKind.i64.wrap ((i : Int) + 1) = i + 1 := by rw [IntKind.wrap_i64]; omega
          obtain ⟨M, hM⟩ : ∃ M : Nat, 64 * i = M := ⟨_, rfl⟩
          have hM1 : IntKind.i64.wrap ((i : Int) * 64) = (M : Int) := by rw [IntKind.wrap_i64]; omega
          have hM2 : (i : Int) * 64 = (M : Int) := by omega
          have hM3 : wrap64 (M : Int) = M := by unfold wrap64; omega
          by_cases hlt : i < cn
          · have hltM : (M : Int) < L := by omega
            obtain ⟨d, vl, vw, ul, uw, hT⟩ := hE
            obtain ⟨W2, hW2, f2, b2, z2⟩ : ∃ V, wo.alloc (.cells (secA sec0) 57) = V ∧ V.heap[wo.heap.size]? = some (.cells (secA sec0) 57) ∧ Below wo.heap.size wo V ∧ V.heap.size = wo.heap.size + 1 := ⟨_, rfl, World.alloc_heap_new _ _, (Below.refl _ _).alloc (Nat.le_refl _) _, by simp⟩
            have HW2 := hide hW2
            have H2 := hide (And.intro f2 b2)
            have HT := hide (And.intro hT hbo)
            obtain ⟨x0, hx0⟩ : ∃ x, b'[0]? = some x := ⟨b'[0]'(by have := HBL.out.1; omega), by simp⟩
            obtain ⟨bb, bo, rfl, hbb, _⟩ := HBL.out.2 0 x0 hx0
            clear hT hbo f2 b2 hW2 hx0
            go_wp2_with (refine l_alloc _ infoSecA rfl rfl ?_; rw [show (Lib.byteCells sec0).toArray = secA sec0 from rfl, HW2.out])
            go_loopw [13] (fun i V => ∃ j : Nat, j ≤ 64 ∧ i = .int .i64 j ∧ (∃ s : Sec, s.length = 64 ∧ V.heap[wo.heap.size]? = some (.cells (secA s) 57)) ∧ Below wo.heap.size wo V) (fun i _ => 64 - (intOf i).toNat)
            case atStart => exact ⟨0, Nat.zero_le _, rfl, ⟨sec0, rfl, H2.out.1⟩, H2.out.2⟩
            case round =>
              obtain ⟨j, hj, rfl, ⟨s, hs, e1⟩, hbw⟩ := hrel
              have hv1 : IntKind.i64.wrap ((j : Int) + 1) = j + 1 := by rw [IntKind.wrap_i64]; omega
              obtain ⟨N, hN⟩ : ∃ N : Nat, M + j = N := ⟨_, rfl⟩
              have hN1 : IntKind.i64.wrap ((M : Int) + j) = (N : Int) := by rw [IntKind.wrap_i64]; omega
              have hN2 : (M : Int) + j = (N : Int) := by omega
              by_cases hjl : j < 64 ∧ N < L
              · have hj64 : (j : Int) < 64 := by omega
                have hNl : (N : Int) < L := by omega
                obtain ⟨c, hc⟩ : ∃ c, b'[N]? = some c := ⟨b'[N]'(by have := HBL.out.1; omega), by simp⟩
                have hBw : Below w.heap.size w wr := (HBW.out.trans (HT.out.2.mono (by omega))).trans (hbw.mono (by have := HT.out.1.low; omega))
                have hcc : wr.cell? ⟨bb, bo + N, none⟩ = some (.int .u8 c.toNat) := by
                  obtain ⟨_, _, e, _, h⟩ := HBL.out.2.below hBw N c hc
                  cases e
                  exact h
                obtain ⟨u, p1, q1, f1, l1, b1⟩ := set_sec (i := j) e1 hs (by omega) c
                have HE := hide (And.intro f1 (And.intro l1 (hbw.trans (b1 _ (Nat.le_refl _)))))
                clear f1 l1 b1 e1 hbw hBw hc hN hM
                go_wp2_with fail
                go_roundw
                case rel => exact ⟨j + 1, by omega, by simp, ⟨_, HE.out.2.1, HE.out.1⟩, HE.out.2.2⟩
                case measure => simp [intOf]; omega
              · by_cases h64 : j < 64
                · have hj64 : (j : Int) < 64 := by omega
                  have hNl : ¬ (N : Int) < L := by omega
                  have hlo : ∀ g, foot p vl vw g → g < wo.heap.size := fun g hg => (HT.out.1.dev.lt hg).2
                  have HJ := hide (And.intro (HT.out.1.below hbw) (And.intro e1 (And.intro (HT.out.2.trans (hbw.mono HT.out.1.low)) hlo)))
                  have hws := hbw.size
                  have hi1 : IntKind.i64.wrap (5 * (k : Int)) = 5 * (k : Int) := by rw [IntKind.wrap_i64]; omega
                  have hi2 : IntKind.i64.wrap (2 + 5 * (k : Int)) = 2 + 5 * (k : Int) := by rw [IntKind.wrap_i64]; omega
                  obtain ⟨I, hI⟩ : ∃ I : Nat, 2 + 5 * k + i = I := ⟨_, rfl⟩
                  have hi3 : IntKind.i64.wrap (2 + 5 * (k : Int) + (i : Int)) = (I : Int) := by rw [IntKind.wrap_i64]; omega
                  have hi4 : 2 + 5 * (k : Int) + (i : Int) = (I : Int) := by omega
                  have hI12 : I < 12 := by omega
                  clear hbw e1 hlo hI
                  have hwd := write_any W.heap.size p d vl vw I s wr HJ.out.1.dev HJ.out.1.ok HJ.out.1.low (by rw [HJ.out.1.size]; omega) hs (by have := HJ.out.1.few; omega)
                  have LD1 := hide (run_load_row (P := Try.prog) (w := wr) (cs := secA s) infoSecA undSecA rfl (by rw [secA_size, hs]) HJ.out.2.1)
                  have HWD := hide hwd
                  clear hwd
                  go_wp2_with (first
                    | (refine l_load _ LD1.out rfl rfl rfl ?_)
                    | (go_at_call 31; refine HWD.out.mono ?_; rintro e w11 ⟨rfl, t11⟩; refine stopHere ?_))
                  unfold Hid
                  have hoff11 : ¬ foot p vl vw wo.heap.size := fun hf => by have h1 := (HJ.out.1.dev.lt hf).2; have h2 := HJ.out.2.2.2 _ hf; omega
                  have bx11 := toD_keep t11 HJ.out.2.1 hoff11
                  have rf11 := HJ.out.1.first t11
                  have bl11 := toD_below t11
                  have sz11 := bl11.size
                  have hwr := rwrite_any W.heap.size q d ul uw I s w11 rf11 HJ.out.1.ok (by have := HJ.out.1.low; omega) (by rw [HJ.out.1.size]; omega) hs (by have := HJ.out.1.few; omega)
                  have LD2 := hide (run_load_row (P := Try.prog) (w := w11) (cs := secA s) infoSecA undSecA rfl (by rw [secA_size, hs]) bx11)
                  have HWR := hide hwr
                  have HT11 := hide t11
                  clear hwr t11 bx11 rf11 bl11
                  go_wp2_with (first
                    | (refine l_load _ LD2.out rfl rfl rfl ?_)
                    | (go_at_call 32; refine HWR.out.mono ?_; rintro e w12 ⟨rfl, t12⟩; have HZ := hide (TwoD.both HJ.out.1 (by omega) hs (by omega) HT11.out t12); clear t12))
                  go_roundw
                  case rel => exact ⟨i + 1, by omega, by simp, HZ.out.1, HJ.out.2.2.1.trans HZ.out.2⟩
                  case measure => simp [intOf]; omega
                · have hj64 : ¬ (j : Int) < 64 := by omega
                  have hlo : ∀ g, foot p vl vw g → g < wo.heap.size := fun g hg => (HT.out.1.dev.lt hg).2
                  have HJ := hide (And.intro (HT.out.1.below hbw) (And.intro e1 (And.intro (HT.out.2.trans (hbw.mono HT.out.1.low)) hlo)))
                  have hws := hbw.size
                  have hi1 : IntKind.i64.wrap (5 * (k : Int)) = 5 * (k : Int) := by rw [IntKind.wrap_i64]; omega
                  have hi2 : IntKind.i64.wrap (2 + 5 * (k : Int)) = 2 + 5 * (k : Int) := by rw [IntKind.wrap_i64]; omega
                  obtain ⟨I, hI⟩ : ∃ I : Nat, 2 + 5 * k + i = I := ⟨_, rfl⟩
                  have hi3 : IntKind.i64.wrap (2 + 5 * (k : Int) + (i : Int)) = (I : Int) := by rw [IntKind.wrap_i64]; omega
                  have hi4 : 2 + 5 * (k : Int) + (i : Int) = (I : Int) := by omega
                  have hI12 : I < 12 := by omega
                  clear hbw e1 hlo hI
                  have hwd := write_any W.heap.size p d vl vw I s wr HJ.out.1.dev HJ.out.1.ok HJ.out.1.low (by rw [HJ.out.1.size]; omega) hs (by have := HJ.out.1.few; omega)
                  have LD1 := hide (run_load_row (P := Try.prog) (w := wr) (cs := secA s) infoSecA undSecA rfl (by rw [secA_size, hs]) HJ.out.2.1)
                  have HWD := hide hwd
                  clear hwd
                  go_wp2_with (first
                    | (refine l_load _ LD1.out rfl rfl rfl ?_)
                    | (go_at_call 31; refine HWD.out.mono ?_; rintro e w11 ⟨rfl, t11⟩; refine stopHere ?_))
                  unfold Hid
                  have hoff11 : ¬ foot p vl vw wo.heap.size := fun hf => by have h1 := (HJ.out.1.dev.lt hf).2; have h2 := HJ.out.2.2.2 _ hf; omega
                  have bx11 := toD_keep t11 HJ.out.2.1 hoff11
                  have rf11 := HJ.out.1.first t11
                  have bl11 := toD_below t11
                  have sz11 := bl11.size
                  have hwr := rwrite_any W.heap.size q d ul uw I s w11 rf11 HJ.out.1.ok (by have := HJ.out.1.low; omega) (by rw [HJ.out.1.size]; omega) hs (by have := HJ.out.1.few; omega)
                  have LD2 := hide (run_load_row (P := Try.prog) (w := w11) (cs := secA s) infoSecA undSecA rfl (by rw [secA_size, hs]) bx11)
                  have HWR := hide hwr
                  have HT11 := hide t11
                  clear hwr t11 bx11 rf11 bl11
                  go_wp2_with (first
                    | (refine l_load _ LD2.out rfl rfl rfl ?_)
                    | (go_at_call 32; refine HWR.out.mono ?_; rintro e w12 ⟨rfl, t12⟩; have HZ := hide (TwoD.both HJ.out.1 (by omega) hs (by omega) HT11.out t12); clear t12))
                  go_roundw
                  case rel => exact ⟨i + 1, by omega, by simp, HZ.out.1, HJ.out.2.2.1.trans HZ.out.2⟩
                  case measure => simp [intOf]; omega
          · have hltM : ¬ (M : Int) < L := by omega
            have hic : i = cn := by omega
            have HK2 := hide (And.intro hE hbo)
            have tk0 := (HRT.out k hk2 wo hbo).2
            clear hE hbo
            have hrt := lroot_any ba' b' L cap' tk wo (fun j c hj => by
              obtain ⟨g, o, e1, e2, e3⟩ := HBL.out.2.below (HBW.out.trans (HK2.out.2.mono (by omega))) j c hj
              have := HK2.out.2.size
              exact ⟨g, o, e1, by omega, e3⟩) HBL.out.1 (by omega)
            have HRO := hide hrt
            clear hrt
            go_wp2_with (first
              | (go_at_call 33; refine HRO.out.mono ?_; rintro e w20 ⟨⟨s, hs, rfl⟩, b20⟩; refine stopHere ?_))
            unfold Hid
            obtain ⟨W21, st21, f21, b21, z21⟩ := sec_new57 w20 s hs
            have s20 := b20.size
            obtain ⟨d, vl, vw, ul, uw, hT⟩ := HK2.out.1
            have hlo : ∀ g, foot p vl vw g → g < w20.heap.size := fun g hg => by have := (hT.dev.lt hg).2; omega
            have HJ := hide (And.intro ((hT.below b20).below b21) (And.intro f21 (And.intro (HK2.out.2.trans ((b20.mono hT.low).trans (b21.mono (by have := hT.low; omega)))) hlo)))
            have HST := hide st21
            clear b20 b21 f21 st21 hT hlo
            go_wp2_with (first
              | (refine l_alloc _ infoSecA rfl rfl ?_)
              | (refine l_store _ HST.out rfl rfl rfl rfl ?_; refine stopHere ?_))
            unfold Hid
            have hwd := write_any W.heap.size p d vl vw k s W21 HJ.out.1.dev HJ.out.1.ok HJ.out.1.low (by rw [HJ.out.1.size]; omega) hs (by have := HJ.out.1.few; omega)
            have LD1 := hide (run_load_row (P := Try.prog) (w := W21) (cs := secA s) infoSecA undSecA rfl (by rw [secA_size, hs]) HJ.out.2.1)
            have HWD := hide hwd
            clear hwd
            go_wp2_with (first
              | (refine l_load _ LD1.out rfl rfl rfl ?_)
              | (go_at_call 31; refine HWD.out.mono ?_; rintro e w22 ⟨rfl, t22⟩; refine stopHere ?_))
            unfold Hid
            have hoff22 : ¬ foot p vl vw w20.heap.size := fun hf => by have h1 := (HJ.out.1.dev.lt hf).2; have h2 := HJ.out.2.2.2 _ hf; omega
            have bx22 := toD_keep t22 HJ.out.2.1 hoff22
            have rf22 := HJ.out.1.first t22
            have bl22 := toD_below t22
            have sz22 := bl22.size
            have hwr := rwrite_any W.heap.size q d ul uw k s w22 rf22 HJ.out.1.ok (by have := HJ.out.1.low; omega) (by rw [HJ.out.1.size]; omega) hs (by have := HJ.out.1.few; omega)
            have LD2 := hide (run_load_row (P := Try.prog) (w := w22) (cs := secA s) infoSecA undSecA rfl (by rw [secA_size, hs]) bx22)
            have HWR := hide hwr
            have HT22 := hide t22
            clear hwr t22 bx22 rf22 bl22
            go_wp2_with (first
              | (refine l_load _ LD2.out rfl rfl rfl ?_)
              | (go_at_call 32; refine HWR.out.mono ?_; rintro e w23 ⟨rfl, t23⟩; have HZ := hide (TwoD.both HJ.out.1 (by omega) hs (by omega) HT22.out t23); clear t23))
            have hk1 : IntKind.i64.wrap ((k : Int) + 1) = k + 1 := by rw [IntKind.wrap_i64]; omega
            go_roundw
            case rel =>
              obtain ⟨d', a', b', c', e', hz⟩ := HZ.out.1
              exact ⟨k + 1, by omega, by simp, ⟨d', a', b', c', e', hz.dev, hz.ref, hz.low, hz.ok, hz.size, by have := hz.few; omega⟩, HJ.out.2.2.1.trans HZ.out.2⟩
            case measure => simp [intOf]; omega
      · obtain ⟨L, hL⟩ : ∃ L, L = bl := ⟨_, rfl⟩
        have h32 : ¬ (320 : Int) < bl := by omega
        obtain ⟨b', hb'⟩ : ∃ b', bk = b' := ⟨_, rfl⟩
        obtain ⟨ba', hba'⟩ : ∃ a, a = ak := ⟨_, rfl⟩
        have HBL := hide (show b'.length = L ∧ ByteMem w.heap.size w ba' b' from ⟨by rw [← hb', hL]; exact HBK.out.2.1, by rw [← hb', hba']; exact HBK.out.1⟩)
        go_wp2_with fail
        rw [← hba', ← hL]
        have hLb : L ≤ 320 := by omega
        clear hL h32
        obtain ⟨cn, hcn⟩ : ∃ cn, (L + 63) / 64 = cn := ⟨_, rfl⟩
        have hcn5 : cn ≤ 5 := by omega
        clear hb' hba'
        go_loopw [11] (fun i V => ∃ j : Nat, j ≤ cn ∧ i = .int .i64 j ∧ (∃ d vl vw ul uw, TwoD W.heap.size p q (6 * k + j) d vl vw ul uw V) ∧ Below W.heap.size W V) (fun i _ => cn - (intOf i).toNat)
        case atStart => exact ⟨0, Nat.zero_le _, rfl, HK.out.1, HK.out.2⟩
        case round =>
          obtain ⟨i, hi, rfl, hE, hbo⟩ := hrel
          obtain ⟨wo, hwo⟩ : ∃ wo, wo = wr := ⟨_, rfl⟩
          subst hwo
          have hw1 : IntKind.i64.wrap ((i : Int) + 1) = i + 1 := by rw [IntKind.wrap_i64]; omega
          obtain ⟨M, hM⟩ : ∃ M : Nat, 64 * i = M := ⟨_, rfl⟩
          have hM1 : IntKind.i64.wrap ((i : Int) * 64) = (M : Int) := by rw [IntKind.wrap_i64]; omega
          have hM2 : (i : Int) * 64 = (M : Int) := by omega
          have hM3 : wrap64 (M : Int) = M := by unfold wrap64; omega
          by_cases hlt : i < cn
          · have hltM : (M : Int) < L := by omega
            obtain ⟨d, vl, vw, ul, uw, hT⟩ := hE
            obtain ⟨W2, hW2, f2, b2, z2⟩ : ∃ V, wo.alloc (.cells (secA sec0) 57) = V ∧ V.heap[wo.heap.size]? = some (.cells (secA sec0) 57) ∧ Below wo.heap.size wo V ∧ V.heap.size = wo.heap.size + 1 := ⟨_, rfl, World.alloc_heap_new _ _, (Below.refl _ _).alloc (Nat.le_refl _) _, by simp⟩
            have HW2 := hide hW2
            have H2 := hide (And.intro f2 b2)
            have HT := hide (And.intro hT hbo)
            obtain ⟨x0, hx0⟩ : ∃ x, b'[0]? = some x := ⟨b'[0]'(by have := HBL.out.1; omega), by simp⟩
            obtain ⟨bb, bo, rfl, hbb, _⟩ := HBL.out.2 0 x0 hx0
            clear hT hbo f2 b2 hW2 hx0
            go_wp2_with (refine l_alloc _ infoSecA rfl rfl ?_; rw [show (Lib.byteCells sec0).toArray = secA sec0 from rfl, HW2.out])
            go_loopw [13] (fun i V => ∃ j : Nat, j ≤ 64 ∧ i = .int .i64 j ∧ (∃ s : Sec, s.length = 64 ∧ V.heap[wo.heap.size]? = some (.cells (secA s) 57)) ∧ Below wo.heap.size wo V) (fun i _ => 64 - (intOf i).toNat)
            case atStart => exact ⟨0, Nat.zero_le _, rfl, ⟨sec0, rfl, H2.out.1⟩, H2.out.2⟩
            case round =>
              obtain ⟨j, hj, rfl, ⟨s, hs, e1⟩, hbw⟩ := hrel
              have hv1 : IntKind.i64.wrap ((j : Int) + 1) = j + 1 := by rw [IntKind.wrap_i64]; omega
              obtain ⟨N, hN⟩ : ∃ N : Nat, M + j = N := ⟨_, rfl⟩
              have hN1 : IntKind.i64.wrap ((M : Int) + j) = (N : Int) := by rw [IntKind.wrap_i64]; omega
              have hN2 : (M : Int) + j = (N : Int) := by omega
              by_cases hjl : j < 64 ∧ N < L
              · have hj64 : (j : Int) < 64 := by omega
                have hNl : (N : Int) < L := by omega
                obtain ⟨c, hc⟩ : ∃ c, b'[N]? = some c := ⟨b'[N]'(by have := HBL.out.1; omega), by simp⟩
                have hBw : Below w.heap.size w wr := (HBW.out.trans (HT.out.2.mono (by omega))).trans (hbw.mono (by have := HT.out.1.low; omega))
                have hcc : wr.cell? ⟨bb, bo + N, none⟩ = some (.int .u8 c.toNat) := by
                  obtain ⟨_, _, e, _, h⟩ := HBL.out.2.below hBw N c hc
                  cases e
                  exact h
                obtain ⟨u, p1, q1, f1, l1, b1⟩ := set_sec (i := j) e1 hs (by omega) c
                have HE := hide (And.intro f1 (And.intro l1 (hbw.trans (b1 _ (Nat.le_refl _)))))
                clear f1 l1 b1 e1 hbw hBw hc hN hM
                go_wp2_with fail
                go_roundw
                case rel => exact ⟨j + 1, by omega, by simp, ⟨_, HE.out.2.1, HE.out.1⟩, HE.out.2.2⟩
                case measure => simp [intOf]; omega
              · by_cases h64 : j < 64
                · have hj64 : (j : Int) < 64 := by omega
                  have hNl : ¬ (N : Int) < L := by omega
                  have hlo : ∀ g, foot p vl vw g → g < wo.heap.size := fun g hg => (HT.out.1.dev.lt hg).2
                  have HJ := hide (And.intro (HT.out.1.below hbw) (And.intro e1 (And.intro (HT.out.2.trans (hbw.mono HT.out.1.low)) hlo)))
                  have hws := hbw.size
                  have hi1 : IntKind.i64.wrap (5 * (k : Int)) = 5 * (k : Int) := by rw [IntKind.wrap_i64]; omega
                  have hi2 : IntKind.i64.wrap (2 + 5 * (k : Int)) = 2 + 5 * (k : Int) := by rw [IntKind.wrap_i64]; omega
                  obtain ⟨I, hI⟩ : ∃ I : Nat, 2 + 5 * k + i = I := ⟨_, rfl⟩
                  have hi3 : IntKind.i64.wrap (2 + 5 * (k : Int) + (i : Int)) = (I : Int) := by rw [IntKind.wrap_i64]; omega
                  have hi4 : 2 + 5 * (k : Int) + (i : Int) = (I : Int) := by omega
                  have hI12 : I < 12 := by omega
                  clear hbw e1 hlo hI
                  have hwd := write_any W.heap.size p d vl vw I s wr HJ.out.1.dev HJ.out.1.ok HJ.out.1.low (by rw [HJ.out.1.size]; omega) hs (by have := HJ.out.1.few; omega)
                  have LD1 := hide (run_load_row (P := Try.prog) (w := wr) (cs := secA s) infoSecA undSecA rfl (by rw [secA_size, hs]) HJ.out.2.1)
                  have HWD := hide hwd
                  clear hwd
                  go_wp2_with (first
                    | (refine l_load _ LD1.out rfl rfl rfl ?_)
                    | (go_at_call 31; refine HWD.out.mono ?_; rintro e w11 ⟨rfl, t11⟩; refine stopHere ?_))
                  unfold Hid
                  have hoff11 : ¬ foot p vl vw wo.heap.size := fun hf => by have h1 := (HJ.out.1.dev.lt hf).2; have h2 := HJ.out.2.2.2 _ hf; omega
                  have bx11 := toD_keep t11 HJ.out.2.1 hoff11
                  have rf11 := HJ.out.1.first t11
                  have bl11 := toD_below t11
                  have sz11 := bl11.size
                  have hwr := rwrite_any W.heap.size q d ul uw I s w11 rf11 HJ.out.1.ok (by have := HJ.out.1.low; omega) (by rw [HJ.out.1.size]; omega) hs (by have := HJ.out.1.few; omega)
                  have LD2 := hide (run_load_row (P := Try.prog) (w := w11) (cs := secA s) infoSecA undSecA rfl (by rw [secA_size, hs]) bx11)
                  have HWR := hide hwr
                  have HT11 := hide t11
                  clear hwr t11 bx11 rf11 bl11
                  go_wp2_with (first
                    | (refine l_load _ LD2.out rfl rfl rfl ?_)
                    | (go_at_call 32; refine HWR.out.mono ?_; rintro e w12 ⟨rfl, t12⟩; have HZ := hide (TwoD.both HJ.out.1 (by omega) hs (by omega) HT11.out t12); clear t12))
                  go_roundw
                  case rel => exact ⟨i + 1, by omega, by simp, HZ.out.1, HJ.out.2.2.1.trans HZ.out.2⟩
                  case measure => simp [intOf]; omega
                · have hj64 : ¬ (j : Int) < 64 := by omega
                  have hlo : ∀ g, foot p vl vw g → g < wo.heap.size := fun g hg => (HT.out.1.dev.lt hg).2
                  have HJ := hide (And.intro (HT.out.1.below hbw) (And.intro e1 (And.intro (HT.out.2.trans (hbw.mono HT.out.1.low)) hlo)))
                  have hws := hbw.size
                  have hi1 : IntKind.i64.wrap (5 * (k : Int)) = 5 * (k : Int) := by rw [IntKind.wrap_i64]; omega
                  have hi2 : IntKind.i64.wrap (2 + 5 * (k : Int)) = 2 + 5 * (k : Int) := by rw [IntKind.wrap_i64]; omega
                  obtain ⟨I, hI⟩ : ∃ I : Nat, 2 + 5 * k + i = I := ⟨_, rfl⟩
                  have hi3 : IntKind.i64.wrap (2 + 5 * (k : Int) + (i : Int)) = (I : Int) := by rw [IntKind.wrap_i64]; omega
                  have hi4 : 2 + 5 * (k : Int) + (i : Int) = (I : Int) := by omega
                  have hI12 : I < 12 := by omega
                  clear hbw e1 hlo hI
                  have hwd := write_any W.heap.size p d vl vw I s wr HJ.out.1.dev HJ.out.1.ok HJ.out.1.low (by rw [HJ.out.1.size]; omega) hs (by have := HJ.out.1.few; omega)
                  have LD1 := hide (run_load_row (P := Try.prog) (w := wr) (cs := secA s) infoSecA undSecA rfl (by rw [secA_size, hs]) HJ.out.2.1)
                  have HWD := hide hwd
                  clear hwd
                  go_wp2_with (first
                    | (refine l_load _ LD1.out rfl rfl rfl ?_)
                    | (go_at_call 31; refine HWD.out.mono ?_; rintro e w11 ⟨rfl, t11⟩; refine stopHere ?_))
                  unfold Hid
                  have hoff11 : ¬ foot p vl vw wo.heap.size := fun hf => by have h1 := (HJ.out.1.dev.lt hf).2; have h2 := HJ.out.2.2.2 _ hf; omega
                  have bx11 := toD_keep t11 HJ.out.2.1 hoff11
                  have rf11 := HJ.out.1.first t11
                  have bl11 := toD_below t11
                  have sz11 := bl11.size
                  have hwr := rwrite_any W.heap.size q d ul uw I s w11 rf11 HJ.out.1.ok (by have := HJ.out.1.low; omega) (by rw [HJ.out.1.size]; omega) hs (by have := HJ.out.1.few; omega)
                  have LD2 := hide (run_load_row (P := Try.prog) (w := w11) (cs := secA s) infoSecA undSecA rfl (by rw [secA_size, hs]) bx11)
                  have HWR := hide hwr
                  have HT11 := hide t11
                  clear hwr t11 bx11 rf11 bl11
                  go_wp2_with (first
                    | (refine l_load _ LD2.out rfl rfl rfl ?_)
                    | (go_at_call 32; refine HWR.out.mono ?_; rintro e w12 ⟨rfl, t12⟩; have HZ := hide (TwoD.both HJ.out.1 (by omega) hs (by omega) HT11.out t12); clear t12))
                  go_roundw
                  case rel => exact ⟨i + 1, by omega, by simp, HZ.out.1, HJ.out.2.2.1.trans HZ.out.2⟩
                  case measure => simp [intOf]; omega
          · have hltM : ¬ (M : Int) < L := by omega
            have hic : i = cn := by omega
            have HK2 := hide (And.intro hE hbo)
            have tk0 := (HRT.out k hk2 wo hbo).2
            clear hE hbo
            have hrt := lroot_any ba' b' L cap' tk wo (fun j c hj => by
              obtain ⟨g, o, e1, e2, e3⟩ := HBL.out.2.below (HBW.out.trans (HK2.out.2.mono (by omega))) j c hj
              have := HK2.out.2.size
              exact ⟨g, o, e1, by omega, e3⟩) HBL.out.1 (by omega)
            have HRO := hide hrt
            clear hrt
            go_wp2_with (first
              | (go_at_call 33; refine HRO.out.mono ?_; rintro e w20 ⟨⟨s, hs, rfl⟩, b20⟩; refine stopHere ?_))
            unfold Hid
            obtain ⟨W21, st21, f21, b21, z21⟩ := sec_new57 w20 s hs
            have s20 := b20.size
            obtain ⟨d, vl, vw, ul, uw, hT⟩ := HK2.out.1
            have hlo : ∀ g, foot p vl vw g → g < w20.heap.size := fun g hg => by have := (hT.dev.lt hg).2; omega
            have HJ := hide (And.intro ((hT.below b20).below b21) (And.intro f21 (And.intro (HK2.out.2.trans ((b20.mono hT.low).trans (b21.mono (by have := hT.low; omega)))) hlo)))
            have HST := hide st21
            clear b20 b21 f21 st21 hT hlo
            go_wp2_with (first
              | (refine l_alloc _ infoSecA rfl rfl ?_)
              | (refine l_store _ HST.out rfl rfl rfl rfl ?_; refine stopHere ?_))
            unfold Hid
            have hwd := write_any W.heap.size p d vl vw k s W21 HJ.out.1.dev HJ.out.1.ok HJ.out.1.low (by rw [HJ.out.1.size]; omega) hs (by have := HJ.out.1.few; omega)
            have LD1 := hide (run_load_row (P := Try.prog) (w := W21) (cs := secA s) infoSecA undSecA rfl (by rw [secA_size, hs]) HJ.out.2.1)
            have HWD := hide hwd
            clear hwd
            go_wp2_with (first
              | (refine l_load _ LD1.out rfl rfl rfl ?_)
              | (go_at_call 31; refine HWD.out.mono ?_; rintro e w22 ⟨rfl, t22⟩; refine stopHere ?_))
            unfold Hid
            have hoff22 : ¬ foot p vl vw w20.heap.size := fun hf => by have h1 := (HJ.out.1.dev.lt hf).2; have h2 := HJ.out.2.2.2 _ hf; omega
            have bx22 := toD_keep t22 HJ.out.2.1 hoff22
            have rf22 := HJ.out.1.first t22
            have bl22 := toD_below t22
            have sz22 := bl22.size
            have hwr := rwrite_any W.heap.size q d ul uw k s w22 rf22 HJ.out.1.ok (by have := HJ.out.1.low; omega) (by rw [HJ.out.1.size]; omega) hs (by have := HJ.out.1.few; omega)
            have LD2 := hide (run_load_row (P := Try.prog) (w := w22) (cs := secA s) infoSecA undSecA rfl (by rw [secA_size, hs]) bx22)
            have HWR := hide hwr
            have HT22 := hide t22
            clear hwr t22 bx22 rf22 bl22
            go_wp2_with (first
              | (refine l_load _ LD2.out rfl rfl rfl ?_)
              | (go_at_call 32; refine HWR.out.mono ?_; rintro e w23 ⟨rfl, t23⟩; have HZ := hide (TwoD.both HJ.out.1 (by omega) hs (by omega) HT22.out t23); clear t23))
            have hk1 : IntKind.i64.wrap ((k : Int) + 1) = k + 1 := by rw [IntKind.wrap_i64]; omega
            go_roundw
            case rel =>
              obtain ⟨d', a', b', c', e', hz⟩ := HZ.out.1
              exact ⟨k + 1, by omega, by simp, ⟨d', a', b', c', e', hz.dev, hz.ref, hz.low, hz.ok, hz.size, by have := hz.few; omega⟩, HJ.out.2.2.1.trans HZ.out.2⟩
            case measure => simp [intOf]; omega
    · have hk2i : ¬ (k : Int) < 2 := by omega
      obtain rfl : k = 2 := by omega
      obtain ⟨d, vl, vw, ul, uw, hT⟩ := hE
      have HT := hide (And.intro hT hbo)
      have HO := hide (open_any W.heap.size p d vl vw wr hT.dev hT.ok hT.low (by rw [hT.size]; omega))
      clear hT hbo
      go_wp2_with (first
        | (go_at_call 26; refine HO.out.mono ?_; rintro e w5 ⟨qs, ps, vl5, vw5, rfl, d5, _, b5, _⟩; have s5 := b5.size; have H5 := hide (And.intro d5 (And.intro (HT.out.1.below b5) (HT.out.2.trans (b5.mono HT.out.1.low)))); clear d5 b5)
        | (go_at_call 34; refine (ropen_any W.heap.size q d ul uw w5 H5.out.2.1.ref H5.out.2.1.ok H5.out.2.1.low (by rw [H5.out.2.1.size]; omega)).mono ?_; rintro e w6 ⟨qt, pt, ul6, uw6, rfl, d6, _, b6, _⟩; have s6 := b6.size; have H6 := hide (And.intro (TwoS.mk (H5.out.1.below b6) d6 (Nat.le_trans H5.out.2.1.low s6)) (H5.out.2.2.trans (b6.mono H5.out.2.1.low))); clear d6 b6)
        | (go_at_call 16; refine (same_any W.heap.size qs ps qt pt d vl5 vw5 ul6 uw6 w6 H6.out.1 HT.out.1.ok (by rw [HT.out.1.size]; omega)).mono ?_; rintro e w7 ⟨rfl, b7⟩; have s7 := b7.size; have H7 := hide (And.intro (H6.out.1.below b7) (H6.out.2.trans (b7.mono H6.out.1.low))); clear b7; refine stopHere ?_))
      unfold Hid
      have hlow7 := H7.out.1.low
      have hb7 := HB.out.below (HBW.out.trans (H7.out.2.mono (by omega)))
      have hwf : d.wr.length + 5000 ≤ 1000000 := by have := HT.out.1.few; omega
      have h4 : 4 ≤ d.las.length := by rw [HT.out.1.size]; omega
      have hsv := save_all (cap := cap) H7.out.1.sto HT.out.1.ok hlow7 h4 (hb7.up (show w.heap.size ≤ W.heap.size by omega)) HMF.out hfc hcm hwf
      have hrs := fun (V : World) (hR : IsT W.heap.size qt pt d ul6 uw6 V) (hV : Below W.heap.size W V) (hz : W.heap.size ≤ V.heap.size) => rsave_all (cap := cap) hR HT.out.1.ok hz h4 ((HB.out.below (HBW.out.trans (hV.mono (by omega)))).up (show w.heap.size ≤ W.heap.size by omega)) HMF.out hwf
      obtain ⟨D2, hD2⟩ : ∃ D2, saveE d f = D2 := ⟨_, rfl⟩
      rw [hD2] at hsv hrs
      obtain ⟨fs, hfs⟩ : ∃ fs : ByteArray, ⟨f.toArray⟩ = fs := ⟨_, rfl⟩
      have HCB := hide fun (V : World) (hV : Below W.heap.size W V) => (show (convert 30 9 (.slice ba mf cap)).run Try.prog V = .ok (.string fs) V from by
        have := conv_mem (HB.out.below (HBW.out.trans (hV.mono (by omega)))) cap
        rwa [HMF.out, hfs] at this)
      clear hb7
      by_cases hF : Full d mf
      · have he : errS d mf = 4 := if_pos hF
        rw [he] at hsv hrs
        have hd2 : D2 = d := by rw [← hD2]; unfold saveE; rw [HMF.out, if_pos hF]
        have HD2 := hide (show DvOk D2 ∧ D2.las.length = 12 from ⟨hd2 ▸ HT.out.1.ok, hd2 ▸ HT.out.1.size⟩)
        have HSV := hide hsv
        have HRS := hide hrs
        clear hsv hrs hD2 hd2 he hfs
        go_wp2_with (first
          | (go_at_call 17; refine (HFW.out w7 H7.out.2).mono ?_; rintro e w' ⟨rfl, hw'⟩; rw [hw']; clear hw')
          | (go_at_call 22; refine HSV.out.mono ?_; rintro e w9 ⟨rfl, t9⟩; have b9 := sto_size t9; have s9 := b9.size; have rf9 := H7.out.1.first t9; obtain ⟨vl9, vw9, i9, _, _⟩ := t9; have H9 := hide (And.intro i9 (And.intro rf9 (H7.out.2.trans b9))); clear i9 rf9 b9))
        have TS0 := (H9.out.1).below (Below.refl _ w9).drew
        have TR0 := (H9.out.2.1).below (Below.refl _ w9).drew
        have B0 : Below W.heap.size w9 w9.drew := (Below.refl _ w9).drew
        obtain ⟨V0, hV0⟩ : ∃ V0, w9.drew = V0 := ⟨_, rfl⟩
        rw [hV0] at B0 TS0 TR0
        refine region_rel (S := fun V => Below W.heap.size V0 V) (fun a Wz => ∃ xx : Nat → Value, (Below W.heap.size w9 Wz) ∧ a = { tmps := #[xx 0, xx 1, xx 2, xx 3, xx 4, xx 5, .bool true, xx 7, xx 8, xx 9, xx 10, xx 11, xx 12, xx 13, xx 14, xx 15, xx 16, xx 17, xx 18, xx 19, xx 20, xx 21, xx 22, xx 23, xx 24, xx 25, xx 26, xx 27, xx 28, xx 29, xx 30, xx 31, xx 32, xx 33, xx 34, xx 35, xx 36, xx 37, xx 38, xx 39, xx 40, xx 41, xx 42, xx 43, xx 44, xx 45, xx 46, xx 47, xx 48, xx 49, xx 50, xx 51, xx 52, xx 53, xx 54, xx 55, xx 56, xx 57, xx 58, xx 59, xx 60, xx 61, xx 62, xx 63, xx 64, xx 65, xx 66, xx 67, xx 68, xx 69, xx 70, xx 71, xx 72, xx 73, xx 74, xx 75, xx 76, xx 77, xx 78, xx 79, xx 80, xx 81, xx 82, xx 83, xx 84, xx 85, xx 86, xx 87, xx 88, xx 89, xx 90, xx 91, xx 92, xx 93, xx 94, xx 95, xx 96, xx 97, xx 98, xx 99, xx 100, xx 101, xx 102, xx 103, xx 104, xx 105, xx 106, xx 107, xx 108, xx 109, xx 110, xx 111, xx 112, xx 113, xx 114, xx 115, xx 116, xx 117, xx 118, xx 119, xx 120, xx 121, xx 122, xx 123, xx 124, xx 125, xx 126, xx 127, xx 128, xx 129, xx 130, xx 131, xx 132], defers := [] }) (by kernel_rfl) ?any2 ?fin2
        case any2 =>
          have Z0 : W.heap.size ≤ V0.heap.size := by rw [← hV0]; show W.heap.size ≤ w9.heap.size; omega
          have BW : Below W.heap.size W w9 := H9.out.2.2
          rw [hV0]
          clear hV0
          have S0 : Below W.heap.size V0 V0 := Below.refl _ _
          refine anyH_one (i := 0) (by kernel_rfl) ?_
          refine op_call rfl (some 106) rfl (by kernel_rfl) #[] rfl (by simp) (fun _ _ => rfl) (live_any V0) ?_
          rintro e V1 ⟨rfl, c1⟩
          have b1 : Below W.heap.size V0 V1 := c1.mono Z0
          have S1 : Below W.heap.size V0 V1 := S0.trans b1
          have Z1 : W.heap.size ≤ V1.heap.size := Nat.le_trans Z0 b1.size
          refine ⟨_, rfl, S1, ?_⟩
          simp only [Act.put, List.setIfInBounds_toArray, List.set_cons_zero, List.set_cons_succ]
          have B1 : Below W.heap.size w9 V1 := B0.trans b1
          have TS1 := TS0.below c1
          have TR1 := TR0.below c1
          refine anyH_take (i := 1) (v := .bool true) rfl (some 107) rfl (by kernel_rfl) (by kernel_rfl) (by kernel_rfl) (fun _ _ _ h => by cases h.1) (by kernel_rfl) (fun w0 hw0 => by first | rfl | kernel_rfl) S1 ?_
          simp only [Act.put, List.setIfInBounds_toArray, List.set_cons_zero, List.set_cons_succ]
          refine anyH_take (i := 2) (v := .int .i64 4) rfl (some 108) rfl (by kernel_rfl) (by kernel_rfl) (by kernel_rfl) (fun _ _ _ h => by cases h.1) (by kernel_rfl) (fun w0 hw0 => by first | rfl | kernel_rfl) S1 ?_
          simp only [Act.put, List.setIfInBounds_toArray, List.set_cons_zero, List.set_cons_succ]
          refine anyH_take (i := 3) (v := .pointer (some ⟨qt, 0, none⟩)) rfl (some 109) rfl (by kernel_rfl) (by kernel_rfl) (by kernel_rfl) (fun _ _ _ h => by cases h.1) (by kernel_rfl) (fun w0 hw0 => by first | rfl | kernel_rfl) S1 ?_
          simp only [Act.put, List.setIfInBounds_toArray, List.set_cons_zero, List.set_cons_succ]
          refine anyH_take (i := 4) (v := .slice ba ln cap) rfl (some 110) rfl (by kernel_rfl) (by kernel_rfl) (by kernel_rfl) (fun _ _ _ h => by cases h.1) (by kernel_rfl) (fun w0 hw0 => by first | rfl | kernel_rfl) S1 ?_
          simp only [Act.put, List.setIfInBounds_toArray, List.set_cons_zero, List.set_cons_succ]
          refine anyH_one (i := 5) (by kernel_rfl) ?_
          refine op_call rfl (some 111) rfl (by kernel_rfl) #[.slice ba ln cap] rfl (by simp [Act.eval]) (fun _ _ => rfl) (HFW.out V1 (BW.trans (B1))) ?_
          rintro e V2 ⟨rfl, e2⟩
          have b2 : Below W.heap.size V1 V2 := by rw [e2]; exact Below.refl _ _
          have S2 : Below W.heap.size V0 V2 := S1.trans b2
          have Z2 : W.heap.size ≤ V2.heap.size := Nat.le_trans Z1 b2.size
          refine ⟨_, rfl, S2, ?_⟩
          simp only [Act.put, List.setIfInBounds_toArray, List.set_cons_zero, List.set_cons_succ]
          have B2 : Below W.heap.size w9 V2 := B1.trans b2
          have TS2 := e2.symm ▸ TS1
          have TR2 := e2.symm ▸ TR1
          refine anyH_one (i := 6) (by kernel_rfl) ?_
          refine op_call rfl (some 112) rfl (by kernel_rfl) #[.pointer (some ⟨qt, 0, none⟩), .slice ba mf cap] rfl (by simp [Act.eval]) (fun _ _ => rfl) (HRS.out V2 TR2 (BW.trans (B2)) Z2) ?_
          rintro e V3 ⟨rfl, t3⟩
          have b3 : Below W.heap.size V2 V3 := tto_size t3
          have S3 : Below W.heap.size V0 V3 := S2.trans b3
          have Z3 : W.heap.size ≤ V3.heap.size := Nat.le_trans Z2 b3.size
          refine ⟨_, rfl, S3, ?_⟩
          simp only [Act.put, List.setIfInBounds_toArray, List.set_cons_zero, List.set_cons_succ]
          have B3 : Below W.heap.size w9 V3 := B2.trans b3
          have TS3 := TwoS.second TS2 TR2 t3
          obtain ⟨ul2, uw2, TR3, _, _⟩ := t3
          refine anyH_take (i := 7) (v := .bool true) rfl (some 113) rfl (by kernel_rfl) (by kernel_rfl) (by kernel_rfl) (fun _ _ _ h => by cases h.1) (by kernel_rfl) (fun w0 hw0 => ex_eqe rfl rfl rfl) S3 ?_
          simp only [Act.put, List.setIfInBounds_toArray, List.set_cons_zero, List.set_cons_succ]
          refine anyH_take (i := 8) (v := .bool true) rfl (some 114) rfl (by kernel_rfl) (by kernel_rfl) (by kernel_rfl) (fun _ _ _ h => by cases h.1) (by kernel_rfl) (fun w0 hw0 => ex_pickT rfl rfl rfl) S3 ?_
          simp only [Act.put, List.setIfInBounds_toArray, List.set_cons_zero, List.set_cons_succ]
          refine anyH_take (i := 9) (v := .bool true) rfl (some 115) rfl (by kernel_rfl) (by kernel_rfl) (by kernel_rfl) (fun _ _ _ h => by cases h.1) (by kernel_rfl) (fun w0 hw0 => by first | rfl | kernel_rfl) S3 ?_
          simp only [Act.put, List.setIfInBounds_toArray, List.set_cons_zero, List.set_cons_succ]
          refine anyH_take (i := 10) (v := .pointer (some ⟨qs, 0, none⟩)) rfl (some 116) rfl (by kernel_rfl) (by kernel_rfl) (by kernel_rfl) (fun _ _ _ h => by cases h.1) (by kernel_rfl) (fun w0 hw0 => by first | rfl | kernel_rfl) S3 ?_
          simp only [Act.put, List.setIfInBounds_toArray, List.set_cons_zero, List.set_cons_succ]
          refine anyH_take (i := 11) (v := .pointer (some ⟨qt, 0, none⟩)) rfl (some 117) rfl (by kernel_rfl) (by kernel_rfl) (by kernel_rfl) (fun _ _ _ h => by cases h.1) (by kernel_rfl) (fun w0 hw0 => by first | rfl | kernel_rfl) S3 ?_
          simp only [Act.put, List.setIfInBounds_toArray, List.set_cons_zero, List.set_cons_succ]
          refine anyH_one (i := 12) (by kernel_rfl) ?_
          refine op_call rfl (some 118) rfl (by kernel_rfl) #[.pointer (some ⟨qs, 0, none⟩), .pointer (some ⟨qt, 0, none⟩)] rfl (by simp [Act.eval]) (fun _ _ => rfl) (same_any W.heap.size qs ps qt pt D2 vl9 vw9 ul2 uw2 _ ⟨TS3, TR3, Z3⟩ HD2.out.1 (by have := HD2.out.2; omega)) ?_
          rintro e V4 ⟨rfl, b4⟩
          have b4 : Below V3.heap.size V3 V4 := b4
          refine ⟨_, rfl, S3.trans (b4.mono Z3), ?_⟩
          simp only [Act.put, List.setIfInBounds_toArray, List.set_cons_zero, List.set_cons_succ]
          refine anyH_more (fun V => Below V4.heap.size V4 V) (fun V hV => S3.trans ((b4.trans (hV.mono b4.size)).mono Z3)) ?_
          have S4 : Below V4.heap.size V4 V4 := Below.refl _ _
          have B4 : Below W.heap.size w9 V4 := B3.trans (b4.mono Z3)
          have TS4 := TS3.below b4
          have Zb : W.heap.size ≤ w9.heap.size := by omega
          refine anyH_take (i := 13) (v := .bool true) rfl (some 119) rfl (by kernel_rfl) (by kernel_rfl) (by kernel_rfl) (fun _ _ _ h => by cases h.1) (by kernel_rfl) (fun w0 hw0 => ex_pickT rfl rfl rfl) S4 ?_
          simp only [Act.put, List.setIfInBounds_toArray, List.set_cons_zero, List.set_cons_succ]
          refine anyH_take (i := 14) (v := .bool true) rfl (some 120) rfl (by kernel_rfl) (by kernel_rfl) (by kernel_rfl) (fun _ _ _ h => by cases h.1) (by kernel_rfl) (fun w0 hw0 => by first | rfl | kernel_rfl) S4 ?_
          simp only [Act.put, List.setIfInBounds_toArray, List.set_cons_zero, List.set_cons_succ]
          refine anyH_take (i := 15) (v := .int .i64 4) rfl (some 121) rfl (by kernel_rfl) (by kernel_rfl) (by kernel_rfl) (fun _ _ _ h => by cases h.1) (by kernel_rfl) (fun w0 hw0 => by first | rfl | kernel_rfl) S4 ?_
          simp only [Act.put, List.setIfInBounds_toArray, List.set_cons_zero, List.set_cons_succ]
          refine anyH_take (i := 16) (v := .bool true) rfl (some 122) rfl (by kernel_rfl) (by kernel_rfl) (by kernel_rfl) (fun _ _ _ h => by cases h.1) (by kernel_rfl) (fun w0 hw0 => by first | rfl | kernel_rfl) S4 ?_
          simp only [Act.put, List.setIfInBounds_toArray, List.set_cons_zero, List.set_cons_succ]
          refine anyH_take (i := 17) (v := .bool true) rfl (some 123) rfl (by kernel_rfl) (by kernel_rfl) (by kernel_rfl) (fun _ _ _ h => by cases h.1) (by kernel_rfl) (fun w0 hw0 => by first | rfl | kernel_rfl) S4 ?_
          simp only [Act.put, List.setIfInBounds_toArray, List.set_cons_zero, List.set_cons_succ]
          refine anyH_off (i := 18) rfl (some 124) rfl (by kernel_rfl) (by kernel_rfl) (by kernel_rfl) (fun _ _ _ h => by cases h.1) (by kernel_rfl) S4 ?_
          simp only [Act.put, List.setIfInBounds_toArray, List.set_cons_zero, List.set_cons_succ]
          refine anyH_off (i := 21) rfl (some 127) rfl (by kernel_rfl) (by kernel_rfl) (by kernel_rfl) (fun _ _ _ h => by cases h.1) (by kernel_rfl) S4 ?_
          simp only [Act.put, List.setIfInBounds_toArray, List.set_cons_zero, List.set_cons_succ]
          refine anyH_off (i := 19) rfl (some 125) rfl (by kernel_rfl) (by kernel_rfl) (by kernel_rfl) (fun _ _ _ h => by cases h.1) (by kernel_rfl) S4 ?_
          simp only [Act.put, List.setIfInBounds_toArray, List.set_cons_zero, List.set_cons_succ]
          refine anyH_off (i := 20) rfl (some 126) rfl (by kernel_rfl) (by kernel_rfl) (by kernel_rfl) (fun _ _ _ h => by cases h.1) (by kernel_rfl) S4 ?_
          simp only [Act.put, List.setIfInBounds_toArray, List.set_cons_zero, List.set_cons_succ]
          refine anyH_off (i := 22) rfl (some 128) rfl (by kernel_rfl) (by kernel_rfl) (by kernel_rfl) (fun _ _ _ h => by cases h.1) (by kernel_rfl) S4 ?_
          simp only [Act.put, List.setIfInBounds_toArray, List.set_cons_zero, List.set_cons_succ]
          refine anyH_off (i := 23) rfl (some 129) rfl (by kernel_rfl) (by kernel_rfl) (by kernel_rfl) (fun _ _ _ h => by cases h.1) (by kernel_rfl) S4 ?_
          simp only [Act.put, List.setIfInBounds_toArray, List.set_cons_zero, List.set_cons_succ]
          refine anyH_off (i := 24) rfl (some 130) rfl (by kernel_rfl) (by kernel_rfl) (by kernel_rfl) (fun _ _ _ h => by cases h.1) (by kernel_rfl) S4 ?_
          simp only [Act.put, List.setIfInBounds_toArray, List.set_cons_zero, List.set_cons_succ]
          refine anyH_take (i := 25) (v := .bool true) rfl (some 131) rfl (by kernel_rfl) (by kernel_rfl) (by kernel_rfl) (fun _ _ _ h => by cases h.1) (by kernel_rfl) (fun w0 hw0 => ex_pickT rfl rfl rfl) S4 ?_
          simp only [Act.put, List.setIfInBounds_toArray, List.set_cons_zero, List.set_cons_succ]
          refine anyH_take (i := 26) (v := .bool true) rfl (some 132) rfl (by kernel_rfl) (by kernel_rfl) (by kernel_rfl) (fun _ _ _ h => by cases h.1) (by kernel_rfl) (fun w0 hw0 => ex_pickT rfl rfl rfl) S4 ?_
          simp only [Act.put, List.setIfInBounds_toArray, List.set_cons_zero, List.set_cons_succ]
          refine anyH_val (i := 27) (by kernel_rfl) rfl (some 6) rfl (by kernel_rfl) (ex_any rfl rfl) S4 ?_
          simp only [Act.put, List.setIfInBounds_toArray, List.set_cons_zero, List.set_cons_succ]
          exact wpAnyH_done (by kernel_rfl) ⟨rfl, fill (B4) (by kernel_rfl)⟩ _
        case fin2 =>
          clear hV0 B0 TS0 TR0
          rintro a W2 ⟨xx, hB2, rfl⟩
          have HFF := hide (HBW.out.trans ((H9.out.2.2.trans hB2).mono (by omega)))
          clear hB2
          go_wp2_with fail
          go_ret
          exact ⟨rfl, HFF.out⟩
      · have he : errS d mf = 0 := if_neg hF
        rw [he] at hsv hrs
        obtain ⟨k1, k2⟩ := the_save (b := f) HT.out.1.ok h4 hwf (by rw [HMF.out]; exact hF)
        have hd2 : D2 = saveD d f := by rw [← hD2]; unfold saveE; rw [HMF.out, if_neg hF]
        rw [← hd2] at k1 k2
        have HD2 := hide (show DvOk D2 ∧ D2.las.length = 12 from ⟨k1, by rw [hd2, save_las]; exact HT.out.1.size⟩)
        have HLB := hide (show (⟨(theL D2).bytes.toArray⟩ : ByteArray) = fs from by rw [k2]; exact hfs)
        have HSV := hide hsv
        have HRS := hide hrs
        clear hsv hrs hD2 hd2 he hfs k1 k2
        go_wp2_with (first
          | (go_at_call 17; refine (HFW.out w7 H7.out.2).mono ?_; rintro e w' ⟨rfl, hw'⟩; rw [hw']; clear hw')
          | (go_at_call 22; refine HSV.out.mono ?_; rintro e w9 ⟨rfl, t9⟩; have b9 := sto_size t9; have s9 := b9.size; have rf9 := H7.out.1.first t9; obtain ⟨vl9, vw9, i9, _, _⟩ := t9; have H9 := hide (And.intro i9 (And.intro rf9 (H7.out.2.trans b9))); clear i9 rf9 b9))
        have TS0 := (H9.out.1).below (Below.refl _ w9).drew
        have TR0 := (H9.out.2.1).below (Below.refl _ w9).drew
        have B0 : Below W.heap.size w9 w9.drew := (Below.refl _ w9).drew
        obtain ⟨V0, hV0⟩ : ∃ V0, w9.drew = V0 := ⟨_, rfl⟩
        rw [hV0] at B0 TS0 TR0
        refine region_rel (S := fun V => Below W.heap.size V0 V) (fun a Wz => ∃ xx : Nat → Value, (Below W.heap.size w9 Wz) ∧ a = { tmps := #[xx 0, xx 1, xx 2, xx 3, xx 4, xx 5, .bool true, xx 7, xx 8, xx 9, xx 10, xx 11, xx 12, xx 13, xx 14, xx 15, xx 16, xx 17, xx 18, xx 19, xx 20, xx 21, xx 22, xx 23, xx 24, xx 25, xx 26, xx 27, xx 28, xx 29, xx 30, xx 31, xx 32, xx 33, xx 34, xx 35, xx 36, xx 37, xx 38, xx 39, xx 40, xx 41, xx 42, xx 43, xx 44, xx 45, xx 46, xx 47, xx 48, xx 49, xx 50, xx 51, xx 52, xx 53, xx 54, xx 55, xx 56, xx 57, xx 58, xx 59, xx 60, xx 61, xx 62, xx 63, xx 64, xx 65, xx 66, xx 67, xx 68, xx 69, xx 70, xx 71, xx 72, xx 73, xx 74, xx 75, xx 76, xx 77, xx 78, xx 79, xx 80, xx 81, xx 82, xx 83, xx 84, xx 85, xx 86, xx 87, xx 88, xx 89, xx 90, xx 91, xx 92, xx 93, xx 94, xx 95, xx 96, xx 97, xx 98, xx 99, xx 100, xx 101, xx 102, xx 103, xx 104, xx 105, xx 106, xx 107, xx 108, xx 109, xx 110, xx 111, xx 112, xx 113, xx 114, xx 115, xx 116, xx 117, xx 118, xx 119, xx 120, xx 121, xx 122, xx 123, xx 124, xx 125, xx 126, xx 127, xx 128, xx 129, xx 130, xx 131, xx 132], defers := [] }) (by kernel_rfl) ?any1 ?fin1
        case any1 =>
          have Z0 : W.heap.size ≤ V0.heap.size := by rw [← hV0]; show W.heap.size ≤ w9.heap.size; omega
          have BW : Below W.heap.size W w9 := H9.out.2.2
          rw [hV0]
          clear hV0
          have S0 : Below W.heap.size V0 V0 := Below.refl _ _
          refine anyH_one (i := 0) (by kernel_rfl) ?_
          refine op_call rfl (some 106) rfl (by kernel_rfl) #[] rfl (by simp) (fun _ _ => rfl) (live_any V0) ?_
          rintro e V1 ⟨rfl, c1⟩
          have b1 : Below W.heap.size V0 V1 := c1.mono Z0
          have S1 : Below W.heap.size V0 V1 := S0.trans b1
          have Z1 : W.heap.size ≤ V1.heap.size := Nat.le_trans Z0 b1.size
          refine ⟨_, rfl, S1, ?_⟩
          simp only [Act.put, List.setIfInBounds_toArray, List.set_cons_zero, List.set_cons_succ]
          have B1 : Below W.heap.size w9 V1 := B0.trans b1
          have TS1 := TS0.below c1
          have TR1 := TR0.below c1
          refine anyH_take (i := 1) (v := .bool true) rfl (some 107) rfl (by kernel_rfl) (by kernel_rfl) (by kernel_rfl) (fun _ _ _ h => by cases h.1) (by kernel_rfl) (fun w0 hw0 => by first | rfl | kernel_rfl) S1 ?_
          simp only [Act.put, List.setIfInBounds_toArray, List.set_cons_zero, List.set_cons_succ]
          refine anyH_take (i := 2) (v := .int .i64 0) rfl (some 108) rfl (by kernel_rfl) (by kernel_rfl) (by kernel_rfl) (fun _ _ _ h => by cases h.1) (by kernel_rfl) (fun w0 hw0 => by first | rfl | kernel_rfl) S1 ?_
          simp only [Act.put, List.setIfInBounds_toArray, List.set_cons_zero, List.set_cons_succ]
          refine anyH_take (i := 3) (v := .pointer (some ⟨qt, 0, none⟩)) rfl (some 109) rfl (by kernel_rfl) (by kernel_rfl) (by kernel_rfl) (fun _ _ _ h => by cases h.1) (by kernel_rfl) (fun w0 hw0 => by first | rfl | kernel_rfl) S1 ?_
          simp only [Act.put, List.setIfInBounds_toArray, List.set_cons_zero, List.set_cons_succ]
          refine anyH_take (i := 4) (v := .slice ba ln cap) rfl (some 110) rfl (by kernel_rfl) (by kernel_rfl) (by kernel_rfl) (fun _ _ _ h => by cases h.1) (by kernel_rfl) (fun w0 hw0 => by first | rfl | kernel_rfl) S1 ?_
          simp only [Act.put, List.setIfInBounds_toArray, List.set_cons_zero, List.set_cons_succ]
          refine anyH_one (i := 5) (by kernel_rfl) ?_
          refine op_call rfl (some 111) rfl (by kernel_rfl) #[.slice ba ln cap] rfl (by simp [Act.eval]) (fun _ _ => rfl) (HFW.out V1 (BW.trans (B1))) ?_
          rintro e V2 ⟨rfl, e2⟩
          have b2 : Below W.heap.size V1 V2 := by rw [e2]; exact Below.refl _ _
          have S2 : Below W.heap.size V0 V2 := S1.trans b2
          have Z2 : W.heap.size ≤ V2.heap.size := Nat.le_trans Z1 b2.size
          refine ⟨_, rfl, S2, ?_⟩
          simp only [Act.put, List.setIfInBounds_toArray, List.set_cons_zero, List.set_cons_succ]
          have B2 : Below W.heap.size w9 V2 := B1.trans b2
          have TS2 := e2.symm ▸ TS1
          have TR2 := e2.symm ▸ TR1
          refine anyH_one (i := 6) (by kernel_rfl) ?_
          refine op_call rfl (some 112) rfl (by kernel_rfl) #[.pointer (some ⟨qt, 0, none⟩), .slice ba mf cap] rfl (by simp [Act.eval]) (fun _ _ => rfl) (HRS.out V2 TR2 (BW.trans (B2)) Z2) ?_
          rintro e V3 ⟨rfl, t3⟩
          have b3 : Below W.heap.size V2 V3 := tto_size t3
          have S3 : Below W.heap.size V0 V3 := S2.trans b3
          have Z3 : W.heap.size ≤ V3.heap.size := Nat.le_trans Z2 b3.size
          refine ⟨_, rfl, S3, ?_⟩
          simp only [Act.put, List.setIfInBounds_toArray, List.set_cons_zero, List.set_cons_succ]
          have B3 : Below W.heap.size w9 V3 := B2.trans b3
          have TS3 := TwoS.second TS2 TR2 t3
          obtain ⟨ul2, uw2, TR3, _, _⟩ := t3
          refine anyH_take (i := 7) (v := .bool true) rfl (some 113) rfl (by kernel_rfl) (by kernel_rfl) (by kernel_rfl) (fun _ _ _ h => by cases h.1) (by kernel_rfl) (fun w0 hw0 => ex_eqe rfl rfl rfl) S3 ?_
          simp only [Act.put, List.setIfInBounds_toArray, List.set_cons_zero, List.set_cons_succ]
          refine anyH_take (i := 8) (v := .bool true) rfl (some 114) rfl (by kernel_rfl) (by kernel_rfl) (by kernel_rfl) (fun _ _ _ h => by cases h.1) (by kernel_rfl) (fun w0 hw0 => ex_pickT rfl rfl rfl) S3 ?_
          simp only [Act.put, List.setIfInBounds_toArray, List.set_cons_zero, List.set_cons_succ]
          refine anyH_take (i := 9) (v := .bool true) rfl (some 115) rfl (by kernel_rfl) (by kernel_rfl) (by kernel_rfl) (fun _ _ _ h => by cases h.1) (by kernel_rfl) (fun w0 hw0 => by first | rfl | kernel_rfl) S3 ?_
          simp only [Act.put, List.setIfInBounds_toArray, List.set_cons_zero, List.set_cons_succ]
          refine anyH_take (i := 10) (v := .pointer (some ⟨qs, 0, none⟩)) rfl (some 116) rfl (by kernel_rfl) (by kernel_rfl) (by kernel_rfl) (fun _ _ _ h => by cases h.1) (by kernel_rfl) (fun w0 hw0 => by first | rfl | kernel_rfl) S3 ?_
          simp only [Act.put, List.setIfInBounds_toArray, List.set_cons_zero, List.set_cons_succ]
          refine anyH_take (i := 11) (v := .pointer (some ⟨qt, 0, none⟩)) rfl (some 117) rfl (by kernel_rfl) (by kernel_rfl) (by kernel_rfl) (fun _ _ _ h => by cases h.1) (by kernel_rfl) (fun w0 hw0 => by first | rfl | kernel_rfl) S3 ?_
          simp only [Act.put, List.setIfInBounds_toArray, List.set_cons_zero, List.set_cons_succ]
          refine anyH_one (i := 12) (by kernel_rfl) ?_
          refine op_call rfl (some 118) rfl (by kernel_rfl) #[.pointer (some ⟨qs, 0, none⟩), .pointer (some ⟨qt, 0, none⟩)] rfl (by simp [Act.eval]) (fun _ _ => rfl) (same_any W.heap.size qs ps qt pt D2 vl9 vw9 ul2 uw2 _ ⟨TS3, TR3, Z3⟩ HD2.out.1 (by have := HD2.out.2; omega)) ?_
          rintro e V4 ⟨rfl, b4⟩
          have b4 : Below V3.heap.size V3 V4 := b4
          refine ⟨_, rfl, S3.trans (b4.mono Z3), ?_⟩
          simp only [Act.put, List.setIfInBounds_toArray, List.set_cons_zero, List.set_cons_succ]
          refine anyH_more (fun V => Below V4.heap.size V4 V) (fun V hV => S3.trans ((b4.trans (hV.mono b4.size)).mono Z3)) ?_
          have S4 : Below V4.heap.size V4 V4 := Below.refl _ _
          have B4 : Below W.heap.size w9 V4 := B3.trans (b4.mono Z3)
          have TS4 := TS3.below b4
          have Zb : W.heap.size ≤ w9.heap.size := by omega
          refine anyH_take (i := 13) (v := .bool true) rfl (some 119) rfl (by kernel_rfl) (by kernel_rfl) (by kernel_rfl) (fun _ _ _ h => by cases h.1) (by kernel_rfl) (fun w0 hw0 => ex_pickT rfl rfl rfl) S4 ?_
          simp only [Act.put, List.setIfInBounds_toArray, List.set_cons_zero, List.set_cons_succ]
          refine anyH_take (i := 14) (v := .bool true) rfl (some 120) rfl (by kernel_rfl) (by kernel_rfl) (by kernel_rfl) (fun _ _ _ h => by cases h.1) (by kernel_rfl) (fun w0 hw0 => by first | rfl | kernel_rfl) S4 ?_
          simp only [Act.put, List.setIfInBounds_toArray, List.set_cons_zero, List.set_cons_succ]
          refine anyH_take (i := 15) (v := .int .i64 0) rfl (some 121) rfl (by kernel_rfl) (by kernel_rfl) (by kernel_rfl) (fun _ _ _ h => by cases h.1) (by kernel_rfl) (fun w0 hw0 => by first | rfl | kernel_rfl) S4 ?_
          simp only [Act.put, List.setIfInBounds_toArray, List.set_cons_zero, List.set_cons_succ]
          refine anyH_take (i := 16) (v := .bool false) rfl (some 122) rfl (by kernel_rfl) (by kernel_rfl) (by kernel_rfl) (fun _ _ _ h => by cases h.1) (by kernel_rfl) (fun w0 hw0 => by first | rfl | kernel_rfl) S4 ?_
          simp only [Act.put, List.setIfInBounds_toArray, List.set_cons_zero, List.set_cons_succ]
          refine anyH_take (i := 17) (v := .bool false) rfl (some 123) rfl (by kernel_rfl) (by kernel_rfl) (by kernel_rfl) (fun _ _ _ h => by cases h.1) (by kernel_rfl) (fun w0 hw0 => by first | rfl | kernel_rfl) S4 ?_
          simp only [Act.put, List.setIfInBounds_toArray, List.set_cons_zero, List.set_cons_succ]
          refine anyH_take (i := 18) (v := .pointer (some ⟨qs, 0, none⟩)) rfl (some 124) rfl (by kernel_rfl) (by kernel_rfl) (by kernel_rfl) (fun _ _ _ h => by cases h.1) (by kernel_rfl) (fun w0 hw0 => by first | rfl | kernel_rfl) S4 ?_
          simp only [Act.put, List.setIfInBounds_toArray, List.set_cons_zero, List.set_cons_succ]
          refine anyH_take (i := 21) (v := .slice ba ln cap) rfl (some 127) rfl (by kernel_rfl) (by kernel_rfl) (by kernel_rfl) (fun _ _ _ h => by cases h.1) (by kernel_rfl) (fun w0 hw0 => by first | rfl | kernel_rfl) S4 ?_
          simp only [Act.put, List.setIfInBounds_toArray, List.set_cons_zero, List.set_cons_succ]
          refine anyH_one (i := 19) (by kernel_rfl) ?_
          refine op_call rfl (some 125) rfl (by kernel_rfl) #[.pointer (some ⟨qs, 0, none⟩)] rfl (by simp [Act.eval]) (fun _ _ => rfl) (load_any W.heap.size qs ps D2 vl9 vw9 _ TS4 HD2.out.1 (by have := HD2.out.2; omega) HD2.out.1.most) ?_
          rintro e V5 ⟨ga, gc, rfl, r5, b5⟩
          have b5 : Below V4.heap.size V4 V5 := b5
          refine ⟨_, rfl, S4.trans (b5.mono S4.size), ?_⟩
          simp only [Act.put, List.setIfInBounds_toArray, List.set_cons_zero, List.set_cons_succ]
          refine anyH_more (fun V => Below V5.heap.size V5 V) (fun V hV => S4.trans ((b5.trans (hV.mono b5.size)).mono S4.size)) ?_
          have S5 : Below V5.heap.size V5 V5 := Below.refl _ _
          have B5 : Below W.heap.size w9 V5 := B4.trans (b5.mono (Nat.le_trans Zb B4.size))
          refine anyH_take (i := 20) (v := .string fs) rfl (some 126) rfl (by kernel_rfl) (by kernel_rfl) (by kernel_rfl) (fun _ _ _ h => by cases h.1) (by kernel_rfl) (fun w0 hw0 => ex_conv rfl rfl (HLB.out ▸ conv_own (own_same r5 (fun g e => hw0.block g (own_lt r5 g e))))) S5 ?_
          simp only [Act.put, List.setIfInBounds_toArray, List.set_cons_zero, List.set_cons_succ]
          refine anyH_one (i := 22) (by kernel_rfl) ?_
          refine op_call rfl (some 128) rfl (by kernel_rfl) #[.slice ba ln cap] rfl (by simp [Act.eval]) (fun _ _ => rfl) (HFW.out V5 (BW.trans (B5))) ?_
          rintro e V6 ⟨rfl, e6⟩
          have b6 : Below V5.heap.size V5 V6 := by rw [e6]; exact Below.refl _ _
          refine ⟨_, rfl, S5.trans (b6.mono S5.size), ?_⟩
          simp only [Act.put, List.setIfInBounds_toArray, List.set_cons_zero, List.set_cons_succ]
          refine anyH_more (fun V => Below V6.heap.size V6 V) (fun V hV => S5.trans ((b6.trans (hV.mono b6.size)).mono S5.size)) ?_
          have S6 : Below V6.heap.size V6 V6 := Below.refl _ _
          have B6 : Below W.heap.size w9 V6 := B5.trans (b6.mono (Nat.le_trans Zb B5.size))
          refine anyH_take (i := 23) (v := .string fs) rfl (some 129) rfl (by kernel_rfl) (by kernel_rfl) (by kernel_rfl) (fun _ _ _ h => by cases h.1) (by kernel_rfl) (fun w0 hw0 => ex_conv rfl rfl (HCB.out w0 ((BW.trans B6).trans (hw0.mono (by have := B6.size; omega))))) S6 ?_
          simp only [Act.put, List.setIfInBounds_toArray, List.set_cons_zero, List.set_cons_succ]
          refine anyH_take (i := 24) (v := .bool true) rfl (some 130) rfl (by kernel_rfl) (by kernel_rfl) (by kernel_rfl) (fun _ _ _ h => by cases h.1) (by kernel_rfl) (fun w0 hw0 => ex_eqs rfl rfl rfl) S6 ?_
          simp only [Act.put, List.setIfInBounds_toArray, List.set_cons_zero, List.set_cons_succ]
          refine anyH_take (i := 25) (v := .bool true) rfl (some 131) rfl (by kernel_rfl) (by kernel_rfl) (by kernel_rfl) (fun _ _ _ h => by cases h.1) (by kernel_rfl) (fun w0 hw0 => ex_pickF rfl rfl rfl) S6 ?_
          simp only [Act.put, List.setIfInBounds_toArray, List.set_cons_zero, List.set_cons_succ]
          refine anyH_take (i := 26) (v := .bool true) rfl (some 132) rfl (by kernel_rfl) (by kernel_rfl) (by kernel_rfl) (fun _ _ _ h => by cases h.1) (by kernel_rfl) (fun w0 hw0 => ex_pickT rfl rfl rfl) S6 ?_
          simp only [Act.put, List.setIfInBounds_toArray, List.set_cons_zero, List.set_cons_succ]
          refine anyH_val (i := 27) (by kernel_rfl) rfl (some 6) rfl (by kernel_rfl) (ex_any rfl rfl) S6 ?_
          simp only [Act.put, List.setIfInBounds_toArray, List.set_cons_zero, List.set_cons_succ]
          exact wpAnyH_done (by kernel_rfl) ⟨rfl, fill (B6) (by kernel_rfl)⟩ _
        case fin1 =>
          clear hV0 B0 TS0 TR0
          rintro a W1 ⟨xx, hB1, rfl⟩
          have HFF := hide (HBW.out.trans ((H9.out.2.2.trans hB1).mono (by omega)))
          clear hB1
          go_wp2_with fail
          go_ret
          exact ⟨rfl, HFF.out⟩
end Go.Proofs.Ytfknjmfkkaoggaa
