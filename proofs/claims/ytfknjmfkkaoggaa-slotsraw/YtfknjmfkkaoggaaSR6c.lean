/- The document's save, whole, into the slot 1. -/
import Derived.Test.YtfknjmfkkaoggaaSR6
namespace Go.Proofs.Ytfknjmfkkaoggaa
open Go.RowKit Go.Shelf

set_option maxRecDepth 100000 in
set_option maxHeartbeats 4000000 in
theorem rsave_f1 (base q p : Nat) (d : Dv) (vl vw : Value) (ba : Option Addr) (b : List UInt8) (ln cap : Nat) (wri : Int) (w : World) (h : IsT base q p d vl vw w) (hd : DvOk d) (hb : base ≤ w.heap.size) (h2 : 4 ≤ d.las.length) (h3 : d.las.length ≤ 4096) (hB : ByteMem base w ba b) (hln : b.length = ln) (hrm : ln ≤ (d.las.length - 2) / 2 * 64) (hwf : d.wr.length + 5000 ≤ 1000000) (hsl : (theL d).slot = 0) :
    Calls Try.prog 55 #[.pointer (some ⟨q, 0, none⟩), .slice ba ln cap, .bool false, .int .i64 wri] w fun e w' => (∃ v, e = .returned v) ∧ TTo base q p vl vw (saveD d b) w w' := by
  obtain ⟨D, hD⟩ : ∃ D, (saveD d b) = D := ⟨_, rfl⟩
  rw [hD]
  have HD := hide hD
  have H0 := hide (rthe_any base q p d vl vw w h hd h2 h3)
  unfold TheR at H0
  have HH := hide (And.intro h (And.intro hd (And.intro hB hln)))
  clear h hd hB hD hln
  go_enter Try.func55, Try.ntmps55
  obtain ⟨ts, hts⟩ : ∃ x, (theL d).slot = x := ⟨_, rfl⟩
  obtain ⟨tt, htt⟩ : ∃ x, (theL d).turn = x := ⟨_, rfl⟩
  obtain ⟨tb, htb⟩ : ∃ x, (theL d).bytes = x := ⟨_, rfl⟩
  rw [hts, htt, htb] at H0
  have hts0 : ts = 0 := hts.symm.trans hsl
  have HTS := hide (And.intro hts htt)
  clear hts htt htb hsl
  go_wp2_with (go_at_call 57; refine H0.out.mono ?_; rintro e w1 ⟨a, v, rfl, ha, r1, b1⟩; refine stopHere ?_)
  unfold Hid
  have HNX := hide (show 1 - ts = 1 by omega)
  have HT1 := hide (HH.out.1.stay hb b1)
  obtain rfl : a = 0 := by
    rcases ha with ⟨e, _⟩ | ⟨_, e⟩
    · exact e
    · omega
  clear r1 b1 hts0 ha
  have hkh : 1 * ((d.las.length - 2) / 2) ≤ (d.las.length - 2) / 2 := by omega
  obtain ⟨cn, hcn⟩ : ∃ cn, (ln + 63) / 64 = cn := ⟨_, rfl⟩
  go_wp2_with fail
  go_loopw [12, 13] (fun dn i wr => ∃ m : Nat, m ≤ cn ∧ i = .int .i64 m ∧ dn = .int .i64 m ∧ TTo base q p vl vw (putK d 1 b m) w wr) (fun _ i _ => cn - (intOf i).toNat)
  case atStart => exact ⟨0, Nat.zero_le _, rfl, rfl, HT1.out⟩
  case round =>
    obtain ⟨m, hm, rfl, rfl, hT⟩ := hrel
    obtain ⟨wo, hwo⟩ : ∃ wo, wo = wr := ⟨_, rfl⟩
    subst hwo
    have hw1 : IntKind.i64.wrap ((m : Int) + 1) = m + 1 := by rw [IntKind.wrap_i64]; omega
    obtain ⟨M, hM⟩ : ∃ M : Nat, 64 * m = M := ⟨_, rfl⟩
    have hM1 : IntKind.i64.wrap ((m : Int) * 64) = (M : Int) := by rw [IntKind.wrap_i64]; omega
    have hM2 : (m : Int) * 64 = (M : Int) := by omega
    have hM3 : wrap64 (M : Int) = M := by unfold wrap64; omega
    have HTT := hide hT
    clear hT
    by_cases hlt : m < cn
    · have hltM : (M : Int) < ln := by omega
      obtain ⟨vl1, vw1, hI, hF, hN⟩ := HTT.out
      obtain ⟨W2, hW2, f2, b2, z2⟩ : ∃ W, wo.alloc (.cells (secA sec0) 61) = W ∧ W.heap[wo.heap.size]? = some (.cells (secA sec0) 61) ∧ Below wo.heap.size wo W ∧ W.heap.size = wo.heap.size + 1 := ⟨_, rfl, World.alloc_heap_new _ _, (Below.refl _ _).alloc (Nat.le_refl _) _, by simp⟩
      have p0 : padS (b.drop M) 0 = sec0 := rfl
      have HW2 := hide hW2
      have H2 := hide (And.intro f2 b2)
      have HI := hide (And.intro hI (And.intro hF hN))
      obtain ⟨x0, hx0⟩ : ∃ x, b[0]? = some x := ⟨b[0]'(by have := HH.out.2.2.2; omega), by simp⟩
      obtain ⟨bb, bo, rfl, hbb, _⟩ := HH.out.2.2.1 0 x0 hx0
      have sw := hF.below.size
      clear hI hF hN f2 b2 hW2 hx0
      go_wp2_with (refine l_alloc _ infoSecR rfl rfl ?_; rw [show (Lib.byteCells sec0).toArray = secA sec0 from rfl, HW2.out])
      obtain ⟨mx, hmx⟩ : ∃ mx, min 64 (ln - M) = mx := ⟨_, rfl⟩
      go_loopw [15] (fun i W => ∃ j : Nat, j ≤ mx ∧ i = .int .i64 j ∧ W.heap[wo.heap.size]? = some (.cells (secA (padS (b.drop M) j)) 61) ∧ Below wo.heap.size wo W) (fun i _ => mx - (intOf i).toNat)
      case atStart => exact ⟨0, Nat.zero_le _, rfl, by rw [p0]; exact H2.out.1, H2.out.2⟩
      case round =>
        obtain ⟨j, hj, rfl, e1, hbw⟩ := hrel
        have hv1 : IntKind.i64.wrap ((j : Int) + 1) = j + 1 := by rw [IntKind.wrap_i64]; omega
        obtain ⟨N, hN⟩ : ∃ N : Nat, M + j = N := ⟨_, rfl⟩
        have hN1 : IntKind.i64.wrap ((M : Int) + j) = (N : Int) := by rw [IntKind.wrap_i64]; omega
        have hN2 : (M : Int) + j = (N : Int) := by omega
        by_cases hjl : j < mx
        · have hj64 : (j : Int) < 64 := by omega
          have hNl : (N : Int) < ln := by omega
          obtain ⟨c, hc⟩ : ∃ c, b[N]? = some c := ⟨b[N]'(by have := HH.out.2.2.2; omega), by simp⟩
          have hBw : Below base w wr := (HI.out.2.1.below).trans (hbw.mono (by omega))
          have hcc : wr.cell? ⟨bb, bo + N, none⟩ = some (.int .u8 c.toNat) := by
            obtain ⟨_, _, e, _, h⟩ := HH.out.2.2.1.below hBw N c hc
            cases e
            exact h
          have hcd : (b.drop M)[j]? = some c := by rw [List.getElem?_drop, hN]; exact hc
          have hpl := padS_len (l := b.drop M) (k := j) (by have := (List.getElem?_eq_some_iff.1 hcd).1; omega) (by omega)
          have hcx : wr.cell? ⟨wo.heap.size, j, none⟩ = some ((secA (padS (b.drop M) j))[j]'(by rw [secA_size, hpl]; omega)) := by
            rw [cell_of_row _ _ _ _ _ _ e1]
            simp
          have hfz : wr.frozen? ⟨wo.heap.size, j, none⟩ = false := by simp [World.frozen?, e1]
          have hs := heap_setCell_same wr _ j _ _ (.int .u8 c.toNat) e1
          rw [secA_set, padS_succ hcd (by omega)] at hs
          obtain ⟨u, hu⟩ : ∃ u, (secA (padS (b.drop M) j))[j]'(by rw [secA_size, hpl]; omega) = u := ⟨_, rfl⟩
          rw [hu] at hcx
          have HE := hide (And.intro hs (hbw.setCell (p := ⟨wo.heap.size, j, none⟩) (Nat.le_refl _) (.int .u8 c.toNat)))
          clear hs e1 hbw hu hBw hc hcd hmx hN hM
          go_wp2_with fail
          go_roundw
          case rel => exact ⟨j + 1, by omega, by simp, HE.out.1, HE.out.2⟩
          case measure => simp [intOf]; omega
        · rcases (show 64 ≤ j ∨ (j < 64 ∧ ln ≤ N) by omega) with h64 | ⟨h64, hNN⟩
          · obtain rfl : j = mx := by omega
            have hps : padS (b.drop M) j = secOf b m := by rw [← hmx, ← hM, ← HH.out.2.2.2]; exact pad_sec b m
            rw [hps] at e1
            have hj64 : ¬ (j : Int) < 64 := by omega
            obtain ⟨hI, hF, hNf⟩ := HI.out
            obtain ⟨hf, hhf⟩ : ∃ hf, (d.las.length - 2) / 2 = hf := ⟨_, rfl⟩
            obtain ⟨V0, hV0⟩ : ∃ V0, wr.drew = V0 := ⟨_, rfl⟩
            have D0 : Below wo.heap.size wo V0 := hbw.trans (by rw [← hV0]; exact (Below.refl _ _).drew)
            have hT0 := hI.below D0
            have fx0 : V0.heap[wo.heap.size]? = some (.cells (secA (secOf b m)) 61) := by rw [← hV0]; exact e1
            have hx0 : wo.heap.size < V0.heap.size := hp_lt fx0
            have hxo : ¬ foot p vl1 vw1 wo.heap.size := fun hf => by have := (hI.dev.lt hf).2; omega
            have hq0 : q < V0.heap.size := hp_lt hT0.here
            have hqo := hT0.off
            have hlas : (putK d 1 b m).las.length = d.las.length := by rw [putK_las]
            have hwl := putK_wr d 1 b m
            have hokm : DvOk (putK d 1 b m) := putK_ok HH.out.2.1 (by omega) b h2 m (by omega) (by omega)
            have hhfc := rhalf_any base q p _ vl1 vw1 V0 hT0 (by rw [hlas]; exact h2) (by rw [hlas]; exact h3)
            rw [hlas, hhf] at hhfc
            have HHf := hide hhfc
            have hwr := rwrite_any base p _ vl1 vw1 ((2 + 1 * hf) + m) (secOf b m) V0 hT0.dev hokm (by omega) (by rw [hlas]; omega) (secOf_len b m) (by omega)
            rw [show dvWrite (putK d 1 b m) ((2 + 1 * hf) + m) (secOf b m) = putK d 1 b (m + 1) by rw [putK, hhf]] at hwr
            have HWr := hide hwr
            have HD0 := hide D0
            have hfb : hf ≤ 4096 := by omega
            clear hhfc hwr e1 hbw hmx hN hM hps D0
            go_wp2_with fail
            refine region_rel (S := fun W => ∀ j, j < V0.heap.size → ¬ foot p vl1 vw1 j → W.heap[j]? = V0.heap[j]?) (fun a W => ∃ xx : Nat → Value, (ToR base p vl1 vw1 (putK d 1 b (m + 1)) V0 W) ∧ a = { tmps := #[.pointer (some ⟨q, 0, none⟩), .slice (some ⟨bb, bo, none⟩) ln cap, .bool false, .int .i64 wri, undef, undef, undef, undef, .int .i64 0, v, .int .u64 tt.toNat, .int .i64 1, .int .i64 m, .int .i64 m, xx 14, xx 15, .tuple #[.int .i64 0, v, .int .u64 tt.toNat], .pointer (some ⟨q, 0, none⟩), .tuple #[.int .i64 0, v, .int .u64 tt.toNat], .int .i64 0, v, .int .u64 tt.toNat, .int .i64 0, .bool true, xx 24, xx 25, xx 26, xx 27, xx 28, xx 29, xx 30, xx 31, xx 32, xx 33, xx 34, xx 35, xx 36, xx 37, xx 38, xx 39, xx 40, xx 41, xx 42, xx 43, xx 44, xx 45, xx 46, xx 47, xx 48, xx 49, xx 50, xx 51, xx 52, xx 53, xx 54, xx 55, xx 56, xx 57, xx 58, xx 59, xx 60, xx 61, xx 62, xx 63, xx 64, xx 65, xx 66, xx 67, xx 68, xx 69, xx 70, xx 71, xx 72, xx 73, undef, undef, undef, undef, undef, undef, undef, undef, undef, undef, undef, undef, undef, undef, undef, undef, undef, undef, undef, undef, undef, undef, undef, undef, undef, undef, undef, undef], defers := [] }) (by kernel_rfl) ?reg ?beh
            case reg =>
              rw [hV0]
              have SV0 : ∀ j, j < V0.heap.size → ¬ foot p vl1 vw1 j → V0.heap[j]? = V0.heap[j]? := fun _ _ _ => rfl
              refine anyH_take (i := 0) (v := .pointer (some ⟨q, 0, none⟩)) rfl (some 59) rfl (by kernel_rfl) (by kernel_rfl) (by kernel_rfl) (fun _ _ _ h => by cases h.1) rfl (fun w0 hw0 => by first | rfl | kernel_rfl) SV0 ?_
              simp only [Act.put, List.setIfInBounds_toArray, List.set_cons_zero, List.set_cons_succ]
              refine anyH_take (i := 1) (v := .pointer (some ⟨q, 0, none⟩)) rfl (some 60) rfl (by kernel_rfl) (by kernel_rfl) (by kernel_rfl) (fun _ _ _ h => by cases h.1) rfl (fun w0 hw0 => by first | rfl | kernel_rfl) SV0 ?_
              simp only [Act.put, List.setIfInBounds_toArray, List.set_cons_zero, List.set_cons_succ]
              refine anyH_take (i := 2) (v := .pointer (some ⟨q, 0, none⟩)) rfl (some 61) rfl (by kernel_rfl) (by kernel_rfl) (by kernel_rfl) (fun _ _ _ h => by cases h.1) rfl (fun w0 hw0 => by first | rfl | kernel_rfl) SV0 ?_
              simp only [Act.put, List.setIfInBounds_toArray, List.set_cons_zero, List.set_cons_succ]
              refine anyH_take (i := 3) (v := .pointer (some ⟨p, 0, none⟩)) rfl (some 62) rfl (by kernel_rfl) (by kernel_rfl) (by kernel_rfl) (fun _ _ _ h => by cases h.1) rfl (fun w0 hw0 => ex_load rfl rfl (run_load_cell Try.underlying55 rfl (by have := (hw0 q hq0 hqo).trans hT0.here; simp [World.cell?, this]))) SV0 ?_
              simp only [Act.put, List.setIfInBounds_toArray, List.set_cons_zero, List.set_cons_succ]
              refine anyH_take (i := 4) (v := .int .i64 1) rfl (some 63) rfl (by kernel_rfl) (by kernel_rfl) (by kernel_rfl) (fun _ _ _ h => by cases h.1) rfl (fun w0 hw0 => by first | rfl | kernel_rfl) SV0 ?_
              simp only [Act.put, List.setIfInBounds_toArray, List.set_cons_zero, List.set_cons_succ]
              refine anyH_take (i := 5) (v := .pointer (some ⟨q, 0, none⟩)) rfl (some 64) rfl (by kernel_rfl) (by kernel_rfl) (by kernel_rfl) (fun _ _ _ h => by cases h.1) rfl (fun w0 hw0 => by first | rfl | kernel_rfl) SV0 ?_
              simp only [Act.put, List.setIfInBounds_toArray, List.set_cons_zero, List.set_cons_succ]
              refine anyH_take (i := 9) (v := .int .i64 m) rfl (some 68) rfl (by kernel_rfl) (by kernel_rfl) (by kernel_rfl) (fun _ _ _ h => by cases h.1) rfl (fun w0 hw0 => by first | rfl | kernel_rfl) SV0 ?_
              simp only [Act.put, List.setIfInBounds_toArray, List.set_cons_zero, List.set_cons_succ]
              refine anyH_take (i := 11) (v := .agg (secA (secOf b m))) rfl (some 70) rfl (by kernel_rfl) (by kernel_rfl) (by kernel_rfl) (fun _ _ _ h => by cases h.1) rfl (fun w0 hw0 => ex_load rfl rfl (run_load_row infoSecR undSecR rfl (by rw [secA_size, secOf_len]) ((hw0 _ hx0 hxo).trans fx0))) SV0 ?_
              simp only [Act.put, List.setIfInBounds_toArray, List.set_cons_zero, List.set_cons_succ]
              refine anyH_one (i := 6) (by kernel_rfl) ?_
              refine op_call rfl (some 65) rfl rfl #[.pointer (some ⟨q, 0, none⟩)] rfl (by simp [Act.eval]) (fun _ _ => rfl) HHf.out ?_
              rintro e V1 ⟨rfl, eV1⟩
              rw [eV1]
              refine ⟨_, rfl, SV0, ?_⟩
              simp only [Act.put, List.setIfInBounds_toArray, List.set_cons_zero, List.set_cons_succ]
              refine anyH_take (i := 7) (v := .int .i64 ((1 * hf : Nat))) rfl (some 66) rfl (by kernel_rfl) (by kernel_rfl) (by kernel_rfl) (fun _ _ _ h => by cases h.1) rfl (fun w0 hw0 => ex_mulN (m := 1) rfl rfl rfl (by omega)) SV0 ?_
              simp only [Act.put, List.setIfInBounds_toArray, List.set_cons_zero, List.set_cons_succ]
              refine anyH_take (i := 8) (v := .int .i64 ((2 + 1 * hf : Nat))) rfl (some 67) rfl (by kernel_rfl) (by kernel_rfl) (by kernel_rfl) (fun _ _ _ h => by cases h.1) rfl (fun w0 hw0 => ex_addN (m := 2) rfl rfl rfl (by omega)) SV0 ?_
              simp only [Act.put, List.setIfInBounds_toArray, List.set_cons_zero, List.set_cons_succ]
              refine anyH_take (i := 10) (v := .int .i64 (((2 + 1 * hf) + m : Nat))) rfl (some 69) rfl (by kernel_rfl) (by kernel_rfl) (by kernel_rfl) (fun _ _ _ h => by cases h.1) rfl (fun w0 hw0 => ex_addN rfl rfl rfl (by omega)) SV0 ?_
              simp only [Act.put, List.setIfInBounds_toArray, List.set_cons_zero, List.set_cons_succ]
              refine anyH_one (i := 12) (by kernel_rfl) ?_
              refine op_call rfl (some 71) rfl rfl #[.pointer (some ⟨p, 0, none⟩), .int .i64 (((2 + 1 * hf) + m : Nat)), .agg (secA (secOf b m))] rfl (by simp [Act.eval]) (fun _ _ => rfl) HWr.out ?_
              rintro e V2 ⟨rfl, t2⟩
              refine ⟨_, rfl, (fun j hj hn => by obtain ⟨_, _, _, k2, _⟩ := t2; exact k2.same j hj hn), ?_⟩
              simp only [Act.put, List.setIfInBounds_toArray, List.set_cons_zero, List.set_cons_succ]
              exact wpAnyH_done (by kernel_rfl) ⟨rfl, fill (t2) (by kernel_rfl)⟩ _
            case beh =>
              rintro a' W' ⟨xx, t3, rfl⟩
              have H3 := hide (TTo.then hI hF hNf hb HD0.out t3)
              clear t3 hI hF hNf hT0 fx0 hx0 hxo hq0 hqo hokm hV0 hlas hwl hhf HWr HHf HD0
              go_wp2_with fail
              go_roundw
              case rel => exact ⟨m + 1, by omega, by simp, by simp, H3.out⟩
              case measure => simp [intOf]; omega
          · obtain rfl : j = mx := by omega
            have hps : padS (b.drop M) j = secOf b m := by rw [← hmx, ← hM, ← HH.out.2.2.2]; exact pad_sec b m
            rw [hps] at e1
            have hj64 : (j : Int) < 64 := by omega
            have hNl : ¬ (N : Int) < ln := by omega
            obtain ⟨hI, hF, hNf⟩ := HI.out
            obtain ⟨hf, hhf⟩ : ∃ hf, (d.las.length - 2) / 2 = hf := ⟨_, rfl⟩
            obtain ⟨V0, hV0⟩ : ∃ V0, wr.drew = V0 := ⟨_, rfl⟩
            have D0 : Below wo.heap.size wo V0 := hbw.trans (by rw [← hV0]; exact (Below.refl _ _).drew)
            have hT0 := hI.below D0
            have fx0 : V0.heap[wo.heap.size]? = some (.cells (secA (secOf b m)) 61) := by rw [← hV0]; exact e1
            have hx0 : wo.heap.size < V0.heap.size := hp_lt fx0
            have hxo : ¬ foot p vl1 vw1 wo.heap.size := fun hf => by have := (hI.dev.lt hf).2; omega
            have hq0 : q < V0.heap.size := hp_lt hT0.here
            have hqo := hT0.off
            have hlas : (putK d 1 b m).las.length = d.las.length := by rw [putK_las]
            have hwl := putK_wr d 1 b m
            have hokm : DvOk (putK d 1 b m) := putK_ok HH.out.2.1 (by omega) b h2 m (by omega) (by omega)
            have hhfc := rhalf_any base q p _ vl1 vw1 V0 hT0 (by rw [hlas]; exact h2) (by rw [hlas]; exact h3)
            rw [hlas, hhf] at hhfc
            have HHf := hide hhfc
            have hwr := rwrite_any base p _ vl1 vw1 ((2 + 1 * hf) + m) (secOf b m) V0 hT0.dev hokm (by omega) (by rw [hlas]; omega) (secOf_len b m) (by omega)
            rw [show dvWrite (putK d 1 b m) ((2 + 1 * hf) + m) (secOf b m) = putK d 1 b (m + 1) by rw [putK, hhf]] at hwr
            have HWr := hide hwr
            have HD0 := hide D0
            have hfb : hf ≤ 4096 := by omega
            clear hhfc hwr e1 hbw hmx hN hM hps D0
            go_wp2_with fail
            refine region_rel (S := fun W => ∀ j, j < V0.heap.size → ¬ foot p vl1 vw1 j → W.heap[j]? = V0.heap[j]?) (fun a W => ∃ xx : Nat → Value, (ToR base p vl1 vw1 (putK d 1 b (m + 1)) V0 W) ∧ a = { tmps := #[.pointer (some ⟨q, 0, none⟩), .slice (some ⟨bb, bo, none⟩) ln cap, .bool false, .int .i64 wri, undef, undef, undef, undef, .int .i64 0, v, .int .u64 tt.toNat, .int .i64 1, .int .i64 m, .int .i64 m, xx 14, xx 15, .tuple #[.int .i64 0, v, .int .u64 tt.toNat], .pointer (some ⟨q, 0, none⟩), .tuple #[.int .i64 0, v, .int .u64 tt.toNat], .int .i64 0, v, .int .u64 tt.toNat, .int .i64 0, .bool true, xx 24, xx 25, xx 26, xx 27, xx 28, xx 29, xx 30, xx 31, xx 32, xx 33, xx 34, xx 35, xx 36, xx 37, xx 38, xx 39, xx 40, xx 41, xx 42, xx 43, xx 44, xx 45, xx 46, xx 47, xx 48, xx 49, xx 50, xx 51, xx 52, xx 53, xx 54, xx 55, xx 56, xx 57, xx 58, xx 59, xx 60, xx 61, xx 62, xx 63, xx 64, xx 65, xx 66, xx 67, xx 68, xx 69, xx 70, xx 71, xx 72, xx 73, undef, undef, undef, undef, undef, undef, undef, undef, undef, undef, undef, undef, undef, undef, undef, undef, undef, undef, undef, undef, undef, undef, undef, undef, undef, undef, undef, undef], defers := [] }) (by kernel_rfl) ?reg ?beh
            case reg =>
              rw [hV0]
              have SV0 : ∀ j, j < V0.heap.size → ¬ foot p vl1 vw1 j → V0.heap[j]? = V0.heap[j]? := fun _ _ _ => rfl
              refine anyH_take (i := 0) (v := .pointer (some ⟨q, 0, none⟩)) rfl (some 59) rfl (by kernel_rfl) (by kernel_rfl) (by kernel_rfl) (fun _ _ _ h => by cases h.1) rfl (fun w0 hw0 => by first | rfl | kernel_rfl) SV0 ?_
              simp only [Act.put, List.setIfInBounds_toArray, List.set_cons_zero, List.set_cons_succ]
              refine anyH_take (i := 1) (v := .pointer (some ⟨q, 0, none⟩)) rfl (some 60) rfl (by kernel_rfl) (by kernel_rfl) (by kernel_rfl) (fun _ _ _ h => by cases h.1) rfl (fun w0 hw0 => by first | rfl | kernel_rfl) SV0 ?_
              simp only [Act.put, List.setIfInBounds_toArray, List.set_cons_zero, List.set_cons_succ]
              refine anyH_take (i := 2) (v := .pointer (some ⟨q, 0, none⟩)) rfl (some 61) rfl (by kernel_rfl) (by kernel_rfl) (by kernel_rfl) (fun _ _ _ h => by cases h.1) rfl (fun w0 hw0 => by first | rfl | kernel_rfl) SV0 ?_
              simp only [Act.put, List.setIfInBounds_toArray, List.set_cons_zero, List.set_cons_succ]
              refine anyH_take (i := 3) (v := .pointer (some ⟨p, 0, none⟩)) rfl (some 62) rfl (by kernel_rfl) (by kernel_rfl) (by kernel_rfl) (fun _ _ _ h => by cases h.1) rfl (fun w0 hw0 => ex_load rfl rfl (run_load_cell Try.underlying55 rfl (by have := (hw0 q hq0 hqo).trans hT0.here; simp [World.cell?, this]))) SV0 ?_
              simp only [Act.put, List.setIfInBounds_toArray, List.set_cons_zero, List.set_cons_succ]
              refine anyH_take (i := 4) (v := .int .i64 1) rfl (some 63) rfl (by kernel_rfl) (by kernel_rfl) (by kernel_rfl) (fun _ _ _ h => by cases h.1) rfl (fun w0 hw0 => by first | rfl | kernel_rfl) SV0 ?_
              simp only [Act.put, List.setIfInBounds_toArray, List.set_cons_zero, List.set_cons_succ]
              refine anyH_take (i := 5) (v := .pointer (some ⟨q, 0, none⟩)) rfl (some 64) rfl (by kernel_rfl) (by kernel_rfl) (by kernel_rfl) (fun _ _ _ h => by cases h.1) rfl (fun w0 hw0 => by first | rfl | kernel_rfl) SV0 ?_
              simp only [Act.put, List.setIfInBounds_toArray, List.set_cons_zero, List.set_cons_succ]
              refine anyH_take (i := 9) (v := .int .i64 m) rfl (some 68) rfl (by kernel_rfl) (by kernel_rfl) (by kernel_rfl) (fun _ _ _ h => by cases h.1) rfl (fun w0 hw0 => by first | rfl | kernel_rfl) SV0 ?_
              simp only [Act.put, List.setIfInBounds_toArray, List.set_cons_zero, List.set_cons_succ]
              refine anyH_take (i := 11) (v := .agg (secA (secOf b m))) rfl (some 70) rfl (by kernel_rfl) (by kernel_rfl) (by kernel_rfl) (fun _ _ _ h => by cases h.1) rfl (fun w0 hw0 => ex_load rfl rfl (run_load_row infoSecR undSecR rfl (by rw [secA_size, secOf_len]) ((hw0 _ hx0 hxo).trans fx0))) SV0 ?_
              simp only [Act.put, List.setIfInBounds_toArray, List.set_cons_zero, List.set_cons_succ]
              refine anyH_one (i := 6) (by kernel_rfl) ?_
              refine op_call rfl (some 65) rfl rfl #[.pointer (some ⟨q, 0, none⟩)] rfl (by simp [Act.eval]) (fun _ _ => rfl) HHf.out ?_
              rintro e V1 ⟨rfl, eV1⟩
              rw [eV1]
              refine ⟨_, rfl, SV0, ?_⟩
              simp only [Act.put, List.setIfInBounds_toArray, List.set_cons_zero, List.set_cons_succ]
              refine anyH_take (i := 7) (v := .int .i64 ((1 * hf : Nat))) rfl (some 66) rfl (by kernel_rfl) (by kernel_rfl) (by kernel_rfl) (fun _ _ _ h => by cases h.1) rfl (fun w0 hw0 => ex_mulN (m := 1) rfl rfl rfl (by omega)) SV0 ?_
              simp only [Act.put, List.setIfInBounds_toArray, List.set_cons_zero, List.set_cons_succ]
              refine anyH_take (i := 8) (v := .int .i64 ((2 + 1 * hf : Nat))) rfl (some 67) rfl (by kernel_rfl) (by kernel_rfl) (by kernel_rfl) (fun _ _ _ h => by cases h.1) rfl (fun w0 hw0 => ex_addN (m := 2) rfl rfl rfl (by omega)) SV0 ?_
              simp only [Act.put, List.setIfInBounds_toArray, List.set_cons_zero, List.set_cons_succ]
              refine anyH_take (i := 10) (v := .int .i64 (((2 + 1 * hf) + m : Nat))) rfl (some 69) rfl (by kernel_rfl) (by kernel_rfl) (by kernel_rfl) (fun _ _ _ h => by cases h.1) rfl (fun w0 hw0 => ex_addN rfl rfl rfl (by omega)) SV0 ?_
              simp only [Act.put, List.setIfInBounds_toArray, List.set_cons_zero, List.set_cons_succ]
              refine anyH_one (i := 12) (by kernel_rfl) ?_
              refine op_call rfl (some 71) rfl rfl #[.pointer (some ⟨p, 0, none⟩), .int .i64 (((2 + 1 * hf) + m : Nat)), .agg (secA (secOf b m))] rfl (by simp [Act.eval]) (fun _ _ => rfl) HWr.out ?_
              rintro e V2 ⟨rfl, t2⟩
              refine ⟨_, rfl, (fun j hj hn => by obtain ⟨_, _, _, k2, _⟩ := t2; exact k2.same j hj hn), ?_⟩
              simp only [Act.put, List.setIfInBounds_toArray, List.set_cons_zero, List.set_cons_succ]
              exact wpAnyH_done (by kernel_rfl) ⟨rfl, fill (t2) (by kernel_rfl)⟩ _
            case beh =>
              rintro a' W' ⟨xx, t3, rfl⟩
              have H3 := hide (TTo.then hI hF hNf hb HD0.out t3)
              clear t3 hI hF hNf hT0 fx0 hx0 hxo hq0 hqo hokm hV0 hlas hwl hhf HWr HHf HD0
              go_wp2_with fail
              go_roundw
              case rel => exact ⟨m + 1, by omega, by simp, by simp, H3.out⟩
              case measure => simp [intOf]; omega
    · have hltM : ¬ (M : Int) < ln := by omega
      have hmc : cn = m := by omega
      obtain ⟨vl1, vw1, hI, hF, hNf⟩ := HTT.out
      have hwl := putK_wr d 1 b m
      have hokm : DvOk (putK d 1 b m) := putK_ok HH.out.2.1 (by omega) b h2 m (by omega) (by omega)
      have sw := hF.below.size
      have HSy := hide (rsync_any base p _ vl1 vw1 wo hI.dev hokm (by omega))
      have c1 := hI.cell
      have HI := hide (And.intro hI (And.intro hF hNf))
      clear hI hF hNf
      go_wp2_with (go_at_call 71; refine HSy.out.mono ?_; rintro e w2 ⟨rfl, t2⟩; refine stopHere ?_)
      unfold Hid
      obtain ⟨hI, hF, hNf⟩ := HI.out
      have hT2 := TTo.then hI hF hNf hb (Below.refl _ _) t2
      obtain ⟨vl2, vw2, hI2, hF2, hN2⟩ := hT2
      have sw2 := hF2.below.size
      have hokS : DvOk (settled (putK d 1 b m) fun _ => true) := settled_ok hokm _
      have hlS : (settled (putK d 1 b m) fun _ => true).las.length = d.las.length := by show (landAt _ _ _).length = _; rw [landAt_len, putK_las]
      obtain ⟨V0, hV0⟩ : ∃ V0, w2.drew = V0 := ⟨_, rfl⟩
      have D0 : Below w2.heap.size w2 V0 := by rw [← hV0]; exact (Below.refl _ _).drew
      have hT0 := hI2.below D0
      have hq0 : q < V0.heap.size := hp_lt hT0.here
      have hqo := hT0.off
      have sV := D0.size
      obtain ⟨Y, hY⟩ : ∃ Y, rootS (tt + 1#64) (BitVec.ofNat 32 ln) (crcL b) = Y := ⟨_, rfl⟩
      have lY : Y.length = 64 := by rw [← hY]; exact (root_lens _ _ _).2.2.2
      have hro := rroot_any ba b ln cap (tt + 1#64) V0 (fun j c hj => by
        obtain ⟨g, o, e1, e2, e3⟩ := HH.out.2.2.1.below (hF2.below.trans (D0.mono (by omega))) j c hj
        exact ⟨g, o, e1, by omega, e3⟩) HH.out.2.2.2 (by omega)
      rw [hY] at hro
      have HRo := hide hro
      obtain ⟨D2, hD2⟩ : ∃ D2, dvWrite (settled (putK d 1 b m) fun _ => true) 1 Y = D2 := ⟨_, rfl⟩
      have hDp : ∀ x : Int, ((ln + 63) / 64 : Nat) < x → putT d 1 tt b x = D2 := fun x hx => by
        unfold putT
        rw [HH.out.2.2.2, if_neg (by omega), ← hD2, ← hY, hcn, hmc]
      have HD0 := hide D0
      have HDP := hide hDp
      clear hro t2 D0 hcn hDp
      go_wp2_with fail
      refine region_rel (S := fun W => ∀ j, j < V0.heap.size → ¬ foot p vl2 vw2 j → W.heap[j]? = V0.heap[j]?) (fun a W => ∃ xx : Nat → Value, (TTo base q p vl vw D2 w W) ∧ a = { tmps := #[.pointer (some ⟨q, 0, none⟩), xx 1, .bool false, xx 3, xx 4, xx 5, xx 6, xx 7, xx 8, xx 9, xx 10, xx 11, xx 12, xx 13, xx 14, xx 15, xx 16, xx 17, xx 18, xx 19, xx 20, xx 21, xx 22, xx 23, xx 24, xx 25, xx 26, xx 27, xx 28, xx 29, xx 30, xx 31, xx 32, xx 33, xx 34, xx 35, xx 36, xx 37, xx 38, xx 39, xx 40, xx 41, xx 42, xx 43, xx 44, xx 45, xx 46, xx 47, xx 48, xx 49, xx 50, xx 51, xx 52, xx 53, xx 54, xx 55, xx 56, xx 57, xx 58, xx 59, xx 60, xx 61, xx 62, xx 63, xx 64, xx 65, xx 66, xx 67, xx 68, xx 69, xx 70, xx 71, xx 72, xx 73, xx 74, xx 75, xx 76, xx 77, xx 78, xx 79, xx 80, xx 81, xx 82, xx 83, xx 84, xx 85, xx 86, xx 87, xx 88, xx 89, xx 90, xx 91, xx 92, xx 93, xx 94, xx 95, xx 96, xx 97, xx 98, xx 99, xx 100, xx 101], defers := [] }) (by kernel_rfl) ?rg2 ?bh2
      case rg2 =>
        rw [hV0]
        have SV0 : ∀ j, j < V0.heap.size → ¬ foot p vl2 vw2 j → V0.heap[j]? = V0.heap[j]? := fun _ _ _ => rfl
        refine anyH_take (i := 0) (v := .pointer (some ⟨q, 0, none⟩)) rfl (some 85) rfl (by kernel_rfl) (by kernel_rfl) (by kernel_rfl) (fun _ _ _ h => by cases h.1) rfl (fun w0 hw0 => by first | rfl | kernel_rfl) SV0 ?_
        simp only [Act.put, List.setIfInBounds_toArray, List.set_cons_zero, List.set_cons_succ]
        refine anyH_take (i := 1) (v := .pointer (some ⟨q, 0, none⟩)) rfl (some 86) rfl (by kernel_rfl) (by kernel_rfl) (by kernel_rfl) (fun _ _ _ h => by cases h.1) rfl (fun w0 hw0 => by first | rfl | kernel_rfl) SV0 ?_
        simp only [Act.put, List.setIfInBounds_toArray, List.set_cons_zero, List.set_cons_succ]
        refine anyH_take (i := 2) (v := .pointer (some ⟨q, 0, none⟩)) rfl (some 87) rfl (by kernel_rfl) (by kernel_rfl) (by kernel_rfl) (fun _ _ _ h => by cases h.1) rfl (fun w0 hw0 => by first | rfl | kernel_rfl) SV0 ?_
        simp only [Act.put, List.setIfInBounds_toArray, List.set_cons_zero, List.set_cons_succ]
        refine anyH_take (i := 3) (v := .pointer (some ⟨p, 0, none⟩)) rfl (some 88) rfl (by kernel_rfl) (by kernel_rfl) (by kernel_rfl) (fun _ _ _ h => by cases h.1) rfl (fun w0 hw0 => ex_load rfl rfl (run_load_cell Try.underlying55 rfl (by have := (hw0 q hq0 hqo).trans hT0.here; simp [World.cell?, this]))) SV0 ?_
        simp only [Act.put, List.setIfInBounds_toArray, List.set_cons_zero, List.set_cons_succ]
        refine anyH_take (i := 4) (v := .int .i64 1) rfl (some 89) rfl (by kernel_rfl) (by kernel_rfl) (by kernel_rfl) (fun _ _ _ h => by cases h.1) rfl (fun w0 hw0 => by first | rfl | kernel_rfl) SV0 ?_
        simp only [Act.put, List.setIfInBounds_toArray, List.set_cons_zero, List.set_cons_succ]
        refine anyH_take (i := 5) (v := .slice ba ln cap) rfl (some 90) rfl (by kernel_rfl) (by kernel_rfl) (by kernel_rfl) (fun _ _ _ h => by cases h.1) rfl (fun w0 hw0 => by first | rfl | kernel_rfl) SV0 ?_
        simp only [Act.put, List.setIfInBounds_toArray, List.set_cons_zero, List.set_cons_succ]
        refine anyH_take (i := 6) (v := .int .u64 tt.toNat) rfl (some 91) rfl (by kernel_rfl) (by kernel_rfl) (by kernel_rfl) (fun _ _ _ h => by cases h.1) rfl (fun w0 hw0 => by first | rfl | kernel_rfl) SV0 ?_
        simp only [Act.put, List.setIfInBounds_toArray, List.set_cons_zero, List.set_cons_succ]
        refine anyH_take (i := 7) (v := .int .u64 (tt + 1#64).toNat) rfl (some 92) rfl (by kernel_rfl) (by kernel_rfl) (by kernel_rfl) (fun _ _ _ h => by cases h.1) rfl (fun w0 hw0 => ex_incU rfl rfl) SV0 ?_
        simp only [Act.put, List.setIfInBounds_toArray, List.set_cons_zero, List.set_cons_succ]
        refine anyH_one (i := 8) (by kernel_rfl) ?_
        refine op_call rfl (some 93) rfl rfl #[.slice ba ln cap, .int .u64 (tt + 1#64).toNat] rfl (by simp [Act.eval]) (fun _ _ => rfl) HRo.out ?_
        rintro e V1 ⟨rfl, b1⟩
        have SV1 : ∀ j, j < V0.heap.size → ¬ foot p vl2 vw2 j → V1.heap[j]? = V0.heap[j]? := fun j hj _ => b1.block j hj
        refine ⟨_, rfl, SV1, ?_⟩
        simp only [Act.put, List.setIfInBounds_toArray, List.set_cons_zero, List.set_cons_succ]
        have hwr := rwrite_any base p _ vl2 vw2 1 Y V1 (hT0.below b1).dev hokS (by have := b1.size; omega) (by rw [hlS]; omega) lY (by show 0 < 1000000; omega)
        refine anyH_one (i := 9) (by kernel_rfl) ?_
        refine op_call rfl (some 94) rfl rfl #[.pointer (some ⟨p, 0, none⟩), .int .i64 1, .agg (secA Y)] rfl (by simp [Act.eval]) (fun _ _ => rfl) hwr ?_
        rintro e V2 ⟨rfl, t2⟩
        refine ⟨_, rfl, (fun j hj hn => by obtain ⟨_, _, _, k2, _⟩ := id t2; exact (k2.same j (Nat.lt_of_lt_of_le hj b1.size) hn).trans (SV1 j hj hn)), ?_⟩
        simp only [Act.put, List.setIfInBounds_toArray, List.set_cons_zero, List.set_cons_succ]
        exact wpAnyH_done (by kernel_rfl) ⟨rfl, fill (by rw [← hD2]; exact TTo.then hI2 hF2 hN2 hb (HD0.out.trans (b1.mono HD0.out.size)) t2) (by kernel_rfl)⟩ _
      case bh2 =>
        rintro a' W' ⟨xx, t3, rfl⟩
        obtain ⟨vl3, vw3, hI3, hF3, hN3⟩ := t3
        have c3 := hI3.cell
        have sw3 := hF3.below.size
        have hok3 : DvOk D2 := by rw [← hD2]; exact dvWrite_ok hokS (by rw [hlS]; omega) lY (by show 0 < 1000000; omega)
        have HS3 := hide (rsync_any base p _ vl3 vw3 W' hI3.dev hok3 (by omega))
        have HI3 := hide (And.intro hI3 (And.intro hF3 hN3))
        clear hI hF hNf hI2 hF2 hN2 hT0 hq0 hqo hokm hokS hV0 hlS hwl hY hD2 HRo hI3 hF3 hN3 hok3
        go_wp2_with (go_at_call 71; refine HS3.out.mono ?_; rintro e w4 ⟨rfl, t4⟩; have H4 := hide (TTo.then HI3.out.1 HI3.out.2.1 HI3.out.2.2 hb (Below.refl _ _) t4); clear t4)
        have hDD : D = settled D2 fun _ => true := by
          rw [← HD.out]
          unfold saveD
          rw [HTS.out.1, HTS.out.2, HNX.out, HDP.out 9223372036854775807 (by omega)]
        first | exact bodyPost_ret (results_none rfl _ _ _) rfl ⟨⟨_, rfl⟩, by rw [hDD]; exact H4.out⟩ | exact bodyPost_end (results_none rfl _ _ _) rfl ⟨⟨_, rfl⟩, by rw [hDD]; exact H4.out⟩
end Go.Proofs.Ytfknjmfkkaoggaa
