/- Slots: Torn. -/
import Derived.Test.YtfknjmfkkaoggaaS16
namespace Go.Proofs.Ytfknjmfkkaoggaa
open Go.RowKit Go.Shelf

/-- The device behind Torn. -/
def tornD (d : Dv) (l : List UInt8) (wri : Int) (sv : List Bool) : Dv := settled (putT d (1 - (theL d).slot) (theL d).turn l wri) (svOf sv)
set_option maxRecDepth 100000 in
set_option maxHeartbeats 4000000 in
theorem torn_full (base q p : Nat) (d : Dv) (vl vw : Value) (ba ao : Option Addr) (wri : Int) (sv : List Bool) (cv : Nat) (ln cap : Nat) (w : World) (h : IsS base q p d vl vw w) (hd : DvOk d) (hb : base ≤ w.heap.size) (h2 : 4 ≤ d.las.length) (h3 : d.las.length ≤ 4096) (hln : ln ≤ 9223372036854775807) (hf : Full d ln) :
    Calls Try.prog 24 #[.pointer (some ⟨q, 0, none⟩), .slice ba ln cap, .int .i64 wri, .slice ao sv.length cv] w fun e w' => e = .returned (.int .i64 4) ∧ STo base q p vl vw d w w' := by
  have hR := ready_any base q p d vl vw ba ln cap w h hd h2 h3 hln
  have hR2 := hR.mono (R' := fun e w' => e = .returned (.tuple #[.agg #[.int .i64 0, .int .u64 0, .slice none 0 0], .int .i64 4]) ∧ Below w.heap.size w w') (by
    rintro e w' ⟨⟨_, he⟩ | ⟨hn, _⟩, hB⟩
    · exact ⟨he, hB⟩
    · exact absurd hf hn)
  have HR := hide hR2
  have HH := hide h
  clear hR hR2 h hd hf
  go_enter Try.func24, Try.ntmps24
  go_wp2_with (first
    | (go_at_call 45; refine HR.out.mono ?_; rintro e w3 ⟨rfl, b3⟩; refine stopHere ?_))
  unfold Hid
  have HS4 := hide (run_store_new (P := Try.prog) infoHeld w3 (cs := #[.int .i64 0, .int .u64 0, .slice none 0 0]) (c := #[.int .i64 0, .int .u64 0, .slice none 0 0]) rfl rfl (by simp [Value.oneCell']))
  have HB := hide (show Below w.heap.size w (w3.alloc (.cells #[.int .i64 0, .int .u64 0, .slice none 0 0] 77)) from b3.alloc b3.size _)
  clear b3
  go_wp2_with (first
    | (refine l_store 77 HS4.out rfl rfl rfl rfl ?_)
    | (refine l_alloc 77 infoHeld rfl rfl ?_))
  go_ret
  exact ⟨rfl, HH.out.stay hb HB.out⟩
set_option maxRecDepth 100000 in
set_option maxHeartbeats 4000000 in
theorem torn_neg (base q p : Nat) (d : Dv) (vl vw : Value) (ba ao : Option Addr) (wri : Int) (sv : List Bool) (cv : Nat) (ln cap : Nat) (w : World) (h : IsS base q p d vl vw w) (hd : DvOk d) (hb : base ≤ w.heap.size) (h2 : 4 ≤ d.las.length) (h3 : d.las.length ≤ 4096) (hf : ¬ Full d ln) (hwn : wri < 0) :
    Calls Try.prog 24 #[.pointer (some ⟨q, 0, none⟩), .slice ba ln cap, .int .i64 wri, .slice ao sv.length cv] w fun e w' => e = .returned (.int .i64 2) ∧ STo base q p vl vw d w w' := by
  have hrm : ln ≤ (d.las.length - 2) / 2 * 64 := by
    unfold Full at hf
    omega
  have hR := ready_any base q p d vl vw ba ln cap w h hd h2 h3 (by omega)
  have hR2 := hR.mono (R' := fun e w' => ∃ ga gc, e = .returned (.tuple #[.agg #[.int .i64 (theL d).slot, .int .u64 (theL d).turn.toNat, .slice ga (theL d).bytes.length gc], .int .i64 0]) ∧ Below w.heap.size w w') (by
    rintro e w' ⟨⟨hn, _⟩ | ⟨_, ga, gc, he⟩, hB⟩
    · exact absurd hn hf
    · exact ⟨ga, gc, he, hB⟩)
  obtain ⟨ts, hts⟩ : ∃ x, (theL d).slot = x := ⟨_, rfl⟩
  obtain ⟨tt, htt⟩ : ∃ x, (theL d).turn = x := ⟨_, rfl⟩
  obtain ⟨nb, hnb⟩ : ∃ x, (theL d).bytes.length = x := ⟨_, rfl⟩
  rw [hts, htt, hnb] at hR2
  have HR := hide hR2
  have HH := hide (And.intro h hd)
  clear hR hR2 h hd hf hts htt hnb
  go_enter Try.func24, Try.ntmps24
  go_wp2_with (first
    | (go_at_call 45; refine HR.out.mono ?_; rintro e w3 ⟨ga, gc, rfl, b3⟩; refine stopHere ?_))
  unfold Hid
  have HS4 := hide (run_store_new (P := Try.prog) infoHeld w3 (cs := #[.int .i64 ts, .int .u64 tt.toNat, .slice ga nb gc]) (c := #[.int .i64 0, .int .u64 0, .slice none 0 0]) rfl rfl (by simp [Value.oneCell']))
  obtain ⟨W4, hW4, e4, c4, z4⟩ : ∃ W, w3.alloc (.cells #[.int .i64 ts, .int .u64 tt.toNat, .slice ga nb gc] 77) = W ∧ W.heap[w3.heap.size]? = some (.cells #[.int .i64 ts, .int .u64 tt.toNat, .slice ga nb gc] 77) ∧ Below w3.heap.size w3 W ∧ W.heap.size = w3.heap.size + 1 := ⟨_, rfl, World.alloc_heap_new _ _, (Below.refl _ _).alloc (Nat.le_refl _) _, by simp⟩
  have HB := hide (And.intro e4 (b3.trans (c4.mono b3.size)))
  clear b3 c4 e4
  go_wp2_with (first
    | (refine l_store 77 HS4.out rfl rfl rfl rfl ?_; rw [hW4])
    | (refine l_alloc 77 infoHeld rfl rfl ?_))
  go_ret
  exact ⟨rfl, HH.out.1.stay hb HB.out.2⟩
set_option maxRecDepth 100000 in
set_option maxHeartbeats 4000000 in
theorem torn_any (base q p : Nat) (d : Dv) (vl vw : Value) (ba ao : Option Addr) (wri : Int) (sv : List Bool) (cv : Nat) (l : List UInt8) (ln cap : Nat) (w : World) (h : IsS base q p d vl vw w) (hd : DvOk d) (hb : base ≤ w.heap.size) (h2 : 4 ≤ d.las.length) (h3 : d.las.length ≤ 4096) (hB : ByteMem w.heap.size w ba l) (hno : ∀ b o, l ≠ [] → ba = some ⟨b, o, none⟩ → b < w.heap.size ∧ ¬ foot p vl vw b) (hll : l.length = ln) (hc : ln ≤ cap) (hwf : d.wr.length + 5000 ≤ 1000000) (hf : ¬ Full d ln) (hwn : ¬ wri < 0) (hm : BoolMem w.heap.size w ao sv) (hmo : ∀ (j : Nat) (v : Bool) (b off : Nat), sv[j]? = some v → ao = some ⟨b, off, none⟩ → ¬ foot p vl vw b) :
    Calls Try.prog 24 #[.pointer (some ⟨q, 0, none⟩), .slice ba ln cap, .int .i64 wri, .slice ao sv.length cv] w fun e w' => e = .returned (.int .i64 0) ∧ STo base q p vl vw (tornD d l wri sv) w w' := by
  have hrm : ln ≤ (d.las.length - 2) / 2 * 64 := by
    unfold Full at hf
    omega
  have hR := ready_any base q p d vl vw ba ln cap w h hd h2 h3 (by omega)
  have hR2 := hR.mono (R' := fun e w' => ∃ ga gc, e = .returned (.tuple #[.agg #[.int .i64 (theL d).slot, .int .u64 (theL d).turn.toNat, .slice ga (theL d).bytes.length gc], .int .i64 0]) ∧ Below w.heap.size w w') (by
    rintro e w' ⟨⟨hn, _⟩ | ⟨_, ga, gc, he⟩, hB⟩
    · exact absurd hn hf
    · exact ⟨ga, gc, he, hB⟩)
  have hts1 : (theL d).slot ≤ 1 := best_slot d 2 (Nat.le_refl _)
  unfold tornD
  obtain ⟨ts, hts⟩ : ∃ x, (theL d).slot = x := ⟨_, rfl⟩
  obtain ⟨tt, htt⟩ : ∃ x, (theL d).turn = x := ⟨_, rfl⟩
  obtain ⟨nb, hnb⟩ : ∃ x, (theL d).bytes.length = x := ⟨_, rfl⟩
  rw [hts, htt, hnb] at hR2
  rw [hts, htt]
  rw [hts] at hts1
  obtain ⟨nx, hnx⟩ : ∃ nx, 1 - ts = nx := ⟨_, rfl⟩
  rw [hnx]
  have hPu := fun (V : World) (hV : Below w.heap.size w V) (vb : Value) => put_any base p d vl vw ts nx tt vb l ba ln cap wri V (h.below hV).dev hd (by have := hV.size; omega) h2 h3 (by omega) (by omega) (fun j v hj => by
    obtain ⟨b, o, e1, e2, e3⟩ := hB j v hj
    exact ⟨b, o, e1, by have := hV.size; omega, (hV.cell (p := ⟨b, _, none⟩) e2).trans e3⟩) (fun b o hne e => ⟨by have := (hno b o hne e).1; have := hV.size; omega, (hno b o hne e).2⟩) hll hc hrm hwf
  have HR := hide hR2
  have HP := hide hPu
  have HH := hide (And.intro h (And.intro hd (And.intro hm hmo)))
  clear hR hR2 hPu h hd hf hB hno hts htt hnb hm hmo
  go_enter Try.func24, Try.ntmps24
  go_wp2_with (first
    | (go_at_call 45; refine HR.out.mono ?_; rintro e w3 ⟨ga, gc, rfl, b3⟩; refine stopHere ?_))
  unfold Hid
  have HS4 := hide (run_store_new (P := Try.prog) infoHeld w3 (cs := #[.int .i64 ts, .int .u64 tt.toNat, .slice ga nb gc]) (c := #[.int .i64 0, .int .u64 0, .slice none 0 0]) rfl rfl (by simp [Value.oneCell']))
  obtain ⟨W4, hW4, e4, c4, z4⟩ : ∃ W, w3.alloc (.cells #[.int .i64 ts, .int .u64 tt.toNat, .slice ga nb gc] 77) = W ∧ W.heap[w3.heap.size]? = some (.cells #[.int .i64 ts, .int .u64 tt.toNat, .slice ga nb gc] 77) ∧ Below w3.heap.size w3 W ∧ W.heap.size = w3.heap.size + 1 := ⟨_, rfl, World.alloc_heap_new _ _, (Below.refl _ _).alloc (Nat.le_refl _) _, by simp⟩
  have hle3 : w.heap.size ≤ w3.heap.size := b3.size
  have HB := hide (And.intro e4 (b3.trans (c4.mono b3.size)))
  clear b3 c4 e4
  go_wp2_with (first
    | (refine l_store 77 HS4.out rfl rfl rfl rfl ?_; rw [hW4])
    | (refine l_alloc 77 infoHeld rfl rfl ?_))
  obtain ⟨h, hd, hm, hmo⟩ := HH.out
  obtain ⟨e4, b4⟩ := HB.out
  have hS4 := h.below b4
  have hqo := hS4.off
  have hq4 : q < W4.heap.size := hp_lt hS4.here
  have hw3 : w3.heap.size < W4.heap.size := hp_lt e4
  have h3o : ¬ foot p vl vw w3.heap.size := fun hf => by have := (h.dev.lt hf).2; have := b4.size; have := (hS4.dev.lt hf).2; have := hle3; omega
  obtain ⟨W5, hW5⟩ : ∃ W5, W4.drew = W5 := ⟨_, rfl⟩
  have b5 : Below W4.heap.size W4 W5 := by rw [← hW5]; exact (Below.refl _ _).drew
  have S0 : ∀ j, j < W4.heap.size → ¬ foot p vl vw j → W5.heap[j]? = W4.heap[j]? := fun j hj _ => b5.block j hj
  refine region_rel (S := fun w0 => ∀ j, j < W4.heap.size → ¬ foot p vl vw j → w0.heap[j]? = W4.heap[j]?) (fun a W' => ∃ v, a = ({ tmps := #[.pointer (some ⟨q, 0, none⟩), .slice ba ln cap, .int .i64 wri, .slice ao sv.length cv, undef, undef, undef, undef, .int .i64 0, .pointer (some ⟨w3.heap.size, 0, none⟩), .int .i64 0, .tuple #[.agg #[.int .i64 ts, .int .u64 tt.toNat, .slice ga nb gc], .int .i64 0], .pointer (some ⟨q, 0, none⟩), .slice ba ln cap, .tuple #[.agg #[.int .i64 ts, .int .u64 tt.toNat, .slice ga nb gc], .int .i64 0], .agg #[.int .i64 ts, .int .u64 tt.toNat, .slice ga nb gc], .int .i64 0, .int .i64 0, .bool false, undef, .int .i64 wri, .bool (decide (wri < 0)), .pointer (some ⟨q, 0, none⟩), .pointer (some ⟨q, 0, none⟩), .pointer (some ⟨q, 0, none⟩), .agg #[.pointer (some ⟨p, 0, none⟩)], .agg #[.int .i64 ts, .int .u64 tt.toNat, .slice ga nb gc], .slice ba ln cap, .int .i64 wri, v, undef, undef, undef, undef, undef, undef, undef], defers := [] } : Act) ∧ ToD base p vl vw (putT d nx tt l wri) W5 W') (by kernel_rfl) ?rg ?hq
  case rg =>
    rw [hW5]
    refine anyH_take (i := 0) (v := .pointer (some ⟨q, 0, none⟩)) rfl (some 22) rfl (by kernel_rfl) (by kernel_rfl) (by kernel_rfl) (fun _ _ _ h => by cases h.1) rfl (fun w0 hw0 => by first | rfl | kernel_rfl) S0 ?_
    simp only [Act.put, List.setIfInBounds_toArray, List.set_cons_zero, List.set_cons_succ]
    refine anyH_take (i := 1) (v := .pointer (some ⟨q, 0, none⟩)) rfl (some 23) rfl (by kernel_rfl) (by kernel_rfl) (by kernel_rfl) (fun _ _ _ h => by cases h.1) rfl (fun w0 hw0 => by first | rfl | kernel_rfl) S0 ?_
    simp only [Act.put, List.setIfInBounds_toArray, List.set_cons_zero, List.set_cons_succ]
    refine anyH_take (i := 2) (v := .pointer (some ⟨q, 0, none⟩)) rfl (some 24) rfl (by kernel_rfl) (by kernel_rfl) (by kernel_rfl) (fun _ _ _ h => by cases h.1) rfl (fun w0 hw0 => by first | rfl | kernel_rfl) S0 ?_
    simp only [Act.put, List.setIfInBounds_toArray, List.set_cons_zero, List.set_cons_succ]
    refine anyH_take (i := 3) (v := .agg #[.pointer (some ⟨p, 0, none⟩)]) rfl (some 25) rfl (by kernel_rfl) (by kernel_rfl) (by kernel_rfl) (fun _ _ _ h => by cases h.1) rfl (fun w0 hw0 => ex_load rfl rfl (run_load_row infoH Try.underlying79 rfl rfl ((hw0 _ hq4 hqo).trans hS4.here))) S0 ?_
    simp only [Act.put, List.setIfInBounds_toArray, List.set_cons_zero, List.set_cons_succ]
    refine anyH_take (i := 4) (v := .agg #[.int .i64 ts, .int .u64 tt.toNat, .slice ga nb gc]) rfl (some 26) rfl (by kernel_rfl) (by kernel_rfl) (by kernel_rfl) (fun _ _ _ h => by cases h.1) rfl (fun w0 hw0 => ex_load rfl rfl (run_load_row infoHeld Try.underlying77 rfl rfl ((hw0 _ hw3 h3o).trans e4))) S0 ?_
    simp only [Act.put, List.setIfInBounds_toArray, List.set_cons_zero, List.set_cons_succ]
    refine anyH_take (i := 5) (v := .slice ba ln cap) rfl (some 27) rfl (by kernel_rfl) (by kernel_rfl) (by kernel_rfl) (fun _ _ _ h => by cases h.1) rfl (fun w0 hw0 => by first | rfl | kernel_rfl) S0 ?_
    simp only [Act.put, List.setIfInBounds_toArray, List.set_cons_zero, List.set_cons_succ]
    refine anyH_take (i := 6) (v := .int .i64 wri) rfl (some 28) rfl (by kernel_rfl) (by kernel_rfl) (by kernel_rfl) (fun _ _ _ h => by cases h.1) rfl (fun w0 hw0 => by first | rfl | kernel_rfl) S0 ?_
    simp only [Act.put, List.setIfInBounds_toArray, List.set_cons_zero, List.set_cons_succ]
    have hP5 := HP.out W5 (b4.trans (b5.mono b4.size)) (.slice ga nb gc)
    unfold hv at hP5
    refine anyH_one (i := 7) (by kernel_rfl) ?_
    refine op_call rfl (some 29) rfl rfl #[.agg #[.pointer (some ⟨p, 0, none⟩)], .agg #[.int .i64 ts, .int .u64 tt.toNat, .slice ga nb gc], .slice ba ln cap, .int .i64 wri] rfl (by simp [Act.eval]) (fun _ _ => rfl) hP5 ?_
    rintro e V1 ⟨⟨v, rfl⟩, ht⟩
    refine ⟨v, rfl, ?_, wpAnyH_done (by kernel_rfl) ⟨rfl, v, rfl, ht⟩ _⟩
    obtain ⟨_, _, _, k2, _⟩ := ht
    exact fun j hj hn => (k2.same j (Nat.lt_of_lt_of_le hj b5.size) hn).trans (S0 j hj hn)
  case hq =>
    rintro a W' ⟨v, rfl, ht⟩
    have hS5 := (hS4.below b5).to ht
    obtain ⟨vl', vw', k1, k2, k3⟩ := hS5
    have hzz : w.heap.size ≤ W'.heap.size := by have := k2.below.size; have := b5.size; have := b4.size; omega
    have b05 := b4.trans (b5.mono b4.size)
    have hSy := crash_gen base p _ vl' vw' ao sv cv W' k1.dev (putT_ok hd (by omega) l h2 (by omega) hwf) (by omega) ⟨hm.1, fun j v hj => by
      obtain ⟨b, o, e1, e2, e3⟩ := hm.2 j v hj
      refine ⟨b, o, e1, by omega, ?_⟩
      rw [← e3]
      simp [World.cell?, (k2.same b (Nat.lt_of_lt_of_le e2 b05.size) (hmo j v b o hj e1)).trans (b05.block b e2)]⟩ (fun j v b o hj e hf => by
      obtain ⟨b', o', e1, e2, _⟩ := hm.2 j v hj
      rw [e] at e1
      cases e1
      rcases k3 b hf with h | h
      · exact hmo j v b o hj e h
      · have := b05.size
        omega)
    have c1 : W'.cell? ⟨q, 0, none⟩ = some (.pointer (some ⟨p, 0, none⟩)) := (cell1 k1.here).1
    have HS := hide hSy
    have HK := hide (And.intro k1 (And.intro k2 k3))
    clear hSy k1 k2 k3 ht S0 hS4 e4 h hd hm hmo
    go_wp2_with (go_at_call 49; refine HS.out.mono ?_; rintro e w6 ⟨rfl, ht⟩; have HT := hide ht; clear ht)
    go_ret
    obtain ⟨k1, k2, k3⟩ := HK.out
    refine ⟨rfl, HH.out.1.to ?_⟩
    exact ToD.after (w1 := W') ⟨(b05.mono hb).trans k2.below, fun j hj hn => (k2.same j (Nat.lt_of_lt_of_le hj b05.size) hn).trans (b05.block j hj)⟩ (fun j hj => (k3 j hj).imp id (fun h => by have := b05.size; omega)) HT.out
end Go.Proofs.Ytfknjmfkkaoggaa
