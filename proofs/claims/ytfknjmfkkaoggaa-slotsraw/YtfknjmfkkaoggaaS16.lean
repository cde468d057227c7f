/- Slots: Save of bytes that there is room for. -/
import Derived.Test.YtfknjmfkkaoggaaSB
namespace Go.Proofs.Ytfknjmfkkaoggaa
open Go.RowKit Go.Shelf

theorem putT_ok {d : Dv} (hd : DvOk d) {nx : Nat} (hn : nx ≤ 1) (l : List UInt8) (h2 : 4 ≤ d.las.length) (hl : l.length ≤ (d.las.length - 2) / 2 * 64) (hwf : d.wr.length + 5000 ≤ 1000000) {tn : V} {wri : Int} : DvOk (putT d nx tn l wri) := by
  have h4 := hd.most
  unfold putT
  split
  · refine putK_ok hd hn l h2 _ ?_ ?_ <;> split <;> omega
  · refine dvWrite_ok (settled_ok (putK_ok hd hn l h2 _ (by omega) (by omega)) _) ?_ (root_lens _ _ _).2.2.2 (by show 0 < 1000000; omega)
    show nx < (landAt _ _ _).length
    rw [landAt_len, putK_las]
    omega
set_option maxRecDepth 100000 in
set_option maxHeartbeats 4000000 in
theorem save_any (base q p : Nat) (d : Dv) (vl vw : Value) (ba : Option Addr) (l : List UInt8) (ln cap : Nat) (w : World) (h : IsS base q p d vl vw w) (hd : DvOk d) (hb : base ≤ w.heap.size) (h2 : 4 ≤ d.las.length) (h3 : d.las.length ≤ 4096) (hB : ByteMem w.heap.size w ba l) (hno : ∀ b o, l ≠ [] → ba = some ⟨b, o, none⟩ → b < w.heap.size ∧ ¬ foot p vl vw b) (hll : l.length = ln) (hc : ln ≤ cap) (hwf : d.wr.length + 5000 ≤ 1000000) (hf : ¬ Full d ln) :
    Calls Try.prog 22 #[.pointer (some ⟨q, 0, none⟩), .slice ba ln cap] w fun e w' => e = .returned (.int .i64 0) ∧ STo base q p vl vw (saveD d l) w w' := by
  have hrm : ln ≤ (d.las.length - 2) / 2 * 64 := by
    unfold Full at hf
    omega
  have hR := ready_any base q p d vl vw ba ln cap w h hd h2 h3 (by omega)
  have hR2 := hR.mono (R' := fun e w' => ∃ ga gc, e = .returned (.tuple #[.agg #[.int .i64 (theL d).slot, .int .u64 (theL d).turn.toNat, .slice ga (theL d).bytes.length gc], .int .i64 0]) ∧ Below w.heap.size w w') (by
    rintro e w' ⟨⟨hn, _⟩ | ⟨_, ga, gc, he⟩, hB⟩
    · exact absurd hn hf
    · exact ⟨ga, gc, he, hB⟩)
  have hts1 : (theL d).slot ≤ 1 := best_slot d 2 (Nat.le_refl _)
  unfold saveD
  obtain ⟨ts, hts⟩ : ∃ x, (theL d).slot = x := ⟨_, rfl⟩
  obtain ⟨tt, htt⟩ : ∃ x, (theL d).turn = x := ⟨_, rfl⟩
  obtain ⟨nb, hnb⟩ : ∃ x, (theL d).bytes.length = x := ⟨_, rfl⟩
  rw [hts, htt, hnb] at hR2
  rw [hts, htt]
  rw [hts] at hts1
  obtain ⟨nx, hnx⟩ : ∃ nx, 1 - ts = nx := ⟨_, rfl⟩
  rw [hnx]
  have hPu := fun (V : World) (hV : Below w.heap.size w V) (vb : Value) => put_any base p d vl vw ts nx tt vb l ba ln cap 9223372036854775807 V (h.below hV).dev hd (by have := hV.size; omega) h2 h3 (by omega) (by omega) (fun j v hj => by
    obtain ⟨b, o, e1, e2, e3⟩ := hB j v hj
    exact ⟨b, o, e1, by have := hV.size; omega, (hV.cell (p := ⟨b, _, none⟩) e2).trans e3⟩) (fun b o hne e => ⟨by have := (hno b o hne e).1; have := hV.size; omega, (hno b o hne e).2⟩) hll hc hrm hwf
  have HR := hide hR2
  have HP := hide hPu
  have HH := hide (And.intro h hd)
  clear hR hR2 hPu h hd hf hB hno hts htt hnb
  go_enter Try.func22, Try.ntmps22
  go_wp2_with (first
    | (go_at_call 45; refine HR.out.mono ?_; rintro e w3 ⟨ga, gc, rfl, b3⟩; refine stopHere ?_))
  unfold Hid
  have HS4 := hide (run_store_new (P := Try.prog) infoHeld w3 (cs := #[.int .i64 ts, .int .u64 tt.toNat, .slice ga nb gc]) (c := #[.int .i64 0, .int .u64 0, .slice none 0 0]) rfl rfl (by simp [Value.oneCell']))
  obtain ⟨W4, hW4, e4, c4, z4⟩ : ∃ W, w3.alloc (.cells #[.int .i64 ts, .int .u64 tt.toNat, .slice ga nb gc] 77) = W ∧ W.heap[w3.heap.size]? = some (.cells #[.int .i64 ts, .int .u64 tt.toNat, .slice ga nb gc] 77) ∧ Below w3.heap.size w3 W ∧ W.heap.size = w3.heap.size + 1 := ⟨_, rfl, World.alloc_heap_new _ _, (Below.refl _ _).alloc (Nat.le_refl _) _, by simp⟩
  have hle3 : w.heap.size ≤ w3.heap.size := b3.size
  have HB := hide (And.intro e4 (b3.trans (c4.mono b3.size)))
  clear b3 c4 e4
  go_wp2_with (first
    | (refine l_store 77 HS4.out rfl rfl rfl rfl ?_; rw [hW4])
    | (refine l_alloc 77 infoHeld rfl rfl ?_))
  obtain ⟨h, hd⟩ := HH.out
  obtain ⟨e4, b4⟩ := HB.out
  have hS4 := h.below b4
  have hqo := hS4.off
  have hq4 : q < W4.heap.size := hp_lt hS4.here
  have hw3 : w3.heap.size < W4.heap.size := hp_lt e4
  have h3o : ¬ foot p vl vw w3.heap.size := fun hf => by have := (h.dev.lt hf).2; have := b4.size; have := (hS4.dev.lt hf).2; have := hle3; omega
  obtain ⟨W5, hW5⟩ : ∃ W5, W4.drew = W5 := ⟨_, rfl⟩
  have b5 : Below W4.heap.size W4 W5 := by rw [← hW5]; exact (Below.refl _ _).drew
  have S0 : ∀ j, j < W4.heap.size → ¬ foot p vl vw j → W5.heap[j]? = W4.heap[j]? := fun j hj _ => b5.block j hj
  refine region_rel (S := fun w0 => ∀ j, j < W4.heap.size → ¬ foot p vl vw j → w0.heap[j]? = W4.heap[j]?) (fun a W' => ∃ v, a = ({ tmps := #[.pointer (some ⟨q, 0, none⟩), .slice ba ln cap, undef, undef, .int .i64 0, .pointer (some ⟨w3.heap.size, 0, none⟩), .int .i64 0, .tuple #[.agg #[.int .i64 ts, .int .u64 tt.toNat, .slice ga nb gc], .int .i64 0], .pointer (some ⟨q, 0, none⟩), .slice ba ln cap, .tuple #[.agg #[.int .i64 ts, .int .u64 tt.toNat, .slice ga nb gc], .int .i64 0], .agg #[.int .i64 ts, .int .u64 tt.toNat, .slice ga nb gc], .int .i64 0, .int .i64 0, .bool false, undef, .pointer (some ⟨q, 0, none⟩), .pointer (some ⟨q, 0, none⟩), .pointer (some ⟨q, 0, none⟩), .agg #[.pointer (some ⟨p, 0, none⟩)], .agg #[.int .i64 ts, .int .u64 tt.toNat, .slice ga nb gc], .slice ba ln cap, v, undef, undef, undef, undef, undef, undef], defers := [] } : Act) ∧ ToD base p vl vw (putT d nx tt l 9223372036854775807) W5 W') (by kernel_rfl) ?rg ?hq
  case rg =>
    rw [hW5]
    refine anyH_take (i := 0) (v := .pointer (some ⟨q, 0, none⟩)) rfl (some 16) rfl (by kernel_rfl) (by kernel_rfl) (by kernel_rfl) (fun _ _ _ h => by cases h.1) rfl (fun w0 hw0 => by first | rfl | kernel_rfl) S0 ?_
    simp only [Act.put, List.setIfInBounds_toArray, List.set_cons_zero, List.set_cons_succ]
    refine anyH_take (i := 1) (v := .pointer (some ⟨q, 0, none⟩)) rfl (some 17) rfl (by kernel_rfl) (by kernel_rfl) (by kernel_rfl) (fun _ _ _ h => by cases h.1) rfl (fun w0 hw0 => by first | rfl | kernel_rfl) S0 ?_
    simp only [Act.put, List.setIfInBounds_toArray, List.set_cons_zero, List.set_cons_succ]
    refine anyH_take (i := 2) (v := .pointer (some ⟨q, 0, none⟩)) rfl (some 18) rfl (by kernel_rfl) (by kernel_rfl) (by kernel_rfl) (fun _ _ _ h => by cases h.1) rfl (fun w0 hw0 => by first | rfl | kernel_rfl) S0 ?_
    simp only [Act.put, List.setIfInBounds_toArray, List.set_cons_zero, List.set_cons_succ]
    refine anyH_take (i := 3) (v := .agg #[.pointer (some ⟨p, 0, none⟩)]) rfl (some 19) rfl (by kernel_rfl) (by kernel_rfl) (by kernel_rfl) (fun _ _ _ h => by cases h.1) rfl (fun w0 hw0 => ex_load rfl rfl (run_load_row infoH Try.underlying79 rfl rfl ((hw0 _ hq4 hqo).trans hS4.here))) S0 ?_
    simp only [Act.put, List.setIfInBounds_toArray, List.set_cons_zero, List.set_cons_succ]
    refine anyH_take (i := 4) (v := .agg #[.int .i64 ts, .int .u64 tt.toNat, .slice ga nb gc]) rfl (some 20) rfl (by kernel_rfl) (by kernel_rfl) (by kernel_rfl) (fun _ _ _ h => by cases h.1) rfl (fun w0 hw0 => ex_load rfl rfl (run_load_row infoHeld Try.underlying77 rfl rfl ((hw0 _ hw3 h3o).trans e4))) S0 ?_
    simp only [Act.put, List.setIfInBounds_toArray, List.set_cons_zero, List.set_cons_succ]
    refine anyH_take (i := 5) (v := .slice ba ln cap) rfl (some 21) rfl (by kernel_rfl) (by kernel_rfl) (by kernel_rfl) (fun _ _ _ h => by cases h.1) rfl (fun w0 hw0 => by first | rfl | kernel_rfl) S0 ?_
    simp only [Act.put, List.setIfInBounds_toArray, List.set_cons_zero, List.set_cons_succ]
    have hP5 := HP.out W5 (b4.trans (b5.mono b4.size)) (.slice ga nb gc)
    unfold hv at hP5
    refine anyH_one (i := 6) (by kernel_rfl) ?_
    refine op_call rfl (some 22) rfl rfl #[.agg #[.pointer (some ⟨p, 0, none⟩)], .agg #[.int .i64 ts, .int .u64 tt.toNat, .slice ga nb gc], .slice ba ln cap, .int .i64 9223372036854775807] rfl (by simp [Act.eval]) (fun _ _ => rfl) hP5 ?_
    rintro e V1 ⟨⟨v, rfl⟩, ht⟩
    refine ⟨v, rfl, ?_, wpAnyH_done (by kernel_rfl) ⟨rfl, v, rfl, ht⟩ _⟩
    obtain ⟨_, _, _, k2, _⟩ := ht
    exact fun j hj hn => (k2.same j (Nat.lt_of_lt_of_le hj b5.size) hn).trans (S0 j hj hn)
  case hq =>
    rintro a W' ⟨v, rfl, ht⟩
    have hS5 := (hS4.below b5).to ht
    obtain ⟨vl', vw', k1, k2, k3⟩ := hS5
    have hSy := sync_any base p _ vl' vw' W' k1.dev (putT_ok hd (by omega) l h2 (by omega) hwf) (by have := k2.below.size; have := b5.size; have := b4.size; omega)
    have c1 : W'.cell? ⟨q, 0, none⟩ = some (.pointer (some ⟨p, 0, none⟩)) := (cell1 k1.here).1
    have HS := hide hSy
    have HK := hide (And.intro k1 (And.intro k2 k3))
    clear hSy k1 k2 k3 ht S0 hS4 e4 h hd
    go_wp2_with (go_at_call 47; refine HS.out.mono ?_; rintro e w6 ⟨rfl, ht⟩; have HT := hide ht; clear ht)
    go_ret
    obtain ⟨k1, k2, k3⟩ := HK.out
    refine ⟨rfl, HH.out.1.to ?_⟩
    have b05 := b4.trans (b5.mono b4.size)
    exact ToD.after (w1 := W') ⟨(b05.mono hb).trans k2.below, fun j hj hn => (k2.same j (Nat.lt_of_lt_of_le hj b05.size) hn).trans (b05.block j hj)⟩ (fun j hj => (k3 j hj).imp id (fun h => by have := b05.size; omega)) HT.out
end Go.Proofs.Ytfknjmfkkaoggaa
