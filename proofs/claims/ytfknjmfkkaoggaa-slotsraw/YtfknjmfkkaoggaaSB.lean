/- Slots: Load, Turn, Room. Slots: ready. Slots: Save. -/
import Derived.Test.YtfknjmfkkaoggaaS12
namespace Go.Proofs.Ytfknjmfkkaoggaa
open Go.RowKit Go.Shelf

/-- A store in memory. -/
structure IsS (base q p : Nat) (d : Dv) (vl vw : Value) (w : World) : Prop where
  here : w.heap[q]? = some (.cells #[.pointer (some ⟨p, 0, none⟩)] 81)
  low : base ≤ q
  dev : IsD base p d vl vw w
theorem IsS.load {base q p : Nat} {d : Dv} {vl vw : Value} {w : World} (h : IsS base q p d vl vw w) : (Instr.loadAt 79 (.pointer (some ⟨q, 0, none⟩))).run Try.prog w = .ok (.agg #[.pointer (some ⟨p, 0, none⟩)]) w :=
  run_load_row infoH Try.underlying79 rfl rfl h.here
theorem held_2 (a b c : Value) (w : World) : (Instr.field 77 (.agg #[a, b, c]) 2).run Try.prog w = .ok c w := by kernel_rfl
theorem held_1 (a b c : Value) (w : World) : (Instr.field 77 (.agg #[a, b, c]) 1).run Try.prog w = .ok b w := by kernel_rfl
set_option maxRecDepth 100000 in
set_option maxHeartbeats 2000000 in
theorem load_any (base q p : Nat) (d : Dv) (vl vw : Value) (w : World) (h : IsS base q p d vl vw w) (hd : DvOk d) (h2 : 4 ≤ d.las.length) (h3 : d.las.length ≤ 4096) :
    Calls Try.prog 20 #[.pointer (some ⟨q, 0, none⟩)] w fun e w' => ∃ ga gc, e = .returned (.slice ga (theL d).bytes.length gc) ∧ w'.ownsRow w.heap.size 5 1 (.slice ga (theL d).bytes.length gc) (theL d).bytes.length (Lib.byteCells (theL d).bytes) ∧ Below w.heap.size w w' := by
  have f1 := held_1
  have f2 := held_2
  have HL := hide h.load
  have HT := hide (theSlot_any base p d vl vw w h.dev hd h2 h3)
  unfold hv at HT
  clear h hd
  go_enter Try.func20, Try.ntmps20
  go_wp2_with (first
    | (refine l_load _ HL.out rfl rfl rfl ?_)
    | (go_at_call 44; refine HT.out.mono ?_; rintro e w3 ⟨ga, gc, rfl, o3, b3⟩; have H3 := hide (And.intro o3 b3); clear o3 b3))
  go_ret
  exact ⟨ga, gc, rfl, H3.out.1, H3.out.2⟩
set_option maxRecDepth 100000 in
set_option maxHeartbeats 2000000 in
theorem turn_any (base q p : Nat) (d : Dv) (vl vw : Value) (w : World) (h : IsS base q p d vl vw w) (hd : DvOk d) (h2 : 4 ≤ d.las.length) (h3 : d.las.length ≤ 4096) :
    Calls Try.prog 21 #[.pointer (some ⟨q, 0, none⟩)] w fun e w' => e = .returned (.int .u64 (theL d).turn.toNat) ∧ Below w.heap.size w w' := by
  have f1 := held_1
  have f2 := held_2
  have HL := hide h.load
  have HT := hide (theSlot_any base p d vl vw w h.dev hd h2 h3)
  unfold hv at HT
  clear h hd
  go_enter Try.func21, Try.ntmps21
  go_wp2_with (first
    | (refine l_load _ HL.out rfl rfl rfl ?_)
    | (go_at_call 44; refine HT.out.mono ?_; rintro e w3 ⟨ga, gc, rfl, o3, b3⟩; have H3 := hide (And.intro o3 b3); clear o3 b3))
  go_ret
  exact ⟨rfl, H3.out.2⟩
set_option maxRecDepth 100000 in
set_option maxHeartbeats 2000000 in
theorem Room_any (base q p : Nat) (d : Dv) (vl vw : Value) (w : World) (h : IsS base q p d vl vw w) (h2 : 4 ≤ d.las.length) (h3 : d.las.length ≤ 4096) :
    Calls Try.prog 23 #[.pointer (some ⟨q, 0, none⟩)] w fun e w' => e = .returned (.int .i64 ((d.las.length - 2) / 2 * 64 : Nat)) ∧ Below w.heap.size w w' := by
  have HL := hide h.load
  have HT := hide (room_any base p d vl vw w h.dev h2 h3)
  unfold hv at HT
  clear h
  go_enter Try.func23, Try.ntmps23
  go_wp2_with (first
    | (refine l_load _ HL.out rfl rfl rfl ?_)
    | (go_at_call 48; refine HT.out.mono ?_; rintro e w3 ⟨rfl, b3⟩; have H3 := hide b3; clear b3))
  go_ret
  exact ⟨rfl, H3.out⟩
end Go.Proofs.Ytfknjmfkkaoggaa
namespace Go.Proofs.Ytfknjmfkkaoggaa
open Go.RowKit Go.Shelf

theorem IsS.below {base q p : Nat} {d : Dv} {vl vw : Value} {w w' : World} (h : IsS base q p d vl vw w) (hb : Below w.heap.size w w') : IsS base q p d vl vw w' := ⟨(hb.block _ (hp_lt h.here)).trans h.here, h.low, h.dev.below hb⟩
/-- Bytes that may not be saved. -/
def Full (d : Dv) (ln : Nat) : Prop := (d.las.length - 2) / 2 * 64 < ln ∨ (theL d).turn.toNat = 18446744073709551615
set_option maxRecDepth 100000 in
set_option maxHeartbeats 4000000 in
theorem ready_any (base q p : Nat) (d : Dv) (vl vw : Value) (ba : Option Addr) (ln cap : Nat) (w : World) (h : IsS base q p d vl vw w) (hd : DvOk d) (h2 : 4 ≤ d.las.length) (h3 : d.las.length ≤ 4096) (_hln : ln ≤ 9223372036854775807) :
    Calls Try.prog 45 #[.pointer (some ⟨q, 0, none⟩), .slice ba ln cap] w fun e w' => ((Full d ln ∧ e = .returned (.tuple #[.agg #[.int .i64 0, .int .u64 0, .slice none 0 0], .int .i64 4])) ∨ (¬ Full d ln ∧ ∃ ga gc, e = .returned (.tuple #[.agg #[.int .i64 (theL d).slot, .int .u64 (theL d).turn.toNat, .slice ga (theL d).bytes.length gc], .int .i64 0]))) ∧ Below w.heap.size w w' := by
  obtain ⟨W1, hW1, g0, b1, z1⟩ : ∃ W, w.alloc (.cells #[.int .i64 0, .int .u64 0, .slice none 0 0] 77) = W ∧ W.heap[w.heap.size]? = some (.cells #[.int .i64 0, .int .u64 0, .slice none 0 0] 77) ∧ Below w.heap.size w W ∧ W.heap.size = w.heap.size + 1 := ⟨_, rfl, World.alloc_heap_new _ _, (Below.refl _ _).alloc (Nat.le_refl _) _, by simp⟩
  have hS1 := h.below b1
  have hT := theSlot_any base p d vl vw W1 hS1.dev hd h2 h3
  unfold Full
  obtain ⟨rm, hrm⟩ : ∃ rm, (d.las.length - 2) / 2 * 64 = rm := ⟨_, rfl⟩
  obtain ⟨ts, hts⟩ : ∃ x, (theL d).slot = x := ⟨_, rfl⟩
  obtain ⟨tt, htt⟩ : ∃ x, (theL d).turn = x := ⟨_, rfl⟩
  obtain ⟨tb, htb⟩ : ∃ x, (theL d).bytes = x := ⟨_, rfl⟩
  obtain ⟨nb, hnb⟩ : ∃ x, tb.length = x := ⟨_, rfl⟩
  rw [hts, htt, htb, hnb] at hT ⊢
  rw [hrm]
  unfold hv at hT
  have hrm2 : rm ≤ 1000000 := by omega
  have hi := tt.isLt
  have HL := hide hS1.load
  have HT := hide hT
  have HH := hide (And.intro hS1 (And.intro g0 b1))
  have HW := hide hW1
  clear hT hS1 g0 b1 hW1 h hd hts htt htb hnb
  go_enter Try.func45, Try.ntmps45
  go_wp2_with (first
    | (refine l_alloc 77 infoHeld rfl rfl ?_; rw [HW.out])
    | (refine l_load _ HL.out rfl rfl rfl ?_)
    | (go_at_call 44; refine HT.out.mono ?_; rintro e w3 ⟨ga, gc, rfl, o3, b3⟩; refine stopHere ?_))
  unfold Hid
  obtain ⟨hS1, g0, b1⟩ := HH.out
  obtain ⟨W4, hW4, e4, c4, z4⟩ : ∃ W, w3.alloc (.cells #[.int .i64 ts, .int .u64 tt.toNat, .slice ga nb gc] 77) = W ∧ W.heap[w3.heap.size]? = some (.cells #[.int .i64 ts, .int .u64 tt.toNat, .slice ga nb gc] 77) ∧ Below w3.heap.size w3 W ∧ W.heap.size = w3.heap.size + 1 := ⟨_, rfl, World.alloc_heap_new _ _, (Below.refl _ _).alloc (Nat.le_refl _) _, by simp⟩
  have HS4 := hide (run_store_new (P := Try.prog) infoHeld w3 (cs := #[.int .i64 ts, .int .u64 tt.toNat, .slice ga nb gc]) (c := #[.int .i64 0, .int .u64 0, .slice none 0 0]) rfl rfl (by simp [Value.oneCell']))
  have D4 : Below W1.heap.size W1 W4 := b3.trans (c4.mono b3.size)
  have hS4 := hS1.below D4
  have hR := room_any base p d vl vw W4 hS4.dev h2 h3
  rw [hrm] at hR
  unfold hv at hR
  have HL4 := hide hS4.load
  have HR := hide hR
  have H4 := hide (And.intro e4 (And.intro ((D4.block _ (hp_lt g0)).trans g0) (b1.trans (D4.mono b1.size))))
  have hlt : w.heap.size < w3.heap.size := by have := b3.size; omega
  clear hS1 g0 b1 o3 b3 c4 D4 hS4 hR e4 z4 HL HT HH
  go_wp2_with (first
    | (refine l_store 77 HS4.out rfl rfl rfl rfl ?_; rw [hW4])
    | (refine l_alloc 77 infoHeld rfl rfl ?_)
    | (refine l_load _ HL4.out rfl rfl rfl ?_)
    | (go_at_call 48; refine HR.out.mono ?_; rintro e w5 ⟨rfl, b5⟩; refine stopHere ?_))
  unfold Hid
  obtain ⟨e4, g4, b4⟩ := H4.out
  have e5 := (b5.block _ (hp_lt e4)).trans e4
  have g5 := (b5.block _ (hp_lt g4)).trans g4
  have b05 : Below w.heap.size w w5 := b4.trans (b5.mono b4.size)
  obtain ⟨x0, x1, x2, _⟩ := cells3h e5
  obtain ⟨y0, y1, y2, y3, y4, y5⟩ := cells3h g5
  have hne : w3.heap.size ≠ w.heap.size := by omega
  have HLr := hide (run_load_row (P := Try.prog) infoHeld Try.underlying77 rfl rfl e5)
  have H5 := hide (And.intro g5 b05)
  clear e4 g4 b4 e5 g5 b05 b5 HR HL4 H4 HS4
  by_cases c1 : (rm : Int) < ln
  · go_wp2_with fail
    refine bodyPost_ret (results_held rfl rfl rfl (set3 H5.out.1 _ _ _)) rfl ⟨.inl ⟨.inl (by omega), rfl⟩, below3 H5.out.2 (Nat.le_refl _) _ _ _⟩
  · by_cases c2 : (tt.toNat : Int) = 18446744073709551615
    · go_wp2_with fail
      refine bodyPost_ret (results_held rfl rfl rfl (set3 H5.out.1 _ _ _)) rfl ⟨.inl ⟨.inr (by omega), rfl⟩, below3 H5.out.2 (Nat.le_refl _) _ _ _⟩
    · go_wp2_with (refine l_load _ HLr.out rfl rfl rfl ?_)
      refine bodyPost_ret (results_held rfl rfl rfl (set3 H5.out.1 _ _ _)) rfl ⟨.inr ⟨by omega, _, _, rfl⟩, below3 H5.out.2 (Nat.le_refl _) _ _ _⟩
end Go.Proofs.Ytfknjmfkkaoggaa
namespace Go.Proofs.Ytfknjmfkkaoggaa
open Go.RowKit Go.Shelf

/-- The store holds another device now, and nothing has turned but its own blocks. -/
def STo (base q p : Nat) (vl vw : Value) (d' : Dv) (w w' : World) : Prop :=
  ∃ vl' vw', IsS base q p d' vl' vw' w' ∧ Frees base (foot p vl vw) w w' ∧ ∀ j, foot p vl' vw' j → foot p vl vw j ∨ w.heap.size ≤ j
theorem IsS.off {base q p : Nat} {d : Dv} {vl vw : Value} {w : World} (h : IsS base q p d vl vw w) : ¬ foot p vl vw q := by
  rintro (e | e | e)
  · have h1 := h.here
    rw [e, h.dev.here] at h1
    cases h1
  · exact own_ne0 h.dev.las h.here (by decide) q e rfl
  · exact own_ne0 h.dev.wr h.here (by decide) q e rfl
theorem IsS.to {base q p : Nat} {d d' : Dv} {vl vw : Value} {w w' : World} (h : IsS base q p d vl vw w) (ht : ToD base p vl vw d' w w') : STo base q p vl vw d' w w' := by
  obtain ⟨vl', vw', h1, h2, h3⟩ := ht
  exact ⟨vl', vw', ⟨(h2.same q (hp_lt h.here) h.off).trans h.here, h.low, h1⟩, h2, h3⟩
theorem IsS.stay {base q p : Nat} {d : Dv} {vl vw : Value} {w w' : World} (h : IsS base q p d vl vw w) (hb : base ≤ w.heap.size) (hB : Below w.heap.size w w') : STo base q p vl vw d w w' :=
  ⟨vl, vw, h.below hB, ⟨hB.mono hb, fun j hj _ => hB.block j hj⟩, fun _ hj => .inl hj⟩
theorem ToD.after {base p : Nat} {d2 : Dv} {vl vw vl' vw' : Value} {w w1 w2 : World} (h2 : Frees base (foot p vl vw) w w1) (h3 : ∀ j, foot p vl' vw' j → foot p vl vw j ∨ w.heap.size ≤ j) (ht : ToD base p vl' vw' d2 w1 w2) : ToD base p vl vw d2 w w2 := by
  obtain ⟨vl2, vw2, k1, k2, k3⟩ := ht
  refine ⟨vl2, vw2, k1, ⟨h2.below.trans k2.below, fun j hj hn => (k2.same j (Nat.lt_of_lt_of_le hj h2.below.size) (fun hf => ?_)).trans (h2.same j hj hn)⟩, fun j hj => ?_⟩
  · rcases h3 j hf with h | h
    · exact hn h
    · omega
  · rcases k3 j hj with h | h
    · exact h3 j h
    · exact .inr (by have := h2.below.size; omega)
/-- The device behind Save. -/
def saveD (d : Dv) (l : List UInt8) : Dv := settled (putT d (1 - (theL d).slot) (theL d).turn l 9223372036854775807) fun _ => true
set_option maxRecDepth 100000 in
set_option maxHeartbeats 4000000 in
theorem save_full (base q p : Nat) (d : Dv) (vl vw : Value) (ba : Option Addr) (ln cap : Nat) (w : World) (h : IsS base q p d vl vw w) (hd : DvOk d) (hb : base ≤ w.heap.size) (h2 : 4 ≤ d.las.length) (h3 : d.las.length ≤ 4096) (hln : ln ≤ 9223372036854775807) (hf : Full d ln) :
    Calls Try.prog 22 #[.pointer (some ⟨q, 0, none⟩), .slice ba ln cap] w fun e w' => e = .returned (.int .i64 4) ∧ STo base q p vl vw d w w' := by
  have hR := ready_any base q p d vl vw ba ln cap w h hd h2 h3 hln
  have hR2 := hR.mono (R' := fun e w' => e = .returned (.tuple #[.agg #[.int .i64 0, .int .u64 0, .slice none 0 0], .int .i64 4]) ∧ Below w.heap.size w w') (by
    rintro e w' ⟨⟨_, he⟩ | ⟨hn, _⟩, hB⟩
    · exact ⟨he, hB⟩
    · exact absurd hf hn)
  have HR := hide hR2
  have HH := hide h
  clear hR hR2 h hd hf
  go_enter Try.func22, Try.ntmps22
  go_wp2_with (first
    | (go_at_call 45; refine HR.out.mono ?_; rintro e w3 ⟨rfl, b3⟩; refine stopHere ?_))
  unfold Hid
  have HS4 := hide (run_store_new (P := Try.prog) infoHeld w3 (cs := #[.int .i64 0, .int .u64 0, .slice none 0 0]) (c := #[.int .i64 0, .int .u64 0, .slice none 0 0]) rfl rfl (by simp [Value.oneCell']))
  have HB := hide (show Below w.heap.size w (w3.alloc (.cells #[.int .i64 0, .int .u64 0, .slice none 0 0] 77)) from b3.alloc b3.size _)
  clear b3
  go_wp2_with (first
    | (refine l_store 77 HS4.out rfl rfl rfl rfl ?_)
    | (refine l_alloc 77 infoHeld rfl rfl ?_))
  go_ret
  exact ⟨rfl, HH.out.stay hb HB.out⟩
end Go.Proofs.Ytfknjmfkkaoggaa
