/- Slots: ready. -/
import Derived.Test.YtfknjmfkkaoggaaS13
namespace Go.Proofs.Ytfknjmfkkaoggaa
open Go.RowKit Go.Shelf

theorem IsS.below {base q p : Nat} {d : Dv} {vl vw : Value} {w w' : World} (h : IsS base q p d vl vw w) (hb : Below w.heap.size w w') : IsS base q p d vl vw w' := ⟨(hb.block _ (hp_lt h.here)).trans h.here, h.low, h.dev.below hb⟩
/-- Bytes that may not be saved. -/
def Full (d : Dv) (ln : Nat) : Prop := (d.las.length - 2) / 2 * 64 < ln ∨ (theL d).turn.toNat = 18446744073709551615
set_option maxRecDepth 100000 in
set_option maxHeartbeats 4000000 in
theorem ready_any (base q p : Nat) (d : Dv) (vl vw : Value) (ba : Option Addr) (ln cap : Nat) (w : World) (h : IsS base q p d vl vw w) (hd : DvOk d) (h2 : 4 ≤ d.las.length) (h3 : d.las.length ≤ 4096) (_hln : ln ≤ 9223372036854775807) :
    Calls Try.prog 45 #[.pointer (some ⟨q, 0, none⟩), .slice ba ln cap] w fun e w' => ((Full d ln ∧ e = .returned (.tuple #[.agg #[.int .i64 0, .int .u64 0, .slice none 0 0], .int .i64 4])) ∨ (¬ Full d ln ∧ ∃ ga gc, e = .returned (.tuple #[.agg #[.int .i64 (theL d).slot, .int .u64 (theL d).turn.toNat, .slice ga (theL d).bytes.length gc], .int .i64 0]))) ∧ Below w.heap.size w w' := by
  obtain ⟨W1, hW1, g0, b1, z1⟩ : ∃ W, w.alloc (.cells #[.int .i64 0, .int .u64 0, .slice none 0 0] 77) = W ∧ W.heap[w.heap.size]? = some (.cells #[.int .i64 0, .int .u64 0, .slice none 0 0] 77) ∧ Below w.heap.size w W ∧ W.heap.size = w.heap.size + 1 := ⟨_, rfl, World.alloc_heap_new _ _, (Below.refl _ _).alloc (Nat.le_refl _) _, by simp⟩
  have hS1 := h.below b1
  have hT := theSlot_any base p d vl vw W1 hS1.dev hd h2 h3
  unfold Full
  obtain ⟨rm, hrm⟩ : ∃ rm, (d.las.length - 2) / 2 * 64 = rm := ⟨_, rfl⟩
  obtain ⟨ts, hts⟩ : ∃ x, (theL d).slot = x := ⟨_, rfl⟩
  obtain ⟨tt, htt⟩ : ∃ x, (theL d).turn = x := ⟨_, rfl⟩
  obtain ⟨tb, htb⟩ : ∃ x, (theL d).bytes = x := ⟨_, rfl⟩
  obtain ⟨nb, hnb⟩ : ∃ x, tb.length = x := ⟨_, rfl⟩
  rw [hts, htt, htb, hnb] at hT ⊢
  rw [hrm]
  unfold hv at hT
  have hrm2 : rm ≤ 1000000 := by omega
  have hi := tt.isLt
  have HL := hide hS1.load
  have HT := hide hT
  have HH := hide (And.intro hS1 (And.intro g0 b1))
  have HW := hide hW1
  clear hT hS1 g0 b1 hW1 h hd hts htt htb hnb
  go_enter Try.func45, Try.ntmps45
  go_wp2_with (first
    | (refine l_alloc 77 infoHeld rfl rfl ?_; rw [HW.out])
    | (refine l_load _ HL.out rfl rfl rfl ?_)
    | (go_at_call 44; refine HT.out.mono ?_; rintro e w3 ⟨ga, gc, rfl, o3, b3⟩; refine stopHere ?_))
  unfold Hid
  obtain ⟨hS1, g0, b1⟩ := HH.out
  obtain ⟨W4, hW4, e4, c4, z4⟩ : ∃ W, w3.alloc (.cells #[.int .i64 ts, .int .u64 tt.toNat, .slice ga nb gc] 77) = W ∧ W.heap[w3.heap.size]? = some (.cells #[.int .i64 ts, .int .u64 tt.toNat, .slice ga nb gc] 77) ∧ Below w3.heap.size w3 W ∧ W.heap.size = w3.heap.size + 1 := ⟨_, rfl, World.alloc_heap_new _ _, (Below.refl _ _).alloc (Nat.le_refl _) _, by simp⟩
  have HS4 := hide (run_store_new (P := Try.prog) infoHeld w3 (cs := #[.int .i64 ts, .int .u64 tt.toNat, .slice ga nb gc]) (c := #[.int .i64 0, .int .u64 0, .slice none 0 0]) rfl rfl (by simp [Value.oneCell']))
  have D4 : Below W1.heap.size W1 W4 := b3.trans (c4.mono b3.size)
  have hS4 := hS1.below D4
  have hR := room_any base p d vl vw W4 hS4.dev h2 h3
  rw [hrm] at hR
  unfold hv at hR
  have HL4 := hide hS4.load
  have HR := hide hR
  have H4 := hide (And.intro e4 (And.intro ((D4.block _ (hp_lt g0)).trans g0) (b1.trans (D4.mono b1.size))))
  have hlt : w.heap.size < w3.heap.size := by have := b3.size; omega
  clear hS1 g0 b1 o3 b3 c4 D4 hS4 hR e4 z4 HL HT HH
  go_wp2_with (first
    | (refine l_store 77 HS4.out rfl rfl rfl rfl ?_; rw [hW4])
    | (refine l_alloc 77 infoHeld rfl rfl ?_)
    | (refine l_load _ HL4.out rfl rfl rfl ?_)
    | (go_at_call 48; refine HR.out.mono ?_; rintro e w5 ⟨rfl, b5⟩; refine stopHere ?_))
  unfold Hid
  obtain ⟨e4, g4, b4⟩ := H4.out
  have e5 := (b5.block _ (hp_lt e4)).trans e4
  have g5 := (b5.block _ (hp_lt g4)).trans g4
  have b05 : Below w.heap.size w w5 := b4.trans (b5.mono b4.size)
  obtain ⟨x0, x1, x2, _⟩ := cells3h e5
  obtain ⟨y0, y1, y2, y3, y4, y5⟩ := cells3h g5
  have hne : w3.heap.size ≠ w.heap.size := by omega
  have HLr := hide (run_load_row (P := Try.prog) infoHeld Try.underlying77 rfl rfl e5)
  have H5 := hide (And.intro g5 b05)
  clear e4 g4 b4 e5 g5 b05 b5 HR HL4 H4 HS4
  by_cases c1 : (rm : Int) < ln
  · go_wp2_with fail
    refine bodyPost_ret (results_held rfl rfl rfl (set3 H5.out.1 _ _ _)) rfl ⟨.inl ⟨.inl (by omega), rfl⟩, below3 H5.out.2 (Nat.le_refl _) _ _ _⟩
  · by_cases c2 : (tt.toNat : Int) = 18446744073709551615
    · go_wp2_with fail
      refine bodyPost_ret (results_held rfl rfl rfl (set3 H5.out.1 _ _ _)) rfl ⟨.inl ⟨.inr (by omega), rfl⟩, below3 H5.out.2 (Nat.le_refl _) _ _ _⟩
    · go_wp2_with (refine l_load _ HLr.out rfl rfl rfl ?_)
      refine bodyPost_ret (results_held rfl rfl rfl (set3 H5.out.1 _ _ _)) rfl ⟨.inr ⟨by omega, _, _, rfl⟩, below3 H5.out.2 (Nat.le_refl _) _ _ _⟩
end Go.Proofs.Ytfknjmfkkaoggaa
