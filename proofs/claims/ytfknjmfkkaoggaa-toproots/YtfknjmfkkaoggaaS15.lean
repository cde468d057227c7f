/- Slots: Save. -/
import Derived.Test.YtfknjmfkkaoggaaS14
namespace Go.Proofs.Ytfknjmfkkaoggaa
open Go.RowKit Go.Shelf

/-- The store holds another device now, and nothing has turned but its own blocks. -/
def STo (base q p : Nat) (vl vw : Value) (d' : Dv) (w w' : World) : Prop :=
  ∃ vl' vw', IsS base q p d' vl' vw' w' ∧ Frees base (foot p vl vw) w w' ∧ ∀ j, foot p vl' vw' j → foot p vl vw j ∨ w.heap.size ≤ j
theorem IsS.off {base q p : Nat} {d : Dv} {vl vw : Value} {w : World} (h : IsS base q p d vl vw w) : ¬ foot p vl vw q := by
  rintro (e | e | e)
  · have h1 := h.here
    rw [e, h.dev.here] at h1
    cases h1
  · exact own_ne0 h.dev.las h.here (by decide) q e rfl
  · exact own_ne0 h.dev.wr h.here (by decide) q e rfl
theorem IsS.to {base q p : Nat} {d d' : Dv} {vl vw : Value} {w w' : World} (h : IsS base q p d vl vw w) (ht : ToD base p vl vw d' w w') : STo base q p vl vw d' w w' := by
  obtain ⟨vl', vw', h1, h2, h3⟩ := ht
  exact ⟨vl', vw', ⟨(h2.same q (hp_lt h.here) h.off).trans h.here, h.low, h1⟩, h2, h3⟩
theorem IsS.stay {base q p : Nat} {d : Dv} {vl vw : Value} {w w' : World} (h : IsS base q p d vl vw w) (hb : base ≤ w.heap.size) (hB : Below w.heap.size w w') : STo base q p vl vw d w w' :=
  ⟨vl, vw, h.below hB, ⟨hB.mono hb, fun j hj _ => hB.block j hj⟩, fun _ hj => .inl hj⟩
theorem ToD.after {base p : Nat} {d2 : Dv} {vl vw vl' vw' : Value} {w w1 w2 : World} (h2 : Frees base (foot p vl vw) w w1) (h3 : ∀ j, foot p vl' vw' j → foot p vl vw j ∨ w.heap.size ≤ j) (ht : ToD base p vl' vw' d2 w1 w2) : ToD base p vl vw d2 w w2 := by
  obtain ⟨vl2, vw2, k1, k2, k3⟩ := ht
  refine ⟨vl2, vw2, k1, ⟨h2.below.trans k2.below, fun j hj hn => (k2.same j (Nat.lt_of_lt_of_le hj h2.below.size) (fun hf => ?_)).trans (h2.same j hj hn)⟩, fun j hj => ?_⟩
  · rcases h3 j hf with h | h
    · exact hn h
    · omega
  · rcases k3 j hj with h | h
    · exact h3 j h
    · exact .inr (by have := h2.below.size; omega)
/-- The device behind Save. -/
def saveD (d : Dv) (l : List UInt8) : Dv := settled (putT d (1 - (theL d).slot) (theL d).turn l 9223372036854775807) fun _ => true
set_option maxRecDepth 100000 in
set_option maxHeartbeats 4000000 in
theorem save_full (base q p : Nat) (d : Dv) (vl vw : Value) (ba : Option Addr) (ln cap : Nat) (w : World) (h : IsS base q p d vl vw w) (hd : DvOk d) (hb : base ≤ w.heap.size) (h2 : 4 ≤ d.las.length) (h3 : d.las.length ≤ 4096) (hln : ln ≤ 9223372036854775807) (hf : Full d ln) :
    Calls Try.prog 22 #[.pointer (some ⟨q, 0, none⟩), .slice ba ln cap] w fun e w' => e = .returned (.int .i64 4) ∧ STo base q p vl vw d w w' := by
  have hR := ready_any base q p d vl vw ba ln cap w h hd h2 h3 hln
  have hR2 := hR.mono (R' := fun e w' => e = .returned (.tuple #[.agg #[.int .i64 0, .int .u64 0, .slice none 0 0], .int .i64 4]) ∧ Below w.heap.size w w') (by
    rintro e w' ⟨⟨_, he⟩ | ⟨hn, _⟩, hB⟩
    · exact ⟨he, hB⟩
    · exact absurd hf hn)
  have HR := hide hR2
  have HH := hide h
  clear hR hR2 h hd hf
  go_enter Try.func22, Try.ntmps22
  go_wp2_with (first
    | (go_at_call 45; refine HR.out.mono ?_; rintro e w3 ⟨rfl, b3⟩; refine stopHere ?_))
  unfold Hid
  have HS4 := hide (run_store_new (P := Try.prog) infoHeld w3 (cs := #[.int .i64 0, .int .u64 0, .slice none 0 0]) (c := #[.int .i64 0, .int .u64 0, .slice none 0 0]) rfl rfl (by simp [Value.oneCell']))
  have HB := hide (show Below w.heap.size w (w3.alloc (.cells #[.int .i64 0, .int .u64 0, .slice none 0 0] 77)) from b3.alloc b3.size _)
  clear b3
  go_wp2_with (first
    | (refine l_store 77 HS4.out rfl rfl rfl rfl ?_)
    | (refine l_alloc 77 infoHeld rfl rfl ?_))
  go_ret
  exact ⟨rfl, HH.out.stay hb HB.out⟩
end Go.Proofs.Ytfknjmfkkaoggaa
