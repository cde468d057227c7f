/- The document's save. -/
import Derived.Test.YtfknjmfkkaoggaaSR5
namespace Go.Proofs.Ytfknjmfkkaoggaa
open Go.RowKit Go.Shelf

/-- The document's store holds another device now. -/
def TTo (base q p : Nat) (vl vw : Value) (d' : Dv) (w w' : World) : Prop :=
  ∃ vl' vw', IsT base q p d' vl' vw' w' ∧ Frees base (foot p vl vw) w w' ∧ ∀ j, foot p vl' vw' j → foot p vl vw j ∨ w.heap.size ≤ j
theorem IsT.off {base q p : Nat} {d : Dv} {vl vw : Value} {w : World} (h : IsT base q p d vl vw w) : ¬ foot p vl vw q := by
  rintro (e | e | e)
  · have h1 := h.here
    rw [e, h.dev.here] at h1
    cases h1
  · exact own_ne0 h.dev.las h.here (by decide) q e rfl
  · exact own_ne0 h.dev.wr h.here (by decide) q e rfl
theorem IsT.stay {base q p : Nat} {d : Dv} {vl vw : Value} {w w' : World} (h : IsT base q p d vl vw w) (hb : base ≤ w.heap.size) (hB : Below w.heap.size w w') : TTo base q p vl vw d w w' :=
  ⟨vl, vw, h.below hB, ⟨hB.mono hb, fun j hj _ => hB.block j hj⟩, fun _ hj => .inl hj⟩
/-- A deed on its device, behind others. -/
theorem TTo.then {base q p : Nat} {d1 d2 : Dv} {vl vw vl1 vw1 : Value} {w w1 w2 w3 : World} (h1 : IsT base q p d1 vl1 vw1 w1) (hf : Frees base (foot p vl vw) w w1) (hn : ∀ j, foot p vl1 vw1 j → foot p vl vw j ∨ w.heap.size ≤ j) (hb : base ≤ w.heap.size) (hB : Below w1.heap.size w1 w2) (ht : ToR base p vl1 vw1 d2 w2 w3) : TTo base q p vl vw d2 w w3 := by
  obtain ⟨vl', vw', k1, k2, k3⟩ := ht
  have h2 := h1.below hB
  have sz := hf.below.size
  refine ⟨vl', vw', ⟨(k2.same q (hp_lt h2.here) h2.off).trans h2.here, h1.low, k1⟩, ⟨(hf.below.trans (hB.mono (by omega))).trans k2.below, fun j hj hnn => ?_⟩, fun j hj => ?_⟩
  · refine (k2.same j (by have := hB.size; omega) (fun hf1 => ?_)).trans ((hB.block j (by omega)).trans (hf.same j hj hnn))
    rcases hn j hf1 with h | h
    · exact hnn h
    · omega
  · rcases k3 j hj with h | h
    · exact hn j h
    · exact .inr (by have := hB.size; omega)
theorem pad_sec (b : List UInt8) (i : Nat) : padS (b.drop (64 * i)) (min 64 (b.length - 64 * i)) = secOf b i := by
  unfold padS secOf
  have h1 : (b.drop (64 * i)).take (min 64 (b.length - 64 * i)) = (b.drop (64 * i)).take 64 := by
    rw [List.take_eq_take_iff, List.length_drop]
    omega
  rw [h1, List.length_take, List.length_drop]
end Go.Proofs.Ytfknjmfkkaoggaa
