/- What a device turns. -/
import Derived.Test.YtdlejcdmjdljfabD12o
namespace Go.Proofs.Ytdlejcdmjdljfab
open Go.RowKit Go.Shelf

theorem hp_lt {w : World} {b : Nat} {o : Obj} (h : w.heap[b]? = some o) : b < w.heap.size := (Array.getElem?_eq_some_iff.1 h).1
theorem toD_frees {base p : Nat} {vl vw : Value} {d' : Dv} {w w' : World} (h : ToD base p vl vw d' w w') : Frees base (foot p vl vw) w w' := by
  obtain ⟨_, _, _, f, _⟩ := h
  exact f
theorem toR_frees {base p : Nat} {vl vw : Value} {d' : Dv} {w w' : World} (h : ToR base p vl vw d' w w') : Frees base (foot p vl vw) w w' := by
  obtain ⟨_, _, _, f, _⟩ := h
  exact f
theorem toD_size {base p : Nat} {vl vw : Value} {d' : Dv} {w w' : World} (h : ToD base p vl vw d' w w') : w.heap.size ≤ w'.heap.size := (toD_frees h).below.size
end Go.Proofs.Ytdlejcdmjdljfab
