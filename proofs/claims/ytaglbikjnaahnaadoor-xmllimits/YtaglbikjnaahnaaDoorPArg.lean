/- Pieces of bytes that are handed in, as they are read. -/
import Derived.Test.YtaglbikjnaahnaaDoorXmlLimits
import Derived.Test.YtaglbikjnaahnaaDoorBArg
import Derived.Deep.Slices
namespace Go.Proofs.YtaglbikjnaahnaaDoor
open Go.RowKit Go.Deep Go.ChangeShapes Go.WideShapes

theorem cellsBytes : Tryd.prog.cellsOf 22 = 1 := by kernel_rfl
theorem pieces_read {H : Type} {enc : TypeId × Value → H} {W : World} {fuel : Nat} {v : Value} {x : DataW H × List MemPlace} (h : DataW.trod enc Tryd.prog W 0 (fun _ => true) true fuel 43 [v] = some x) :
    ∃ ba l cap, v = .slice ba l.length cap ∧ PieceMem W.heap.size W ba l := by
  rcases open_slice Tryd.underlying43 h with ⟨hcs, _⟩ | ⟨a, len, cap, m, n, D, Pl, hcs, _, hl, _, hm, hx, hc⟩
  · cases hcs
    exact ⟨none, [], 0, rfl, fun k x hk => by simp at hk⟩
  · cases hcs
    simp only [if_true] at hm
    subst hm
    rw [cellsBytes] at hc
    obtain ⟨f, hf⟩ := choose_lt (p := fun i (y : Option Addr × List UInt8 × Nat) => (a.add i).spot = none ∧ (a.add i).block < W.heap.size ∧ W.cell? (a.add i) = some (.slice y.1 y.2.1.length y.2.2) ∧ y.2.1.length ≤ y.2.2 ∧ ByteMem W.heap.size W y.1 y.2.1) (fun i hi => by
      obtain ⟨cs', h1, h2⟩ := hc i hi
      obtain ⟨_, hl1, hg⟩ := World.cells?_some h1
      match cs', hl1 with
      | [c0], _ =>
      have g0 : W.cell? (a.add i) = some c0 := by simpa [Addr.add] using hg 0 (by omega)
      obtain ⟨ba, l, cp, rfl, hcp, hbm⟩ := bytes_read h2
      exact ⟨(ba, l, cp), World.cell?_spot g0, World.block_lt_of_cell? W _ g0, g0, hcp, hbm⟩)
    refine ⟨some a, (List.range len).map f, m, by simp, fun j x hj => ?_⟩
    have hjl : j < len := by have h := (List.getElem?_eq_some_iff.1 hj).1; simpa using h
    have hjx : f j = x := by simpa [hjl] using hj
    obtain ⟨b, off, spot⟩ := a
    have hs : spot = none := by simpa [Addr.add] using (hf 0 (by omega)).1
    subst hs
    obtain ⟨_, q1, q2, q3, q4⟩ := hf j (by omega)
    rw [Go.WideShapes.add_plain] at q1 q2
    rw [hjx] at q2 q3 q4
    exact ⟨b, off, rfl, q1, q2, q3, q4⟩
end Go.Proofs.YtaglbikjnaahnaaDoor
