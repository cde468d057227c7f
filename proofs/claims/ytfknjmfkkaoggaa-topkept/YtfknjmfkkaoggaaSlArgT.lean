/- Texts as they are handed in. -/
import Derived.Test.YtfknjmfkkaoggaaSlArg
import Derived.Test.YtfknjmfkkaoggaaS22
namespace Go.Proofs.Ytfknjmfkkaoggaa
open Go.RowKit Go.Deep Go.ChangeShapes Go.WideShapes

section
variable {H : Type} {enc : TypeId × Value → H} {W : World} {fuel : Nat}
theorem cells9 : Try.prog.cellsOf 9 = 1 := by kernel_rfl
/-- Texts. -/
theorem strings_read {v : Value} {d : DataW H} {pl : List MemPlace} (h : DataW.trod enc Try.prog W 0 (fun _ => true) true fuel 66 [v] = some (d, pl)) : ∃ ao ts cap, v = .slice ao ts.length cap ∧ TxMem W.heap.size W ao ts := by
  rcases open_slice1 Try.underlying66 cells9 h with ⟨hcs, _⟩ | ⟨a, len, cap, m, n, V, D, Pl, hcs, _, hl, hcm, hm, hx, hc⟩
  · cases hcs
    exact ⟨none, [], 0, rfl, by simp, fun j v hj => by simp at hj⟩
  · cases hcs
    simp only [if_true] at hm
    subst hm
    obtain ⟨f, hf⟩ := choose_lt (n := len) (p := fun i (y : ByteArray) => W.cell? (a.add i) = some (.string y)) (fun i hi => by
      obtain ⟨h1, h2⟩ := hc i (by omega)
      obtain ⟨b, e, _⟩ := DataW.trod_string Try.underlying9 h2
      have e' : V i = .string b := by simpa using e
      exact ⟨b, e' ▸ h1⟩)
    refine ⟨some a, (List.range len).map f, m, by simp, by unfold maxLen at hcm; simp; omega, fun j v hj => ?_⟩
    have hjl : j < len := by have h := (List.getElem?_eq_some_iff.1 hj).1; simpa using h
    have hjx : f j = v := by simpa [hjl] using hj
    have h0 := hf j hjl
    obtain ⟨b, off, spot⟩ := a
    have hs : spot = none := by simpa [Addr.add] using World.cell?_spot (hf 0 (by omega))
    subst hs
    rw [Go.WideShapes.add_plain] at h0
    exact ⟨b, off, rfl, World.block_lt_of_cell? W _ h0, by rw [← hjx]; exact h0⟩
end
end Go.Proofs.Ytfknjmfkkaoggaa
