/- Bytes as they are handed in. -/
import Derived.Test.YtjdcgndcljmieaaKvLoads
import Derived.Deep.Slices
import Derived.ChangeSame
import Derived.SizedLaws
import Derived.OpenShut
import Derived.Deep.Strs
namespace Go.Proofs.Ytjdcgndcljmieaa
open Go.RowKit Go.Deep Go.ChangeShapes Go.WideShapes

theorem cells5 : Try.prog.cellsOf 5 = 1 := by kernel_rfl
theorem bytes_read {H : Type} {enc : TypeId × Value → H} {W : World} {fuel : Nat} {v : Value} {d : DataW H} {pl : List MemPlace} (h : DataW.trod enc Try.prog W 0 (fun _ => true) true fuel 30 [v] = some (d, pl)) : ∃ ao l cap, v = .slice ao l.length cap ∧ l.length ≤ cap ∧ cap ≤ 9223372036854775807 ∧ ByMem W.heap.size W ao l := by
  rcases open_slice1 Try.underlying30 cells5 h with ⟨hcs, _⟩ | ⟨a, len, cap, m, n, V, D, Pl, hcs, _, hl, hcm, hm, hx, hc⟩
  · cases hcs
    exact ⟨none, [], 0, rfl, Nat.le_refl _, by omega, .inl rfl⟩
  · cases hcs
    simp only [if_true] at hm
    subst hm
    obtain ⟨f, hf⟩ := choose_lt (n := len) (p := fun i (y : UInt8) => W.cell? (a.add i) = some (.int .u8 (y.toNat : Nat))) (fun i hi => by
      obtain ⟨h1, h2⟩ := hc i (by omega)
      obtain ⟨z, e, _, w2⟩ := DataW.trod_int Try.underlying5 h2
      have e' : V i = .int .u8 z := by simpa using e
      have hz : 0 ≤ z ∧ z < 256 := by
        have m0 : IntKind.u8.min = 0 := rfl
        have m1 : IntKind.u8.max = 255 := rfl
        simp [Lit.wf, m0, m1] at w2
        omega
      have hz2 : ((UInt8.ofNat z.toNat).toNat : Int) = z := by
        rw [UInt8.toNat_ofNat']
        omega
      exact ⟨UInt8.ofNat z.toNat, by rw [hz2, ← e']; exact h1⟩)
    unfold maxLen at hcm
    refine ⟨some a, (List.range len).map f, m, by simp, by simp; omega, by omega, ?_⟩
    by_cases h0 : len = 0
    · subst h0
      exact .inl rfl
    · obtain ⟨b, off, spot⟩ := a
      have hs : spot = none := by simpa [Addr.add] using World.cell?_spot (hf 0 (by omega))
      subst hs
      refine .inr ⟨b, off, rfl, World.block_lt_of_cell? W _ (hf 0 (by omega)), fun j v hj => ?_⟩
      have hjl : j < len := by have h := (List.getElem?_eq_some_iff.1 hj).1; simpa using h
      have hjx : f j = v := by simpa [hjl] using hj
      have h1 := hf j hjl
      rw [Go.WideShapes.add_plain] at h1
      rw [← hjx]
      exact h1
end Go.Proofs.Ytjdcgndcljmieaa
