/- Pairs as they are handed in. -/
import Derived.Test.YtnbemfddcjhcaaaTopPairs
import Derived.Deep.Slices
import Derived.ChangeSame
import Derived.SizedLaws
import Derived.OpenShut
import Derived.Deep.Strs
namespace Go.Proofs.Ytnbemfddcjhcaaa
open Go.RowKit Go.Deep Go.ChangeShapes Go.WideShapes

section
variable {H : Type} {enc : TypeId × Value → H} {W : World} {fuel : Nat}
theorem cells9 : Try.prog.cellsOf 9 = 1 := by kernel_rfl
theorem cellsPair : Try.prog.cellsOf 26 = 2 := by kernel_rfl
theorem pair_read {cs : List Value} {x : DataW H × List MemPlace} (h : DataW.trod enc Try.prog W 0 (fun _ => true) true fuel 26 cs = some x) (hl : cs.length = 2) : ∃ y : ByteArray × ByteArray, cs = [.string y.1, .string y.2] := by
  match cs, hl with
  | [c0, c1], _ =>
  obtain ⟨xs, m, _, rfl, _, hlen, hf⟩ := DataW.trod_struct Try.underlying26 h
  match xs, hlen with
  | [y0, y1], _ =>
  have h0 : DataW.trod enc Try.prog W 0 (fun _ => true) true m 9 _ = some y0 := hf 0 _ rfl
  have h1 : DataW.trod enc Try.prog W 0 (fun _ => true) true m 9 _ = some y1 := hf 1 _ rfl
  obtain ⟨z0, e0, _⟩ := DataW.trod_string Try.underlying9 h0
  obtain ⟨z1, e1, _⟩ := DataW.trod_string Try.underlying9 h1
  simp [cells9] at e0 e1
  subst e0 e1
  exact ⟨(z0, z1), rfl⟩
theorem pairs_read {v : Value} {d : DataW H} {pl : List MemPlace} (h : DataW.trod enc Try.prog W 0 (fun _ => true) true fuel 22 [v] = some (d, pl)) : ∃ ao ds cap, v = .slice ao ds.length cap ∧ PrMem W.heap.size W ao ds := by
  rcases open_slice Try.underlying22 h with ⟨hcs, _⟩ | ⟨a, len, cap, m, n, D, Pl, hcs, _, hl, hcm, hm, hx, hc⟩
  · cases hcs
    exact ⟨none, [], 0, rfl, by simp, fun k x hk => by simp at hk⟩
  · cases hcs
    simp only [if_true] at hm
    subst hm
    rw [cellsPair] at hc
    obtain ⟨f, hf⟩ := choose_lt (n := len) (p := fun i (y : ByteArray × ByteArray) => W.cell? (a.add (i * 2)) = some (.string y.1) ∧ W.cell? ((a.add (i * 2)).add 1) = some (.string y.2)) (fun i hi => by
      obtain ⟨cs', h1, h2⟩ := hc i (by omega)
      obtain ⟨_, hl', hg⟩ := World.cells?_some h1
      obtain ⟨y, rfl⟩ := pair_read h2 hl'
      exact ⟨y, by simpa [Addr.add] using hg 0 (by omega), by simpa using hg 1 (by omega)⟩)
    refine ⟨some a, (List.range len).map f, m, by simp, by unfold maxLen at hcm; simp; omega, fun k x hk => ?_⟩
    have hkl : k < len := by have h := (List.getElem?_eq_some_iff.1 hk).1; simpa using h
    have hkx : f k = x := by simpa [hkl] using hk
    obtain ⟨b, off, spot⟩ := a
    have hs : spot = none := by simpa [Addr.add] using World.cell?_spot (hf 0 (by omega)).1
    subst hs
    obtain ⟨q1, q2⟩ := hf k hkl
    rw [add_add] at q2
    rw [Go.WideShapes.add_plain] at q1 q2
    rw [hkx] at q1 q2
    refine ⟨b, off, rfl, World.block_lt_of_cell? W _ q1, q1, ?_⟩
    rw [Nat.add_assoc]
    exact q2
end
end Go.Proofs.Ytnbemfddcjhcaaa
