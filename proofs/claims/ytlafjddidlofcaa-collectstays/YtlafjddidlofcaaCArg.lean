/- Pairs of bytes as they are handed in. -/
import Derived.Test.YtlafjddidlofcaaCollectStays
import Derived.Deep.Slices
import Derived.ChangeSame
import Derived.SizedLaws
import Derived.OpenShut
import Derived.Deep.Strs
namespace Go.Proofs.Ytlafjddidlofcaa
open Go.RowKit Go.Deep Go.ChangeShapes Go.WideShapes

section
variable {H : Type} {enc : TypeId × Value → H} {W : World} {fuel : Nat}
theorem cellsPair : Try.prog.cellsOf 39 = 2 := by kernel_rfl
theorem pair_read {cs : List Value} {x : DataW H × List MemPlace} (h : DataW.trod enc Try.prog W 0 (fun _ => true) true fuel 39 cs = some x) (hlen : cs.length = 2) :
    ∃ y : UInt8 × UInt8, cs = [.int .u8 y.1.toNat, .int .u8 y.2.toNat] := by
  match cs, hlen with
  | [c0, c1], _ =>
  obtain ⟨xs, m, _, rfl, _, hlen, hf⟩ := DataW.trod_array Try.underlying39 h
  match xs, hlen with
  | [y0, y1], _ =>
  have hy0 : DataW.trod enc Try.prog W 0 (fun _ => true) true m 5 _ = some y0 := hf 0 (by omega)
  have hy1 : DataW.trod enc Try.prog W 0 (fun _ => true) true m 5 _ = some y1 := hf 1 (by omega)
  obtain ⟨a, e0, _, w0⟩ := DataW.trod_int Try.underlying5 hy0
  obtain ⟨b, e1, _, w1⟩ := DataW.trod_int Try.underlying5 hy1
  cases e0
  cases e1
  have m0 : IntKind.u8.min = 0 := rfl
  have m1 : IntKind.u8.max = 255 := rfl
  simp [Lit.wf, m0, m1] at w0 w1
  refine ⟨(UInt8.ofNat a.toNat, UInt8.ofNat b.toNat), ?_⟩
  have h0 : ((UInt8.ofNat a.toNat).toNat : Int) = a := by rw [UInt8.toNat_ofNat']; omega
  have h1 : ((UInt8.ofNat b.toNat).toNat : Int) = b := by rw [UInt8.toNat_ofNat']; omega
  show [_, _] = [Value.int .u8 ((UInt8.ofNat a.toNat).toNat : Int), Value.int .u8 ((UInt8.ofNat b.toNat).toNat : Int)]
  rw [h0, h1]
theorem pairs_read {v : Value} {d : DataW H} {pl : List MemPlace} (h : DataW.trod enc Try.prog W 0 (fun _ => true) true fuel 38 [v] = some (d, pl)) : ∃ ao ds cap, v = .slice ao ds.length cap ∧ PrMem W.heap.size W ao ds := by
  rcases open_slice Try.underlying38 h with ⟨hcs, _⟩ | ⟨a, len, cap, m, n, D, Pl, hcs, _, hl, hcm, hm, hx, hc⟩
  · cases hcs
    exact ⟨none, [], 0, rfl, by simp, fun k x hk => by simp at hk⟩
  · cases hcs
    simp only [if_true] at hm
    subst hm
    rw [cellsPair] at hc
    obtain ⟨f, hf⟩ := choose_lt (n := len) (p := fun i (y : UInt8 × UInt8) => W.cell? (a.add (i * 2)) = some (.int .u8 y.1.toNat) ∧ W.cell? ((a.add (i * 2)).add 1) = some (.int .u8 y.2.toNat)) (fun i hi => by
      obtain ⟨cs', h1, h2⟩ := hc i (by omega)
      obtain ⟨_, hl', hg⟩ := World.cells?_some h1
      obtain ⟨y, rfl⟩ := pair_read h2 hl'
      exact ⟨y, by simpa [Addr.add] using hg 0 (by omega), by simpa using hg 1 (by omega)⟩)
    refine ⟨some a, (List.range len).map f, m, by simp, by unfold maxLen at hcm; simp; omega, fun k x hk => ?_⟩
    have hkl : k < len := by have h := (List.getElem?_eq_some_iff.1 hk).1; simpa using h
    have hkx : f k = x := by simpa [hkl] using hk
    obtain ⟨b, off, spot⟩ := a
    have hs : spot = none := by simpa [Addr.add] using World.cell?_spot (hf 0 (by omega)).1
    subst hs
    obtain ⟨q1, q2⟩ := hf k hkl
    rw [add_add] at q2
    rw [Go.WideShapes.add_plain] at q1 q2
    rw [hkx] at q1 q2
    refine ⟨b, off, rfl, World.block_lt_of_cell? W _ q1, q1, ?_⟩
    rw [Nat.add_assoc]
    exact q2
end
end Go.Proofs.Ytlafjddidlofcaa
