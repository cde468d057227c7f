/- Deeds on queues as they are handed in: what a reading of them says of memory. -/
import Derived.Test.YtllpblnbdocfjacA6
import Derived.Deep.Slices
import Derived.ChangeSame
import Derived.SizedLaws
import Derived.OpenShut
import Derived.Deep.Strs
namespace Go.Proofs.Ytllpblnbdocfjac
open Go.RowKit Go.Deep Go.ChangeShapes Go.WideShapes

section
variable {H : Type} {enc : TypeId × Value → H} {W : World} {fuel : Nat}
instance : Inhabited Dd := ⟨⟨0, ⟨#[]⟩, 0, false⟩⟩
theorem cellsInt : Try.prog.cellsOf 3 = 1 := by kernel_rfl
theorem cellsStr : Try.prog.cellsOf 9 = 1 := by kernel_rfl
theorem cellsBool : Try.prog.cellsOf 4 = 1 := by kernel_rfl
theorem cellsU32 : Try.prog.cellsOf 23 = 1 := by kernel_rfl
theorem cellsDeed : Try.prog.cellsOf 45 = 4 := by kernel_rfl
/-- A deed, by its cells. -/
theorem deed_read {cs : List Value} {x : DataW H × List MemPlace} (h : DataW.trod enc Try.prog W 0 (fun _ => true) true fuel 45 cs = some x) (hl : cs.length = 4) :
    ∃ y : Dd, cs = [.int .i64 y.kind, .string y.s, .int .u32 y.h, .bool y.on] ∧ y.h < 4294967296 := by
  match cs, hl with
  | [c0, c1, c2, c3], _ =>
  obtain ⟨xs, m, _, rfl, _, hlen, hf⟩ := DataW.trod_struct Try.underlying45 h
  match xs, hlen with
  | [y0, y1, y2, y3], _ =>
  have h0 : DataW.trod enc Try.prog W 0 (fun _ => true) true m 3 _ = some y0 := hf 0 _ rfl
  have h1 : DataW.trod enc Try.prog W 0 (fun _ => true) true m 9 _ = some y1 := hf 1 _ rfl
  have h2 : DataW.trod enc Try.prog W 0 (fun _ => true) true m 23 _ = some y2 := hf 2 _ rfl
  have h3 : DataW.trod enc Try.prog W 0 (fun _ => true) true m 4 _ = some y3 := hf 3 _ rfl
  obtain ⟨z0, e0, _, w0⟩ := DataW.trod_int Try.underlying3 h0
  obtain ⟨z1, e1, _⟩ := DataW.trod_string Try.underlying9 h1
  obtain ⟨z2, e2, _, w2⟩ := DataW.trod_int Try.underlying23 h2
  obtain ⟨z3, e3, _⟩ := DataW.trod_bool Try.underlying4 h3
  simp [cellsInt, cellsStr, cellsU32, cellsBool] at e0 e1 e2 e3
  subst e0 e1 e2 e3
  have hz : 0 ≤ z2 ∧ z2 < 4294967296 := by
    have m0 : IntKind.u32.min = 0 := rfl
    have m1 : IntKind.u32.max = 4294967295 := rfl
    simp [Lit.wf, m0, m1] at w2
    omega
  refine ⟨⟨z0, z1, z2.toNat, z3⟩, ?_, by show z2.toNat < _; omega⟩
  show [_, _, _, _] = [Value.int .i64 z0, .string z1, .int .u32 ((z2.toNat : Nat) : Int), .bool z3]
  rw [show ((z2.toNat : Nat) : Int) = z2 by omega]
/-- Deeds. -/
theorem deeds_read {v : Value} {d : DataW H} {pl : List MemPlace} (h : DataW.trod enc Try.prog W 0 (fun _ => true) true fuel 22 [v] = some (d, pl)) : ∃ ao ds cap, v = .slice ao ds.length cap ∧ DdMem W.heap.size W ao ds := by
  rcases open_slice Try.underlying22 h with ⟨hcs, _⟩ | ⟨a, len, cap, m, n, D, Pl, hcs, _, hl, hcm, hm, hx, hc⟩
  · cases hcs
    exact ⟨none, [], 0, rfl, by simp, fun k x hk => by simp at hk⟩
  · cases hcs
    simp only [if_true] at hm
    subst hm
    rw [cellsDeed] at hc
    obtain ⟨f, hf⟩ := choose_lt (n := len) (p := fun i (y : Dd) => y.h < 4294967296 ∧ W.cell? (a.add (i * 4)) = some (.int .i64 y.kind) ∧ W.cell? ((a.add (i * 4)).add 1) = some (.string y.s) ∧ W.cell? ((a.add (i * 4)).add 2) = some (.int .u32 y.h) ∧ W.cell? ((a.add (i * 4)).add 3) = some (.bool y.on)) (fun i hi => by
      obtain ⟨cs', h1, h2⟩ := hc i (by omega)
      obtain ⟨_, hl', hg⟩ := World.cells?_some h1
      obtain ⟨y, rfl, hb⟩ := deed_read h2 hl'
      exact ⟨y, hb, by simpa [Addr.add] using hg 0 (by omega), by simpa using hg 1 (by omega), by simpa using hg 2 (by omega), by simpa using hg 3 (by omega)⟩)
    refine ⟨some a, (List.range len).map f, m, by simp, by unfold maxLen at hcm; simp; omega, fun k x hk => ?_⟩
    have hkl : k < len := by have h := (List.getElem?_eq_some_iff.1 hk).1; simpa using h
    have hkx : f k = x := by simpa [hkl] using hk
    obtain ⟨b, off, spot⟩ := a
    have hs : spot = none := by simpa [Addr.add] using World.cell?_spot (hf 0 (by omega)).2.1
    subst hs
    obtain ⟨q0, q1, q2, q3, q4⟩ := hf k hkl
    rw [add_add] at q2 q3 q4
    rw [Go.WideShapes.add_plain] at q1 q2 q3 q4
    rw [hkx] at q0 q1 q2 q3 q4
    refine ⟨q0, b, off, rfl, World.block_lt_of_cell? W _ q1, q1, ?_, ?_, ?_⟩
    · rw [Nat.add_assoc]; exact q2
    · rw [Nat.add_assoc]; exact q3
    · rw [Nat.add_assoc]; exact q4
end
end Go.Proofs.Ytllpblnbdocfjac
