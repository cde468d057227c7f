/- Bytes, scripts and deeds of chapter 8 as they are handed in. -/
import Derived.Test.YtfknjmfkkaoggaaSlArg0
import Derived.Deep.Slices
import Derived.ChangeSame
import Derived.SizedLaws
import Derived.OpenShut
import Derived.Deep.Strs
namespace Go.Proofs.Ytfknjmfkkaoggaa
open Go.RowKit Go.Deep Go.ChangeShapes Go.WideShapes

section
variable {H : Type} {enc : TypeId × Value → H} {W : World} {fuel : Nat}
instance : Inhabited Sd := ⟨⟨0, none, [], 0, 0, none, [], 0⟩⟩
theorem cellsBool : Try.prog.cellsOf 4 = 1 := by kernel_rfl
theorem cellsInt : Try.prog.cellsOf 3 = 1 := by kernel_rfl
theorem cellsDeed : Try.prog.cellsOf 44 = 4 := by kernel_rfl
theorem cellsBools : Try.prog.cellsOf 42 = 1 := by kernel_rfl
theorem cellsBytes : Try.prog.cellsOf 30 = 1 := by kernel_rfl
theorem bytes_read {v : Value} {d : DataW H} {pl : List MemPlace} (h : DataW.trod enc Try.prog W 0 (fun _ => true) true fuel 30 [v] = some (d, pl)) : ∃ ao l cap, v = .slice ao l.length cap ∧ l.length ≤ cap ∧ cap ≤ 9223372036854775807 ∧ ByteMem W.heap.size W ao l := by
  rcases open_slice1 Try.underlying30 cells5 h with ⟨hcs, _⟩ | ⟨a, len, cap, m, n, V, D, Pl, hcs, _, hl, hcm, hm, hx, hc⟩
  · cases hcs
    exact ⟨none, [], 0, rfl, Nat.le_refl _, by omega, fun j c hj => by cases hj⟩
  · cases hcs
    simp only [if_true] at hm
    subst hm
    obtain ⟨f, hf⟩ := choose_lt (n := len) (p := fun i (y : UInt8) => W.cell? (a.add i) = some (.int .u8 (y.toNat : Nat))) (fun i hi => by
      obtain ⟨h1, h2⟩ := hc i (by omega)
      obtain ⟨z, e, _, w2⟩ := DataW.trod_int Try.underlying5 h2
      have e' : V i = .int .u8 z := by simpa using e
      have hz : 0 ≤ z ∧ z < 256 := by
        have m0 : IntKind.u8.min = 0 := rfl
        have m1 : IntKind.u8.max = 255 := rfl
        simp [Lit.wf, m0, m1] at w2
        omega
      have hz2 : ((UInt8.ofNat z.toNat).toNat : Int) = z := by
        rw [UInt8.toNat_ofNat']
        omega
      exact ⟨UInt8.ofNat z.toNat, by rw [hz2, ← e']; exact h1⟩)
    unfold maxLen at hcm
    refine ⟨some a, (List.range len).map f, m, by simp, by simp; omega, by omega, fun j v hj => ?_⟩
    have hjl : j < len := by have h := (List.getElem?_eq_some_iff.1 hj).1; simpa using h
    have hjx : f j = v := by simpa [hjl] using hj
    have h0 := hf j hjl
    obtain ⟨b, off, spot⟩ := a
    have hs : spot = none := by simpa [Addr.add] using World.cell?_spot (hf 0 (by omega))
    subst hs
    rw [Go.WideShapes.add_plain] at h0
    exact ⟨b, off, rfl, World.block_lt_of_cell? W _ h0, by rw [← hjx]; exact h0⟩
theorem bools_read {v : Value} {d : DataW H} {pl : List MemPlace} (h : DataW.trod enc Try.prog W 0 (fun _ => true) true fuel 42 [v] = some (d, pl)) : ∃ ao bs cap, v = .slice ao bs.length cap ∧ BoolMem W.heap.size W ao bs := by
  rcases open_slice1 Try.underlying42 cellsBool h with ⟨hcs, _⟩ | ⟨a, len, cap, m, n, V, D, Pl, hcs, _, hl, hcm, hm, hx, hc⟩
  · cases hcs
    exact ⟨none, [], 0, rfl, by simp, fun j v hj => by simp at hj⟩
  · cases hcs
    simp only [if_true] at hm
    subst hm
    obtain ⟨f, hf⟩ := choose_lt (n := len) (p := fun i (y : Bool) => W.cell? (a.add i) = some (.bool y)) (fun i hi => by
      obtain ⟨h1, h2⟩ := hc i (by omega)
      obtain ⟨b, e, _⟩ := DataW.trod_bool Try.underlying4 h2
      have e' : V i = .bool b := by simpa using e
      exact ⟨b, e' ▸ h1⟩)
    refine ⟨some a, (List.range len).map f, m, by simp, by unfold maxLen at hcm; simp; omega, fun j v hj => ?_⟩
    have hjl : j < len := by have h := (List.getElem?_eq_some_iff.1 hj).1; simpa using h
    have hjx : f j = v := by simpa [hjl] using hj
    have h0 := hf j hjl
    obtain ⟨b, off, spot⟩ := a
    have hs : spot = none := by simpa [Addr.add] using World.cell?_spot (hf 0 (by omega))
    subst hs
    rw [Go.WideShapes.add_plain] at h0
    exact ⟨b, off, rfl, World.block_lt_of_cell? W _ h0, by rw [← hjx]; exact h0⟩
/-- A deed, by its cells. -/
theorem deed_read {cs : List Value} {x : DataW H × List MemPlace} (h : DataW.trod enc Try.prog W 0 (fun _ => true) true fuel 44 cs = some x) (hl : cs.length = 4) :
    ∃ y : Sd, cs = (sdC y).toList ∧ SdOk W.heap.size W y := by
  match cs, hl with
  | [c0, c1, c2, c3], _ =>
  obtain ⟨xs, m, _, rfl, _, hlen, hf⟩ := DataW.trod_struct Try.underlying44 h
  match xs, hlen with
  | [y0, y1, y2, y3], _ =>
  have h0 : DataW.trod enc Try.prog W 0 (fun _ => true) true m 3 _ = some y0 := hf 0 _ rfl
  have h1 : DataW.trod enc Try.prog W 0 (fun _ => true) true m 30 _ = some y1 := hf 1 _ rfl
  have h2 : DataW.trod enc Try.prog W 0 (fun _ => true) true m 3 _ = some y2 := hf 2 _ rfl
  have h3 : DataW.trod enc Try.prog W 0 (fun _ => true) true m 42 _ = some y3 := hf 3 _ rfl
  obtain ⟨z0, e0, _, w0⟩ := DataW.trod_int Try.underlying3 h0
  obtain ⟨z2, e2, _, w2⟩ := DataW.trod_int Try.underlying3 h2
  simp [cellsInt] at e0 e2
  subst e0 e2
  have h1' : DataW.trod enc Try.prog W 0 (fun _ => true) true m 30 [c1] = some y1 := by simpa [cellsInt, cellsBytes] using h1
  have h3' : DataW.trod enc Try.prog W 0 (fun _ => true) true m 42 [c3] = some y3 := by simpa [cellsInt, cellsBytes, cellsBools] using h3
  obtain ⟨d1, p1⟩ := y1
  obtain ⟨d3, p3⟩ := y3
  obtain ⟨ba, b, bc, rfl, q1, q2, q3⟩ := bytes_read h1'
  obtain ⟨ao, bs, cap, rfl, hb⟩ := bools_read h3'
  exact ⟨⟨z0, ba, b, bc, z2, ao, bs, cap⟩, rfl, ⟨q1, q2, q3, hb⟩⟩
/-- Deeds. -/
theorem deeds_read {v : Value} {d : DataW H} {pl : List MemPlace} (h : DataW.trod enc Try.prog W 0 (fun _ => true) true fuel 22 [v] = some (d, pl)) : ∃ ao ds cap, v = .slice ao ds.length cap ∧ SdMem W.heap.size W ao ds := by
  rcases open_slice Try.underlying22 h with ⟨hcs, _⟩ | ⟨a, len, cap, m, n, D, Pl, hcs, _, hl, hcm, hm, hx, hc⟩
  · cases hcs
    exact ⟨none, [], 0, rfl, by simp, fun k x hk => by simp at hk⟩
  · cases hcs
    simp only [if_true] at hm
    subst hm
    rw [cellsDeed] at hc
    obtain ⟨f, hf⟩ := choose_lt (n := len) (p := fun i (y : Sd) => SdOk W.heap.size W y ∧ W.cell? (a.add (i * 4)) = some (.int .i64 y.kind) ∧ W.cell? ((a.add (i * 4)).add 1) = some (.slice y.ba y.b.length y.bc) ∧ W.cell? ((a.add (i * 4)).add 2) = some (.int .i64 y.wri) ∧ W.cell? ((a.add (i * 4)).add 3) = some (.slice y.sa y.sv.length y.sc)) (fun i hi => by
      obtain ⟨cs', h1, h2⟩ := hc i (by omega)
      obtain ⟨_, hl', hg⟩ := World.cells?_some h1
      obtain ⟨y, rfl, hb⟩ := deed_read h2 hl'
      exact ⟨y, hb, by simpa [Addr.add, sdC] using hg 0 (by omega), by simpa [sdC] using hg 1 (by omega), by simpa [sdC] using hg 2 (by omega), by simpa [sdC] using hg 3 (by omega)⟩)
    refine ⟨some a, (List.range len).map f, m, by simp, by unfold maxLen at hcm; simp; omega, fun k x hk => ?_⟩
    have hkl : k < len := by have h := (List.getElem?_eq_some_iff.1 hk).1; simpa using h
    have hkx : f k = x := by simpa [hkl] using hk
    obtain ⟨b, off, spot⟩ := a
    have hs : spot = none := by simpa [Addr.add] using World.cell?_spot (hf 0 (by omega)).2.1
    subst hs
    obtain ⟨q0, q1, q2, q3, q4⟩ := hf k hkl
    rw [add_add] at q2 q3 q4
    rw [Go.WideShapes.add_plain] at q1 q2 q3 q4
    rw [hkx] at q0 q1 q2 q3 q4
    refine ⟨q0, b, off, rfl, World.block_lt_of_cell? W _ q1, q1, ?_, ?_, ?_⟩
    · rw [Nat.add_assoc]; exact q2
    · rw [Nat.add_assoc]; exact q3
    · rw [Nat.add_assoc]; exact q4
end
end Go.Proofs.Ytfknjmfkkaoggaa
