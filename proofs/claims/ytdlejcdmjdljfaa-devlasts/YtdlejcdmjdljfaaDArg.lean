/- Deeds, and scripts of what survives, as they are handed in: what a reading of them says of memory. -/
import Derived.Test.YtdlejcdmjdljfaaD17
import Derived.Deep.Slices
import Derived.ChangeSame
import Derived.SizedLaws
import Derived.OpenShut
import Derived.Deep.Strs
namespace Go.Proofs.Ytdlejcdmjdljfaa
open Go.RowKit Go.Deep Go.ChangeShapes Go.WideShapes

section
variable {H : Type} {enc : TypeId × Value → H} {W : World} {fuel : Nat}
instance : Inhabited Dd := ⟨⟨0, 0, 0, [], none, 0⟩⟩
theorem cellsBool : Try.prog.cellsOf 4 = 1 := by kernel_rfl
theorem cellsInt : Try.prog.cellsOf 3 = 1 := by kernel_rfl
theorem cellsDeed : Try.prog.cellsOf 37 = 4 := by kernel_rfl
theorem cellsBools : Try.prog.cellsOf 30 = 1 := by kernel_rfl
/-- A script. -/
theorem bools_read {v : Value} {d : DataW H} {pl : List MemPlace} (h : DataW.trod enc Try.prog W 0 (fun _ => true) true fuel 30 [v] = some (d, pl)) : ∃ ao bs cap, v = .slice ao bs.length cap ∧ BoolMem W.heap.size W ao bs := by
  rcases open_slice1 Try.underlying30 cellsBool h with ⟨hcs, _⟩ | ⟨a, len, cap, m, n, V, D, Pl, hcs, _, hl, hcm, hm, hx, hc⟩
  · cases hcs
    exact ⟨none, [], 0, rfl, by simp, fun j v hj => by simp at hj⟩
  · cases hcs
    simp only [if_true] at hm
    subst hm
    obtain ⟨f, hf⟩ := choose_lt (n := len) (p := fun i (y : Bool) => W.cell? (a.add i) = some (.bool y)) (fun i hi => by
      obtain ⟨h1, h2⟩ := hc i (by omega)
      obtain ⟨b, e, _⟩ := DataW.trod_bool Try.underlying4 h2
      have e' : V i = .bool b := by simpa using e
      exact ⟨b, e' ▸ h1⟩)
    refine ⟨some a, (List.range len).map f, m, by simp, by unfold maxLen at hcm; simp; omega, fun j v hj => ?_⟩
    have hjl : j < len := by have h := (List.getElem?_eq_some_iff.1 hj).1; simpa using h
    have hjx : f j = v := by simpa [hjl] using hj
    have h0 := hf j hjl
    obtain ⟨b, off, spot⟩ := a
    have hs : spot = none := by simpa [Addr.add] using World.cell?_spot (hf 0 (by omega))
    subst hs
    rw [Go.WideShapes.add_plain] at h0
    exact ⟨b, off, rfl, World.block_lt_of_cell? W _ h0, by rw [← hjx]; exact h0⟩
/-- A deed, by its cells. -/
theorem deed_read {cs : List Value} {x : DataW H × List MemPlace} (h : DataW.trod enc Try.prog W 0 (fun _ => true) true fuel 37 cs = some x) (hl : cs.length = 4) :
    ∃ y : Dd, cs = [.int .i64 y.kind, .int .i64 y.i, .int .u8 y.c.toNat, .slice y.sa y.bs.length y.sc] ∧ BoolMem W.heap.size W y.sa y.bs := by
  match cs, hl with
  | [c0, c1, c2, c3], _ =>
  obtain ⟨xs, m, _, rfl, _, hlen, hf⟩ := DataW.trod_struct Try.underlying37 h
  match xs, hlen with
  | [y0, y1, y2, y3], _ =>
  have h0 : DataW.trod enc Try.prog W 0 (fun _ => true) true m 3 _ = some y0 := hf 0 _ rfl
  have h1 : DataW.trod enc Try.prog W 0 (fun _ => true) true m 3 _ = some y1 := hf 1 _ rfl
  have h2 : DataW.trod enc Try.prog W 0 (fun _ => true) true m 5 _ = some y2 := hf 2 _ rfl
  have h3 : DataW.trod enc Try.prog W 0 (fun _ => true) true m 30 _ = some y3 := hf 3 _ rfl
  obtain ⟨z0, e0, _, w0⟩ := DataW.trod_int Try.underlying3 h0
  obtain ⟨z1, e1, _, w1⟩ := DataW.trod_int Try.underlying3 h1
  obtain ⟨z2, e2, _, w2⟩ := DataW.trod_int Try.underlying5 h2
  simp [cellsInt, cells5] at e0 e1 e2
  subst e0 e1 e2
  have h3' : DataW.trod enc Try.prog W 0 (fun _ => true) true m 30 [c3] = some y3 := by simpa [cellsBools] using h3
  obtain ⟨d3, p3⟩ := y3
  obtain ⟨ao, bs, cap, rfl, hb⟩ := bools_read h3'
  have hz : 0 ≤ z2 ∧ z2 < 256 := by
    have m0 : IntKind.u8.min = 0 := rfl
    have m1 : IntKind.u8.max = 255 := rfl
    simp [Lit.wf, m0, m1] at w2
    omega
  refine ⟨⟨z0, z1, UInt8.ofNat z2.toNat, bs, ao, cap⟩, ?_, hb⟩
  have : ((UInt8.ofNat z2.toNat).toNat : Int) = z2 := by
    rw [UInt8.toNat_ofNat']
    omega
  show [_, _, _, _] = [Value.int .i64 z0, .int .i64 z1, .int .u8 ((UInt8.ofNat z2.toNat).toNat : Int), .slice ao bs.length cap]
  rw [this]
/-- Deeds. -/
theorem deeds_read {v : Value} {d : DataW H} {pl : List MemPlace} (h : DataW.trod enc Try.prog W 0 (fun _ => true) true fuel 22 [v] = some (d, pl)) : ∃ ao ds cap, v = .slice ao ds.length cap ∧ DdMem W.heap.size W ao ds := by
  rcases open_slice Try.underlying22 h with ⟨hcs, _⟩ | ⟨a, len, cap, m, n, D, Pl, hcs, _, hl, hcm, hm, hx, hc⟩
  · cases hcs
    exact ⟨none, [], 0, rfl, by simp, fun k x hk => by simp at hk⟩
  · cases hcs
    simp only [if_true] at hm
    subst hm
    rw [cellsDeed] at hc
    obtain ⟨f, hf⟩ := choose_lt (n := len) (p := fun i (y : Dd) => BoolMem W.heap.size W y.sa y.bs ∧ W.cell? (a.add (i * 4)) = some (.int .i64 y.kind) ∧ W.cell? ((a.add (i * 4)).add 1) = some (.int .i64 y.i) ∧ W.cell? ((a.add (i * 4)).add 2) = some (.int .u8 y.c.toNat) ∧ W.cell? ((a.add (i * 4)).add 3) = some (.slice y.sa y.bs.length y.sc)) (fun i hi => by
      obtain ⟨cs', h1, h2⟩ := hc i (by omega)
      obtain ⟨_, hl', hg⟩ := World.cells?_some h1
      obtain ⟨y, rfl, hb⟩ := deed_read h2 hl'
      exact ⟨y, hb, by simpa [Addr.add] using hg 0 (by omega), by simpa using hg 1 (by omega), by simpa using hg 2 (by omega), by simpa using hg 3 (by omega)⟩)
    refine ⟨some a, (List.range len).map f, m, by simp, by unfold maxLen at hcm; simp; omega, fun k x hk => ?_⟩
    have hkl : k < len := by have h := (List.getElem?_eq_some_iff.1 hk).1; simpa using h
    have hkx : f k = x := by simpa [hkl] using hk
    obtain ⟨b, off, spot⟩ := a
    have hs : spot = none := by simpa [Addr.add] using World.cell?_spot (hf 0 (by omega)).2.1
    subst hs
    obtain ⟨q0, q1, q2, q3, q4⟩ := hf k hkl
    rw [add_add] at q2 q3 q4
    rw [Go.WideShapes.add_plain] at q1 q2 q3 q4
    rw [hkx] at q0 q1 q2 q3 q4
    refine ⟨q0, b, off, rfl, World.block_lt_of_cell? W _ q1, q1, ?_, ?_, ?_⟩
    · rw [Nat.add_assoc]; exact q2
    · rw [Nat.add_assoc]; exact q3
    · rw [Nat.add_assoc]; exact q4
end
end Go.Proofs.Ytdlejcdmjdljfaa
