/- Two rows of bytes, and two numbers, as they are handed in. -/
import Derived.Test.YtfknjmfkkaoggaaSlArg
import Derived.Test.YtfknjmfkkaoggaaSlotsRaw
namespace Go.Proofs.Ytfknjmfkkaoggaa
open Go.RowKit Go.Deep Go.ChangeShapes Go.WideShapes

set_option maxRecDepth 100000 in
theorem arrB_ok {W : World} {base : Nat} {v : Value} (h : Value.okWide Try.prog W .any base 52 v) : ∃ cs : Array Value, v = .agg cs ∧ cs.size = 2 := by
  simp only [Value.okWide, Try.underlying52] at h
  obtain ⟨cs, h1, h2, _⟩ := h
  exact ⟨cs, h1, by rw [h2]; kernel_rfl⟩
set_option maxRecDepth 100000 in
theorem arrN_ok {W : World} {base : Nat} {v : Value} (h : Value.okWide Try.prog W .any base 53 v) : ∃ cs : Array Value, v = .agg cs ∧ cs.size = 2 := by
  simp only [Value.okWide, Try.underlying53] at h
  obtain ⟨cs, h1, h2, _⟩ := h
  exact ⟨cs, h1, by rw [h2]; kernel_rfl⟩
section
variable {H : Type} {enc : TypeId × Value → H} {W : World} {fuel : Nat}
theorem cellsU64 : Try.prog.cellsOf 36 = 1 := by kernel_rfl
theorem arrB_read {cs : List Value} {x : DataW H × List MemPlace} (h : DataW.trod enc Try.prog W 0 (fun _ => true) true fuel 52 cs = some x) (hlen : cs.length = 2) :
    ∃ a0 a1 r0 r1 l0 l1 c0 c1, cs = [.slice a0 l0 c0, .slice a1 l1 c1] ∧ Bh W a0 r0 l0 c0 ∧ Bh W a1 r1 l1 c1 := by
  match cs, hlen with
  | [c0, c1], _ =>
  obtain ⟨xs, m, _, rfl, _, hlen, hf⟩ := DataW.trod_array Try.underlying52 h
  match xs, hlen with
  | [y0, y1], _ =>
  have hy0 := hf 0 (by omega)
  have hy1 := hf 1 (by omega)
  have hy0' : DataW.trod enc Try.prog W 0 (fun _ => true) true m 30 [c0] = some (y0.1, y0.2) := by simpa [cellsBytes] using hy0
  have hy1' : DataW.trod enc Try.prog W 0 (fun _ => true) true m 30 [c1] = some (y1.1, y1.2) := by simpa [cellsBytes] using hy1
  obtain ⟨a0, r0, q0, rfl, p1, p2, p3⟩ := bytes_read hy0'
  obtain ⟨a1, r1, q1, rfl, p4, p5, p6⟩ := bytes_read hy1'
  exact ⟨a0, a1, r0, r1, _, _, q0, q1, rfl, ⟨p3, rfl, p1, p2⟩, ⟨p6, rfl, p4, p5⟩⟩
theorem arrN_read {cs : List Value} {x : DataW H × List MemPlace} (h : DataW.trod enc Try.prog W 0 (fun _ => true) true fuel 53 cs = some x) (hlen : cs.length = 2) :
    ∃ t0 t1 : V, cs = [.int .u64 t0.toNat, .int .u64 t1.toNat] := by
  match cs, hlen with
  | [c0, c1], _ =>
  obtain ⟨xs, m, _, rfl, _, hlen, hf⟩ := DataW.trod_array Try.underlying53 h
  match xs, hlen with
  | [y0, y1], _ =>
  have hy0 := hf 0 (by omega)
  have hy1 := hf 1 (by omega)
  have hy0' : DataW.trod enc Try.prog W 0 (fun _ => true) true m 36 [c0] = some y0 := by simpa [cellsU64] using hy0
  have hy1' : DataW.trod enc Try.prog W 0 (fun _ => true) true m 36 [c1] = some y1 := by simpa [cellsU64] using hy1
  obtain ⟨a, e0, _, w0⟩ := DataW.trod_int Try.underlying36 hy0'
  obtain ⟨b, e1, _, w1⟩ := DataW.trod_int Try.underlying36 hy1'
  cases e0
  cases e1
  have m0 : IntKind.u64.min = 0 := rfl
  have m1 : IntKind.u64.max = 18446744073709551615 := rfl
  simp [Lit.wf, m0, m1] at w0 w1
  refine ⟨BitVec.ofNat 64 a.toNat, BitVec.ofNat 64 b.toNat, ?_⟩
  have h0 : ((BitVec.ofNat 64 a.toNat).toNat : Int) = a := by rw [BitVec.toNat_ofNat]; omega
  have h1 : ((BitVec.ofNat 64 b.toNat).toNat : Int) = b := by rw [BitVec.toNat_ofNat]; omega
  rw [h0, h1]
end
end Go.Proofs.Ytfknjmfkkaoggaa
