/- An array of three bytes, as it is handed in. -/
import Derived.Test.YtcghnojhcmiolaaJSaid
import Derived.Laws.IdiomArrays
namespace Go.Proofs.Ytcghnojhcmiolaa
open Go.RowKit

theorem arr_ok {W : World} {base : Nat} {v : Value} (h : Value.okWide Try.prog W .any base 34 v) : ∃ cs : Array Value, v = .agg cs ∧ cs.size = 3 := by
  simp only [Value.okWide, Try.underlying34] at h
  obtain ⟨cs, h1, h2, _⟩ := h
  exact ⟨cs, h1, by rw [h2]; kernel_rfl⟩
theorem arr_read {H : Type} {enc : TypeId × Value → H} {W : World} {fuel : Nat} {cs : List Value} {x : DataW H × List MemPlace} (h : DataW.trod enc Try.prog W 0 (fun _ => true) true fuel 34 cs = some x) (hlen : cs.length = 3) :
    ∃ a b c : Int, cs = [.int .u8 a, .int .u8 b, .int .u8 c] ∧ ((0 ≤ a ∧ a ≤ 255) ∧ (0 ≤ b ∧ b ≤ 255) ∧ (0 ≤ c ∧ c ≤ 255)) := by
  match cs, hlen with
  | [c0, c1, c2], _ =>
  obtain ⟨y0, y1, y2, m, _, hy0, hy1, hy2⟩ := Go.ChangeShapes.trod_array3 Try.underlying34 (by kernel_rfl) h
  obtain ⟨a, e0, _, w0⟩ := DataW.trod_int Try.underlying5 hy0
  obtain ⟨b, e1, _, w1⟩ := DataW.trod_int Try.underlying5 hy1
  obtain ⟨c, e2, _, w2⟩ := DataW.trod_int Try.underlying5 hy2
  cases e0
  cases e1
  cases e2
  have m0 : IntKind.u8.min = 0 := rfl
  have m1 : IntKind.u8.max = 255 := rfl
  simp [Lit.wf, m0, m1] at w0 w1 w2
  exact ⟨a, b, c, rfl, ⟨by omega, by omega⟩, ⟨by omega, by omega⟩, by omega, by omega⟩
end Go.Proofs.Ytcghnojhcmiolaa
