/- Stanzas that are handed in: what a reading of one says. -/
import Derived.Test.YthmidlmknkbdaaaDoorArg
namespace Go.Proofs.YthmidlmknkbdaaaDoor
open Go.RowKit Go.Deep Go.ChangeShapes Go.WideShapes

section
variable {H : Type} {enc : TypeId × Value → H} {W : World} {fuel : Nat}
theorem cellsSk : Tryd.prog.cellsOf 36 = 1 := by kernel_rfl
theorem cellsToks : Tryd.prog.cellsOf 22 = 1 := by kernel_rfl
theorem stanza_read {cs : List Value} {d : DataW H} {pl : List MemPlace} (h : DataW.trod enc Tryd.prog W 0 (fun _ => true) true fuel 38 cs = some (d, pl)) (hl : cs.length = 6) (hw : ∀ n ∈ d.weights Tryd.prog 38, n ≤ reachBytes) :
    ∃ (k : Int) (ty fr tt id : ByteArray) (ao : Option Addr) (ts : List Tok) (cap : Nat) (av : Nat → Option Addr × Nat), cs = [.int .u8 k, .string ty, .string fr, .string tt, .string id, .slice ao ts.length cap] ∧ ts.length ≤ cap ∧ TokMem W.heap.size W ao ts av ∧ (ty.size ≤ 9223372036854775807 ∧ fr.size ≤ 9223372036854775807 ∧ tt.size ≤ 9223372036854775807 ∧ id.size ≤ 9223372036854775807) := by
  match cs, hl with
  | [c0, c1, c2, c3, c4, c5], _ =>
  obtain ⟨xs, m, _, hx, _, hlen, hf⟩ := DataW.trod_struct Tryd.underlying38 h
  match xs, hlen with
  | [y0, y1, y2, y3, y4, y5], _ =>
  have h0 : DataW.trod enc Tryd.prog W 0 (fun _ => true) true m 36 _ = some y0 := hf 0 _ rfl
  have h1 : DataW.trod enc Tryd.prog W 0 (fun _ => true) true m 9 _ = some y1 := hf 1 _ rfl
  have h2 : DataW.trod enc Tryd.prog W 0 (fun _ => true) true m 9 _ = some y2 := hf 2 _ rfl
  have h3 : DataW.trod enc Tryd.prog W 0 (fun _ => true) true m 9 _ = some y3 := hf 3 _ rfl
  have h4 : DataW.trod enc Tryd.prog W 0 (fun _ => true) true m 9 _ = some y4 := hf 4 _ rfl
  have h5 : DataW.trod enc Tryd.prog W 0 (fun _ => true) true m 22 _ = some y5 := hf 5 _ rfl
  obtain ⟨z, e0, _, _⟩ := DataW.trod_int Tryd.underlying36 h0
  obtain ⟨s1, e1, _, g1⟩ := DataW.trod_string Tryd.underlying9 h1
  obtain ⟨s2, e2, _, g2⟩ := DataW.trod_string Tryd.underlying9 h2
  obtain ⟨s3, e3, _, g3⟩ := DataW.trod_string Tryd.underlying9 h3
  obtain ⟨s4, e4, _, g4⟩ := DataW.trod_string Tryd.underlying9 h4
  simp [cellsStr, cellsSk] at e0 e1 e2 e3 e4
  subst e0 e1 e2 e3 e4
  have h5' : DataW.trod enc Tryd.prog W 0 (fun _ => true) true m 22 [c5] = some y5 := by simpa [cellsToks] using h5
  clear h5
  obtain ⟨d5, p5⟩ := y5
  cases hx
  obtain ⟨ao, ts, cap, av, e5, hc, hT, _⟩ := toks_read h5' (fun n hn => hw n (by
    unfold DataW.weights
    rw [Tryd.underlying38]
    exact DataW.weights_mem_each (j := 5) rfl rfl n hn))
  subst e5
  unfold maxLen at g1 g2 g3 g4
  exact ⟨z, s1, s2, s3, s4, ao, ts, cap, av, rfl, hc, hT, by omega, by omega, by omega, by omega⟩
end
end Go.Proofs.YthmidlmknkbdaaaDoor
