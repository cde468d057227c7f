/- The variable that strings.Cut reads: an integer, whatever its value. -/
import Derived.Test.YtgdbhijlblafcaaJ3
import Derived.Lib.LaidU8T
import Derived.Shelf.Vars
import Derived.OpenShut
import Derived.ChangeSame
import Derived.Deep.Strs
namespace Go.Proofs.Ytgdbhijlblafcaa
open Go.RowKit

theorem maxG_of {W : World} (hsh : W.ShapedOpen Try.prog) : MaxG W :=
  cell_of_shapedOpen_int (P := Try.prog) (g := 0) (t := 3) (zero := #[.int .i64 0]) hsh (of_decide_eq_true (by kernel_rfl)) (by kernel_rfl) rfl (by kernel_rfl) (by kernel_rfl) Try.underlying3
theorem maxG_lt {W : World} (hsh : W.ShapedOpen Try.prog) : 0 < W.heap.size := by
  obtain ⟨m, hm⟩ := maxG_of hsh
  exact block_lt_of_cell hm

theorem jid_read {H : Type} {enc : TypeId × Value → H} {W : World} {fuel : Nat} {cs : List Value} {d : DataW H} {pl : List MemPlace} (h : DataW.trod enc Try.prog W 0 (fun _ => true) true fuel 23 cs = some (d, pl)) (hlen : cs.length = 3) (hw : ∀ n ∈ d.weights Try.prog 23, n ≤ reachBytes) :
    ∃ a b c : ByteArray, cs = [.string a, .string b, .string c] ∧ a.size ≤ 140737488351232 ∧ b.size ≤ 140737488351232 ∧ c.size ≤ 140737488351232 := by
  match cs, hlen with
  | [c0, c1, c2], _ =>
  obtain ⟨y0, y1, y2, m, hx, _, hy0, hy1, hy2⟩ := Go.Deep.trod_struct3 Try.underlying23 h
  obtain ⟨a, e0, z0, _⟩ := DataW.trod_string Try.underlying9 hy0
  obtain ⟨b, e1, z1, _⟩ := DataW.trod_string Try.underlying9 hy1
  obtain ⟨c, e2, z2, _⟩ := DataW.trod_string Try.underlying9 hy2
  simp [show Try.prog.cellsOf 9 = 1 by kernel_rfl] at e0 e1 e2
  subst e0 e1 e2 z0 z1 z2
  cases hx
  have key : ∀ n, n ∈ DataW.weightsEach Try.prog [9, 9, 9] [(DataW.lit (.string a.data.toList) : DataW H), .lit (.string b.data.toList), .lit (.string c.data.toList)] → n ≤ reachBytes := fun n hn => hw n (by
    unfold DataW.weights
    rw [Try.underlying23]
    exact hn)
  have hr : reachBytes = 140737488351232 := rfl
  have k0 := key a.size (DataW.weights_mem_each (j := 0) rfl rfl _ (by rw [← size_list]; unfold DataW.weights; exact List.mem_singleton.2 rfl))
  have k1 := key b.size (DataW.weights_mem_each (j := 1) rfl rfl _ (by rw [← size_list]; unfold DataW.weights; exact List.mem_singleton.2 rfl))
  have k2 := key c.size (DataW.weights_mem_each (j := 2) rfl rfl _ (by rw [← size_list]; unfold DataW.weights; exact List.mem_singleton.2 rfl))
  exact ⟨a, b, c, rfl, by omega, by omega, by omega⟩
end Go.Proofs.Ytgdbhijlblafcaa
