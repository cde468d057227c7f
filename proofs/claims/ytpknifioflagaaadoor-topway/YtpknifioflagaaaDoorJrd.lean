/- Reading an address that is handed in. -/
import Derived.Test.YtpknifioflagaaaDoorSt11
import Derived.OpenShut
import Derived.ChangeSame
import Derived.Deep.Strs
namespace Go.Proofs.YtpknifioflagaaaDoor
open Go.RowKit

theorem jid_read {H : Type} {enc : TypeId × Value → H} {W : World} {fuel : Nat} {cs : List Value} {d : DataW H} {pl : List MemPlace} (h : DataW.trod enc Tryd.prog W 0 (fun _ => true) true fuel 47 cs = some (d, pl)) (hlen : cs.length = 3) (hw : ∀ n ∈ d.weights Tryd.prog 47, n ≤ reachBytes) :
    ∃ a b c : ByteArray, cs = [.string a, .string b, .string c] ∧ a.size ≤ 140737488351232 ∧ b.size ≤ 140737488351232 ∧ c.size ≤ 140737488351232 := by
  match cs, hlen with
  | [c0, c1, c2], _ =>
  obtain ⟨y0, y1, y2, m, hx, _, hy0, hy1, hy2⟩ := Go.Deep.trod_struct3 Tryd.underlying47 h
  obtain ⟨a, e0, z0, _⟩ := DataW.trod_string Tryd.underlying9 hy0
  obtain ⟨b, e1, z1, _⟩ := DataW.trod_string Tryd.underlying9 hy1
  obtain ⟨c, e2, z2, _⟩ := DataW.trod_string Tryd.underlying9 hy2
  simp [show Tryd.prog.cellsOf 9 = 1 by kernel_rfl] at e0 e1 e2
  subst e0 e1 e2 z0 z1 z2
  cases hx
  have key : ∀ n, n ∈ DataW.weightsEach Tryd.prog [9, 9, 9] [(DataW.lit (.string a.data.toList) : DataW H), .lit (.string b.data.toList), .lit (.string c.data.toList)] → n ≤ reachBytes := fun n hn => hw n (by
    unfold DataW.weights
    rw [Tryd.underlying47]
    exact hn)
  have hr : reachBytes = 140737488351232 := rfl
  have k0 := key a.size (DataW.weights_mem_each (j := 0) rfl rfl _ (by rw [← size_list]; unfold DataW.weights; exact List.mem_singleton.2 rfl))
  have k1 := key b.size (DataW.weights_mem_each (j := 1) rfl rfl _ (by rw [← size_list]; unfold DataW.weights; exact List.mem_singleton.2 rfl))
  have k2 := key c.size (DataW.weights_mem_each (j := 2) rfl rfl _ (by rw [← size_list]; unfold DataW.weights; exact List.mem_singleton.2 rfl))
  exact ⟨a, b, c, rfl, by omega, by omega, by omega⟩
end Go.Proofs.YtpknifioflagaaaDoor
