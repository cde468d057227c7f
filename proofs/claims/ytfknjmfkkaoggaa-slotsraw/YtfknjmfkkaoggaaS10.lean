/- Slots: sectors. -/
import Derived.Test.YtfknjmfkkaoggaaS9
namespace Go.Proofs.Ytfknjmfkkaoggaa
open Go.RowKit Go.Shelf
theorem sectors_any (ba : Option Addr) (ln cap : Nat) (w : World) : Calls Try.prog 60 #[.slice ba ln cap] w fun e w' => e = .returned (.func (.func 76) #[] #[.pointer (some ⟨w.heap.size, 0, none⟩)]) ∧ w' = w.alloc (.cells #[.slice ba ln cap] 30) := by
  have hmf : ∀ (fn : Fn) (first cap : Array Value) (w : World), (Instr.makeFunc fn first cap).run Try.prog w = .ok (.func fn first cap) w := fun _ _ _ _ => rfl
  go_enter Try.func60, Try.ntmps60
  go_wp2_with fail
  go_ret
  exact ⟨rfl, rfl⟩
end Go.Proofs.Ytfknjmfkkaoggaa
