/- Slots: sectors. -/
import Derived.Test.YtnbemfddcjhcaaaS9
namespace Go.Proofs.Ytnbemfddcjhcaaa
open Go.RowKit Go.Shelf
theorem sectors_any (ba : Option Addr) (ln cap : Nat) (w : World) : Calls Try.prog 29 #[.slice ba ln cap] w fun e w' => e = .returned (.func (.func 44) #[] #[.pointer (some ⟨w.heap.size, 0, none⟩)]) ∧ w' = w.alloc (.cells #[.slice ba ln cap] 34) := by
  have hmf : ∀ (fn : Fn) (first cap : Array Value) (w : World), (Instr.makeFunc fn first cap).run Try.prog w = .ok (.func fn first cap) w := fun _ _ _ _ => rfl
  go_enter Try.func29, Try.ntmps29
  go_wp2_with fail
  go_ret
  exact ⟨rfl, rfl⟩
end Go.Proofs.Ytnbemfddcjhcaaa
