/- The document's own entities. The document's own Escape. -/
import Derived.Test.YtimhkgpjfppkmaaDoorSmall
import Derived.Test.YtimhkgpjfppkmaaDoorMath
import Derived.LoopTactic
import Derived.Deep.QuietTactic
import Derived.BigQuiet
namespace Go.Proofs.YtimhkgpjfppkmaaDoor
open Go.RowKit

def refCs : Array Value := #[.string ⟨#[38]⟩, .string ⟨#[38, 97, 109, 112, 59]⟩, .string ⟨#[60]⟩, .string ⟨#[38, 108, 116, 59]⟩, .string ⟨#[62]⟩, .string ⟨#[38, 103, 116, 59]⟩, .string ⟨#[39]⟩, .string ⟨#[38, 97, 112, 111, 115, 59]⟩, .string ⟨#[34]⟩, .string ⟨#[38, 113, 117, 111, 116, 59]⟩]
end Go.Proofs.YtimhkgpjfppkmaaDoor
namespace Go.Proofs.YtimhkgpjfppkmaaDoor
open Go.RowKit

def refA (k : Nat) : ByteArray := match k with | 0 => ⟨#[38]⟩ | 1 => ⟨#[60]⟩ | 2 => ⟨#[62]⟩ | 3 => ⟨#[39]⟩ | _ => ⟨#[34]⟩
def refB (k : Nat) : ByteArray := match k with | 0 => ⟨#[38, 97, 109, 112, 59]⟩ | 1 => ⟨#[38, 108, 116, 59]⟩ | 2 => ⟨#[38, 103, 116, 59]⟩ | 3 => ⟨#[38, 97, 112, 111, 115, 59]⟩ | _ => ⟨#[38, 113, 117, 111, 116, 59]⟩
def cAfter (b : UInt8) : Nat → ByteArray
  | 0 => ⟨#[b]⟩
  | k + 1 => if (refA k).data.toList = [b] then refB k else cAfter b k

theorem ext_one (s : ByteArray) (i : Nat) (h : i < s.size) : s.extract i (i + 1) = ⟨#[s[i]]⟩ := by
  apply ByteArray.ext
  apply Array.toList_inj.1
  have h1 := ext_list s i (i + 1)
  rw [h1, show i + 1 - i = 1 by omega]
  have h2 := list_at s i h
  rw [List.take_one, List.head?_drop, h2]
  rfl
theorem slice_one (s : ByteArray) (i : Nat) (h : i < s.size) (w : World) : (Instr.slice 9 (.string s) (some (.int .i64 i)) (some (.int .i64 (i + 1))) none).run Tryd.prog w = .ok (.string ⟨#[s[i]]⟩) w := by
  rw [run_slice_string (P := Tryd.prog) w 9 s .i64 .i64 i (i + 1) Tryd.underlying9 (by omega) (by omega) (by omega)]
  rw [show (((i : Int) + 1).toNat) = i + 1 by omega, Int.toNat_natCast, ext_one s i h]
theorem ref_cell (k : Nat) (h : k < 5) : refCs[k * 2]? = some (.string (refA k)) ∧ refCs[k * 2 + 1]? = some (.string (refB k)) := by
  have hk : k = 0 ∨ k = 1 ∨ k = 2 ∨ k = 3 ∨ k = 4 := by omega
  rcases hk with rfl | rfl | rfl | rfl | rfl <;> exact ⟨rfl, rfl⟩
set_option maxRecDepth 100000 in
theorem cAfter_fin : ∀ n : Fin 256, (cAfter (UInt8.ofNat n.val) 5).data.toList = escB (UInt8.ofNat n.val) := by decide
theorem cAfter_esc (b : UInt8) : (cAfter b 5).data.toList = escB b := by
  have := cAfter_fin ⟨b.toNat, b.toNat_lt⟩
  simpa using this
theorem esc_more (l : List UInt8) (i : Nat) (b : UInt8) (h : l[i]? = some b) : esc (l.take (i + 1)) = esc (l.take i) ++ escB b := by
  rw [List.take_add_one, h, esc_append]
  simp [esc]

end Go.Proofs.YtimhkgpjfppkmaaDoor
