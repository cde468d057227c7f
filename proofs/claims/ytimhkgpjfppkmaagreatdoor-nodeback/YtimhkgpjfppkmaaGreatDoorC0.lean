/- Edges in memory; named, rise. -/
import Derived.Test.YtimhkgpjfppkmaaGreatDoorK0
import Derived.Test.YtimhkgpjfppkmaaGreatDoorA0g
import Derived.Deep.QuietTactic
import Derived.BigQuiet
import Derived.LoopTactic
namespace Go.Proofs.YtimhkgpjfppkmaaGreatDoor
open Go.RowKit

/-- Edges that are read: a child and its parent each. -/
def EdMem (n₀ : Nat) (w : World) (ao : Option Addr) (l : List Pr) : Prop :=
  l.length ≤ 1000000 ∧ ∀ k x, l[k]? = some x → ∃ b off, ao = some ⟨b, off, none⟩ ∧ b < n₀ ∧ w.cell? ⟨b, off + k * 2, none⟩ = some (.string x.1) ∧ w.cell? ⟨b, off + k * 2 + 1, none⟩ = some (.string x.2)
theorem EdMem.below {n₀ : Nat} {w w' : World} {ao : Option Addr} {l : List Pr} (h : EdMem n₀ w ao l) (hb : Below n₀ w w') : EdMem n₀ w' ao l := by
  refine ⟨h.1, fun k x hk => ?_⟩
  obtain ⟨b, off, e1, e2, c0, c1⟩ := h.2 k x hk
  exact ⟨b, off, e1, e2, (hb.cell (p := ⟨b, _, none⟩) e2).trans c0, (hb.cell (p := ⟨b, _, none⟩) e2).trans c1⟩
theorem EdMem.more {n₀ n₁ : Nat} {w : World} {ao : Option Addr} {l : List Pr} (h : EdMem n₀ w ao l) (hn : n₀ ≤ n₁) : EdMem n₁ w ao l :=
  ⟨h.1, fun k x hk => let ⟨b, off, e1, e2, c⟩ := h.2 k x hk; ⟨b, off, e1, Nat.lt_of_lt_of_le e2 hn, c⟩⟩
theorem txt_eq {a b : ByteArray} (h : a = b) : (a.toList == b.toList) = true := by rw [h]; simp
theorem txt_ne {a b : ByteArray} (h : a ≠ b) : (a.toList == b.toList) = false := by
  cases hq : (a.toList == b.toList) with
  | false => rfl
  | true => exact absurd (ba_ext (by simpa using hq)) h
theorem less_yes {a b : Str} (h : a < b) : Op.bytesLess a b = true := by rw [bytesLess_eq]; exact decide_eq_true h
theorem less_no {a b : Str} (h : ¬ a < b) : Op.bytesLess a b = false := by rw [bytesLess_eq]; exact decide_eq_false h
def em : ByteArray := ⟨#[]⟩
def Named (l : List Pr) : Prop := ∀ x ∈ l, x.1.toList.isEmpty = false ∧ x.2.toList.isEmpty = false
theorem two_at {w : World} {g : Nat} {u v : Value} {T : TypeId} (h : w.heap[g]? = some (.cells #[u, v] T)) : w.cell? ⟨g, 0, none⟩ = some u ∧ w.cell? ⟨g, 1, none⟩ = some v := by simp [World.cell?, h]
theorem rising_take {l : List Pr} {k : Nat} {x y : Pr} (h : Rising (l.take (k + 1))) (hx : l[k]? = some x) (hy : l[k + 1]? = some y) (hlt : kb x < kb y) : Rising (l.take (k + 2)) := by
  have ht : l.take (k + 1) = l.take k ++ [x] := by rw [List.take_add_one, hx]; rfl
  have ht2 : l.take (k + 2) = l.take (k + 1) ++ [y] := by rw [List.take_add_one, hy]; rfl
  rw [ht2]
  refine List.pairwise_append.2 ⟨h, List.pairwise_singleton _ _, fun a ha b hb => ?_⟩
  simp at hb
  subst hb
  rw [ht] at ha h
  rcases List.mem_append.1 ha with ha | ha
  · exact str_trans ((List.pairwise_append.1 h).2.2 a ha x (by simp)) hlt
  · simp at ha
    rw [ha]
    exact hlt
theorem below_drewN {B : Nat} {a w : World} (h : Below B a w) (n : Nat) : Below B a (w.drewN n) := ⟨h.os, h.tape, h.output, h.size, h.block⟩
end Go.Proofs.YtimhkgpjfppkmaaGreatDoor
