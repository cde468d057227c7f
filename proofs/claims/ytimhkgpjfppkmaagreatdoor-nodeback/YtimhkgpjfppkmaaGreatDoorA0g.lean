/- Blocks, rows of one's own, what stays. -/
import Derived.Test.YtimhkgpjfppkmaaGreatDoorJBase
import Derived.Test.YtimhkgpjfppkmaaGreatDoorRangeD
import Derived.WalkKit
import Derived.Shelf.Abstract
import Derived.OwnWalk
import Derived.Maps.AppendAt
import Derived.Laws.Rows
import Derived.Laws.OwnMore
namespace Go.Proofs.YtimhkgpjfppkmaaGreatDoor
open Go.RowKit

theorem own_shape {w : World} {base : Nat} {e : TypeId} {size : Nat} {v : Value} {n : Nat} {xs : List Value} (h : w.ownsRow base e size v n xs) : ∃ ga gc, v = .slice ga n gc := by
  obtain ⟨_, ⟨rfl, rfl⟩ | ⟨g, cap, _, rfl, _⟩⟩ := h
  · exact ⟨none, 0, rfl⟩
  · exact ⟨_, _, rfl⟩
theorem own_same {A B : World} {base : Nat} {e : TypeId} {size : Nat} {v : Value} {n : Nat} {xs : List Value} (h : A.ownsRow base e size v n xs) (hg : ∀ g, v.ownBlock = some g → B.heap[g]? = A.heap[g]?) : B.ownsRow base e size v n xs := by
  obtain ⟨h1, h2 | ⟨g, cap, cur, rfl, x1, x2, x3⟩⟩ := h
  · exact ⟨h1, .inl h2⟩
  · exact ⟨h1, .inr ⟨g, cap, cur, rfl, x1, (hg g rfl).trans x2, x3⟩⟩
theorem own_lt {w : World} {base : Nat} {e : TypeId} {size : Nat} {v : Value} {n : Nat} {xs : List Value} (h : w.ownsRow base e size v n xs) (g : Nat) (hg : v.ownBlock = some g) : g < w.heap.size := (h.lt g hg).2
theorem own_base {W : World} {base e size n : Nat} {v : Value} {xs : List Value} (h : W.ownsRow base e size v n xs) (g : Nat) (hg : v.ownBlock = some g) : base ≤ g := (h.lt g hg).1
theorem own_less {W : World} {base base' e size n : Nat} {v : Value} {xs : List Value} (h : W.ownsRow base e size v n xs) (hb : base' ≤ base) : W.ownsRow base' e size v n xs := by
  obtain ⟨h1, h2 | ⟨g', c, cur, hv, hb', r⟩⟩ := h
  · exact ⟨h1, .inl h2⟩
  · exact ⟨h1, .inr ⟨g', c, cur, hv, Nat.le_trans hb hb', r⟩⟩
theorem own_ne0 {W : World} {base e n b : Nat} {size : Nat} {v : Value} {xs : List Value} {cs : Array Value} {T : TypeId} (h : W.ownsRow base e size v n xs) (hb : W.heap[b]? = some (.cells cs T)) (hT : T ≠ e) (g : Nat) (hg : v.ownBlock = some g) : g ≠ b := by
  intro e1
  subst e1
  obtain ⟨_, ⟨rfl, _⟩ | ⟨g', cap, cur, rfl, _, hg', _⟩⟩ := h
  · cases hg
  · cases hg
    rw [hg'] at hb
    cases hb
    exact hT rfl
theorem own_empty (w : World) (base e m : Nat) (hb : base ≤ w.heap.size) : (w.alloc (.cells #[] e)).ownsRow base e m (.slice (some ⟨w.heap.size, 0, none⟩) 0 0) 0 [] :=
  ⟨by simp, .inr ⟨w.heap.size, 0, #[], rfl, hb, heap_alloc_new w _, Nat.le_refl _, by unfold maxLen; omega, by simp, by simp⟩⟩
theorem hp_lt {w : World} {b : Nat} {o : Obj} (h : w.heap[b]? = some o) : b < w.heap.size := (Array.getElem?_eq_some_iff.1 h).1
theorem Frees.of_below {n₀ : Nat} {M : Blk} {w w1 : World} (hb : Below w.heap.size w w1) (hn : n₀ ≤ w.heap.size) : Frees n₀ M w w1 := ⟨hb.mono hn, fun j hj _ => hb.block j hj⟩
theorem Frees.mono {n₀ : Nat} {M M' : Blk} {w w1 : World} (h : Frees n₀ M w w1) (hm : ∀ j, M j → M' j) : Frees n₀ M' w w1 := ⟨h.below, fun j hj hn => h.same j hj (fun x => hn (hm j x))⟩
theorem Frees.trans' {n₀ : Nat} {M M' : Blk} {a b c : World} (h : Frees n₀ M a b) (k : Frees n₀ M' b c) (hm : ∀ j, M' j → M j ∨ a.heap.size ≤ j) : Frees n₀ M a c :=
  ⟨h.below.trans k.below, fun j hj hn => (k.same j (Nat.lt_of_lt_of_le hj h.below.size) (fun x => by
    rcases hm j x with y | y
    · exact hn y
    · omega)).trans (h.same j hj hn)⟩

end Go.Proofs.YtimhkgpjfppkmaaGreatDoor
