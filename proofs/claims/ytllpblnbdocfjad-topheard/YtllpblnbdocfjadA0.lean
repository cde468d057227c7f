/- A queue in memory: what waits, how many were acknowledged, how many were handled. -/
import Derived.Test.YtllpblnbdocfjadJBase
import Derived.WalkKit
import Derived.Shelf.Abstract
import Derived.OwnWalk
import Derived.Maps.AppendAt
import Derived.Laws.Rows
import Derived.Laws.OwnMore
namespace Go.Proofs.Ytllpblnbdocfjad
open Go.RowKit

/-- A set of blocks. -/
abbrev Blk := Nat → Prop
/-- From A to B nothing has turned but blocks of M and new ones; nothing below n₀. -/
structure Frees (n₀ : Nat) (M : Blk) (A B : World) : Prop where
  below : Below n₀ A B
  same : ∀ j, j < A.heap.size → ¬ M j → B.heap[j]? = A.heap[j]?
theorem Frees.setCell {n₀ : Nat} {M : Blk} {A B : World} (h : Frees n₀ M A B) {p : Addr} (hp : n₀ ≤ p.block) (hm : M p.block ∨ A.heap.size ≤ p.block) (v : Value) : Frees n₀ M A (B.setCell p v) :=
  ⟨h.below.setCell hp v, fun j hj hn => (Below.heap_setCell _ _ _ _ (fun e => by
    rcases hm with hm | hm
    · exact hn (e ▸ hm)
    · omega)).trans (h.same j hj hn)⟩
/-- Texts, as cells. -/
def strC (l : List ByteArray) : List Value := l.map Value.string
theorem strC_len (l : List ByteArray) : (strC l).length = l.length * 1 := by simp [strC]
theorem strC_one (l : List ByteArray) : ∀ u ∈ strC l, u.oneCell' = true := fun u hu => by
  simp only [strC, List.mem_map] at hu
  obtain ⟨_, _, rfl⟩ := hu
  rfl
theorem info9 : (Try.prog.info? 9).map (fun i => (i.zero, i.size, i.bytes)) = some (some (.string ⟨#[]⟩), 1, 16) := by kernel_rfl
/-- A queue. -/
structure Qs where
  l : List ByteArray
  a : Nat
  g : Nat
structure QOk (q : Qs) : Prop where
  few : q.l.length ≤ 16
  a : q.a < 4294967296
  g : q.g < 4294967296
def cP (q : Qs) (v : Value) : Array Value := #[.int .u32 q.a, .int .u32 q.g, v]
def cR (q : Qs) (v : Value) : Array Value := #[v, .int .u32 q.a, .int .u32 q.g]
/-- It lies in memory. -/
structure IsQu (T : TypeId) (c : Qs → Value → Array Value) (base p : Nat) (q : Qs) (v : Value) (w : World) : Prop where
  low : base ≤ p
  here : w.heap[p]? = some (.cells (c q v) T)
  row : w.ownsRow base 9 1 v q.l.length (strC q.l)
/-- Its blocks. -/
def foot (p : Nat) (v : Value) : Blk := fun j => j = p ∨ v.ownBlock = some j
/-- It is q' now, and nothing has turned but its own blocks. -/
def QTo (T : TypeId) (c : Qs → Value → Array Value) (base p : Nat) (v : Value) (q' : Qs) (v' : Value) (w w' : World) : Prop :=
  IsQu T c base p q' v' w' ∧ Frees base (foot p v) w w' ∧ ∀ j, foot p v' j → foot p v j ∨ w.heap.size ≤ j

theorem own_shape {w : World} {base : Nat} {e : TypeId} {size : Nat} {v : Value} {n : Nat} {xs : List Value} (h : w.ownsRow base e size v n xs) : ∃ ga gc, v = .slice ga n gc := by
  obtain ⟨_, ⟨rfl, rfl⟩ | ⟨g, cap, _, rfl, _⟩⟩ := h
  · exact ⟨none, 0, rfl⟩
  · exact ⟨_, _, rfl⟩
theorem own_same {A B : World} {base : Nat} {e : TypeId} {size : Nat} {v : Value} {n : Nat} {xs : List Value} (h : A.ownsRow base e size v n xs) (hg : ∀ g, v.ownBlock = some g → B.heap[g]? = A.heap[g]?) : B.ownsRow base e size v n xs := by
  obtain ⟨h1, h2 | ⟨g, cap, cur, rfl, x1, x2, x3⟩⟩ := h
  · exact ⟨h1, .inl h2⟩
  · exact ⟨h1, .inr ⟨g, cap, cur, rfl, x1, (hg g rfl).trans x2, x3⟩⟩
theorem own_lt {w : World} {base : Nat} {e : TypeId} {size : Nat} {v : Value} {n : Nat} {xs : List Value} (h : w.ownsRow base e size v n xs) (g : Nat) (hg : v.ownBlock = some g) : g < w.heap.size := (h.lt g hg).2
theorem own_base {W : World} {base e size n : Nat} {v : Value} {xs : List Value} (h : W.ownsRow base e size v n xs) (g : Nat) (hg : v.ownBlock = some g) : base ≤ g := (h.lt g hg).1
theorem own_less {W : World} {base base' e size n : Nat} {v : Value} {xs : List Value} (h : W.ownsRow base e size v n xs) (hb : base' ≤ base) : W.ownsRow base' e size v n xs := by
  obtain ⟨h1, h2 | ⟨g', c, cur, hv, hb', r⟩⟩ := h
  · exact ⟨h1, .inl h2⟩
  · exact ⟨h1, .inr ⟨g', c, cur, hv, Nat.le_trans hb hb', r⟩⟩
theorem own_ne0 {W : World} {base e n b : Nat} {size : Nat} {v : Value} {xs : List Value} {cs : Array Value} {T : TypeId} (h : W.ownsRow base e size v n xs) (hb : W.heap[b]? = some (.cells cs T)) (hT : T ≠ e) (g : Nat) (hg : v.ownBlock = some g) : g ≠ b := by
  intro e1
  subst e1
  obtain ⟨_, ⟨rfl, _⟩ | ⟨g', cap, cur, rfl, _, hg', _⟩⟩ := h
  · cases hg
  · cases hg
    rw [hg'] at hb
    cases hb
    exact hT rfl
theorem own_empty (w : World) (base e m : Nat) (hb : base ≤ w.heap.size) : (w.alloc (.cells #[] e)).ownsRow base e m (.slice (some ⟨w.heap.size, 0, none⟩) 0 0) 0 [] :=
  ⟨by simp, .inr ⟨w.heap.size, 0, #[], rfl, hb, heap_alloc_new w _, Nat.le_refl _, by unfold maxLen; omega, by simp, by simp⟩⟩
theorem hp_lt {w : World} {b : Nat} {o : Obj} (h : w.heap[b]? = some o) : b < w.heap.size := (Array.getElem?_eq_some_iff.1 h).1
theorem Frees.of_below {n₀ : Nat} {M : Blk} {w w1 : World} (hb : Below w.heap.size w w1) (hn : n₀ ≤ w.heap.size) : Frees n₀ M w w1 := ⟨hb.mono hn, fun j hj _ => hb.block j hj⟩
theorem Frees.mono {n₀ : Nat} {M M' : Blk} {w w1 : World} (h : Frees n₀ M w w1) (hm : ∀ j, M j → M' j) : Frees n₀ M' w w1 := ⟨h.below, fun j hj hn => h.same j hj (fun x => hn (hm j x))⟩
theorem Frees.trans' {n₀ : Nat} {M M' : Blk} {a b c : World} (h : Frees n₀ M a b) (k : Frees n₀ M' b c) (hm : ∀ j, M' j → M j ∨ a.heap.size ≤ j) : Frees n₀ M a c :=
  ⟨h.below.trans k.below, fun j hj hn => (k.same j (Nat.lt_of_lt_of_le hj h.below.size) (fun x => by
    rcases hm j x with y | y
    · exact hn y
    · omega)).trans (h.same j hj hn)⟩

/-- A list of texts that lies in memory, off the blocks of M. -/
def Lst (w : World) (M : Blk) (r : Value) (l : List ByteArray) : Prop :=
  ∃ ao cap, r = .slice ao l.length cap ∧ ∀ j s, l[j]? = some s → ∃ b off, ao = some ⟨b, off, none⟩ ∧ ¬ M b ∧ b < w.heap.size ∧ w.cell? ⟨b, off + j, none⟩ = some (.string s)
theorem Lst.nil (w : World) (M : Blk) : Lst w M (.slice none 0 0) [] := ⟨none, 0, rfl, fun j s h => by simp at h⟩
theorem Lst.frees {w w1 : World} {M N : Blk} {r : Value} {l : List ByteArray} {n : Nat} (h : Lst w M r l) (hf : Frees n N w w1) (hN : ∀ j, N j → M j ∨ w.heap.size ≤ j) : Lst w1 M r l := by
  obtain ⟨ao, cap, rfl, hx⟩ := h
  refine ⟨ao, cap, rfl, fun j s hj => ?_⟩
  obtain ⟨b, off, rfl, h1, h2, h3⟩ := hx j s hj
  refine ⟨b, off, rfl, h1, Nat.lt_of_lt_of_le h2 hf.below.size, ?_⟩
  rw [World.cell?_of_block (hf.same b h2 (fun x => by
    rcases hN b x with y | y
    · exact h1 y
    · omega))]
  exact h3
theorem Lst.below {w w1 : World} {M : Blk} {r : Value} {l : List ByteArray} (h : Lst w M r l) (hb : Below w.heap.size w w1) : Lst w1 M r l := h.frees (n := w.heap.size) (N := fun _ => False) ⟨hb, fun j hj _ => hb.block j hj⟩ (fun _ h => h.elim)
theorem Lst.off {w : World} {M N : Blk} {r : Value} {l : List ByteArray} (h : Lst w M r l) (hN : ∀ j, j < w.heap.size → N j → M j) : Lst w N r l := by
  obtain ⟨ao, cap, rfl, hx⟩ := h
  refine ⟨ao, cap, rfl, fun j s hj => ?_⟩
  obtain ⟨b, off, rfl, h1, h2, h3⟩ := hx j s hj
  exact ⟨b, off, rfl, fun x => h1 (hN b h2 x), h2, h3⟩
/-- A row of one's own is such a list. -/
theorem own_lst {w : World} {base : Nat} {v : Value} {l : List ByteArray} {M : Blk} (h : w.ownsRow base 9 1 v l.length (strC l)) (hM : ∀ g, v.ownBlock = some g → ¬ M g) : Lst w M v l := by
  obtain ⟨h1, ⟨rfl, h2⟩ | ⟨g, cap, cur, rfl, x1, x2, x3, x4, x5, x6⟩⟩ := h
  · have : l = [] := List.eq_nil_of_length_eq_zero h2
    subst this
    exact Lst.nil w M
  · refine ⟨_, cap, rfl, fun j s hj => ⟨g, 0, rfl, hM g rfl, hp_lt x2, ?_⟩⟩
    have hx : (strC l)[j]? = some (.string s) := by simp [strC, hj]
    rw [← x6] at hx
    have hlt := (List.getElem?_eq_some_iff.1 hj).1
    rw [List.getElem?_take_of_lt (by omega)] at hx
    simp [World.cell?, x2]
    simpa using hx

section
variable {T : TypeId} {c : Qs → Value → Array Value} {base p : Nat} {q q' : Qs} {v v' : Value} {w w' : World}
theorem IsQu.lt (h : IsQu T c base p q v w) {j : Nat} (hj : foot p v j) : base ≤ j ∧ j < w.heap.size := by
  rcases hj with rfl | hj
  · exact ⟨h.low, hp_lt h.here⟩
  · exact h.row.lt _ hj
theorem IsQu.same (h : IsQu T c base p q v w) (hs : ∀ j, foot p v j → w'.heap[j]? = w.heap[j]?) : IsQu T c base p q v w' :=
  ⟨h.low, (hs p (.inl rfl)).trans h.here, own_same h.row (fun g hg => hs g (.inr hg))⟩
theorem IsQu.below (h : IsQu T c base p q v w) (hb : Below w.heap.size w w') : IsQu T c base p q v w' := h.same fun _ hj => hb.block _ (h.lt hj).2
theorem IsQu.apart (h : IsQu T c base p q v w) {M : Blk} {n₀ : Nat} (hf : Frees n₀ M w w') (hm : ∀ j, foot p v j → ¬ M j) : IsQu T c base p q v w' := h.same fun j hj => hf.same j (h.lt hj).2 (hm j hj)
theorem QTo.stay (h : IsQu T c base p q v w) (hb : Below w.heap.size w w') (hn : base ≤ w.heap.size) : QTo T c base p v q v w w' := ⟨h.below hb, Frees.of_below hb hn, fun _ hj => .inl hj⟩
theorem QTo.behind {w1 w2 : World} (h : QTo T c base p v q' v' w w1) (hb : Below w1.heap.size w1 w2) (hn : base ≤ w1.heap.size) : QTo T c base p v q' v' w w2 := ⟨h.1.below hb, h.2.1.trans' (Frees.of_below (M := fun _ => False) hb hn) (fun _ x => x.elim), h.2.2⟩
theorem QTo.ahead {w0 : World} (hb : Below w0.heap.size w0 w) (hn : base ≤ w0.heap.size) (h : QTo T c base p v q' v' w w') : QTo T c base p v q' v' w0 w' := by
  have hs := hb.size
  exact ⟨h.1, ⟨(hb.mono hn).trans h.2.1.below, fun j hj hm => (h.2.1.same j (by omega) hm).trans (hb.block j hj)⟩, fun j hj => (h.2.2 j hj).imp id (fun x => by omega)⟩
theorem QTo.trans {q'' : Qs} {v'' : Value} {w1 w2 : World} (h : QTo T c base p v q' v' w w1) (k : QTo T c base p v' q'' v'' w1 w2) : QTo T c base p v q'' v'' w w2 := by
  have hs := h.2.1.below.size
  refine ⟨k.1, h.2.1.trans' k.2.1 h.2.2, fun j hj => ?_⟩
  rcases k.2.2 j hj with x | x
  · exact h.2.2 j x
  · exact .inr (by omega)
/-- A cell of it is written, behind work on its row. -/
theorem IsQu.put {w1 : World} {k : Nat} {u : Value} (h : IsQu T c base p q v w) (hT : T ≠ 9) (hf : Frees base (foot p v) w w1) (hp : w1.heap[p]? = some (.cells (c q v) T)) (hrow : w1.ownsRow base 9 1 v' q'.l.length (strC q'.l)) (hat : ∀ g, v'.ownBlock = some g → foot p v g ∨ w.heap.size ≤ g) (hc : (c q v).setIfInBounds k u = c q' v') : QTo T c base p v q' v' w (w1.setCell ⟨p, k, none⟩ u) := by
  have hne : ∀ g, v'.ownBlock = some g → g ≠ p := fun g e => own_ne0 hrow hp hT g e
  refine ⟨⟨h.low, ?_, own_same hrow (fun g e => Below.heap_setCell _ _ _ _ (hne g e))⟩, hf.setCell h.low (.inl (.inl rfl)) u, ?_⟩
  · rw [heap_setCell_same _ _ k _ _ _ hp, hc]
  · rintro j (rfl | hj)
    · exact .inl (.inl rfl)
    · exact hat j hj
theorem IsQu.set {k : Nat} {u : Value} (h : IsQu T c base p q v w) (hT : T ≠ 9) (hc : (c q v).setIfInBounds k u = c q' v) (hl : q'.l = q.l) : QTo T c base p v q' v w (w.setCell ⟨p, k, none⟩ u) :=
  h.put hT ⟨Below.refl _ _, fun _ _ _ => rfl⟩ h.here (by rw [hl]; exact h.row) (fun g e => .inl (.inr e)) hc
theorem QTo.fit (h : QTo T c base p v q' v' w w') : w.heap.size ≤ w'.heap.size := h.2.1.below.size
end
abbrev IsP := IsQu 38 cP
abbrev ToP := QTo 38 cP
theorem cellsP {base p : Nat} {q : Qs} {v : Value} {w : World} (h : IsP base p q v w) : w.cell? ⟨p, 0, none⟩ = some (.int .u32 q.a) ∧ w.cell? ⟨p, 1, none⟩ = some (.int .u32 q.g) ∧ w.cell? ⟨p, 2, none⟩ = some v ∧ w.frozen? ⟨p, 0, none⟩ = false ∧ w.frozen? ⟨p, 1, none⟩ = false ∧ w.frozen? ⟨p, 2, none⟩ = false := by
  have h := h.here
  unfold cP at h
  simp [World.cell?, World.frozen?, h]
end Go.Proofs.Ytllpblnbdocfjad
