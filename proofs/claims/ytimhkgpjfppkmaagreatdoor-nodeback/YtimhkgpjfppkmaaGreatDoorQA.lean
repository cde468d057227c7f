/- strings.Compare; the search for a child's edge. slices.BinarySearchFunc over edges; find. up: the names above one, the nearest first. up, isAbove. -/
import Derived.Test.YtimhkgpjfppkmaaGreatDoorC0
import Derived.Lib.Bytealg
import Derived.Test.YtimhkgpjfppkmaaGreatDoorRangeX
import Derived.Deep.RegionHeld3
namespace Go.Proofs.YtimhkgpjfppkmaaGreatDoor
open Go.RowKit

theorem cmp_lt : ∀ (a b : List UInt8), Lib.compareBytes a b < 0 ↔ a < b
  | [], [] => by simp [Lib.compareBytes]
  | [], _ :: _ => by simp [Lib.compareBytes]
  | _ :: _, [] => by simp [Lib.compareBytes]
  | a :: l, b :: m => by
    unfold Lib.compareBytes
    rw [List.cons_lt_cons_iff]
    by_cases h : a < b
    · simp [h]
    · by_cases h2 : b < a
      · have hne : a ≠ b := fun e => h (e ▸ h2)
        simp [h, h2, hne]
      · have he : a = b := UInt8.le_antisymm (UInt8.not_lt.1 h2) (UInt8.not_lt.1 h)
        simp [he, cmp_lt l m]
theorem cmp_eq0 : ∀ (a b : List UInt8), Lib.compareBytes a b = 0 ↔ a = b
  | [], [] => by simp [Lib.compareBytes]
  | [], _ :: _ => by simp [Lib.compareBytes]
  | _ :: _, [] => by simp [Lib.compareBytes]
  | a :: l, b :: m => by
    unfold Lib.compareBytes
    by_cases h : a < b
    · have hne : a ≠ b := fun e => UInt8.lt_irrefl b (e ▸ h)
      simp [h, hne]
    · by_cases h2 : b < a
      · have hne : a ≠ b := fun e => h (e ▸ h2)
        simp [h, h2, hne]
      · have he : a = b := UInt8.le_antisymm (UInt8.not_lt.1 h2) (UInt8.not_lt.1 h)
        simp [he, cmp_eq0 l m]
end Go.Proofs.YtimhkgpjfppkmaaGreatDoor
namespace Go.Proofs.YtimhkgpjfppkmaaGreatDoor
open Go.RowKit

/-- Where the edge of a child stands, or would stand. -/
structure At (l : List Pr) (s : ByteArray) (k : Nat) : Prop where
  le : k ≤ l.length
  lo : ∀ i x, i < k → l[i]? = some x → x.1.toList < s.toList
  hi : ∀ i x, k ≤ i → l[i]? = some x → ¬ x.1.toList < s.toList
/-- What the search answers. -/
def FoundP (l : List Pr) (s : ByteArray) (e : Ending) : Prop := ∃ k, At l s k ∧ ((∃ x, l[k]? = some x ∧ x.1 = s ∧ e = .returned (.tuple #[.int .i64 k, .bool true])) ∨ ((∀ x, l[k]? = some x → x.1 ≠ s) ∧ e = .returned (.tuple #[.int .i64 k, .bool false])))
theorem rising_at {l : List Pr} (h : Rising l) {i j : Nat} {x y : Pr} (hx : l[i]? = some x) (hy : l[j]? = some y) (hij : i < j) : x.1.toList < y.1.toList := by
  have h1 := List.getElem?_eq_some_iff.1 hx
  have h2 := List.getElem?_eq_some_iff.1 hy
  have := List.pairwise_iff_getElem.1 h i j h1.1 h2.1 hij
  rw [h1.2, h2.2] at this
  exact this
end Go.Proofs.YtimhkgpjfppkmaaGreatDoor
namespace Go.Proofs.YtimhkgpjfppkmaaGreatDoor
open Go.RowKit Go.Shelf
attribute [local go_sem] Oper.semAt_some

/-- The collection of a name. -/
def pOf (l : List Pr) (s : ByteArray) : Option ByteArray := (l.find? fun x => decide (x.1 = s)).map (·.2)
/-- The names above one, so many steps. -/
def chain (l : List Pr) : Nat → ByteArray → List ByteArray
  | 0, _ => []
  | f + 1, s => match pOf l s with
    | none => []
    | some p => p :: chain l f p
theorem chain_none {l : List Pr} {s : ByteArray} (h : pOf l s = none) (f : Nat) : chain l f s = [] := by
  cases f with
  | zero => rfl
  | succ f => simp [chain, h]
theorem chain_some {l : List Pr} {s p : ByteArray} (h : pOf l s = some p) (f : Nat) : chain l (f + 1) s = p :: chain l f p := by simp [chain, h]
theorem chain_len (l : List Pr) : ∀ (f : Nat) (s : ByteArray), (chain l f s).length ≤ f
  | 0, _ => Nat.le_refl _
  | f + 1, s => by
    cases h : pOf l s with
    | none => rw [chain_none h]; simp
    | some p => rw [chain_some h]; have := chain_len l f p; simp; omega
theorem pOf_yes {l : List Pr} (hr : Rising l) {k : Nat} {x : Pr} (hx : l[k]? = some x) : pOf l x.1 = some x.2 := by
  unfold pOf
  cases hf : l.find? (fun y => decide (y.1 = x.1)) with
  | none => exact absurd (List.find?_eq_none.1 hf x (List.mem_of_getElem? hx)) (by simp)
  | some y =>
    have h1 : y.1 = x.1 := by simpa using List.find?_some hf
    obtain ⟨j, hj⟩ := List.mem_iff_getElem?.1 (List.mem_of_find?_eq_some hf)
    rcases Nat.lt_trichotomy j k with h | h | h
    · have := rising_at hr hj hx h
      rw [h1] at this
      exact absurd this (str_irrefl _)
    · subst h
      rw [hx] at hj
      cases hj
      rfl
    · have := rising_at hr hx hj h
      rw [h1] at this
      exact absurd this (str_irrefl _)
theorem pOf_no {l : List Pr} (hr : Rising l) {s : ByteArray} {k : Nat} (ha : At l s k) (hx : ∀ x, l[k]? = some x → x.1 ≠ s) : pOf l s = none := by
  unfold pOf
  rw [Option.map_eq_none_iff, List.find?_eq_none]
  intro y hy
  obtain ⟨j, hj⟩ := List.mem_iff_getElem?.1 hy
  simp only [decide_eq_true_eq]
  intro he
  rcases Nat.lt_trichotomy j k with h | h | h
  · have := ha.lo j y h hj
    rw [he] at this
    exact str_irrefl _ this
  · subst h
    exact hx y hj he
  · have hjl := (List.getElem?_eq_some_iff.1 hj).1
    obtain ⟨x, hxk⟩ : ∃ x, l[k]? = some x := ⟨l[k]'(by omega), by simp⟩
    have h1 := rising_at hr hxk hj h
    rw [he] at h1
    exact ha.hi k x (Nat.le_refl _) hxk h1
def nmV (ns : List ByteArray) (k : Nat) : Value :=
  match ns[k]? with
  | none => undef
  | some x => .string x
theorem one_cell {W : World} {b : Nat} {v : Value} {T : TypeId} (h : W.heap[b]? = some (.cells #[v] T)) : W.cell? ⟨b, 0, none⟩ = some v := by simp [World.cell?, h]
end Go.Proofs.YtimhkgpjfppkmaaGreatDoor
namespace Go.Proofs.YtimhkgpjfppkmaaGreatDoor
open Go.RowKit Go.Shelf
attribute [local go_sem] Oper.semAt_some

theorem hmf (fn : Fn) (first cap : Array Value) (w : World) : (Instr.makeFunc fn first cap).run Tryz.prog w = .ok (.func fn first cap) w := rfl
theorem cell1 {w : World} {b : Nat} {v : Value} {ty : TypeId} (h : w.heap[b]? = some (.cells #[v] ty)) : w.cell? ⟨b, 0, none⟩ = some v ∧ w.frozen? ⟨b, 0, none⟩ = false := by
  simp [World.cell?, World.frozen?, h]
theorem keepsFrom_below {B : Nat} {A C : World} (h : Below A.heap.size A C) : KeepsFrom B A C := ⟨h.size, fun k _ _ hk _ => (h.block k (Array.getElem?_eq_some_iff.1 hk).1).trans hk⟩
theorem results_at6 {fn : Func} {tmps : Array Value} {w : World} {a : Addr} {v : Bool} (h : fn.results = #[.cell 6 4]) (hp : tmps[6]?.getD undef = .pointer (some a)) (hc : w.cell? a = some (.bool v)) : (results fn tmps).run Tryz.prog w = .ok (.bool v) w := by
  simp [results, h, hp, hc, go_sem, Tryz.isAgg4]
end Go.Proofs.YtimhkgpjfppkmaaGreatDoor
