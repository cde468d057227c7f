/- Pairs, rising by their keys: what a map holds, and what is done to it. -/
import Derived.Test.YtimhkgpjfppkmaaGreatDoorJBase
import Derived.Sort.Walk0
namespace Go.Proofs.YtimhkgpjfppkmaaGreatDoor
open Go.RowKit

abbrev Str := List UInt8
/-- A pair: its key and its value. -/
abbrev Pr := ByteArray × ByteArray
def kb (x : Pr) : Str := x.1.toList
theorem ba_ext {a b : ByteArray} (h : a.toList = b.toList) : a = b := by
  rw [ByteArray.toList_eq, ByteArray.toList_eq] at h
  obtain ⟨⟨x⟩⟩ := a
  obtain ⟨⟨y⟩⟩ := b
  exact congrArg (fun l => (⟨⟨l⟩⟩ : ByteArray)) (by simpa using h)
def Rising (L : List Pr) : Prop := L.Pairwise fun x y => kb x < kb y
theorem str_irrefl (a : Str) : ¬ a < a := List.lt_irrefl a
theorem str_trans {a b c : Str} (h : a < b) (k : b < c) : a < c := List.lt_trans h k
theorem str_asymm {a b : Str} (h : a < b) : ¬ b < a := fun k => str_irrefl a (str_trans h k)
theorem str_total {a b : Str} (h : ¬ a < b) (h2 : a ≠ b) : b < a := by
  by_cases h3 : b < a
  · exact h3
  · exact absurd (List.le_antisymm (List.not_lt.1 h3) (List.not_lt.1 h)) h2
/-- Two rising lists of the same pairs are one. -/
theorem rising_unique : ∀ {A B : List Pr}, Rising A → Rising B → (∀ x, x ∈ A ↔ x ∈ B) → A = B
  | [], B, _, _, h => by
    cases B with
    | nil => rfl
    | cons y B => exact absurd ((h y).2 List.mem_cons_self) (by simp)
  | x :: A, [], _, _, h => absurd ((h x).1 List.mem_cons_self) (by simp)
  | x :: A, y :: B, hA, hB, h => by
    have hA' := List.pairwise_cons.1 hA
    have hB' := List.pairwise_cons.1 hB
    have hxy : x = y := by
      rcases List.mem_cons.1 ((h x).1 List.mem_cons_self) with e | e
      · exact e
      · rcases List.mem_cons.1 ((h y).2 List.mem_cons_self) with e2 | e2
        · exact e2.symm
        · exact absurd (hA'.1 y e2) (str_asymm (hB'.1 x e))
    subst hxy
    congr 1
    refine rising_unique hA'.2 hB'.2 (fun z => ⟨fun hz => ?_, fun hz => ?_⟩)
    · rcases List.mem_cons.1 ((h z).1 (List.mem_cons_of_mem _ hz)) with e | e
      · subst e
        exact absurd (hA'.1 z hz) (str_irrefl _)
      · exact e
    · rcases List.mem_cons.1 ((h z).2 (List.mem_cons_of_mem _ hz)) with e | e
      · subst e
        exact absurd (hB'.1 z hz) (str_irrefl _)
      · exact e
theorem rising_filter {L : List Pr} (h : Rising L) (p : Pr → Bool) : Rising (L.filter p) := List.Pairwise.filter p h
theorem rising_key {L : List Pr} (h : Rising L) {x y : Pr} (hx : x ∈ L) (hy : y ∈ L) (e : x.1 = y.1) : x = y := by
  induction L with
  | nil => cases hx
  | cons z L ih =>
    have h' := List.pairwise_cons.1 h
    rcases List.mem_cons.1 hx with e1 | hx'
    · rcases List.mem_cons.1 hy with e2 | hy'
      · exact e1.trans e2.symm
      · have := h'.1 y hy'
        unfold kb at this
        rw [← e1, e] at this
        exact absurd this (str_irrefl _)
    · rcases List.mem_cons.1 hy with e2 | hy'
      · have := h'.1 x hx'
        unfold kb at this
        rw [← e2, e] at this
        exact absurd this (str_irrefl _)
      · exact ih h'.2 hx' hy'
/-- Without a key. -/
def delM (L : List Pr) (k : ByteArray) : List Pr := L.filter fun x => !decide (x.1 = k)
theorem mem_delM {L : List Pr} {k : ByteArray} {x : Pr} : x ∈ delM L k ↔ x ∈ L ∧ x.1 ≠ k := by simp [delM]
theorem delM_rising {L : List Pr} (h : Rising L) (k : ByteArray) : Rising (delM L k) := rising_filter h _
/-- A pair put among others, at its place. -/
def insM (k v : ByteArray) : List Pr → List Pr
  | [] => [(k, v)]
  | x :: L => if k.toList < kb x then (k, v) :: x :: L else x :: insM k v L
def putM (L : List Pr) (k v : ByteArray) : List Pr := insM k v (delM L k)
theorem mem_insM {k v : ByteArray} {x : Pr} : ∀ {L : List Pr}, x ∈ insM k v L ↔ x = (k, v) ∨ x ∈ L
  | [] => by simp [insM]
  | y :: L => by
    unfold insM
    split
    · simp
    · simp [mem_insM]
      constructor
      · rintro (h | h | h)
        · exact .inr (.inl h)
        · exact .inl h
        · exact .inr (.inr h)
      · rintro (h | h | h)
        · exact .inr (.inl h)
        · exact .inl h
        · exact .inr (.inr h)
theorem insM_len (k v : ByteArray) : ∀ (L : List Pr), (insM k v L).length = L.length + 1
  | [] => rfl
  | x :: L => by
    unfold insM
    split
    · simp
    · simp [insM_len k v L]
theorem insM_rising {k v : ByteArray} : ∀ {L : List Pr}, Rising L → (∀ x ∈ L, x.1 ≠ k) → Rising (insM k v L)
  | [], _, _ => List.pairwise_singleton _ _
  | x :: L, h, hn => by
    have h' := List.pairwise_cons.1 h
    unfold insM
    split
    · rename_i hlt
      refine List.pairwise_cons.2 ⟨fun y hy => ?_, h⟩
      rcases List.mem_cons.1 hy with rfl | hy
      · exact hlt
      · exact str_trans hlt (h'.1 y hy)
    · rename_i hlt
      refine List.pairwise_cons.2 ⟨fun y hy => ?_, insM_rising h'.2 (fun z hz => hn z (List.mem_cons_of_mem _ hz))⟩
      rcases mem_insM.1 hy with rfl | hy
      · exact str_total hlt (fun e => hn x List.mem_cons_self (ba_ext e.symm))
      · exact h'.1 y hy
theorem mem_putM {L : List Pr} {k v : ByteArray} {x : Pr} : x ∈ putM L k v ↔ x = (k, v) ∨ (x ∈ L ∧ x.1 ≠ k) := by
  unfold putM
  rw [mem_insM, mem_delM]
theorem putM_rising {L : List Pr} (h : Rising L) (k v : ByteArray) : Rising (putM L k v) := insM_rising (delM_rising h k) (fun _ hx => (mem_delM.1 hx).2)
/-- A key's value. -/
def getM (L : List Pr) (k : ByteArray) : Option ByteArray := (L.find? fun x => decide (x.1 = k)).map (·.2)
theorem getM_some {L : List Pr} {k v : ByteArray} (h : getM L k = some v) : (k, v) ∈ L := by
  unfold getM at h
  cases hf : L.find? (fun x => decide (x.1 = k)) with
  | none => simp [hf] at h
  | some x =>
    have h1 := List.find?_some hf
    have h2 := List.mem_of_find?_eq_some hf
    simp [hf] at h
    simp at h1
    rw [← h1, ← h]
    exact h2
theorem getM_none {L : List Pr} {k : ByteArray} (h : getM L k = none) : ∀ x ∈ L, x.1 ≠ k := by
  unfold getM at h
  simp at h
  intro x hx e
  exact h x.1 x.2 hx e
theorem getM_mem {L : List Pr} (h : Rising L) {k v : ByteArray} (hm : (k, v) ∈ L) : getM L k = some v := by
  cases hg : getM L k with
  | none => exact absurd rfl (getM_none hg _ hm)
  | some u =>
    have := rising_key h hm (getM_some hg) rfl
    cases this
    rfl
theorem delM_none {L : List Pr} {k : ByteArray} (h : getM L k = none) : delM L k = L := by
  unfold delM
  rw [List.filter_eq_self]
  intro x hx
  simp [getM_none h x hx]
theorem putM_len {L : List Pr} (h : Rising L) (k v : ByteArray) : (putM L k v).length = if getM L k = none then L.length + 1 else L.length := by
  unfold putM
  rw [insM_len]
  split
  · rename_i hn
    rw [delM_none hn]
  · rename_i hn
    induction L with
    | nil => exact absurd rfl hn
    | cons x L ih =>
      have h' := List.pairwise_cons.1 h
      by_cases hx : x.1 = k
      · have : delM L k = L := by
          unfold delM
          rw [List.filter_eq_self]
          intro y hy
          have := h'.1 y hy
          simp
          intro e
          unfold kb at this
          rw [e, hx] at this
          exact str_irrefl _ this
        show ((x :: L).filter _).length + 1 = _
        rw [List.filter_cons_of_neg (by simp [hx])]
        show (delM L k).length + 1 = _
        rw [this]
        rfl
      · have hg : getM (x :: L) k = getM L k := by
          unfold getM
          rw [List.find?_cons_of_neg (by simpa using hx)]
        rw [hg] at hn
        show ((x :: L).filter _).length + 1 = _
        rw [List.filter_cons_of_pos (by simp [hx])]
        have := ih h'.2 hn
        show (delM L k).length + 1 + 1 = L.length + 1
        omega
end Go.Proofs.YtimhkgpjfppkmaaGreatDoor
