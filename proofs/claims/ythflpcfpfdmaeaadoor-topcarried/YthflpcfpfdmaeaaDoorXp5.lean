/- A parser: a whole tag. -/
import Derived.Test.YthflpcfpfdmaeaaDoorXp4
namespace Go.Proofs.YthflpcfpfdmaeaaDoor.Xm
open Go.RowKit

theorem nameL_len1 {l x y : List UInt8} (h : nameL l = some (x, y)) : x.length ≤ l.length := by
  unfold nameL at h
  split at h
  · cases h
  · cases h
    rw [List.length_take]
    omega
theorem valueIn_len1 {q : UInt8} {l p a : List UInt8} (h : valueIn q l = some (p, a)) : p.length ≤ l.length := by
  unfold valueIn at h
  split at h
  · rename_i t ht
    split at h
    · cases h
      exact Nat.le_trans (unesc_len ht) (cut_len l q)
    · cases h
  · cases h
theorem valueL_len1 {l p a : List UInt8} (h : valueL l = some (p, a)) : p.length ≤ l.length := by
  unfold valueL at h
  split at h
  · exact Nat.le_trans (valueIn_len1 h) (mayL_len _ _)
  · split at h
    · exact Nat.le_trans (valueIn_len1 h) (mayL_len _ _)
    · cases h
theorem attrL_len1 {l a : List UInt8} {x : AttrL} (h : attrL l = some (x, a)) : x.1.length ≤ l.length ∧ x.2.length ≤ l.length := by
  unfold attrL at h
  rw [Option.bind_eq_some_iff] at h
  obtain ⟨⟨n, r⟩, h1, h⟩ := h
  rw [Option.bind_eq_some_iff] at h
  obtain ⟨y, h2, h⟩ := h
  rw [Option.map_eq_some_iff] at h
  obtain ⟨⟨z, b⟩, h3, h⟩ := h
  cases h
  refine ⟨nameL_len1 h1, ?_⟩
  have e1 := nameL_len h1
  have e2 := dropWhile_len isBl r
  have e3 := mustL_len h2
  have e4 := dropWhile_len isBl y
  have e5 := valueL_len1 h3
  have e2' : (List.dropWhile isBl (n, r).2).length ≤ r.length := e2
  show z.length ≤ _
  omega
theorem attrsGo_len1 (n : Nat) : ∀ (f : Nat) (l : List UInt8) (acc al : List AttrL) (r : List UInt8), attrsGo f l acc = some (al, r) → l.length ≤ n → (∀ a ∈ acc, a.1.length ≤ n ∧ a.2.length ≤ n) → ∀ a ∈ al, a.1.length ≤ n ∧ a.2.length ≤ n
  | 0, _, _, _, _, h, _, _ => by cases h
  | f + 1, l, acc, al, r, h, hl, ha => by
    unfold attrsGo at h
    split at h
    · rw [Option.bind_eq_some_iff] at h
      obtain ⟨⟨x, b⟩, h1, h⟩ := h
      have e1 := attrL_len h1
      have e2 := attrL_len1 h1
      have e3 := dropWhile_len isBl l
      refine attrsGo_len1 n f b _ al r h (by omega) (fun a hm => ?_)
      rcases List.mem_append.1 hm with hm | hm
      · exact ha a hm
      · have : a = x := by simpa using hm
        subst this
        exact ⟨by omega, by omega⟩
    · cases h
      exact ha
theorem beginL_len {l nm : List UInt8} {al : List AttrL} {ends : Bool} (h : beginL l = some (nm, al, ends)) : nm.length ≤ l.length ∧ ∀ a ∈ al, a.1.length ≤ l.length ∧ a.2.length ≤ l.length := by
  unfold beginL at h
  rw [Option.bind_eq_some_iff] at h
  obtain ⟨x, h1, h⟩ := h
  rw [Option.bind_eq_some_iff] at h
  obtain ⟨⟨y, r⟩, h2, h⟩ := h
  rw [Option.bind_eq_some_iff] at h
  obtain ⟨⟨z, q⟩, h3, h⟩ := h
  rw [Option.map_eq_some_iff] at h
  obtain ⟨_, h4, h⟩ := h
  cases h
  have e1 := mustL_len h1
  have e2 := nameL_len1 h2
  have e3 := nameL_len h2
  refine ⟨by show y.length ≤ _; omega, attrsGo_len1 l.length _ r [] z q h3 (by omega) (fun a ha => by simp at ha)⟩
theorem endL_len {l nm : List UInt8} (h : endL l = some nm) : nm.length ≤ l.length := by
  unfold endL at h
  rw [Option.bind_eq_some_iff] at h
  obtain ⟨x, h1, h⟩ := h
  rw [Option.bind_eq_some_iff] at h
  obtain ⟨⟨y, r⟩, h2, h⟩ := h
  rw [Option.map_eq_some_iff] at h
  obtain ⟨_, _, h⟩ := h
  cases h
  have e1 := mustL_len h1
  have e2 := nameL_len1 h2
  show y.length ≤ _
  omega

/-- What a whole tag does. -/
noncomputable def tagL (st : PS) (s : List UInt8) : Except Int (PS × List Tok) :=
  if charsB s = true then
    if (!st.begun && isDecl s) = true then .ok ({ st with begun := true }, [])
    else if [60, 33].isPrefixOf s = true then .error 7
    else if [60, 63].isPrefixOf s = true then .error 7
    else if [60, 47].isPrefixOf s = true then (match endL s with | none => .error 6 | some nm => endP { st with begun := true } ⟨nm.toArray⟩)
    else match beginL s with | none => .error 6 | some x => beginP { st with begun := true } ⟨x.1.toArray⟩ (toB x.2.1) x.2.2
  else .error 6
/-- All but a parser and its names stays. -/
structure But (p : Nat) (vo : Value) (w w' : World) : Prop where
  below : Below 0 w w'
  block : ∀ j, j < w.heap.size → j ≠ p → some j ≠ vo.ownBlock → w'.heap[j]? = w.heap[j]?
theorem But.size {p : Nat} {vo : Value} {w w' : World} (h : But p vo w w') : w.heap.size ≤ w'.heap.size := h.below.size
theorem Only.but {p : Nat} {w w' : World} (h : Only p w w') (vo : Value) : But p vo w w' := ⟨h.below.mono (Nat.zero_le _), fun j hj hp _ => h.block j hj hp⟩
theorem But.after {p : Nat} {vo : Value} {a b c : World} (h : Only p a b) (g : But p vo b c) : But p vo a c :=
  ⟨(h.below.mono (Nat.zero_le _)).trans g.below, fun j hj hp ho => (g.block j (Nat.lt_of_lt_of_le hj h.size) hp ho).trans (h.block j hj hp)⟩
end Go.Proofs.YthflpcfpfdmaeaaDoor.Xm
