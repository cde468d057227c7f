/- Tokens in rows of a call's own, in memory. -/
import Derived.Test.YtbhedmdbejoinaaDoorXl3
namespace Go.Proofs.YtbhedmdbejoinaaDoor
open Go.RowKit

/-- Tokens in rows of the call's own are tokens in memory. -/
theorem tokMem_own2 {base : Nat} {W : World} {v : Value} {l : List TokV} (h : ElRow base W v l) (hl : l.length ≤ 100000) : ∃ ao cap, v = .slice ao l.length cap ∧ TokMem W.heap.size W ao (l.map (·.1)) (avOf l) := by
  obtain ⟨ho, hx⟩ := h
  obtain ⟨ga, gc, rfl⟩ := own_shape ho
  refine ⟨ga, gc, rfl, by simp; omega, fun k t hk => ?_⟩
  obtain ⟨x, hxk, rfl⟩ : ∃ x, l[k]? = some x ∧ x.1 = t := by simpa using hk
  have hm := hx x (List.mem_of_getElem? hxk)
  have hav : avOf l k = x.2 := by simp [avOf, hxk]
  rw [hav]
  obtain ⟨s1, s2, s3, s4, s5⟩ := hm.2
  obtain ⟨ao', cap', e, hc, hA⟩ := attrMem_own hm.1 s4 s5
  cases e
  refine ⟨s1, s2, s3, hA, hc, ?_⟩
  have hlt := (List.getElem?_eq_some_iff.1 hxk).1
  obtain ⟨hl', ⟨e, hn⟩ | ⟨g, cap, cur, e, hb, hg, hc', _, hs, ht⟩⟩ := ho
  · omega
  · cases e
    refine ⟨g, 0, rfl, (Array.getElem?_eq_some_iff.1 hg).1, ?_⟩
    obtain ⟨q1, q2, q3, q4⟩ := tokCells_at l k x hxk
    rw [← ht, List.getElem?_take_of_lt (by omega)] at q1 q2 q3 q4
    refine ⟨?_, ?_, ?_, ?_⟩ <;> (simp [World.cell?, hg]; first | simpa using q1 | simpa using q2 | simpa using q3 | simpa using q4)
theorem own_mono {W : World} {b b' e s n : Nat} {v : Value} {xs : List Value} (h : W.ownsRow b e s v n xs) (hb : b' ≤ b) : W.ownsRow b' e s v n xs := by
  obtain ⟨h1, h2 | ⟨g, cap, cur, x0, x1, x2⟩⟩ := h
  · exact ⟨h1, .inl h2⟩
  · exact ⟨h1, .inr ⟨g, cap, cur, x0, Nat.le_trans hb x1, x2⟩⟩
theorem ElRow.lower {b b' : Nat} {W : World} {v : Value} {l : List TokV} (h : ElRow b W v l) (hb : b' ≤ b) : ElRow b' W v l := ⟨own_mono h.1 hb, fun x hx => ⟨own_mono (h.2 x hx).1 hb, (h.2 x hx).2⟩⟩
theorem feedF_len' : ∀ (l : List UInt8) (st : PS), Inv st → (feedF st l).2.length ≤ 2 * l.length
  | [], st, _ => by simp [feedF]
  | c :: l, st, hI => by
    cases hp : putF st c with
    | error e =>
      rw [feedF_err l hp]
      simp
    | ok x =>
      have hk := putF_keeps (st' := x.1) (t' := x.2) hp hI
      have ih := feedF_len' l x.1 hk.1
      rw [feedF_ok (st' := x.1) (t := x.2) l hp]
      show (x.2 ++ (feedF x.1 l).2).length ≤ _
      rw [List.length_append, List.length_cons]
      have := hk.2.2
      omega
end Go.Proofs.YtbhedmdbejoinaaDoor
