/- What must be whatever is asked, of the parser. -/
import Derived.Test.YthflpcfpfdmaeaaDoorXl1
import Derived.Lib.SmallJoins
namespace Go.Proofs.YthflpcfpfdmaeaaDoor.Xm
open Go.RowKit

theorem row_cells {base : Nat} {w : World} {v : Value} {l : List TokV} (h : ElRow base w v l) {k : Nat} {x : TokV} (hk : l[k]? = some x) : ∃ g cap, v = .slice (some ⟨g, 0, none⟩) l.length cap ∧ l.length ≤ cap ∧ w.cell? ⟨g, k * 4, none⟩ = some (.int .u8 x.1.kind) ∧ w.cell? ⟨g, k * 4 + 1, none⟩ = some (.string x.1.name) ∧ w.cell? ⟨g, k * 4 + 3, none⟩ = some (.string x.1.text) := by
  have hlt := (List.getElem?_eq_some_iff.1 hk).1
  obtain ⟨hl', ⟨e, hn⟩ | ⟨g, cap, cur, e, hb, hg, hc', _, hs, ht⟩⟩ := id h.1
  · omega
  · obtain ⟨q1, q2, q3, q4⟩ := tokCells_at l k x hk
    rw [← ht, List.getElem?_take_of_lt (by omega)] at q1 q2 q3 q4
    refine ⟨g, cap, e, hc', ?_, ?_, ?_⟩ <;> (simp [World.cell?, hg]; first | simpa using q1 | simpa using q2 | simpa using q4)
theorem Sim.ok {a b : PS} (h : Sim a b) (hb : b.broken = 0) : a = b := by
  rcases h with h | h
  · exact h
  · exact absurd hb h.1
theorem FeedF_of {st : PS} (h : st.broken = 0) (l : List UInt8) : FeedF st l = feedF st l := by
  unfold FeedF
  rw [if_pos h]
theorem own_ne_mark {W : World} {base e n b : Nat} {size : Nat} {v : Value} {xs : List Value} {cs : Array Value} {T : TypeId} {fr : Nat × Nat} (h : W.ownsRow base e size v n xs) (hb : W.heap[b]? = some (.cells cs T fr)) (hT : T ≠ e) : some b ≠ v.ownBlock := by
  intro e1
  obtain ⟨_, ⟨rfl, _⟩ | ⟨g', cap, cur, rfl, _, hg', _⟩⟩ := h
  · cases e1
  · cases e1
    rw [hg'] at hb
    cases hb
    exact hT rfl
/-- Bytes in a block of their own. -/
theorem bytes_block {base p : Nat} {st : PS} {w : World} {vw vo : Value} {b : Nat} {l : List UInt8} {cs : Array Value} {fr : Nat × Nat} (hP : IsP base p st vw vo w) (hb : w.heap[b]? = some (.cells cs 5 fr)) (hne : some b ≠ vw.ownBlock) (hc : ∀ (j : Nat) (c : UInt8), l[j]? = some c → cs[j]? = some (Value.int .u8 c.toNat)) : Bytes w p vw vo (some ⟨b, 0, none⟩) l := by
  have hbp : b ≠ p := by
    intro e
    subst e
    have h := hP.2.1
    rw [hb] at h
    cases h
  refine ⟨fun j c hj => ⟨b, 0, rfl, (Array.getElem?_eq_some_iff.1 hb).1, hbp, hne, own_ne_mark hP.2.2.2 hb (by decide), ?_⟩⟩
  have h := hc j c hj
  simp [World.cell?, hb]
  simpa using h

end Go.Proofs.YthflpcfpfdmaeaaDoor.Xm
