/- Bytes that are handed in; what a parser keeps to behind them. -/
import Derived.Test.YthflpcfpfdmaeaaDoorXl2
namespace Go.Proofs.YthflpcfpfdmaeaaDoor.Xm
open Go.RowKit

/-- Bytes that were there. -/
def ByteMem (n₀ : Nat) (w : World) (ba : Option Addr) (l : List UInt8) : Prop := ∀ (j : Nat) (c : UInt8), l[j]? = some c → ∃ b o, ba = some ⟨b, o, none⟩ ∧ b < n₀ ∧ w.cell? ⟨b, o + j, none⟩ = some (.int .u8 c.toNat)
theorem ByteMem.below {n₀ : Nat} {w w' : World} {ba : Option Addr} {l : List UInt8} (h : ByteMem n₀ w ba l) (hb : Below n₀ w w') : ByteMem n₀ w' ba l := fun j c hj => by
  obtain ⟨b, o, h0, h1, h2⟩ := h j c hj
  exact ⟨b, o, h0, h1, (hb.cell (p := ⟨b, _, none⟩) h1).trans h2⟩
theorem ByteMem.take {n₀ : Nat} {w : World} {ba : Option Addr} {l : List UInt8} (h : ByteMem n₀ w ba l) (k : Nat) : ByteMem n₀ w ba (l.take k) := fun j c hj => by
  rw [List.getElem?_take] at hj
  split at hj
  · exact h j c hj
  · cases hj
theorem ByteMem.bytes {n₀ base p : Nat} {st : PS} {w : World} {vw vo : Value} {ba : Option Addr} {l : List UInt8} (h : ByteMem n₀ w ba l) (hP : IsP base p st vw vo w) (hb : n₀ ≤ base) : Bytes w p vw vo ba l :=
  ⟨fun j c hj => by
    obtain ⟨b, o, h0, h1, h2⟩ := h j c hj
    have hp := hP.1
    have hl := hP.lt
    exact ⟨b, o, h0, by omega, by omega, fun e => by have := own_base hP.2.2.1 b e.symm; omega, fun e => by have := own_base hP.2.2.2 b e.symm; omega, h2⟩⟩
theorem feedF_inv : ∀ (l : List UInt8) (st : PS), Inv st → Inv (feedF st l).1
  | [], _, h => h
  | c :: l, st, h => by
    cases hp : putF st c with
    | error e =>
      rw [feedF_err l hp]
      exact ⟨Nat.zero_le _, h.op, show 0 < 256 by decide⟩
    | ok x =>
      rw [feedF_ok (st' := x.1) (t := x.2) l hp]
      exact feedF_inv l x.1 (putF_keeps (st' := x.1) (t' := x.2) hp h).1
theorem FeedF_inv (l : List UInt8) {st : PS} (h : Inv st) : Inv (FeedF st l).1 := by
  unfold FeedF
  split
  · exact feedF_inv l st h
  · exact h
theorem Sim.inv {a b : PS} (h : Sim a b) (hb : Inv b) : Inv a := by
  rcases h with rfl | ⟨_, h1, h2, h3, _⟩
  · exact hb
  · exact ⟨by rw [h2]; exact hb.wait, by rw [h1]; exact hb.op, by rw [h3]; exact hb.quote⟩
theorem Sim.broken {a b : PS} (h : Sim a b) : a.broken = b.broken := by
  rcases h with rfl | h
  · rfl
  · exact h.2.2.2.2
theorem FeedF_broken {st : PS} (h : st.broken ≠ 0) (l : List UInt8) : FeedF st l = (st, []) := by
  unfold FeedF
  rw [if_neg h]
end Go.Proofs.YthflpcfpfdmaeaaDoor.Xm
