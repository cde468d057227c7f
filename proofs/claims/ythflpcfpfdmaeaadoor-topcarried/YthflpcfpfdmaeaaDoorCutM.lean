/- Bytes in two pieces, by hand. -/
import Derived.Test.YthflpcfpfdmaeaaDoorXL
namespace Go.Proofs.YthflpcfpfdmaeaaDoor.Xm
open Go.RowKit

theorem feedF_app : ∀ (a : List UInt8) (st : PS) (b : List UInt8), Inv st → st.broken = 0 → feedF st (a ++ b) = ((FeedF (feedF st a).1 b).1, (feedF st a).2 ++ (FeedF (feedF st a).1 b).2)
  | [], st, b, _, h0 => by
    show feedF st b = ((FeedF st b).1, [] ++ (FeedF st b).2)
    rw [FeedF_of h0]
    rfl
  | c :: a, st, b, hI, h0 => by
    cases hp : putF st c with
    | error e =>
      have he : e ≠ 0 := by rcases putF_err hp with h | h | h <;> rw [h] <;> decide
      rw [List.cons_append, feedF_err (a ++ b) hp, feedF_err a hp, FeedF_broken (show ({ st with broken := e, wait := [], quote := 0 } : PS).broken ≠ 0 from he)]
      rfl
    | ok x =>
      have hk := putF_keeps (st' := x.1) (t' := x.2) hp hI
      rw [List.cons_append, feedF_ok (st' := x.1) (t := x.2) (a ++ b) hp, feedF_ok (st' := x.1) (t := x.2) a hp, feedF_app a x.1 b hk.1 (hk.2.1.trans h0)]
      simp [List.append_assoc]
/-- It does not matter how bytes are cut. -/
theorem FeedF_app {st : PS} (a b : List UInt8) (hI : Inv st) : FeedF st (a ++ b) = ((FeedF (FeedF st a).1 b).1, (FeedF st a).2 ++ (FeedF (FeedF st a).1 b).2) := by
  by_cases h0 : st.broken = 0
  · rw [FeedF_of h0, FeedF_of h0]
    exact feedF_app a st b hI h0
  · rw [FeedF_broken h0, FeedF_broken h0, FeedF_broken h0]
    rfl
end Go.Proofs.YthflpcfpfdmaeaaDoor.Xm
