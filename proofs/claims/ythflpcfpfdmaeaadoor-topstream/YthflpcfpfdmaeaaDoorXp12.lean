/- A parser: its methods. -/
import Derived.Test.YthflpcfpfdmaeaaDoorXp11
namespace Go.Proofs.YthflpcfpfdmaeaaDoor.Xm
open Go.RowKit

/-- A parser at the beginning. -/
def st0 : PS := ⟨[], 0, [], false, false, 0⟩
theorem inv0 : Inv st0 := ⟨Nat.zero_le _, Nat.zero_le _, by decide⟩
theorem new_any (w : World) : Calls Tryd.prog 8 #[] w fun e w' => e = .returned (.pointer (some ⟨w.heap.size, 0, none⟩)) ∧ IsP w.heap.size w.heap.size st0 (.slice none 0 0) (.slice none 0 0) w' ∧ w'.heap.size = w.heap.size + 1 ∧ Below w.heap.size w w' := by
  go_enter Tryd.func8, Tryd.ntmps8
  go_wp2_with fail
  go_ret
  exact ⟨rfl, ⟨Nat.le_refl _, World.alloc_heap_new w _, World.ownsRow_nil _ _ _ _, World.ownsRow_nil _ _ _ _⟩, by simp, (Below.refl _ w).alloc (Nat.le_refl _) _⟩
theorem depth_any (base p : Nat) (st : PS) (vw vo : Value) (w : World) (hP : IsP base p st vw vo w) : Calls Tryd.prog 11 #[.pointer (some ⟨p, 0, none⟩)] w fun e w' => e = .returned (.int .i64 st.op.length) ∧ w' = w := by
  obtain ⟨_, _, c2, _⟩ := hP.cells
  obtain ⟨ga, gc, rfl⟩ := own_shape hP.2.2.2
  clear hP
  go_enter Tryd.func11, Tryd.ntmps11
  go_wp2_with fail
  go_ret
  exact ⟨rfl, rfl⟩
/-- What bytes do that are fed: a broken parser takes none. -/
noncomputable def FeedF (st : PS) (l : List UInt8) : PS × List Tok := if st.broken = 0 then feedF st l else (st, [])
set_option maxRecDepth 100000 in
theorem Feed_any (base p : Nat) (st : PS) (vw vo : Value) (ba : Option Addr) (bc : Nat) (bs : List UInt8) (w : World) (hP : IsP base p st vw vo w) (hI : Inv st) (hE : Env w) (h4 : 4 ≤ p) (hb4 : 4 ≤ base) (hB : Bytes w p vw vo ba bs) (hbl : bs.length ≤ 3000) :
    Calls Tryd.prog 9 #[.pointer (some ⟨p, 0, none⟩), .slice ba bs.length bc] w fun e w' => ∃ st' v l vw' vo', e = .returned (.tuple #[v, .int .i64 st'.broken]) ∧ l.map (·.1) = (FeedF st bs).2 ∧ ElRow w.heap.size w' v l ∧ Run base p w vw vo st' w' vw' vo' ∧ Sim st' (FeedF st bs).1 := by
  have hfe := feed_any base p st vw vo ba bc bs w hP hI hE h4 hb4 hB hbl
  obtain ⟨_, _, _, _, _, c5, _⟩ := hP.cells
  unfold FeedF
  by_cases h0 : st.broken = 0
  · rw [if_pos h0]
    rw [h0] at c5
    obtain ⟨ff, hff⟩ : ∃ ff, feedF st bs = ff := ⟨_, rfl⟩
    rw [hff] at hfe ⊢
    have HF := hide hfe
    clear hfe hff hP hI hE hB h0
    go_enter Tryd.func9, Tryd.ntmps9
    go_wp2_with fail
    refine HF.out.mono ?_
    rintro e w2 ⟨st2, v, l, vw2, vo2, rfl, q1, q2, q3, q4⟩
    obtain ⟨_, _, _, _, _, d5, _⟩ := q3.isP.cells
    have H2 := hide (And.intro q1 (And.intro q2 (And.intro q3 q4)))
    clear q1 q2 q3 q4
    go_wp2_with fail
    go_region
    all_goals
      go_wp2_with fail
      go_ret2
      exact ⟨st2, v, l, vw2, vo2, rfl, H2.out.1, H2.out.2.1, H2.out.2.2.1.drew, H2.out.2.2.2⟩
  · rw [if_neg h0]
    have HP := hide (And.intro hP h0)
    have h0' : (st.broken == 0) = false := by rw [beq_eq_false_iff_ne]; exact h0
    clear hfe hP hI hE hB h0
    go_enter Tryd.func9, Tryd.ntmps9
    go_wp2_with fail
    go_region
    all_goals
      go_wp2_with fail
      go_ret2
      exact ⟨st, _, [], vw, vo, rfl, rfl, ⟨World.ownsRow_nil _ _ _ _, fun x hx => by simp at hx⟩, (Run.refl HP.out.1).drew, .inl rfl⟩
end Go.Proofs.YthflpcfpfdmaeaaDoor.Xm
