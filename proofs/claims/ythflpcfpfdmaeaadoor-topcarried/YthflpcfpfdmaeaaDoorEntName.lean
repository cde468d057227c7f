/- The name of an entity. -/
import Derived.Test.YthflpcfpfdmaeaaDoorEnt
namespace Go.Proofs.YthflpcfpfdmaeaaDoor
open Go.RowKit

theorem entityName_any (r : Int) (w : World) (hl : EntLaid w) : Calls Tryd.prog 34 #[.int .i32 r] w fun e w' => e = .returned (.string (entName r)) ∧ Below w.heap.size w w' := by
  obtain ⟨t, fr, hg⟩ := hl
  have Hg := hide hg
  clear hg
  go_enter Tryd.func34, Tryd.ntmps34
  go_wp2_with (refine wpList_load_row rfl 86 _ rfl 0 rfl t entCs fr _ Hg.out Tryd.underlying86 rfl entSize ?_)
  clear Hg
  go_loopw [6] (fun i wr => ∃ n : Nat, n ≤ 5 ∧ i = .int .i64 n ∧ Below w.heap.size w wr ∧ ∀ k : Nat, k < n → entC k ≠ r) (fun i _ => 5 - (intOf i).toNat)
  case atStart => exact ⟨0, by omega, rfl, Below.refl _ _, fun k h => by omega⟩
  case round =>
    obtain ⟨n, h2, rfl, hb, hno⟩ := hrel
    have Hno := hide hno
    clear hno
    by_cases hlt : n < 5
    · have hix := entIndex n hlt
      have hb' := hb.size
      by_cases he : entC n = r
      · have hs : (entC n == r) = true := by rw [beq_iff_eq]; exact he
        have He := hide (show entName r = entN n by rw [← he]; exact entName_at n hlt)
        clear he
        go_wp2_with fail
        go_ret
        exact ⟨by rw [He.out]; rfl, hb.alloc hb' _⟩
      · have hs : (entC n == r) = false := by rw [beq_eq_false_iff_ne]; exact he
        have He := hide he
        clear he
        go_wp2_with fail
        exact ⟨⟨n + 1, by omega, by go_num, hb.alloc hb' _, fun k a => by
          rcases Nat.lt_or_ge k n with h | h
          · exact Hno.out k h
          · obtain rfl : k = n := by omega
            exact He.out⟩, by simp [intOf]; omega⟩
    · go_wp2_with fail
      go_ret
      exact ⟨by rw [entName_none r (fun k h => Hno.out k (by omega))]; rfl, hb⟩
end Go.Proofs.YthflpcfpfdmaeaaDoor
