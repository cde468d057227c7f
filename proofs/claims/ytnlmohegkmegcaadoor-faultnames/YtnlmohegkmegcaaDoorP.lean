/- Contracts of both Parse. -/
import Derived.Test.YtnlmohegkmegcaaDoorRef
import Derived.Laws.Rows
import Derived.LoopTactic
namespace Go.Proofs.YtnlmohegkmegcaaDoor
open Go.RowKit

theorem seq_true {a b : ByteArray} (h : a = b) : (a.toList == b.toList) = true := by rw [h]; simp
theorem seq_false {a b : ByteArray} (h : a ≠ b) : (a.toList == b.toList) = false := by
  rw [beq_eq_false_iff_ne]
  intro e
  rw [ByteArray.toList_eq, ByteArray.toList_eq] at e
  apply h
  cases a; cases b
  simp only [ByteArray.mk.injEq]
  exact Array.toList_inj.1 e

/-- What both Parse answer. -/
def ParseEnds (s : ByteArray) (e : Ending) : Prop :=
  (∃ k : Nat, 1 ≤ k ∧ k ≤ 10 ∧ tabN k = s ∧ e = .returned (.tuple #[.int .i64 k, .bool true])) ∨ ((∀ k : Nat, 1 ≤ k → k ≤ 10 → tabN k ≠ s) ∧ e = .returned (.tuple #[.int .i64 0, .bool false]))

theorem rparse_any (s : ByteArray) (w : World) : Calls Tryd.prog 10 #[.string s] w fun e w' => ParseEnds s e ∧ w' = w := by
  go_enter Tryd.func10, Tryd.ntmps10
  go_wp2_with fail
  go_loop [4] (fun i => ∃ n : Nat, 1 ≤ n ∧ n ≤ 11 ∧ i = .int .i64 n ∧ ∀ k : Nat, 1 ≤ k → k < n → tabN k ≠ s) (fun i => 11 - (intOf i).toNat)
  case atStart => exact ⟨1, by omega, by omega, rfl, fun k h1 h2 => by omega⟩
  case round =>
    obtain ⟨n, h1, h2, rfl, hno⟩ := hrel
    have Hno : Hid (∀ k : Nat, 1 ≤ k → k < n → tabN k ≠ s) := hno
    clear hno
    by_cases hlt : n ≤ 10
    · by_cases he : tabN n = s
      · have hb := seq_true he
        have He : Hid (tabN n = s) := he
        clear he
        go_wp2_with (go_at_call 13; refine (refName_yes n _ (by omega) (by omega)).mono ?_; rintro e w' ⟨rfl, rfl⟩)
        go_ret2
        exact ⟨Or.inl ⟨n, h1, hlt, He.out, rfl⟩, rfl⟩
      · have hb := seq_false he
        have He : Hid (tabN n ≠ s) := he
        clear he
        go_wp2_with (go_at_call 13; refine (refName_yes n _ (by omega) (by omega)).mono ?_; rintro e w' ⟨rfl, rfl⟩)
        exact ⟨⟨n + 1, by omega, by omega, by go_num, fun k a b => by
          rcases Nat.lt_or_ge k n with h | h
          · exact Hno.out k a h
          · obtain rfl : k = n := by omega
            exact He.out⟩, by simp [intOf]; omega⟩
    · go_wp2_with fail
      go_ret2
      exact ⟨Or.inr ⟨fun k a b => Hno.out k a (by omega), rfl⟩, rfl⟩

theorem size46 : (Tryd.prog.info? 46).map (·.size) = some tabCs.size := by kernel_rfl
theorem index46_0 (w : World) : (Instr.index 46 (.agg tabCs) (.int .i64 0)).run Tryd.prog w = .ok (.agg #[.string (tabN 0), .string (tabT 0)]) w := by kernel_rfl
theorem index46_1 (w : World) : (Instr.index 46 (.agg tabCs) (.int .i64 1)).run Tryd.prog w = .ok (.agg #[.string (tabN 1), .string (tabT 1)]) w := by kernel_rfl
theorem index46_2 (w : World) : (Instr.index 46 (.agg tabCs) (.int .i64 2)).run Tryd.prog w = .ok (.agg #[.string (tabN 2), .string (tabT 2)]) w := by kernel_rfl
theorem index46_3 (w : World) : (Instr.index 46 (.agg tabCs) (.int .i64 3)).run Tryd.prog w = .ok (.agg #[.string (tabN 3), .string (tabT 3)]) w := by kernel_rfl
theorem index46_4 (w : World) : (Instr.index 46 (.agg tabCs) (.int .i64 4)).run Tryd.prog w = .ok (.agg #[.string (tabN 4), .string (tabT 4)]) w := by kernel_rfl
theorem index46_5 (w : World) : (Instr.index 46 (.agg tabCs) (.int .i64 5)).run Tryd.prog w = .ok (.agg #[.string (tabN 5), .string (tabT 5)]) w := by kernel_rfl
theorem index46_6 (w : World) : (Instr.index 46 (.agg tabCs) (.int .i64 6)).run Tryd.prog w = .ok (.agg #[.string (tabN 6), .string (tabT 6)]) w := by kernel_rfl
theorem index46_7 (w : World) : (Instr.index 46 (.agg tabCs) (.int .i64 7)).run Tryd.prog w = .ok (.agg #[.string (tabN 7), .string (tabT 7)]) w := by kernel_rfl
theorem index46_8 (w : World) : (Instr.index 46 (.agg tabCs) (.int .i64 8)).run Tryd.prog w = .ok (.agg #[.string (tabN 8), .string (tabT 8)]) w := by kernel_rfl
theorem index46_9 (w : World) : (Instr.index 46 (.agg tabCs) (.int .i64 9)).run Tryd.prog w = .ok (.agg #[.string (tabN 9), .string (tabT 9)]) w := by kernel_rfl
theorem index46_10 (w : World) : (Instr.index 46 (.agg tabCs) (.int .i64 10)).run Tryd.prog w = .ok (.agg #[.string (tabN 10), .string (tabT 10)]) w := by kernel_rfl
theorem index46 (k : Nat) (h : k < 11) (w : World) : (Instr.index 46 (.agg tabCs) (.int .i64 k)).run Tryd.prog w = .ok (.agg #[.string (tabN k), .string (tabT k)]) w := by
  match k, h with
  | 0, _ => exact index46_0 w
  | 1, _ => exact index46_1 w
  | 2, _ => exact index46_2 w
  | 3, _ => exact index46_3 w
  | 4, _ => exact index46_4 w
  | 5, _ => exact index46_5 w
  | 6, _ => exact index46_6 w
  | 7, _ => exact index46_7 w
  | 8, _ => exact index46_8 w
  | 9, _ => exact index46_9 w
  | 10, _ => exact index46_10 w
theorem parse_any (s : ByteArray) (w : World) (hl : Laid w) : Calls Tryd.prog 9 #[.string s] w fun e w' => ParseEnds s e ∧ Below w.heap.size w w' := by
  obtain ⟨t, fr, hg⟩ := hl.tab
  have Hg : Hid (w.heap[0]? = some (.cells tabCs t fr)) := hg
  clear hl hg
  go_enter Tryd.func9, Tryd.ntmps9
  go_wp2_with (refine wpList_load_row rfl 46 _ rfl 0 rfl t tabCs fr _ Hg.out Tryd.underlying46 rfl size46 ?_)
  clear Hg
  go_loopw [8] (fun i wr => ∃ n : Nat, n ≤ 11 ∧ i = .int .i64 n ∧ Below w.heap.size w wr ∧ ∀ k : Nat, 1 ≤ k → k < n → tabN k ≠ s) (fun i _ => 11 - (intOf i).toNat)
  case atStart => exact ⟨0, by omega, rfl, Below.refl _ _, fun k h1 h2 => by omega⟩
  case round =>
    obtain ⟨n, h2, rfl, hb, hno⟩ := hrel
    have Hno : Hid (∀ k : Nat, 1 ≤ k → k < n → tabN k ≠ s) := hno
    clear hno
    by_cases hlt : n < 11
    · have hix := index46 n hlt
      have hb' := hb.size
      by_cases h0 : n < 1
      · go_wp2_with (go_at_call 24; refine (known_no n _ (by omega)).mono ?_; rintro e w' ⟨rfl, rfl⟩)
        exact ⟨⟨n + 1, by omega, by go_num, hb.alloc hb' _, fun k a b => by omega⟩, by simp [intOf]; omega⟩
      · by_cases he : tabN n = s
        · have hs := seq_true he
          have He : Hid (tabN n = s) := he
          clear he
          go_wp2_with (go_at_call 24; refine (known_yes n _ (by omega) (by omega)).mono ?_; rintro e w' ⟨rfl, rfl⟩)
          go_ret2
          exact ⟨Or.inl ⟨n, by omega, by omega, He.out, rfl⟩, hb.alloc hb' _⟩
        · have hs := seq_false he
          have He : Hid (tabN n ≠ s) := he
          clear he
          go_wp2_with (go_at_call 24; refine (known_yes n _ (by omega) (by omega)).mono ?_; rintro e w' ⟨rfl, rfl⟩)
          exact ⟨⟨n + 1, by omega, by go_num, hb.alloc hb' _, fun k a b => by
            rcases Nat.lt_or_ge k n with h | h
            · exact Hno.out k a h
            · obtain rfl : k = n := by omega
              exact He.out⟩, by simp [intOf]; omega⟩
    · go_wp2_with fail
      go_ret2
      exact ⟨Or.inr ⟨fun k a b => Hno.out k a (by omega), rfl⟩, hb⟩
end Go.Proofs.YtnlmohegkmegcaaDoor
