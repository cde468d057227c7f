/- Package fault's names: known, Name, Type, Parse. -/
import Derived.Test.YtpknifioflagaaaDoorSmall
import Derived.Laws.Rows
import Derived.LoopTactic
namespace Go.Proofs.YtpknifioflagaaaDoor
open Go.RowKit

/-- The names in the table, by the condition's number. -/
def tabN : Nat → ByteArray
  | 1 => ⟨#[98, 97, 100, 45, 114, 101, 113, 117, 101, 115, 116]⟩
  | 2 => ⟨#[99, 111, 110, 102, 108, 105, 99, 116]⟩
  | 3 => ⟨#[102, 111, 114, 98, 105, 100, 100, 101, 110]⟩
  | 4 => ⟨#[105, 116, 101, 109, 45, 110, 111, 116, 45, 102, 111, 117, 110, 100]⟩
  | 5 => ⟨#[106, 105, 100, 45, 109, 97, 108, 102, 111, 114, 109, 101, 100]⟩
  | 6 => ⟨#[110, 111, 116, 45, 97, 108, 108, 111, 119, 101, 100]⟩
  | 7 => ⟨#[110, 111, 116, 45, 97, 117, 116, 104, 111, 114, 105, 122, 101, 100]⟩
  | 8 => ⟨#[114, 101, 115, 111, 117, 114, 99, 101, 45, 99, 111, 110, 115, 116, 114, 97, 105, 110, 116]⟩
  | 9 => ⟨#[115, 101, 114, 118, 105, 99, 101, 45, 117, 110, 97, 118, 97, 105, 108, 97, 98, 108, 101]⟩
  | 10 => ⟨#[117, 110, 101, 120, 112, 101, 99, 116, 101, 100, 45, 114, 101, 113, 117, 101, 115, 116]⟩
  | _ => ⟨#[]⟩
/-- The types in the table. -/
def tabT : Nat → ByteArray
  | 1 => ⟨#[109, 111, 100, 105, 102, 121]⟩
  | 2 => ⟨#[99, 97, 110, 99, 101, 108]⟩
  | 3 => ⟨#[97, 117, 116, 104]⟩
  | 4 => ⟨#[99, 97, 110, 99, 101, 108]⟩
  | 5 => ⟨#[109, 111, 100, 105, 102, 121]⟩
  | 6 => ⟨#[99, 97, 110, 99, 101, 108]⟩
  | 7 => ⟨#[97, 117, 116, 104]⟩
  | 8 => ⟨#[119, 97, 105, 116]⟩
  | 9 => ⟨#[99, 97, 110, 99, 101, 108]⟩
  | 10 => ⟨#[119, 97, 105, 116]⟩
  | _ => ⟨#[]⟩

/-- The table's cells. -/
def tabCs : Array Value := #[.string (tabN 0), .string (tabT 0), .string (tabN 1), .string (tabT 1), .string (tabN 2), .string (tabT 2), .string (tabN 3), .string (tabT 3), .string (tabN 4), .string (tabT 4), .string (tabN 5), .string (tabT 5), .string (tabN 6), .string (tabT 6), .string (tabN 7), .string (tabT 7), .string (tabN 8), .string (tabT 8), .string (tabN 9), .string (tabT 9), .string (tabN 10), .string (tabT 10)]

/-- The table lies as the program's text lays it. -/
def RowsLaid (w : World) : Prop := ∃ t fr, w.heap[0]? = some (.cells tabCs t fr)
theorem RowsLaid.size {w : World} (h : RowsLaid w) : 0 < w.heap.size := by
  obtain ⟨t, fr, h⟩ := h
  exact (Array.getElem?_eq_some_iff.1 h).1
theorem RowsLaid.below {w w' : World} {B : Nat} (h : RowsLaid w) (b : Below B w w') (hB : 0 < B) : RowsLaid w' := by
  obtain ⟨t, fr, h⟩ := h
  exact ⟨t, fr, by rw [b.block _ hB]; exact h⟩
theorem tab_at (k : Nat) (h : k < 11) : tabCs[k * 2]? = some (.string (tabN k)) ∧ tabCs[k * 2 + 1]? = some (.string (tabT k)) := by
  match k, h with
  | 0, _ => exact ⟨rfl, rfl⟩
  | 1, _ => exact ⟨rfl, rfl⟩
  | 2, _ => exact ⟨rfl, rfl⟩
  | 3, _ => exact ⟨rfl, rfl⟩
  | 4, _ => exact ⟨rfl, rfl⟩
  | 5, _ => exact ⟨rfl, rfl⟩
  | 6, _ => exact ⟨rfl, rfl⟩
  | 7, _ => exact ⟨rfl, rfl⟩
  | 8, _ => exact ⟨rfl, rfl⟩
  | 9, _ => exact ⟨rfl, rfl⟩
  | 10, _ => exact ⟨rfl, rfl⟩
theorem RowsLaid.nm {w : World} (h : RowsLaid w) (k : Nat) (hk : k < 11) : w.cell? ⟨0, k * 2, none⟩ = some (.string (tabN k)) := by
  obtain ⟨t, fr, h1⟩ := h
  simp [World.cell?, h1, (tab_at k hk).1]
theorem RowsLaid.ty {w : World} (h : RowsLaid w) (k : Nat) (hk : k < 11) : w.cell? ⟨0, k * 2 + 1, none⟩ = some (.string (tabT k)) := by
  obtain ⟨t, fr, h1⟩ := h
  simp [World.cell?, h1, (tab_at k hk).2]
theorem known_yes (c : Int) (w : World) (h1 : 1 ≤ c) (h2 : c ≤ 10) : Calls Tryd.prog 64 #[.int .i64 c] w fun e w' => e = .returned (.bool true) ∧ w' = w := by
  have h3 : decide (c < 11) = true := by simp; omega
  go_enter Tryd.func64, Tryd.ntmps64
  go_wp2
  go_ret
  exact ⟨rfl, rfl⟩
theorem known_no (c : Int) (w : World) (h : c < 1 ∨ 10 < c) : Calls Tryd.prog 64 #[.int .i64 c] w fun e w' => e = .returned (.bool false) ∧ w' = w := by
  rcases h with h | h
  · have h3 : ¬ 0 < c := by omega
    go_enter Tryd.func64, Tryd.ntmps64
    go_wp2
    go_ret
    exact ⟨rfl, rfl⟩
  · have h3 : decide (c < 11) = false := by simp; omega
    have h4 : 0 < c := by omega
    go_enter Tryd.func64, Tryd.ntmps64
    go_wp2
    go_ret
    exact ⟨rfl, rfl⟩
theorem fname_yes (c : Int) (w : World) (h1 : 1 ≤ c) (h2 : c ≤ 10) (hl : RowsLaid w) : Calls Tryd.prog 46 #[.int .i64 c] w fun e w' => e = .returned (.string (tabN c.toNat)) ∧ w' = w := by
  have hc := hl.nm c.toNat (by omega)
  clear hl
  go_enter Tryd.func46, Tryd.ntmps46
  go_wp2_with (go_at_call 64; refine (known_yes c _ h1 h2).mono ?_; rintro e w' ⟨rfl, rfl⟩)
  go_ret
  exact ⟨rfl, rfl⟩
theorem fname_no (c : Int) (w : World) (h : c < 1 ∨ 10 < c) : Calls Tryd.prog 46 #[.int .i64 c] w fun e w' => e = .returned (.string ⟨#[]⟩) ∧ w' = w := by
  have H : Hid (c < 1 ∨ 10 < c) := h
  clear h
  go_enter Tryd.func46, Tryd.ntmps46
  go_wp2_with (go_at_call 64; refine (known_no c _ H.out).mono ?_; rintro e w' ⟨rfl, rfl⟩)
  go_ret
  exact ⟨rfl, rfl⟩
theorem ftype_yes (c : Int) (w : World) (h1 : 1 ≤ c) (h2 : c ≤ 10) (hl : RowsLaid w) : Calls Tryd.prog 44 #[.int .i64 c] w fun e w' => e = .returned (.string (tabT c.toNat)) ∧ w' = w := by
  have hc := hl.ty c.toNat (by omega)
  clear hl
  go_enter Tryd.func44, Tryd.ntmps44
  go_wp2_with (go_at_call 64; refine (known_yes c _ h1 h2).mono ?_; rintro e w' ⟨rfl, rfl⟩)
  go_ret
  exact ⟨rfl, rfl⟩
theorem ftype_no (c : Int) (w : World) (h : c < 1 ∨ 10 < c) : Calls Tryd.prog 44 #[.int .i64 c] w fun e w' => e = .returned (.string ⟨#[]⟩) ∧ w' = w := by
  have H : Hid (c < 1 ∨ 10 < c) := h
  clear h
  go_enter Tryd.func44, Tryd.ntmps44
  go_wp2_with (go_at_call 64; refine (known_no c _ H.out).mono ?_; rintro e w' ⟨rfl, rfl⟩)
  go_ret
  exact ⟨rfl, rfl⟩
theorem seq_true {a b : ByteArray} (h : a = b) : (a.toList == b.toList) = true := by rw [h]; simp
theorem seq_false {a b : ByteArray} (h : a ≠ b) : (a.toList == b.toList) = false := by
  rw [beq_eq_false_iff_ne]
  intro e
  rw [ByteArray.toList_eq, ByteArray.toList_eq] at e
  apply h
  cases a; cases b
  simp only [ByteArray.mk.injEq]
  exact Array.toList_inj.1 e

/-- What both Parse answer. -/
def ParseEnds (s : ByteArray) (e : Ending) : Prop :=
  (∃ k : Nat, 1 ≤ k ∧ k ≤ 10 ∧ tabN k = s ∧ e = .returned (.tuple #[.int .i64 k, .bool true])) ∨ ((∀ k : Nat, 1 ≤ k → k ≤ 10 → tabN k ≠ s) ∧ e = .returned (.tuple #[.int .i64 0, .bool false]))

theorem size46 : (Tryd.prog.info? 84).map (·.size) = some tabCs.size := by kernel_rfl
theorem index46_0 (w : World) : (Instr.index 84 (.agg tabCs) (.int .i64 0)).run Tryd.prog w = .ok (.agg #[.string (tabN 0), .string (tabT 0)]) w := by kernel_rfl
theorem index46_1 (w : World) : (Instr.index 84 (.agg tabCs) (.int .i64 1)).run Tryd.prog w = .ok (.agg #[.string (tabN 1), .string (tabT 1)]) w := by kernel_rfl
theorem index46_2 (w : World) : (Instr.index 84 (.agg tabCs) (.int .i64 2)).run Tryd.prog w = .ok (.agg #[.string (tabN 2), .string (tabT 2)]) w := by kernel_rfl
theorem index46_3 (w : World) : (Instr.index 84 (.agg tabCs) (.int .i64 3)).run Tryd.prog w = .ok (.agg #[.string (tabN 3), .string (tabT 3)]) w := by kernel_rfl
theorem index46_4 (w : World) : (Instr.index 84 (.agg tabCs) (.int .i64 4)).run Tryd.prog w = .ok (.agg #[.string (tabN 4), .string (tabT 4)]) w := by kernel_rfl
theorem index46_5 (w : World) : (Instr.index 84 (.agg tabCs) (.int .i64 5)).run Tryd.prog w = .ok (.agg #[.string (tabN 5), .string (tabT 5)]) w := by kernel_rfl
theorem index46_6 (w : World) : (Instr.index 84 (.agg tabCs) (.int .i64 6)).run Tryd.prog w = .ok (.agg #[.string (tabN 6), .string (tabT 6)]) w := by kernel_rfl
theorem index46_7 (w : World) : (Instr.index 84 (.agg tabCs) (.int .i64 7)).run Tryd.prog w = .ok (.agg #[.string (tabN 7), .string (tabT 7)]) w := by kernel_rfl
theorem index46_8 (w : World) : (Instr.index 84 (.agg tabCs) (.int .i64 8)).run Tryd.prog w = .ok (.agg #[.string (tabN 8), .string (tabT 8)]) w := by kernel_rfl
theorem index46_9 (w : World) : (Instr.index 84 (.agg tabCs) (.int .i64 9)).run Tryd.prog w = .ok (.agg #[.string (tabN 9), .string (tabT 9)]) w := by kernel_rfl
theorem index46_10 (w : World) : (Instr.index 84 (.agg tabCs) (.int .i64 10)).run Tryd.prog w = .ok (.agg #[.string (tabN 10), .string (tabT 10)]) w := by kernel_rfl
theorem index46 (k : Nat) (h : k < 11) (w : World) : (Instr.index 84 (.agg tabCs) (.int .i64 k)).run Tryd.prog w = .ok (.agg #[.string (tabN k), .string (tabT k)]) w := by
  match k, h with
  | 0, _ => exact index46_0 w
  | 1, _ => exact index46_1 w
  | 2, _ => exact index46_2 w
  | 3, _ => exact index46_3 w
  | 4, _ => exact index46_4 w
  | 5, _ => exact index46_5 w
  | 6, _ => exact index46_6 w
  | 7, _ => exact index46_7 w
  | 8, _ => exact index46_8 w
  | 9, _ => exact index46_9 w
  | 10, _ => exact index46_10 w
theorem parse_any (s : ByteArray) (w : World) (hl : RowsLaid w) : Calls Tryd.prog 42 #[.string s] w fun e w' => ParseEnds s e ∧ Below w.heap.size w w' := by
  obtain ⟨t, fr, hg⟩ := hl
  have Hg : Hid (w.heap[0]? = some (.cells tabCs t fr)) := hg
  clear hg
  go_enter Tryd.func42, Tryd.ntmps42
  go_wp2_with (refine wpList_load_row rfl 84 _ rfl 0 rfl t tabCs fr _ Hg.out Tryd.underlying84 rfl size46 ?_)
  clear Hg
  go_loopw [8] (fun i wr => ∃ n : Nat, n ≤ 11 ∧ i = .int .i64 n ∧ Below w.heap.size w wr ∧ ∀ k : Nat, 1 ≤ k → k < n → tabN k ≠ s) (fun i _ => 11 - (intOf i).toNat)
  case atStart => exact ⟨0, by omega, rfl, Below.refl _ _, fun k h1 h2 => by omega⟩
  case round =>
    obtain ⟨n, h2, rfl, hb, hno⟩ := hrel
    have Hno : Hid (∀ k : Nat, 1 ≤ k → k < n → tabN k ≠ s) := hno
    clear hno
    by_cases hlt : n < 11
    · have hix := index46 n hlt
      have hb' := hb.size
      by_cases h0 : n < 1
      · go_wp2_with (go_at_call 64; refine (known_no n _ (by omega)).mono ?_; rintro e w' ⟨rfl, rfl⟩)
        exact ⟨⟨n + 1, by omega, by go_num, hb.alloc hb' _, fun k a b => by omega⟩, by simp [intOf]; omega⟩
      · by_cases he : tabN n = s
        · have hs := seq_true he
          have He : Hid (tabN n = s) := he
          clear he
          go_wp2_with (go_at_call 64; refine (known_yes n _ (by omega) (by omega)).mono ?_; rintro e w' ⟨rfl, rfl⟩)
          go_ret2
          exact ⟨Or.inl ⟨n, by omega, by omega, He.out, rfl⟩, hb.alloc hb' _⟩
        · have hs := seq_false he
          have He : Hid (tabN n ≠ s) := he
          clear he
          go_wp2_with (go_at_call 64; refine (known_yes n _ (by omega) (by omega)).mono ?_; rintro e w' ⟨rfl, rfl⟩)
          exact ⟨⟨n + 1, by omega, by go_num, hb.alloc hb' _, fun k a b => by
            rcases Nat.lt_or_ge k n with h | h
            · exact Hno.out k a h
            · obtain rfl : k = n := by omega
              exact He.out⟩, by simp [intOf]; omega⟩
    · go_wp2_with fail
      go_ret2
      exact ⟨Or.inr ⟨fun k a b => Hno.out k a (by omega), rfl⟩, hb⟩
theorem tabN_fin : ∀ i j : Fin 11, 1 ≤ i.val → 1 ≤ j.val → tabN i.val = tabN j.val → i = j := by decide
theorem tabN_inj {i j : Nat} (hi : 1 ≤ i) (hi' : i ≤ 10) (hj : 1 ≤ j) (hj' : j ≤ 10) (h : tabN i = tabN j) : i = j := by
  have := tabN_fin ⟨i, by omega⟩ ⟨j, by omega⟩ hi hj h
  exact congrArg Fin.val this
theorem parse_own {a : Int} (h1 : 1 ≤ a) (h2 : a ≤ 10) {e : Ending} (h : ParseEnds (tabN a.toNat) e) : e = .returned (.tuple #[.int .i64 a, .bool true]) := by
  rcases h with ⟨k, g1, g2, g3, rfl⟩ | ⟨g1, rfl⟩
  · have := tabN_inj g1 g2 (by omega) (by omega) g3
    rw [this, Int.toNat_of_nonneg (by omega)]
  · exact absurd rfl (g1 a.toNat (by omega) (by omega))

end Go.Proofs.YtpknifioflagaaaDoor
