/- The document's own place and Base64. -/
import Derived.Test.YtnlmohegkmegcabDoorUn
import Derived.Test.YtnlmohegkmegcabDoorFacts64
import Derived.Test.YtnlmohegkmegcabDoorRefEsc
namespace Go.Proofs.YtnlmohegkmegcabDoor
open Go.RowKit

theorem digs_at (a : Nat) (h : a < 64) : digs[a]'(by rw [digs_size]; exact h) = dg a := by
  have h1 : a < digs.size := by rw [digs_size]; exact h
  have h2 : digs.data[a]? = some digs[a] := Array.getElem?_eq_getElem h1
  show digs[a] = digs.data.getD a 0
  generalize digs[a] = q at h2
  rw [Array.getD_eq_getD_getElem?]
  rw [h2]
  rfl
theorem dig_index64 (a : Nat) (h : a < 64) (w : World) : (Instr.index 9 (.string ⟨#[65, 66, 67, 68, 69, 70, 71, 72, 73, 74, 75, 76, 77, 78, 79, 80, 81, 82, 83, 84, 85, 86, 87, 88, 89, 90, 97, 98, 99, 100, 101, 102, 103, 104, 105, 106, 107, 108, 109, 110, 111, 112, 113, 114, 115, 116, 117, 118, 119, 120, 121, 122, 48, 49, 50, 51, 52, 53, 54, 55, 56, 57, 43, 47]⟩) (.int .i64 a)).run Tryd.prog w = .ok (.int .u8 (dg a).toNat) w := by
  have e := digs_at a h
  have h3 : ¬ (64 ≤ (a : Int)) := by omega
  show (Instr.index 9 (.string digs) (.int .i64 a)).run Tryd.prog w = _
  simp [go_sem, digs_size, e]
  intro h4
  exact absurd h4 h3
theorem dig_slice (a : Nat) (h : a < 64) (w : World) : (Instr.slice 9 (.string ⟨#[65, 66, 67, 68, 69, 70, 71, 72, 73, 74, 75, 76, 77, 78, 79, 80, 81, 82, 83, 84, 85, 86, 87, 88, 89, 90, 97, 98, 99, 100, 101, 102, 103, 104, 105, 106, 107, 108, 109, 110, 111, 112, 113, 114, 115, 116, 117, 118, 119, 120, 121, 122, 48, 49, 50, 51, 52, 53, 54, 55, 56, 57, 43, 47]⟩) (some (.int .i64 a)) (some (.int .i64 (a + 1))) none).run Tryd.prog w = .ok (.string ⟨#[dg a]⟩) w := by
  have h1 : a < digs.size := by rw [digs_size]; exact h
  have := slice_one digs a h1 w
  rw [digs_at a h] at this
  exact this

/-- A digit's place; -1: it is none. -/
def pl (c : UInt8) : Int := match dv c.toNat with
  | some k => k
  | none => -1
theorem pl_bd (c : UInt8) : -1 ≤ pl c ∧ pl c ≤ 63 := by
  unfold pl
  split
  · rename_i k h
    have := dv_lt h
    omega
  · omega
theorem pl_dg (k : Nat) (h : k < 64) : pl (dg k) = k := by
  unfold pl
  rw [(dv_dg k h).1]
set_option maxRecDepth 100000 in
theorem dg_dv_fin : ∀ n : Fin 256, ∀ k : Fin 64, dv n.val = some k.val → dg k.val = UInt8.ofNat n.val := by decide
theorem dg_dv {c : UInt8} {k : Nat} (h : dv c.toNat = some k) : dg k = c := by
  have := dg_dv_fin ⟨c.toNat, c.toNat_lt⟩ ⟨k, dv_lt h⟩ h
  simpa using this
theorem place_any (c : UInt8) (w : World) : Calls Tryd.prog 38 #[.int .u8 c.toNat] w fun e w' => e = .returned (.int .i64 (pl c)) ∧ w' = w := by
  have hc := c.toNat_lt
  go_enter Tryd.func38, Tryd.ntmps38
  go_wp2_with fail
  go_loop [3] (fun i => ∃ k : Nat, k ≤ 64 ∧ i = .int .i64 k ∧ ∀ j, j < k → dg j ≠ c) (fun i => 64 - (intOf i).toNat)
  case atStart => exact ⟨0, Nat.zero_le _, rfl, fun j h => by omega⟩
  case round =>
    obtain ⟨k, hk, rfl, hpre⟩ := hrel
    have Hpre := hide hpre
    clear hpre
    have hk6 : k = 64 ∨ k < 64 := by omega
    rcases hk6 with rfl | hk6
    · have Hn := hide (show pl c = -1 by
        unfold pl
        cases hd : dv c.toNat with
        | none => rfl
        | some j => exact absurd (dg_dv hd) (Hpre.out j (dv_lt hd)))
      go_wp2_with fail
      go_ret
      exact ⟨by rw [Hn.out]; rfl, rfl⟩
    · have hix := dig_index64 k hk6
      have h256 := (dg k).toNat_lt
      by_cases he : dg k = c
      · have e1 : (((dg k).toNat : Int) == (c.toNat : Int)) = true := by rw [he]; simp
        have Hn := hide (show pl c = k by rw [← he]; exact pl_dg k hk6)
        clear he
        go_wp2_with fail
        go_ret
        exact ⟨by rw [Hn.out]; rfl, rfl⟩
      · have e1 : (((dg k).toNat : Int) == (c.toNat : Int)) = false := by
          rw [beq_eq_false_iff_ne]
          intro h
          exact he (UInt8.toNat_inj.1 (by omega))
        have Hn := hide (show ∀ j, j < k + 1 → dg j ≠ c from fun j hj => by
          rcases Nat.lt_or_ge j k with h1 | h1
          · exact Hpre.out j h1
          · obtain rfl : j = k := by omega
            exact he)
        clear he
        go_wp2_with fail
        exact ⟨⟨k + 1, by omega, by go_num, Hn.out⟩, by simp [intOf]; omega⟩
end Go.Proofs.YtnlmohegkmegcabDoor
