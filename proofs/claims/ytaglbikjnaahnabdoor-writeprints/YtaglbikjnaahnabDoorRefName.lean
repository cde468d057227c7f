/- The document's own Name. -/
import Derived.Test.YtaglbikjnaahnabDoorName
namespace Go.Proofs.YtaglbikjnaahnabDoor
open Go.RowKit

theorem not_B {c : Int} (h : ¬ IsB c) : c < 65 ∨ (90 < c ∧ c < 97 ∧ (c == 95) = false) ∨ 122 < c := by
  unfold IsB at h
  rcases Int.lt_or_le c 65 with h1 | h1
  · exact Or.inl h1
  · rcases Int.lt_or_le 122 c with h2 | h2
    · exact Or.inr (Or.inr h2)
    · refine Or.inr (Or.inl ⟨by omega, by omega, ?_⟩)
      rw [beq_eq_false_iff_ne]; omega
theorem not_G {c : Int} (h : ¬ IsG c) : (c < 48 ∨ 57 < c) ∧ (c == 45) = false ∧ (c == 46) = false ∧ (c == 58) = false := by
  unfold IsG at h
  refine ⟨by omega, ?_, ?_, ?_⟩ <;> (rw [beq_eq_false_iff_ne]; omega)

set_option maxHeartbeats 4000000 in
theorem refName_any (s : ByteArray) (w : World) (hs : s.size ≤ maxLen) : Calls Tryd.prog 63 #[.string s] w fun e w' => NameEnds s e ∧ w' = w := by
  unfold maxLen at hs
  go_enter Tryd.func63, Tryd.ntmps63
  go_wp2_with fail
  go_loop [3] (fun i => ∃ k : Nat, k ≤ s.size ∧ i = .int .i64 k ∧ ∀ (j : Nat) (h : j < s.size), j < k → NmAt s j h) (fun i => s.size - (intOf i).toNat)
  case atStart => exact ⟨0, Nat.zero_le _, rfl, fun j h h' => by omega⟩
  case round =>
    obtain ⟨k, hk, rfl, hpre⟩ := hrel
    have Hpre := hide hpre
    clear hpre
    by_cases hp : k < s.size
    · have Hnot := hide (show ¬ NmAt s k hp → ¬ NameOk s from fun h h' => h (h'.2.2 k hp))
      have Hround := hide (show NmAt s k hp → ∀ (j : Nat) (h : j < s.size), j < k + 1 → NmAt s j h from fun hok j h hj => by
        rcases Nat.lt_or_ge j k with h1 | h1
        · exact Hpre.out j h h1
        · obtain rfl : j = k := by omega
          exact hok)
      have h256 := (s[k]'hp).toNat_lt
      by_cases hb : IsB (s[k]'hp).toNat
      · have Hb := hide hb
        rcases hb with ⟨h1, h2⟩ | ⟨h1, h2⟩ | h1
        · have h3 : ¬ (97 ≤ ((s[k]'hp).toNat : Int)) := by omega
          have h4 : decide (((s[k]'hp).toNat : Int) ≤ 90) = true := by simp; omega
          go_wp2_with fail
          exact ⟨⟨k + 1, by omega, by go_num, Hround.out (Or.inl Hb.out)⟩, by simp [intOf]; omega⟩
        · have h4 : decide (((s[k]'hp).toNat : Int) ≤ 122) = true := by simp; omega
          go_wp2_with fail
          exact ⟨⟨k + 1, by omega, by go_num, Hround.out (Or.inl Hb.out)⟩, by simp [intOf]; omega⟩
        · have h3 : ¬ (97 ≤ ((s[k]'hp).toNat : Int)) := by omega
          have h4 : (65 ≤ ((s[k]'hp).toNat : Int)) := by omega
          have h5 : decide (((s[k]'hp).toNat : Int) ≤ 90) = false := by simp; omega
          have h6 : (((s[k]'hp).toNat : Int) == 95) = true := by rw [beq_iff_eq]; exact h1
          clear h1
          go_wp2_with fail
          exact ⟨⟨k + 1, by omega, by go_num, Hround.out (Or.inl Hb.out)⟩, by simp [intOf]; omega⟩
      · have Hb := hide hb
        have hnb := not_B hb
        clear hb
        by_cases hk0 : k = 0
        · have hk0' : ((k : Int) == 0) = true := by rw [beq_iff_eq]; omega
          have Hno := hide (Hnot.out (fun h => by
            rcases h with h | ⟨h, _⟩
            · exact Hb.out h
            · omega))
          clear hk0
          rcases hnb with h1 | ⟨h1, h2, h3⟩ | h1
          · have h3 : ¬ (97 ≤ ((s[k]'hp).toNat : Int)) := by omega
            have h4 : ¬ (65 ≤ ((s[k]'hp).toNat : Int)) := by omega
            have h5 : (((s[k]'hp).toNat : Int) == 95) = false := by rw [beq_eq_false_iff_ne]; omega
            go_wp2_with fail
            go_ret
            exact ⟨Or.inr ⟨Hno.out, rfl⟩, rfl⟩
          · have h4 : ¬ (97 ≤ ((s[k]'hp).toNat : Int)) := by omega
            have h5 : (65 ≤ ((s[k]'hp).toNat : Int)) := by omega
            have h6 : decide (((s[k]'hp).toNat : Int) ≤ 90) = false := by simp; omega
            go_wp2_with fail
            go_ret
            exact ⟨Or.inr ⟨Hno.out, rfl⟩, rfl⟩
          · have h4 : (97 ≤ ((s[k]'hp).toNat : Int)) := by omega
            have h7 : decide (((s[k]'hp).toNat : Int) ≤ 122) = false := by simp; omega
            have h5 : (65 ≤ ((s[k]'hp).toNat : Int)) := by omega
            have h6 : decide (((s[k]'hp).toNat : Int) ≤ 90) = false := by simp; omega
            have h8 : (((s[k]'hp).toNat : Int) == 95) = false := by rw [beq_eq_false_iff_ne]; omega
            go_wp2_with fail
            go_ret
            exact ⟨Or.inr ⟨Hno.out, rfl⟩, rfl⟩
        · have hk0' : ((k : Int) == 0) = false := by rw [beq_eq_false_iff_ne]; omega
          by_cases hg : IsG (s[k]'hp).toNat
          · have Hg := hide (show NmAt s k hp from Or.inr ⟨by omega, hg⟩)
            have hcmp : ¬ (97 ≤ ((s[k]'hp).toNat : Int)) ∧ ¬ (65 ≤ ((s[k]'hp).toNat : Int)) ∧ (((s[k]'hp).toNat : Int) == 95) = false := by
              unfold IsG at hg
              refine ⟨by omega, by omega, ?_⟩
              rw [beq_eq_false_iff_ne]; omega
            obtain ⟨g1, g2, g3⟩ := hcmp
            clear hnb
            rcases hg with ⟨h1, h2⟩ | h1 | h1 | h1
            · have h3 : decide (((s[k]'hp).toNat : Int) ≤ 57) = true := by simp; omega
              go_wp2_with fail
              exact ⟨⟨k + 1, by omega, by go_num, Hround.out Hg.out⟩, by simp [intOf]; omega⟩
            · have h2 : (((s[k]'hp).toNat : Int) == 45) = true := by rw [beq_iff_eq]; exact h1
              have h3 : ¬ (48 ≤ ((s[k]'hp).toNat : Int)) := by omega
              clear h1
              go_wp2_with fail
              exact ⟨⟨k + 1, by omega, by go_num, Hround.out Hg.out⟩, by simp [intOf]; omega⟩
            · have h2 : (((s[k]'hp).toNat : Int) == 46) = true := by rw [beq_iff_eq]; exact h1
              have h4 : (((s[k]'hp).toNat : Int) == 45) = false := by rw [beq_eq_false_iff_ne]; omega
              have h3 : ¬ (48 ≤ ((s[k]'hp).toNat : Int)) := by omega
              clear h1
              go_wp2_with fail
              exact ⟨⟨k + 1, by omega, by go_num, Hround.out Hg.out⟩, by simp [intOf]; omega⟩
            · have h2 : (((s[k]'hp).toNat : Int) == 58) = true := by rw [beq_iff_eq]; exact h1
              have h4 : (((s[k]'hp).toNat : Int) == 45) = false := by rw [beq_eq_false_iff_ne]; omega
              have h5 : (((s[k]'hp).toNat : Int) == 46) = false := by rw [beq_eq_false_iff_ne]; omega
              have h3 : (48 ≤ ((s[k]'hp).toNat : Int)) := by omega
              have h6 : decide (((s[k]'hp).toNat : Int) ≤ 57) = false := by simp; omega
              clear h1
              go_wp2_with fail
              exact ⟨⟨k + 1, by omega, by go_num, Hround.out Hg.out⟩, by simp [intOf]; omega⟩
          · obtain ⟨g0, g1, g2, g3⟩ := not_G hg
            have Hno := hide (Hnot.out (fun h => by
              rcases h with h | ⟨_, h⟩
              · exact Hb.out h
              · exact hg h))
            clear hg
            have g4 : (48 ≤ ((s[k]'hp).toNat : Int) → decide (((s[k]'hp).toNat : Int) ≤ 57) = false) := fun h => by simp; omega
            rcases hnb with h1 | ⟨h1, h2, h3⟩ | h1
            · have h3 : ¬ (97 ≤ ((s[k]'hp).toNat : Int)) := by omega
              have h4 : ¬ (65 ≤ ((s[k]'hp).toNat : Int)) := by omega
              have h5 : (((s[k]'hp).toNat : Int) == 95) = false := by rw [beq_eq_false_iff_ne]; omega
              rcases g0 with g0 | g0
              · have g5 : ¬ (48 ≤ ((s[k]'hp).toNat : Int)) := by omega
                go_wp2_with fail
                go_ret
                exact ⟨Or.inr ⟨Hno.out, rfl⟩, rfl⟩
              · have g5 : (48 ≤ ((s[k]'hp).toNat : Int)) := by omega
                have g6 := g4 g5
                go_wp2_with fail
                go_ret
                exact ⟨Or.inr ⟨Hno.out, rfl⟩, rfl⟩
            · have h4 : ¬ (97 ≤ ((s[k]'hp).toNat : Int)) := by omega
              have h5 : (65 ≤ ((s[k]'hp).toNat : Int)) := by omega
              have h6 : decide (((s[k]'hp).toNat : Int) ≤ 90) = false := by simp; omega
              have g5 : (48 ≤ ((s[k]'hp).toNat : Int)) := by omega
              have g6 := g4 g5
              go_wp2_with fail
              go_ret
              exact ⟨Or.inr ⟨Hno.out, rfl⟩, rfl⟩
            · have h4 : (97 ≤ ((s[k]'hp).toNat : Int)) := by omega
              have h7 : decide (((s[k]'hp).toNat : Int) ≤ 122) = false := by simp; omega
              have h5 : (65 ≤ ((s[k]'hp).toNat : Int)) := by omega
              have h6 : decide (((s[k]'hp).toNat : Int) ≤ 90) = false := by simp; omega
              have h8 : (((s[k]'hp).toNat : Int) == 95) = false := by rw [beq_eq_false_iff_ne]; omega
              have g5 : (48 ≤ ((s[k]'hp).toNat : Int)) := by omega
              have g6 := g4 g5
              go_wp2_with fail
              go_ret
              exact ⟨Or.inr ⟨Hno.out, rfl⟩, rfl⟩
    · by_cases h1 : 1 ≤ s.size
      · have h2 : (1 ≤ (s.size : Int)) := by omega
        by_cases h3 : s.size ≤ 32
        · have h4 : decide ((s.size : Int) ≤ 32) = true := by simp; omega
          go_wp2_with fail
          go_ret
          exact ⟨Or.inl ⟨⟨h1, h3, fun j h => Hpre.out j h (by omega)⟩, rfl⟩, rfl⟩
        · have h4 : decide ((s.size : Int) ≤ 32) = false := by simp; omega
          go_wp2_with fail
          go_ret
          exact ⟨Or.inr ⟨fun h => h3 h.2.1, rfl⟩, rfl⟩
      · have h2 : ¬ (1 ≤ (s.size : Int)) := by omega
        go_wp2_with fail
        go_ret
        exact ⟨Or.inr ⟨fun h => h1 h.1, rfl⟩, rfl⟩
end Go.Proofs.YtaglbikjnaahnabDoor
