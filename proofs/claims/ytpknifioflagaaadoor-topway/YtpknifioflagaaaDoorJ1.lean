/- Addresses: parts. -/
import Derived.Test.YtpknifioflagaaaDoorJ0
namespace Go.Proofs.YtpknifioflagaaaDoor.Jd
open Go.RowKit

theorem bget (s : ByteArray) (k : Nat) (h : k < s.size) : s.data.toList[k]? = some s[k] := by
  rw [List.getElem?_eq_getElem (by rw [Array.length_toList]; exact h), Array.getElem_toList]
  rfl
theorem part_false {s : ByteArray} {k : Nat} (hp : k < s.size) (h : ptB s[k] = false) : partL s.data.toList = false := by
  unfold partL
  rw [Bool.and_eq_false_iff]
  left
  rw [List.all_eq_false]
  exact ⟨s[k], List.mem_of_getElem? (bget s k hp), by rw [h]; decide⟩
theorem part_full {s : ByteArray} (h0 : 0 < s.size) (h : ∀ (j : Nat) (hj : j < s.size), ptB s[j] = true) : partL s.data.toList = true := by
  unfold partL
  rw [Bool.and_eq_true, List.all_eq_true]
  refine ⟨fun b hb => ?_, ?_⟩
  · obtain ⟨j, hj⟩ := List.getElem?_of_mem hb
    have hlt : j < s.size := by
      have := (List.getElem?_eq_some_iff.1 hj).1
      rw [Array.length_toList] at this
      exact this
    rw [bget s j hlt] at hj
    cases hj
    exact h j hlt
  · cases hd : s.data.toList with
    | nil =>
      have := congrArg List.length hd
      rw [Array.length_toList] at this
      exact absurd this (by show s.size ≠ 0; omega)
    | cons a l => rfl
set_option maxRecDepth 100000 in
theorem part_any (s : ByteArray) (w : World) (hs : s.size ≤ 9223372036854775807) : Calls Tryd.prog 66 #[.string s] w fun e w' => e = .returned (.bool (partL s.data.toList)) ∧ w' = w := by
  obtain ⟨pb, hpb⟩ : ∃ pb, partL s.data.toList = pb := ⟨_, rfl⟩
  rw [hpb]
  have HPB := hide hpb
  clear hpb
  go_enter Tryd.func66, Tryd.ntmps66
  go_wp2_with fail
  go_loop [6] (fun i => ∃ k : Nat, k ≤ s.size ∧ i = .int .i64 k ∧ ∀ (j : Nat) (h : j < s.size), j < k → ptB s[j] = true) (fun i => s.size - (intOf i).toNat)
  case atStart => exact ⟨0, Nat.zero_le _, rfl, fun j h h' => by omega⟩
  case round =>
    obtain ⟨k, hk, rfl, hpre⟩ := hrel
    have Hpre := hide hpre
    clear hpre
    by_cases hp : k < s.size
    · have hpb := hide (partByte_any s[k] w)
      go_wp2_with fail
      refine hpb.out.mono ?_
      rintro e w2 ⟨rfl, hw⟩
      subst hw
      cases hq : ptB s[k] with
      | true =>
        have Hq := hide hq
        clear hq
        go_wp2_with fail
        refine ⟨⟨k + 1, by omega, by go_num, fun j h hj => ?_⟩, by simp [intOf]; omega⟩
        rcases Nat.lt_or_ge j k with h1 | h1
        · exact Hpre.out j h h1
        · obtain rfl : j = k := by omega
          exact Hq.out
      | false =>
        have Hq := hide (part_false hp hq)
        clear hq
        go_wp2_with fail
        go_ret
        rw [← HPB.out, Hq.out]
        exact ⟨rfl, rfl⟩
    · have hks : k = s.size := by omega
      by_cases h0 : s.size = 0
      · have hse : s = ⟨#[]⟩ := by
          obtain ⟨⟨l⟩⟩ := s
          cases l with
          | nil => rfl
          | cons a l => simp [ByteArray.size] at h0
        subst hse
        go_wp2_with fail
        go_ret
        rw [← HPB.out]
        exact ⟨rfl, rfl⟩
      · have hne : (s.toList == (⟨#[]⟩ : ByteArray).toList) = false := str_ne (fun e => h0 (by rw [e]; rfl))
        have Hq := hide (part_full (s := s) (by omega) (fun j hj => Hpre.out j hj (by omega)))
        go_wp2_with fail
        go_ret
        rw [← HPB.out, Hq.out]
        simpa using hne

set_option maxRecDepth 100000 in
set_option maxHeartbeats 4000000 in
theorem refpart_any (s : ByteArray) (w : World) (hs : s.size ≤ 9223372036854775807) : Calls Tryd.prog 80 #[.string s] w fun e w' => e = .returned (.bool (partL s.data.toList)) ∧ w' = w := by
  obtain ⟨pb, hpb⟩ : ∃ pb, partL s.data.toList = pb := ⟨_, rfl⟩
  rw [hpb]
  have HPB := hide hpb
  clear hpb
  go_enter Tryd.func80, Tryd.ntmps80
  go_wp2_with fail
  go_loop [3] (fun i => ∃ k : Nat, k ≤ s.size ∧ i = .int .i64 k ∧ ∀ (j : Nat) (h : j < s.size), j < k → ptB s[j] = true) (fun i => s.size - (intOf i).toNat)
  case atStart => exact ⟨0, Nat.zero_le _, rfl, fun j h h' => by omega⟩
  case round =>
    obtain ⟨k, hk, rfl, hpre⟩ := hrel
    have Hpre := hide hpre
    clear hpre
    by_cases hp : k < s.size
    · have h256 := (s[k]'hp).toNat_lt
      obtain ⟨n, hn⟩ : ∃ n : Nat, (s[k]'hp).toNat = n := ⟨_, rfl⟩
      rcases (show (97 ≤ n ∧ n ≤ 122) ∨ (65 ≤ n ∧ n ≤ 90) ∨ (48 ≤ n ∧ n ≤ 57) ∨ n = 45 ∨ n = 95 ∨ n = 46 ∨ (n < 45 ∨ n = 47) ∨ (57 < n ∧ n < 65) ∨ (90 < n ∧ n < 97 ∧ n ≠ 95) ∨ 122 < n by omega) with g | g | g | g | g | g | g | g | g | g
      · have Hq := hide (show ptB s[k] = true by rw [ptB_of _ hn]; simp; omega)
        have a97 : (97 : Int) ≤ ((s[k]'hp).toNat : Int) := by omega
        have d122 : decide (((s[k]'hp).toNat : Int) ≤ 122) = true := by simp; omega
        clear hn g
        go_wp2_with fail
        refine ⟨⟨k + 1, by omega, by go_num, fun j h hj => ?_⟩, by simp [intOf]; omega⟩
        rcases Nat.lt_or_ge j k with h1 | h1
        · exact Hpre.out j h h1
        · obtain rfl : j = k := by omega
          exact Hq.out
      · have Hq := hide (show ptB s[k] = true by rw [ptB_of _ hn]; simp; omega)
        have a97 : ¬ (97 : Int) ≤ ((s[k]'hp).toNat : Int) := by omega
        have a65 : (65 : Int) ≤ ((s[k]'hp).toNat : Int) := by omega
        have d90 : decide (((s[k]'hp).toNat : Int) ≤ 90) = true := by simp; omega
        clear hn g
        go_wp2_with fail
        refine ⟨⟨k + 1, by omega, by go_num, fun j h hj => ?_⟩, by simp [intOf]; omega⟩
        rcases Nat.lt_or_ge j k with h1 | h1
        · exact Hpre.out j h h1
        · obtain rfl : j = k := by omega
          exact Hq.out
      · have Hq := hide (show ptB s[k] = true by rw [ptB_of _ hn]; simp; omega)
        have a97 : ¬ (97 : Int) ≤ ((s[k]'hp).toNat : Int) := by omega
        have a65 : ¬ (65 : Int) ≤ ((s[k]'hp).toNat : Int) := by omega
        have a48 : (48 : Int) ≤ ((s[k]'hp).toNat : Int) := by omega
        have d57 : decide (((s[k]'hp).toNat : Int) ≤ 57) = true := by simp; omega
        clear hn g
        go_wp2_with fail
        refine ⟨⟨k + 1, by omega, by go_num, fun j h hj => ?_⟩, by simp [intOf]; omega⟩
        rcases Nat.lt_or_ge j k with h1 | h1
        · exact Hpre.out j h h1
        · obtain rfl : j = k := by omega
          exact Hq.out
      · have Hq := hide (show ptB s[k] = true by rw [ptB_of _ hn]; simp; omega)
        have a97 : ¬ (97 : Int) ≤ ((s[k]'hp).toNat : Int) := by omega
        have a65 : ¬ (65 : Int) ≤ ((s[k]'hp).toNat : Int) := by omega
        have a48 : ¬ (48 : Int) ≤ ((s[k]'hp).toNat : Int) := by omega
        have q45 : (((s[k]'hp).toNat : Int) == 45) = true := by rw [beq_iff_eq]; omega
        clear hn g
        go_wp2_with fail
        refine ⟨⟨k + 1, by omega, by go_num, fun j h hj => ?_⟩, by simp [intOf]; omega⟩
        rcases Nat.lt_or_ge j k with h1 | h1
        · exact Hpre.out j h h1
        · obtain rfl : j = k := by omega
          exact Hq.out
      · have Hq := hide (show ptB s[k] = true by rw [ptB_of _ hn]; simp; omega)
        have a97 : ¬ (97 : Int) ≤ ((s[k]'hp).toNat : Int) := by omega
        have a65 : (65 : Int) ≤ ((s[k]'hp).toNat : Int) := by omega
        have d90 : decide (((s[k]'hp).toNat : Int) ≤ 90) = false := by simp; omega
        have a48 : (48 : Int) ≤ ((s[k]'hp).toNat : Int) := by omega
        have d57 : decide (((s[k]'hp).toNat : Int) ≤ 57) = false := by simp; omega
        have q45 : (((s[k]'hp).toNat : Int) == 45) = false := by rw [beq_eq_false_iff_ne]; omega
        have q95 : (((s[k]'hp).toNat : Int) == 95) = true := by rw [beq_iff_eq]; omega
        clear hn g
        go_wp2_with fail
        refine ⟨⟨k + 1, by omega, by go_num, fun j h hj => ?_⟩, by simp [intOf]; omega⟩
        rcases Nat.lt_or_ge j k with h1 | h1
        · exact Hpre.out j h h1
        · obtain rfl : j = k := by omega
          exact Hq.out
      · have Hq := hide (show ptB s[k] = true by rw [ptB_of _ hn]; simp; omega)
        have a97 : ¬ (97 : Int) ≤ ((s[k]'hp).toNat : Int) := by omega
        have a65 : ¬ (65 : Int) ≤ ((s[k]'hp).toNat : Int) := by omega
        have a48 : ¬ (48 : Int) ≤ ((s[k]'hp).toNat : Int) := by omega
        have q45 : (((s[k]'hp).toNat : Int) == 45) = false := by rw [beq_eq_false_iff_ne]; omega
        have q95 : (((s[k]'hp).toNat : Int) == 95) = false := by rw [beq_eq_false_iff_ne]; omega
        have q46 : (((s[k]'hp).toNat : Int) == 46) = true := by rw [beq_iff_eq]; omega
        clear hn g
        go_wp2_with fail
        refine ⟨⟨k + 1, by omega, by go_num, fun j h hj => ?_⟩, by simp [intOf]; omega⟩
        rcases Nat.lt_or_ge j k with h1 | h1
        · exact Hpre.out j h h1
        · obtain rfl : j = k := by omega
          exact Hq.out
      · have Hq := hide (part_false hp (show ptB s[k] = false by rw [ptB_of _ hn]; simp; omega))
        have a97 : ¬ (97 : Int) ≤ ((s[k]'hp).toNat : Int) := by omega
        have a65 : ¬ (65 : Int) ≤ ((s[k]'hp).toNat : Int) := by omega
        have a48 : ¬ (48 : Int) ≤ ((s[k]'hp).toNat : Int) := by omega
        have q45 : (((s[k]'hp).toNat : Int) == 45) = false := by rw [beq_eq_false_iff_ne]; omega
        have q95 : (((s[k]'hp).toNat : Int) == 95) = false := by rw [beq_eq_false_iff_ne]; omega
        have q46 : (((s[k]'hp).toNat : Int) == 46) = false := by rw [beq_eq_false_iff_ne]; omega
        clear hn g
        go_wp2_with fail
        go_ret
        rw [← HPB.out, Hq.out]
        exact ⟨rfl, rfl⟩
      · have Hq := hide (part_false hp (show ptB s[k] = false by rw [ptB_of _ hn]; simp; omega))
        have a97 : ¬ (97 : Int) ≤ ((s[k]'hp).toNat : Int) := by omega
        have a65 : ¬ (65 : Int) ≤ ((s[k]'hp).toNat : Int) := by omega
        have a48 : (48 : Int) ≤ ((s[k]'hp).toNat : Int) := by omega
        have d57 : decide (((s[k]'hp).toNat : Int) ≤ 57) = false := by simp; omega
        have q45 : (((s[k]'hp).toNat : Int) == 45) = false := by rw [beq_eq_false_iff_ne]; omega
        have q95 : (((s[k]'hp).toNat : Int) == 95) = false := by rw [beq_eq_false_iff_ne]; omega
        have q46 : (((s[k]'hp).toNat : Int) == 46) = false := by rw [beq_eq_false_iff_ne]; omega
        clear hn g
        go_wp2_with fail
        go_ret
        rw [← HPB.out, Hq.out]
        exact ⟨rfl, rfl⟩
      · have Hq := hide (part_false hp (show ptB s[k] = false by rw [ptB_of _ hn]; simp; omega))
        have a97 : ¬ (97 : Int) ≤ ((s[k]'hp).toNat : Int) := by omega
        have a65 : (65 : Int) ≤ ((s[k]'hp).toNat : Int) := by omega
        have d90 : decide (((s[k]'hp).toNat : Int) ≤ 90) = false := by simp; omega
        have a48 : (48 : Int) ≤ ((s[k]'hp).toNat : Int) := by omega
        have d57 : decide (((s[k]'hp).toNat : Int) ≤ 57) = false := by simp; omega
        have q45 : (((s[k]'hp).toNat : Int) == 45) = false := by rw [beq_eq_false_iff_ne]; omega
        have q95 : (((s[k]'hp).toNat : Int) == 95) = false := by rw [beq_eq_false_iff_ne]; omega
        have q46 : (((s[k]'hp).toNat : Int) == 46) = false := by rw [beq_eq_false_iff_ne]; omega
        clear hn g
        go_wp2_with fail
        go_ret
        rw [← HPB.out, Hq.out]
        exact ⟨rfl, rfl⟩
      · have Hq := hide (part_false hp (show ptB s[k] = false by rw [ptB_of _ hn]; simp; omega))
        have a97 : (97 : Int) ≤ ((s[k]'hp).toNat : Int) := by omega
        have d122 : decide (((s[k]'hp).toNat : Int) ≤ 122) = false := by simp; omega
        have a65 : (65 : Int) ≤ ((s[k]'hp).toNat : Int) := by omega
        have d90 : decide (((s[k]'hp).toNat : Int) ≤ 90) = false := by simp; omega
        have a48 : (48 : Int) ≤ ((s[k]'hp).toNat : Int) := by omega
        have d57 : decide (((s[k]'hp).toNat : Int) ≤ 57) = false := by simp; omega
        have q45 : (((s[k]'hp).toNat : Int) == 45) = false := by rw [beq_eq_false_iff_ne]; omega
        have q95 : (((s[k]'hp).toNat : Int) == 95) = false := by rw [beq_eq_false_iff_ne]; omega
        have q46 : (((s[k]'hp).toNat : Int) == 46) = false := by rw [beq_eq_false_iff_ne]; omega
        clear hn g
        go_wp2_with fail
        go_ret
        rw [← HPB.out, Hq.out]
        exact ⟨rfl, rfl⟩
    · have hks : k = s.size := by omega
      by_cases h0 : s.size = 0
      · have hse : s = ⟨#[]⟩ := by
          obtain ⟨⟨l⟩⟩ := s
          cases l with
          | nil => rfl
          | cons a l => simp [ByteArray.size] at h0
        subst hse
        go_wp2_with fail
        go_ret
        rw [← HPB.out]
        exact ⟨rfl, rfl⟩
      · have hne : (s.toList == (⟨#[]⟩ : ByteArray).toList) = false := str_ne (fun e => h0 (by rw [e]; rfl))
        have Hq := hide (part_full (s := s) (by omega) (fun j hj => Hpre.out j hj (by omega)))
        go_wp2_with fail
        go_ret
        rw [← HPB.out, Hq.out]
        simpa using hne
end Go.Proofs.YtpknifioflagaaaDoor.Jd
