/- Addresses: parts. -/
import Derived.Test.YtgdbhijlblafcaaJ0
namespace Go.Proofs.Ytgdbhijlblafcaa
open Go.RowKit

theorem bget (s : ByteArray) (k : Nat) (h : k < s.size) : s.data.toList[k]? = some s[k] := by
  rw [List.getElem?_eq_getElem (by rw [Array.length_toList]; exact h), Array.getElem_toList]
  rfl
theorem part_false {s : ByteArray} {k : Nat} (hp : k < s.size) (h : ptB s[k] = false) : partL s.data.toList = false := by
  unfold partL
  rw [Bool.and_eq_false_iff]
  left
  rw [List.all_eq_false]
  exact ⟨s[k], List.mem_of_getElem? (bget s k hp), by rw [h]; decide⟩
theorem part_full {s : ByteArray} (h0 : 0 < s.size) (h : ∀ (j : Nat) (hj : j < s.size), ptB s[j] = true) : partL s.data.toList = true := by
  unfold partL
  rw [Bool.and_eq_true, List.all_eq_true]
  refine ⟨fun b hb => ?_, ?_⟩
  · obtain ⟨j, hj⟩ := List.getElem?_of_mem hb
    have hlt : j < s.size := by
      have := (List.getElem?_eq_some_iff.1 hj).1
      rw [Array.length_toList] at this
      exact this
    rw [bget s j hlt] at hj
    cases hj
    exact h j hlt
  · cases hd : s.data.toList with
    | nil =>
      have := congrArg List.length hd
      rw [Array.length_toList] at this
      exact absurd this (by show s.size ≠ 0; omega)
    | cons a l => rfl
set_option maxRecDepth 100000 in
theorem part_any (s : ByteArray) (w : World) (hs : s.size ≤ 9223372036854775807) : Calls Try.prog 15 #[.string s] w fun e w' => e = .returned (.bool (partL s.data.toList)) ∧ w' = w := by
  obtain ⟨pb, hpb⟩ : ∃ pb, partL s.data.toList = pb := ⟨_, rfl⟩
  rw [hpb]
  have HPB := hide hpb
  clear hpb
  go_enter Try.func15, Try.ntmps15
  go_wp2_with fail
  go_loop [6] (fun i => ∃ k : Nat, k ≤ s.size ∧ i = .int .i64 k ∧ ∀ (j : Nat) (h : j < s.size), j < k → ptB s[j] = true) (fun i => s.size - (intOf i).toNat)
  case atStart => exact ⟨0, Nat.zero_le _, rfl, fun j h h' => by omega⟩
  case round =>
    obtain ⟨k, hk, rfl, hpre⟩ := hrel
    have Hpre := hide hpre
    clear hpre
    by_cases hp : k < s.size
    · have hpb := hide (partByte_any s[k] w)
      go_wp2_with fail
      refine hpb.out.mono ?_
      rintro e w2 ⟨rfl, hw⟩
      subst hw
      cases hq : ptB s[k] with
      | true =>
        have Hq := hide hq
        clear hq
        go_wp2_with fail
        refine ⟨⟨k + 1, by omega, by go_num, fun j h hj => ?_⟩, by simp [intOf]; omega⟩
        rcases Nat.lt_or_ge j k with h1 | h1
        · exact Hpre.out j h h1
        · obtain rfl : j = k := by omega
          exact Hq.out
      | false =>
        have Hq := hide (part_false hp hq)
        clear hq
        go_wp2_with fail
        go_ret
        rw [← HPB.out, Hq.out]
        exact ⟨rfl, rfl⟩
    · have hks : k = s.size := by omega
      by_cases h0 : s.size = 0
      · have hse : s = ⟨#[]⟩ := by
          obtain ⟨⟨l⟩⟩ := s
          cases l with
          | nil => rfl
          | cons a l => simp [ByteArray.size] at h0
        subst hse
        go_wp2_with fail
        go_ret
        rw [← HPB.out]
        exact ⟨rfl, rfl⟩
      · have hne : (s.toList == (⟨#[]⟩ : ByteArray).toList) = false := str_ne (fun e => h0 (by rw [e]; rfl))
        have Hq := hide (part_full (s := s) (by omega) (fun j hj => Hpre.out j hj (by omega)))
        go_wp2_with fail
        go_ret
        rw [← HPB.out, Hq.out]
        simpa using hne

end Go.Proofs.Ytgdbhijlblafcaa
