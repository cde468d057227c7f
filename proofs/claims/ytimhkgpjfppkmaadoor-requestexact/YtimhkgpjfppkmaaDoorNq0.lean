/- Names: what may be the name of a node. -/
import Derived.Test.YtimhkgpjfppkmaaDoorGC
namespace Go.Proofs.YtimhkgpjfppkmaaDoor.Jd
open Go.RowKit

theorem str_full {s : ByteArray} (h : s.size ≠ 0) : s.toList.isEmpty = false := by
  cases hl : s.toList with
  | nil =>
    have : s.toList.length = s.size := by rw [ByteArray.toList_eq]; simp
    rw [hl] at this
    simp at this
    omega
  | cons a l => rfl
theorem str_none {s : ByteArray} (h : s.size = 0) : s.toList.isEmpty = true := by
  cases hl : s.toList with
  | nil => rfl
  | cons a l =>
    have : s.toList.length = s.size := by rw [ByteArray.toList_eq]; simp
    rw [hl] at this
    simp at this
    omega
set_option maxRecDepth 100000 in
def nmB (b : UInt8) : Bool := (decide (97 ≤ b.toNat) && decide (b.toNat ≤ 122)) || (decide (48 ≤ b.toNat) && decide (b.toNat ≤ 57)) || decide (b.toNat = 45)
def nameOk (s : ByteArray) : Bool := s.data.toList.all nmB && (decide (s.size ≠ 0) && decide (s.size ≤ 24))
set_option maxRecDepth 100000 in
theorem nameByte_any (c : UInt8) (w : World) : Calls Tryd.prog 47 #[.int .u8 c.toNat] w fun e w' => e = .returned (.bool (nmB c)) ∧ w' = w := by
  obtain ⟨n, hn⟩ : ∃ n : Nat, c.toNat = n := ⟨_, rfl⟩
  have hb : nmB c = (decide (97 ≤ n) && decide (n ≤ 122) || (decide (48 ≤ n) && decide (n ≤ 57)) || decide (n = 45)) := by unfold nmB; rw [hn]
  rw [hb, hn]
  clear hb hn
  by_cases h1 : (97 : Int) ≤ n
  · by_cases h2 : (n : Int) ≤ 122
    · have e : (decide (97 ≤ n) && decide (n ≤ 122) || (decide (48 ≤ n) && decide (n ≤ 57)) || decide (n = 45)) = true := by rw [decide_eq_true (show 97 ≤ n by omega), decide_eq_true (show n ≤ 122 by omega)]; rfl
      rw [e]
      clear e
      go_enter Tryd.func47, Tryd.ntmps47
      go_wp2_with fail
      go_ret
      simp
    · have e : (decide (97 ≤ n) && decide (n ≤ 122) || (decide (48 ≤ n) && decide (n ≤ 57)) || decide (n = 45)) = false := by rw [decide_eq_false (show ¬ n ≤ 122 by omega), decide_eq_false (show ¬ n ≤ 57 by omega), decide_eq_false (show ¬ n = 45 by omega)]; simp
      rw [e]
      clear e
      have h3 : (48 : Int) ≤ n := by omega
      have h4 : ¬ ((n : Int) ≤ 57) := by omega
      have h5 : ((n : Int) == 45) = false := by rw [beq_eq_false_iff_ne]; omega
      go_enter Tryd.func47, Tryd.ntmps47
      go_wp2_with fail
      go_ret
      simp
  · by_cases h3 : (48 : Int) ≤ n
    · by_cases h4 : (n : Int) ≤ 57
      · have e : (decide (97 ≤ n) && decide (n ≤ 122) || (decide (48 ≤ n) && decide (n ≤ 57)) || decide (n = 45)) = true := by rw [decide_eq_true (show 48 ≤ n by omega), decide_eq_true (show n ≤ 57 by omega)]; simp
        rw [e]
        clear e
        go_enter Tryd.func47, Tryd.ntmps47
        go_wp2_with fail
        go_ret
        simp
      · have e : (decide (97 ≤ n) && decide (n ≤ 122) || (decide (48 ≤ n) && decide (n ≤ 57)) || decide (n = 45)) = false := by rw [decide_eq_false (show ¬ 97 ≤ n by omega), decide_eq_false (show ¬ n ≤ 57 by omega), decide_eq_false (show ¬ n = 45 by omega)]; simp
        rw [e]
        clear e
        have h5 : ((n : Int) == 45) = false := by rw [beq_eq_false_iff_ne]; omega
        go_enter Tryd.func47, Tryd.ntmps47
        go_wp2_with fail
        go_ret
        simp
    · have e : (decide (97 ≤ n) && decide (n ≤ 122) || (decide (48 ≤ n) && decide (n ≤ 57)) || decide (n = 45)) = decide ((n : Int) = 45) := by
        rw [decide_eq_false (show ¬ 97 ≤ n by omega), decide_eq_false (show ¬ 48 ≤ n by omega), Bool.false_and, Bool.false_and, Bool.false_or, Bool.false_or]
        exact decide_eq_decide.2 (by omega)
      rw [e]
      clear e
      by_cases h5 : (n : Int) = 45
      · rw [h5] at h1 h3 ⊢
        go_enter Tryd.func47, Tryd.ntmps47
        go_wp2_with fail
        go_ret
        simp
      · have h6 : ((n : Int) == 45) = false := by rw [beq_eq_false_iff_ne]; exact h5
        rw [decide_eq_false h5]
        clear h5
        go_enter Tryd.func47, Tryd.ntmps47
        go_wp2_with fail
        go_ret
        simp
theorem name_false {s : ByteArray} {k : Nat} (hp : k < s.size) (h : nmB s[k] = false) : nameOk s = false := by
  unfold nameOk
  rw [Bool.and_eq_false_iff]
  left
  rw [List.all_eq_false]
  exact ⟨s[k], List.mem_of_getElem? (bget s k hp), by rw [h]; decide⟩
theorem name_full {s : ByteArray} (h : ∀ (j : Nat) (hj : j < s.size), nmB s[j] = true) : nameOk s = (decide (s.size ≠ 0) && decide (s.size ≤ 24)) := by
  unfold nameOk
  have e : s.data.toList.all nmB = true := by
    rw [List.all_eq_true]
    intro b hb
    obtain ⟨j, hj⟩ := List.getElem?_of_mem hb
    have hlt : j < s.size := by
      have := (List.getElem?_eq_some_iff.1 hj).1
      rw [Array.length_toList] at this
      exact this
    rw [bget s j hlt] at hj
    cases hj
    exact h j hlt
  rw [e, Bool.true_and]
set_option maxRecDepth 100000 in
theorem name_any (s : ByteArray) (w : World) (hs : s.size ≤ 9223372036854775807) : Calls Tryd.prog 25 #[.string s] w fun e w' => e = .returned (.bool (nameOk s)) ∧ w' = w := by
  obtain ⟨pb, hpb⟩ : ∃ pb, nameOk s = pb := ⟨_, rfl⟩
  rw [hpb]
  have HPB := hide hpb
  clear hpb
  go_enter Tryd.func25, Tryd.ntmps25
  go_wp2_with fail
  go_loop [6] (fun i => ∃ k : Nat, k ≤ s.size ∧ i = .int .i64 k ∧ ∀ (j : Nat) (h : j < s.size), j < k → nmB s[j] = true) (fun i => s.size - (intOf i).toNat)
  case atStart => exact ⟨0, Nat.zero_le _, rfl, fun j h h' => by omega⟩
  case round =>
    obtain ⟨k, hk, rfl, hpre⟩ := hrel
    have Hpre := hide hpre
    clear hpre
    by_cases hp : k < s.size
    · have hpb := hide (nameByte_any s[k] w)
      go_wp2_with fail
      refine hpb.out.mono ?_
      rintro e w2 ⟨rfl, hw⟩
      subst hw
      cases hq : nmB s[k] with
      | true =>
        have Hq := hide hq
        clear hq
        go_wp2_with fail
        refine ⟨⟨k + 1, by omega, by go_num, fun j h hj => ?_⟩, by simp [intOf]; omega⟩
        rcases Nat.lt_or_ge j k with h1 | h1
        · exact Hpre.out j h h1
        · obtain rfl : j = k := by omega
          exact Hq.out
      | false =>
        have Hq := hide (name_false hp hq)
        clear hq
        go_wp2_with fail
        go_ret
        rw [← HPB.out, Hq.out]
        exact ⟨rfl, rfl⟩
    · have hks : k = s.size := by omega
      have Hq := hide (name_full (s := s) (fun j hj => Hpre.out j hj (by omega)))
      by_cases h0 : s.size = 0
      · have hse : s = ⟨#[]⟩ := by
          obtain ⟨⟨l⟩⟩ := s
          cases l with
          | nil => rfl
          | cons a l => simp [ByteArray.size] at h0
        subst hse
        go_wp2_with fail
        go_ret
        rw [← HPB.out]
        exact ⟨rfl, rfl⟩
      · have hne : s.toList.isEmpty = false := str_full h0
        have HQ2 := hide (Hq.out.trans (show (decide (s.size ≠ 0) && decide (s.size ≤ 24)) = decide ((s.size : Int) ≤ 24) by rw [decide_eq_true h0, Bool.true_and]; exact decide_eq_decide.2 (by omega)))
        by_cases h24 : (s.size : Int) ≤ 24
        · go_wp2_with fail
          go_ret
          rw [← HPB.out, HQ2.out]
          simp [h24]
        · go_wp2_with fail
          go_ret
          rw [← HPB.out, HQ2.out]
          simp [h24]
end Go.Proofs.YtimhkgpjfppkmaaDoor.Jd
