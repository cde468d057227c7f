/- Names: what may be the name of a node. A node's small parts: roles, depths, and whether there is an owner. -/
import Derived.Test.YtimhkgpjfppkmaaGreatDoorQU
import Derived.Test.YtimhkgpjfppkmaaGreatDoorQC
import Derived.Test.YtimhkgpjfppkmaaGreatDoorNd5
namespace Go.Proofs.YtimhkgpjfppkmaaGreatDoor
open Go.RowKit

def nmB (b : UInt8) : Bool := (decide (97 ≤ b.toNat) && decide (b.toNat ≤ 122)) || (decide (48 ≤ b.toNat) && decide (b.toNat ≤ 57)) || decide (b.toNat = 45)
def nameOk (s : ByteArray) : Bool := s.data.toList.all nmB && (decide (s.size ≠ 0) && decide (s.size ≤ 24))
set_option maxRecDepth 100000 in
theorem nameByte_any (c : UInt8) (w : World) : Calls Tryz.prog 43 #[.int .u8 c.toNat] w fun e w' => e = .returned (.bool (nmB c)) ∧ w' = w := by
  obtain ⟨n, hn⟩ : ∃ n : Nat, c.toNat = n := ⟨_, rfl⟩
  have hb : nmB c = (decide (97 ≤ n) && decide (n ≤ 122) || (decide (48 ≤ n) && decide (n ≤ 57)) || decide (n = 45)) := by unfold nmB; rw [hn]
  rw [hb, hn]
  clear hb hn
  by_cases h1 : (97 : Int) ≤ n
  · by_cases h2 : (n : Int) ≤ 122
    · have e : (decide (97 ≤ n) && decide (n ≤ 122) || (decide (48 ≤ n) && decide (n ≤ 57)) || decide (n = 45)) = true := by rw [decide_eq_true (show 97 ≤ n by omega), decide_eq_true (show n ≤ 122 by omega)]; rfl
      rw [e]
      clear e
      go_enter Tryz.func43, Tryz.ntmps43
      go_wp2_with fail
      go_ret
      simp
    · have e : (decide (97 ≤ n) && decide (n ≤ 122) || (decide (48 ≤ n) && decide (n ≤ 57)) || decide (n = 45)) = false := by rw [decide_eq_false (show ¬ n ≤ 122 by omega), decide_eq_false (show ¬ n ≤ 57 by omega), decide_eq_false (show ¬ n = 45 by omega)]; simp
      rw [e]
      clear e
      have h3 : (48 : Int) ≤ n := by omega
      have h4 : ¬ ((n : Int) ≤ 57) := by omega
      have h5 : ((n : Int) == 45) = false := by rw [beq_eq_false_iff_ne]; omega
      go_enter Tryz.func43, Tryz.ntmps43
      go_wp2_with fail
      go_ret
      simp
  · by_cases h3 : (48 : Int) ≤ n
    · by_cases h4 : (n : Int) ≤ 57
      · have e : (decide (97 ≤ n) && decide (n ≤ 122) || (decide (48 ≤ n) && decide (n ≤ 57)) || decide (n = 45)) = true := by rw [decide_eq_true (show 48 ≤ n by omega), decide_eq_true (show n ≤ 57 by omega)]; simp
        rw [e]
        clear e
        go_enter Tryz.func43, Tryz.ntmps43
        go_wp2_with fail
        go_ret
        simp
      · have e : (decide (97 ≤ n) && decide (n ≤ 122) || (decide (48 ≤ n) && decide (n ≤ 57)) || decide (n = 45)) = false := by rw [decide_eq_false (show ¬ 97 ≤ n by omega), decide_eq_false (show ¬ n ≤ 57 by omega), decide_eq_false (show ¬ n = 45 by omega)]; simp
        rw [e]
        clear e
        have h5 : ((n : Int) == 45) = false := by rw [beq_eq_false_iff_ne]; omega
        go_enter Tryz.func43, Tryz.ntmps43
        go_wp2_with fail
        go_ret
        simp
    · have e : (decide (97 ≤ n) && decide (n ≤ 122) || (decide (48 ≤ n) && decide (n ≤ 57)) || decide (n = 45)) = decide ((n : Int) = 45) := by
        rw [decide_eq_false (show ¬ 97 ≤ n by omega), decide_eq_false (show ¬ 48 ≤ n by omega), Bool.false_and, Bool.false_and, Bool.false_or, Bool.false_or]
        exact decide_eq_decide.2 (by omega)
      rw [e]
      clear e
      by_cases h5 : (n : Int) = 45
      · rw [h5] at h1 h3 ⊢
        go_enter Tryz.func43, Tryz.ntmps43
        go_wp2_with fail
        go_ret
        simp
      · have h6 : ((n : Int) == 45) = false := by rw [beq_eq_false_iff_ne]; exact h5
        rw [decide_eq_false h5]
        clear h5
        go_enter Tryz.func43, Tryz.ntmps43
        go_wp2_with fail
        go_ret
        simp
theorem name_false {s : ByteArray} {k : Nat} (hp : k < s.size) (h : nmB s[k] = false) : nameOk s = false := by
  unfold nameOk
  rw [Bool.and_eq_false_iff]
  left
  rw [List.all_eq_false]
  exact ⟨s[k], List.mem_of_getElem? (bget s k hp), by rw [h]; decide⟩
theorem name_full {s : ByteArray} (h : ∀ (j : Nat) (hj : j < s.size), nmB s[j] = true) : nameOk s = (decide (s.size ≠ 0) && decide (s.size ≤ 24)) := by
  unfold nameOk
  have e : s.data.toList.all nmB = true := by
    rw [List.all_eq_true]
    intro b hb
    obtain ⟨j, hj⟩ := List.getElem?_of_mem hb
    have hlt : j < s.size := by
      have := (List.getElem?_eq_some_iff.1 hj).1
      rw [Array.length_toList] at this
      exact this
    rw [bget s j hlt] at hj
    cases hj
    exact h j hlt
  rw [e, Bool.true_and]
set_option maxRecDepth 100000 in
theorem name_any (s : ByteArray) (w : World) (hs : s.size ≤ 9223372036854775807) : Calls Tryz.prog 22 #[.string s] w fun e w' => e = .returned (.bool (nameOk s)) ∧ w' = w := by
  obtain ⟨pb, hpb⟩ : ∃ pb, nameOk s = pb := ⟨_, rfl⟩
  rw [hpb]
  have HPB := hide hpb
  clear hpb
  go_enter Tryz.func22, Tryz.ntmps22
  go_wp2_with fail
  go_loop [6] (fun i => ∃ k : Nat, k ≤ s.size ∧ i = .int .i64 k ∧ ∀ (j : Nat) (h : j < s.size), j < k → nmB s[j] = true) (fun i => s.size - (intOf i).toNat)
  case atStart => exact ⟨0, Nat.zero_le _, rfl, fun j h h' => by omega⟩
  case round =>
    obtain ⟨k, hk, rfl, hpre⟩ := hrel
    have Hpre := hide hpre
    clear hpre
    by_cases hp : k < s.size
    · have hpb := hide (nameByte_any s[k] w)
      go_wp2_with fail
      refine hpb.out.mono ?_
      rintro e w2 ⟨rfl, hw⟩
      subst hw
      cases hq : nmB s[k] with
      | true =>
        have Hq := hide hq
        clear hq
        go_wp2_with fail
        refine ⟨⟨k + 1, by omega, by go_num, fun j h hj => ?_⟩, by simp [intOf]; omega⟩
        rcases Nat.lt_or_ge j k with h1 | h1
        · exact Hpre.out j h h1
        · obtain rfl : j = k := by omega
          exact Hq.out
      | false =>
        have Hq := hide (name_false hp hq)
        clear hq
        go_wp2_with fail
        go_ret
        rw [← HPB.out, Hq.out]
        exact ⟨rfl, rfl⟩
    · have hks : k = s.size := by omega
      have Hq := hide (name_full (s := s) (fun j hj => Hpre.out j hj (by omega)))
      by_cases h0 : s.size = 0
      · have hse : s = ⟨#[]⟩ := by
          obtain ⟨⟨l⟩⟩ := s
          cases l with
          | nil => rfl
          | cons a l => simp [ByteArray.size] at h0
        subst hse
        go_wp2_with fail
        go_ret
        rw [← HPB.out]
        exact ⟨rfl, rfl⟩
      · have hne : s.toList.isEmpty = false := str_full h0
        have HQ2 := hide (Hq.out.trans (show (decide (s.size ≠ 0) && decide (s.size ≤ 24)) = decide ((s.size : Int) ≤ 24) by rw [decide_eq_true h0, Bool.true_and]; exact decide_eq_decide.2 (by omega)))
        by_cases h24 : (s.size : Int) ≤ 24
        · go_wp2_with fail
          go_ret
          rw [← HPB.out, HQ2.out]
          simp [h24]
        · go_wp2_with fail
          go_ret
          rw [← HPB.out, HQ2.out]
          simp [h24]
end Go.Proofs.YtimhkgpjfppkmaaGreatDoor
namespace Go.Proofs.YtimhkgpjfppkmaaGreatDoor
open Go.RowKit

set_option maxRecDepth 100000 in
theorem isRole_any (r : Nat) (w : World) : Calls Tryz.prog 45 #[.int .u8 r] w fun e w' => e = .returned (.bool (decide (1 ≤ (r : Int)) && decide ((r : Int) ≤ 5))) ∧ w' = w := by
  by_cases h1 : (1 : Int) ≤ r
  · by_cases h2 : (r : Int) ≤ 5
    · go_enter Tryz.func45, Tryz.ntmps45
      go_wp2_with fail
      go_ret
      simp [h1, h2]
    · go_enter Tryz.func45, Tryz.ntmps45
      go_wp2_with fail
      go_ret
      simp [h2]
  · go_enter Tryz.func45, Tryz.ntmps45
    go_wp2_with fail
    go_ret
    rw [decide_eq_false (Int.not_le.2 h1)]
    simp
set_option maxRecDepth 100000 in
theorem isDepth_any (r : Int) (w : World) : Calls Tryz.prog 34 #[.int .i64 r] w fun e w' => e = .returned (.bool (decide (0 ≤ r) && decide (r ≤ 255))) ∧ w' = w := by
  by_cases h1 : (0 : Int) ≤ r
  · by_cases h2 : r ≤ 255
    · go_enter Tryz.func34, Tryz.ntmps34
      go_wp2_with fail
      go_ret
      simp [h1, h2]
    · go_enter Tryz.func34, Tryz.ntmps34
      go_wp2_with fail
      go_ret
      simp [h2]
  · go_enter Tryz.func34, Tryz.ntmps34
    go_wp2_with fail
    go_ret
    rw [decide_eq_false (Int.not_le.2 h1)]
    simp
set_option maxRecDepth 100000 in
theorem hasOwner_any (ao : Option Addr) (cap : Nat) (l : List (ByteArray × Nat)) (w : World) (hm : AffMem w.heap.size w ao l) :
    Calls Tryz.prog 46 #[.slice ao l.length cap] w fun e w' => e = .returned (.bool (l.any fun x => decide (x.2 = 5))) ∧ Below w.heap.size w w' := by
  obtain ⟨m, hml⟩ : ∃ m, l.length = m := ⟨_, rfl⟩
  have hm6 : m ≤ 1000000 := by have := hm.1; omega
  obtain ⟨q, hq⟩ : ∃ q, (l.any fun x => decide (x.2 = 5)) = q := ⟨_, rfl⟩
  rw [hq]
  have HH := hide (And.intro hm (And.intro hml hq))
  rw [hml]
  clear hm hml hq
  go_enter Tryz.func46, Tryz.ntmps46
  go_wp2_with fail
  go_loopw [7] (fun iv wr => ∃ k : Nat, k ≤ m ∧ iv = .int .i64 k ∧ (∀ x ∈ l.take k, x.2 ≠ 5) ∧ Below w.heap.size w wr) (fun iv _ => m - (intOf iv).toNat)
  case atStart => exact ⟨0, Nat.zero_le _, rfl, by simp, Below.refl _ w⟩
  case round =>
    obtain ⟨k, hk, rfl, hno, hbw⟩ := hrel
    have hzw := hbw.size
    by_cases hlt : (k : Int) < m
    · obtain ⟨x, hx⟩ : ∃ x, l[k]? = some x := ⟨_, List.getElem?_eq_getElem (by have := HH.out.2.1; omega)⟩
      obtain ⟨b, off, hbe, hb1, d0, d1⟩ := HH.out.1.2 k x hx
      have e0 := (hbw.cell (p := ⟨b, _, none⟩) hb1).trans d0
      have e1 := (hbw.cell (p := ⟨b, _, none⟩) hb1).trans d1
      have hk0 : (0 : Int) ≤ k := by omega
      have HI := hide (And.intro hno (And.intro (hbw.alloc hzw (.cells #[.string x.1, .int .u8 x.2] 55)) hx))
      clear hno hbw d0 d1 hx
      rw [hbe]
      by_cases hs : x.2 = 5
      · have hse : (((x.2 : Nat) : Int) == 5) = true := by rw [hs]; rfl
        have HS := hide hs
        clear hs
        go_wp2_with fail
        go_ret
        refine ⟨?_, HI.out.2.1⟩
        rw [← HH.out.2.2, List.any_eq_true.2 ⟨x, List.mem_of_getElem? HI.out.2.2, by simp [HS.out]⟩]
        rfl
      · have hse : (((x.2 : Nat) : Int) == 5) = false := by rw [beq_eq_false_iff_ne]; omega
        have HS := hide hs
        clear hs
        go_wp2_with fail
        refine ⟨⟨k + 1, by omega, by simp, fun y hy => ?_, HI.out.2.1⟩, by simp [intOf]; omega⟩
        rw [List.take_add_one, HI.out.2.2] at hy
        rcases List.mem_append.1 hy with hy | hy
        · exact HI.out.1 y hy
        · simp at hy
          rw [hy]
          exact HS.out
    · have HI := hide (And.intro hno hbw)
      clear hno hbw
      go_wp2_with fail
      go_ret
      refine ⟨?_, HI.out.2⟩
      rw [← HH.out.2.2, List.any_eq_false.2 (fun x hx => by
        have := HI.out.1 x (by rw [List.take_of_length_le (by have := HH.out.2.1; omega)]; exact hx)
        simp [this])]
      rfl
end Go.Proofs.YtimhkgpjfppkmaaGreatDoor
