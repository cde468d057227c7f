/- The document's own Unescape. -/
import Derived.Test.YtnlmohegkmegcabDoorRefEsc
import Derived.Test.YtnlmohegkmegcabDoorUnescQ
import Derived.Test.YtnlmohegkmegcabDoorEsc
namespace Go.Proofs.YtnlmohegkmegcabDoor
open Go.RowKit

theorem refB_list (k : Nat) (h : k < 5) : (refB k).data.toList = 38 :: ((entN k).data.toList ++ [59]) := by
  have hk : k = 0 ∨ k = 1 ∨ k = 2 ∨ k = 3 ∨ k = 4 := by omega
  rcases hk with rfl | rfl | rfl | rfl | rfl <;> rfl
theorem refA_list (k : Nat) (h : k < 5) : (refA k).data.toList = [entB k] := by
  have hk : k = 0 ∨ k = 1 ∨ k = 2 ∨ k = 3 ∨ k = 4 := by omega
  rcases hk with rfl | rfl | rfl | rfl | rfl <;> rfl
theorem refB_size (k : Nat) : 4 ≤ (refB k).size ∧ (refB k).size ≤ 6 := by
  unfold refB
  split <;> decide
theorem refA_size (k : Nat) : (refA k).size = 1 := by
  unfold refA
  split <;> decide
/-- The entity k stands at i. -/
def Fit (s : ByteArray) (i k : Nat) : Prop := i + (refB k).size ≤ s.size ∧ (s.extract i (i + (refB k).size)).data.toList = (refB k).data.toList
theorem fit_drop {s : ByteArray} {i k : Nat} (h : Fit s i k) : s.data.toList.drop i = (refB k).data.toList ++ s.data.toList.drop (i + (refB k).size) := by
  have h2 := h.2
  rw [ext_list, show i + (refB k).size - i = (refB k).size by omega] at h2
  rw [← h2, ← List.drop_drop, List.take_append_drop]
theorem fit_unesc {s : ByteArray} {i k : Nat} (hk : k < 5) (h : Fit s i k) : unesc (s.data.toList.drop i) = (unesc (s.data.toList.drop (i + (refB k).size))).map (entB k :: ·) := by
  rw [fit_drop h, refB_list k hk]
  have := unesc_ent k hk (s.data.toList.drop (i + (refB k).size))
  rw [← this]
  simp
theorem nofit_unesc {s : ByteArray} {i : Nat} (hp : i < s.size) (h38 : s[i] = 38) (h : ∀ k, k < 5 → ¬ Fit s i k) : unesc (s.data.toList.drop i) = none := by
  rw [drop_cons s i hp, h38]
  refine unesc_bad _ fun k hk => ?_
  cases hb : ((entN k).data.toList ++ [59]).isPrefixOf (s.data.toList.drop (i + 1))
  · rfl
  · exfalso
    rw [List.isPrefixOf_iff_prefix] at hb
    obtain ⟨r, hr⟩ := hb
    have hd : s.data.toList.drop i = (refB k).data.toList ++ r := by
      rw [drop_cons s i hp, h38, refB_list k hk, ← hr]
      simp
    have hl := congrArg List.length hd
    rw [List.length_drop, List.length_append, size_list, size_list] at hl
    refine h k hk ⟨by omega, ?_⟩
    rw [ext_list, hd, show i + (refB k).size - i = (refB k).size by omega, ← size_list, List.take_left']
    rfl

set_option maxHeartbeats 1000000 in
theorem refUnescape_any (s : ByteArray) (w : World) (hs : s.size ≤ 3000) : Calls Tryd.prog 18 #[.string s] w fun e w' => UeEnds s.data.toList e ∧ Below w.heap.size w w' := by
  go_enter Tryd.func18, Tryd.ntmps18
  go_wp2_with fail
  refine (refEnt_any _).mono ?_
  rintro e w1 ⟨rfl, hw1⟩
  have hb0 : w1.heap[w.heap.size]? = some (.cells refCs 47) := by rw [hw1]; exact heap_alloc_new _ _
  have hbl0 : Below w.heap.size w w1 := by rw [hw1]; exact (Below.refl _ w).alloc (Nat.le_refl _) _
  have HB := hide (show _ ∧ _ from ⟨hb0, hbl0⟩)
  clear hb0 hbl0 hw1
  go_wp2_with fail
  go_loopw [4, 6] (fun co ci wr => ∃ (i : Nat) (O : ByteArray), i ≤ s.size ∧ ci = .int .i64 i ∧ co = .string O ∧ O.size ≤ i ∧ unesc s.data.toList = (unesc (s.data.toList.drop i)).map (O.data.toList ++ ·) ∧ Below w1.heap.size w1 wr) (fun _ ci _ => s.size - (intOf ci).toNat)
  case atStart => exact ⟨0, ⟨#[]⟩, Nat.zero_le _, rfl, rfl, Nat.le_refl _, by simp, Below.refl _ _⟩
  case round =>
    obtain ⟨i, O, hi, rfl, rfl, hOi, hO, hbw⟩ := hrel
    have HO := hide hO
    have HW := hide hbw
    clear hO hbw
    have hOs : O.size ≤ 3000 := by omega
    by_cases hp : i < s.size
    · have h256 := (s[i]'hp).toNat_lt
      by_cases h60 : s[i] = 60
      · have e60 : (((s[i]'hp).toNat : Int) == 60) = true := by rw [h60]; rfl
        have Hn := hide (show unesc s.data.toList = none by rw [HO.out, drop_cons s i hp, h60, unesc_lt]; rfl)
        clear h60
        go_wp2_with fail
        go_ret2
        exact ⟨Or.inr ⟨Hn.out, rfl⟩, HB.out.2.trans (HW.out.mono HB.out.2.size)⟩
      · have e60 : (((s[i]'hp).toNat : Int) == 60) = false := by rw [beq_eq_false_iff_ne]; exact fun h => h60 (byte_of (n := 60) (by omega) (by decide))
        by_cases h38 : s[i] = 38
        · have e38 : (((s[i]'hp).toNat : Int) != 38) = false := by rw [h38]; rfl
          have H38 := hide h38
          clear h60 h38
          go_wp2_with fail
          go_loopw [4, 6, 7, 8] (fun co ci cf ck wr => ∃ (k : Nat), k ≤ 5 ∧ ck = .int .i64 k ∧ Below w1.heap.size w1 wr ∧ ((ci = .int .i64 i ∧ co = .string O ∧ cf = .bool false ∧ ∀ j, j < k → ¬ Fit s i j) ∨ (∃ j, j < 5 ∧ Fit s i j ∧ ci = .int .i64 (i + (refB j).size : Nat) ∧ co = .string (O ++ refA j) ∧ cf = .bool true))) (fun _ _ _ ck _ => 5 - (intOf ck).toNat)
          case atStart => exact ⟨0, Nat.zero_le _, rfl, HW.out, Or.inl ⟨rfl, rfl, rfl, fun j h => by omega⟩⟩
          case round =>
            obtain ⟨k, hk, rfl, hbq, hcase⟩ := hrel
            have hbk2 : wr.heap[w.heap.size]? = some (.cells refCs 47) := by
              rw [hbq.block _ (Array.getElem?_eq_some_iff.1 HB.out.1).1]; exact HB.out.1
            have HQ := hide (show _ ∧ _ from ⟨hbq, hbk2⟩)
            clear hbq hbk2
            rcases hcase with ⟨rfl, rfl, rfl, hno⟩ | ⟨j, hj, hfit, rfl, rfl, rfl⟩
            · have Hno := hide hno
              clear hno
              have hk5 : k = 5 ∨ k < 5 := by omega
              rcases hk5 with rfl | hk5
              · have Hn := hide (show unesc s.data.toList = none by rw [HO.out, nofit_unesc hp H38.out Hno.out]; rfl)
                go_wp2_with fail
                go_ret2
                exact ⟨Or.inr ⟨Hn.out, rfl⟩, HB.out.2.trans (HQ.out.1.mono HB.out.2.size)⟩
              · have c0 : wr.cell? ⟨w.heap.size, k * 2, none⟩ = some (.string (refA k)) := by
                  have := (ref_cell k hk5).1
                  simp [World.cell?, HQ.out.2, this]
                have c1 : wr.cell? ⟨w.heap.size, k * 2 + 1, none⟩ = some (.string (refB k)) := by
                  have := (ref_cell k hk5).2
                  simp [World.cell?, HQ.out.2, this]
                have hsz := refB_size k
                have hsa := refA_size k
                by_cases hf : i + (refB k).size ≤ s.size
                · have hsl : ∀ w, (Instr.slice 9 (.string s) (some (.int .i64 i)) (some (.int .i64 (i + (refB k).size))) none).run Tryd.prog w = .ok (.string (s.extract i (i + (refB k).size))) w := fun w => by
                    rw [run_slice_string (P := Tryd.prog) w 9 s .i64 .i64 i (i + (refB k).size) Tryd.underlying9 (by omega) (by omega) (by omega)]
                    rw [show (((i : Int) + ((refB k).size : Int)).toNat) = i + (refB k).size by omega, Int.toNat_natCast]
                  obtain ⟨X, hX⟩ : ∃ X, X = s.extract i (i + (refB k).size) := ⟨_, rfl⟩
                  rw [← hX] at hsl
                  by_cases hq : X.data.toList = (refB k).data.toList
                  · have hq1 : (X.toList == (refB k).toList) = true := by rw [ByteArray.toList_eq, ByteArray.toList_eq, beq_iff_eq]; exact hq
                    have Hfit := hide (show Fit s i k from ⟨hf, by rw [← hX]; exact hq⟩)
                    clear hX hq
                    go_wp2_with fail
                    exact ⟨⟨k + 1, by omega, by go_num, HQ.out.1, Or.inr ⟨k, hk5, Hfit.out, by refine congrArg (Value.int .i64) ?_; push_cast; rfl, rfl, rfl⟩⟩, by simp [intOf]; omega⟩
                  · have hq1 : (X.toList == (refB k).toList) = false := by rw [ByteArray.toList_eq, ByteArray.toList_eq, beq_eq_false_iff_ne]; exact hq
                    have Hfit := hide (show ∀ j, j < k + 1 → ¬ Fit s i j from fun j hj => by
                      rcases Nat.lt_or_ge j k with h | h
                      · exact Hno.out j h
                      · obtain rfl : j = k := by omega
                        exact fun h => hq (by rw [hX]; exact h.2))
                    clear hX hq
                    go_wp2_with fail
                    exact ⟨⟨k + 1, by omega, by go_num, HQ.out.1, Or.inl ⟨rfl, rfl, rfl, Hfit.out⟩⟩, by simp [intOf]; omega⟩
                · have Hfit := hide (show ∀ j, j < k + 1 → ¬ Fit s i j from fun j hj => by
                    rcases Nat.lt_or_ge j k with h | h
                    · exact Hno.out j h
                    · obtain rfl : j = k := by omega
                      exact fun h => hf h.1)
                  go_wp2_with fail
                  exact ⟨⟨k + 1, by omega, by go_num, HQ.out.1, Or.inl ⟨rfl, rfl, rfl, Hfit.out⟩⟩, by simp [intOf]; omega⟩
            · have hsz := refB_size j
              have hsa := refA_size j
              have hle := hfit.1
              have Hn := hide (show unesc s.data.toList = (unesc (s.data.toList.drop (i + (refB j).size))).map ((O ++ refA j).data.toList ++ ·) by
                rw [HO.out, fit_unesc hj hfit, app_list, refA_list j hj]
                cases unesc (s.data.toList.drop (i + (refB j).size)) <;> simp)
              clear hfit
              have HE := hide (show (∃ (i_1 : Nat) (O_1 : ByteArray), i_1 ≤ s.size ∧ Value.int .i64 (i + (refB j).size) = .int .i64 i_1 ∧ Value.string (O ++ refA j) = .string O_1 ∧ O_1.size ≤ i_1 ∧ unesc s.data.toList = (unesc (s.data.toList.drop i_1)).map (O_1.data.toList ++ ·) ∧ Below w1.heap.size w1 wr) ∧ s.size - (intOf (Value.int .i64 (i + (refB j).size))).toNat < s.size - (intOf (Value.int .i64 i)).toNat from
                ⟨⟨i + (refB j).size, O ++ refA j, hle, by refine congrArg (Value.int .i64) ?_; push_cast; rfl, rfl, by rw [ByteArray.size_append]; omega, Hn.out, HQ.out.1⟩, by simp only [intOf]; omega⟩)
              have hk5 : k = 5 ∨ k < 5 := by omega
              rcases hk5 with rfl | hk5
              · go_wp2_with fail
                exact HE.out
              · go_wp2_with fail
                exact HE.out
        · have e38 : (((s[i]'hp).toNat : Int) != 38) = true := by rw [bne_iff_ne]; exact fun h => h38 (byte_of (n := 38) (by omega) (by decide))
          have hsl := slice_one s i hp
          have Hn := hide (show unesc s.data.toList = (unesc (s.data.toList.drop (i + 1))).map ((O ++ (⟨#[s[i]]⟩ : ByteArray)).data.toList ++ ·) by
            rw [HO.out, drop_cons s i hp, unesc_plain _ _ h60 h38, app_list]
            cases unesc (s.data.toList.drop (i + 1)) <;> simp)
          clear h60 h38
          have hone : (⟨#[s[i]'hp]⟩ : ByteArray).size = 1 := rfl
          go_wp2_with fail
          refine ⟨⟨i + 1, O ++ ⟨#[s[i]]⟩, by omega, by go_num, rfl, by rw [ByteArray.size_append]; omega, Hn.out, HW.out⟩, by simp [intOf]; omega⟩
    · have hie : i = s.size := by omega
      subst hie
      have Hn := hide (show unesc s.data.toList = some O.data.toList by
        rw [HO.out, List.drop_eq_nil_of_le (by rw [size_list]; exact Nat.le_refl _), unesc_nil]
        simp)
      go_wp2_with fail
      go_ret2
      exact ⟨Or.inl ⟨_, Hn.out, rfl⟩, HB.out.2.trans (HW.out.mono HB.out.2.size)⟩
end Go.Proofs.YtnlmohegkmegcabDoor
