/- The document's parser: blanks, and names. The document's own Unescape. The document's parser: the attributes that are printed. -/
import Derived.Test.YthmidlmknkbdaaaDoorXMB
import Derived.Test.YthmidlmknkbdaaaDoorWA
import Derived.Test.YthmidlmknkbdaaaDoorGC
import Derived.Test.YthmidlmknkbdaaaDoorPR
namespace Go.Proofs.YthmidlmknkbdaaaDoor.Xm
open Go.RowKit

/-- A letter of a name. -/
def isNm (b : UInt8) : Bool := isBb b || isGb b
set_option maxRecDepth 100000 in
set_option maxHeartbeats 2000000 in
theorem rfBlanks_any (s : ByteArray) (w : World) (hs : s.size ≤ 1000000) : Calls Tryd.prog 60 #[.string s] w fun e w' => e = .returned (.int .i64 ((s.data.toList.takeWhile isBl).length : Nat)) ∧ w' = w := by
  have hl : s.data.toList.length = s.size := Array.length_toList
  have hfin : ∀ (n : Nat), n ≤ s.size → (∀ j x, j < n → s.data.toList[j]? = some x → isBl x = true) → (∀ x, s.data.toList[n]? = some x → isBl x = false) → (s.data.toList.takeWhile isBl).length = n := fun n hn h1 h2 => by
    obtain ⟨_, e2⟩ := dropWhile_at s.data.toList n h1 h2 (by omega)
    rw [e2, List.length_take]
    omega
  have HF := hide hfin
  clear hfin
  obtain ⟨r, hr⟩ : ∃ r, (s.data.toList.takeWhile isBl).length = r := ⟨_, rfl⟩
  rw [hr]
  have HR := hide hr
  clear hr
  go_enter Tryd.func60, Tryd.ntmps60
  go_wp2_with fail
  go_loopw [3] (fun i wr => ∃ n : Nat, n ≤ s.size ∧ i = .int .i64 n ∧ (∀ j x, j < n → s.data.toList[j]? = some x → isBl x = true) ∧ wr = w) (fun i _ => s.size - (intOf i).toNat)
  case atStart => exact ⟨0, Nat.zero_le _, rfl, fun j x h => by omega, rfl⟩
  case round =>
    obtain ⟨n, hn, rfl, hbl, rfl⟩ := hrel
    have HI := hide hbl
    clear hbl
    have hn0 : 0 ≤ (n : Int) := by omega
    by_cases hlt : n < s.size
    · have hlti : (n : Int) < s.size := by omega
      have hone := blanks_one s n hlt
      have hat : s.data.toList[n]? = some (s[n]'hlt) := by simp [hlt]; rfl
      have HO := hide (And.intro hone hat)
      clear hone hat
      have g0 : IntKind.i64.wrap ((n : Int) + 1) = n + 1 := by rw [IntKind.wrap_i64]; omega
      have g1 : (n : Int) + 1 ≤ s.size := by omega
      have g2 : (n : Int) ≤ (n : Int) + 1 := by omega
      have g3 : ¬ ((n : Int) + 1 < n) := by omega
      have h2 : (s.extract n (n + 1)).size ≤ 1 := by rw [ByteArray.size_extract]; omega
      have HS := hide (refSpace_any (s.extract n (n + 1)) wr (by unfold maxLen; omega))
      clear h2
      by_cases hb : Blanks (s.extract n (n + 1)).data.toList
      · go_wp2_with (go_at_call 59; refine HS.out.mono ?_; rintro e w1 ⟨⟨_, rfl⟩ | ⟨hn', _⟩, hw1⟩; rotate_left; exact absurd hb hn'; rw [hw1]; clear hw1)
        go_roundw
        case rel =>
          refine ⟨n + 1, by omega, by simp, fun j x hj hx => ?_, trivial⟩
          rcases Nat.lt_or_ge j n with h | h
          · exact HI.out j x h hx
          · obtain rfl : j = n := by omega
            rw [HO.out.2] at hx
            cases hx
            exact HO.out.1.1 hb
        case measure => simp [intOf]; omega
      · go_wp2_with (go_at_call 59; refine HS.out.mono ?_; rintro e w1 ⟨⟨hn', _⟩ | ⟨_, rfl⟩, hw1⟩; exact absurd hn' hb; rw [hw1]; clear hw1)
        have hrn : r = n := by
          rw [← HR.out]
          exact HF.out n hn HI.out fun x hx => by
            rw [HO.out.2] at hx
            cases hx
            cases hq : isBl (s[n]'hlt) with
            | true => exact absurd (HO.out.1.2 hq) hb
            | false => rfl
        go_ret
        exact ⟨by rw [hrn]; rfl, rfl⟩
    · have hlti : ¬ (n : Int) < s.size := by omega
      go_wp2_with fail
      have hrn : r = n := by
        rw [← HR.out]
        exact HF.out n hn HI.out fun x hx => by
          have := (List.getElem?_eq_some_iff.1 hx).1
          omega
      go_ret
      exact ⟨by rw [hrn]; rfl, rfl⟩
theorem one_list (s : ByteArray) (n : Nat) (h : n < s.size) : (⟨#[97]⟩ ++ s.extract n (n + 1) : ByteArray).data.toList = [97, s[n]'h] := by
  have e : (⟨#[97]⟩ ++ s.extract n (n + 1) : ByteArray).data.toList = [97] ++ (s.extract n (n + 1)).data.toList := by simp
  rw [e, ext_list, show n + 1 - n = 1 by omega, drop_cons s n h]
  simp
theorem one_more (s : ByteArray) (n : Nat) : (⟨#[97]⟩ ++ s.extract n (n + 1) : ByteArray).size ≤ 2 := by
  rw [ByteArray.size_append, ByteArray.size_extract]
  show 1 + _ ≤ 2
  omega
theorem name_one (s : ByteArray) (n : Nat) (h : n < s.size) : NameOk (⟨#[97]⟩ ++ s.extract n (n + 1)) ↔ isNm (s[n]'h) = true := by
  rw [nmB_iff, one_list s n h]
  have ha : isBb 97 = true := by decide
  simp [nmB, List.zipIdx, isNm, ha]
set_option maxRecDepth 100000 in
set_option maxHeartbeats 2000000 in
theorem rfName_any (s : ByteArray) (w : World) (hs : s.size ≤ 1000000) : Calls Tryd.prog 77 #[.string s] w fun e w' => e = .returned (.int .i64 ((s.data.toList.takeWhile isNm).length : Nat)) ∧ w' = w := by
  have hl : s.data.toList.length = s.size := Array.length_toList
  have hfin : ∀ (n : Nat), n ≤ s.size → (∀ j x, j < n → s.data.toList[j]? = some x → isNm x = true) → (∀ x, s.data.toList[n]? = some x → isNm x = false) → (s.data.toList.takeWhile isNm).length = n := fun n hn h1 h2 => by
    obtain ⟨_, e2⟩ := dropWhile_at s.data.toList n h1 h2 (by omega)
    rw [e2, List.length_take]
    omega
  have HF := hide hfin
  clear hfin
  obtain ⟨r, hr⟩ : ∃ r, (s.data.toList.takeWhile isNm).length = r := ⟨_, rfl⟩
  rw [hr]
  have HR := hide hr
  clear hr
  go_enter Tryd.func77, Tryd.ntmps77
  go_wp2_with fail
  go_loopw [3] (fun i wr => ∃ n : Nat, n ≤ s.size ∧ i = .int .i64 n ∧ (∀ j x, j < n → s.data.toList[j]? = some x → isNm x = true) ∧ wr = w) (fun i _ => s.size - (intOf i).toNat)
  case atStart => exact ⟨0, Nat.zero_le _, rfl, fun j x h => by omega, rfl⟩
  case round =>
    obtain ⟨n, hn, rfl, hbl, rfl⟩ := hrel
    have HI := hide hbl
    clear hbl
    have hn0 : 0 ≤ (n : Int) := by omega
    by_cases hlt : n < s.size
    · have hlti : (n : Int) < s.size := by omega
      have hone := name_one s n hlt
      have hat : s.data.toList[n]? = some (s[n]'hlt) := by simp [hlt]; rfl
      have HO := hide (And.intro hone hat)
      clear hone hat
      have g0 : IntKind.i64.wrap ((n : Int) + 1) = n + 1 := by rw [IntKind.wrap_i64]; omega
      have g1 : (n : Int) + 1 ≤ s.size := by omega
      have g2 : (n : Int) ≤ (n : Int) + 1 := by omega
      have g3 : ¬ ((n : Int) + 1 < n) := by omega
      have h2 := one_more s n
      have HS := hide (refName_any (⟨#[97]⟩ ++ s.extract n (n + 1)) wr (by unfold maxLen; omega))
      clear h2
      by_cases hb : NameOk (⟨#[97]⟩ ++ s.extract n (n + 1))
      · go_wp2_with (go_at_call 78; refine HS.out.mono ?_; rintro e w1 ⟨⟨_, rfl⟩ | ⟨hn', _⟩, hw1⟩; rotate_left; exact absurd hb hn'; rw [hw1]; clear hw1)
        go_roundw
        case rel =>
          refine ⟨n + 1, by omega, by simp, fun j x hj hx => ?_, trivial⟩
          rcases Nat.lt_or_ge j n with h | h
          · exact HI.out j x h hx
          · obtain rfl : j = n := by omega
            rw [HO.out.2] at hx
            cases hx
            exact HO.out.1.1 hb
        case measure => simp [intOf]; omega
      · go_wp2_with (go_at_call 78; refine HS.out.mono ?_; rintro e w1 ⟨⟨hn', _⟩ | ⟨_, rfl⟩, hw1⟩; exact absurd hn' hb; rw [hw1]; clear hw1)
        have hrn : r = n := by
          rw [← HR.out]
          exact HF.out n hn HI.out fun x hx => by
            rw [HO.out.2] at hx
            cases hx
            cases hq : isNm (s[n]'hlt) with
            | true => exact absurd (HO.out.1.2 hq) hb
            | false => rfl
        go_ret
        exact ⟨by rw [hrn]; rfl, rfl⟩
    · have hlti : ¬ (n : Int) < s.size := by omega
      go_wp2_with fail
      have hrn : r = n := by
        rw [← HR.out]
        exact HF.out n hn HI.out fun x hx => by
          have := (List.getElem?_eq_some_iff.1 hx).1
          omega
      go_ret
      exact ⟨by rw [hrn]; rfl, rfl⟩
end Go.Proofs.YthmidlmknkbdaaaDoor.Xm
namespace Go.Proofs.YthmidlmknkbdaaaDoor
open Go.RowKit

theorem refB_list (k : Nat) (h : k < 5) : (refB k).data.toList = 38 :: ((entN k).data.toList ++ [59]) := by
  have hk : k = 0 ∨ k = 1 ∨ k = 2 ∨ k = 3 ∨ k = 4 := by omega
  rcases hk with rfl | rfl | rfl | rfl | rfl <;> rfl
theorem refA_list (k : Nat) (h : k < 5) : (refA k).data.toList = [entB k] := by
  have hk : k = 0 ∨ k = 1 ∨ k = 2 ∨ k = 3 ∨ k = 4 := by omega
  rcases hk with rfl | rfl | rfl | rfl | rfl <;> rfl
theorem refB_size (k : Nat) : 4 ≤ (refB k).size ∧ (refB k).size ≤ 6 := by
  unfold refB
  split <;> decide
theorem refA_size (k : Nat) : (refA k).size = 1 := by
  unfold refA
  split <;> decide
/-- The entity k stands at i. -/
def UFit (s : ByteArray) (i k : Nat) : Prop := i + (refB k).size ≤ s.size ∧ (s.extract i (i + (refB k).size)).data.toList = (refB k).data.toList
theorem fit_drop {s : ByteArray} {i k : Nat} (h : UFit s i k) : s.data.toList.drop i = (refB k).data.toList ++ s.data.toList.drop (i + (refB k).size) := by
  have h2 := h.2
  rw [ext_list, show i + (refB k).size - i = (refB k).size by omega] at h2
  rw [← h2, ← List.drop_drop, List.take_append_drop]
theorem fit_unesc {s : ByteArray} {i k : Nat} (hk : k < 5) (h : UFit s i k) : unesc (s.data.toList.drop i) = (unesc (s.data.toList.drop (i + (refB k).size))).map (entB k :: ·) := by
  rw [fit_drop h, refB_list k hk]
  have := unesc_ent k hk (s.data.toList.drop (i + (refB k).size))
  rw [← this]
  simp
theorem nofit_unesc {s : ByteArray} {i : Nat} (hp : i < s.size) (h38 : s[i] = 38) (h : ∀ k, k < 5 → ¬ UFit s i k) : unesc (s.data.toList.drop i) = none := by
  rw [drop_cons s i hp, h38]
  refine unesc_bad _ fun k hk => ?_
  cases hb : ((entN k).data.toList ++ [59]).isPrefixOf (s.data.toList.drop (i + 1))
  · rfl
  · exfalso
    rw [List.isPrefixOf_iff_prefix] at hb
    obtain ⟨r, hr⟩ := hb
    have hd : s.data.toList.drop i = (refB k).data.toList ++ r := by
      rw [drop_cons s i hp, h38, refB_list k hk, ← hr]
      simp
    have hl := congrArg List.length hd
    rw [List.length_drop, List.length_append, size_list, size_list] at hl
    refine h k hk ⟨by omega, ?_⟩
    rw [ext_list, hd, show i + (refB k).size - i = (refB k).size by omega, ← size_list, List.take_left']
    rfl

set_option maxHeartbeats 1000000 in
theorem refUnescape_any (s : ByteArray) (w : World) (hs : s.size ≤ 3000) : Calls Tryd.prog 57 #[.string s] w fun e w' => UeEnds s.data.toList e ∧ Below w.heap.size w w' := by
  go_enter Tryd.func57, Tryd.ntmps57
  go_wp2_with fail
  refine (refEnt_any _).mono ?_
  rintro e w1 ⟨rfl, hw1⟩
  have hb0 : w1.heap[w.heap.size]? = some (.cells refCs 115) := by rw [hw1]; exact heap_alloc_new _ _
  have hbl0 : Below w.heap.size w w1 := by rw [hw1]; exact (Below.refl _ w).alloc (Nat.le_refl _) _
  have HB := hide (show _ ∧ _ from ⟨hb0, hbl0⟩)
  clear hb0 hbl0 hw1
  go_wp2_with fail
  go_loopw [4, 6] (fun co ci wr => ∃ (i : Nat) (O : ByteArray), i ≤ s.size ∧ ci = .int .i64 i ∧ co = .string O ∧ O.size ≤ i ∧ unesc s.data.toList = (unesc (s.data.toList.drop i)).map (O.data.toList ++ ·) ∧ Below w1.heap.size w1 wr) (fun _ ci _ => s.size - (intOf ci).toNat)
  case atStart => exact ⟨0, ⟨#[]⟩, Nat.zero_le _, rfl, rfl, Nat.le_refl _, by simp, Below.refl _ _⟩
  case round =>
    obtain ⟨i, O, hi, rfl, rfl, hOi, hO, hbw⟩ := hrel
    have HO := hide hO
    have HW := hide hbw
    clear hO hbw
    have hOs : O.size ≤ 3000 := by omega
    by_cases hp : i < s.size
    · have h256 := (s[i]'hp).toNat_lt
      by_cases h60 : s[i] = 60
      · have e60 : (((s[i]'hp).toNat : Int) == 60) = true := by rw [h60]; rfl
        have Hn := hide (show unesc s.data.toList = none by rw [HO.out, drop_cons s i hp, h60, unesc_lt]; rfl)
        clear h60
        go_wp2_with fail
        go_ret2
        exact ⟨Or.inr ⟨Hn.out, rfl⟩, HB.out.2.trans (HW.out.mono HB.out.2.size)⟩
      · have e60 : (((s[i]'hp).toNat : Int) == 60) = false := by rw [beq_eq_false_iff_ne]; exact fun h => h60 (byte_of (n := 60) (by omega) (by decide))
        by_cases h38 : s[i] = 38
        · have e38 : (((s[i]'hp).toNat : Int) != 38) = false := by rw [h38]; rfl
          have H38 := hide h38
          clear h60 h38
          go_wp2_with fail
          go_loopw [4, 6, 7, 8] (fun co ci cf ck wr => ∃ (k : Nat), k ≤ 5 ∧ ck = .int .i64 k ∧ Below w1.heap.size w1 wr ∧ ((ci = .int .i64 i ∧ co = .string O ∧ cf = .bool false ∧ ∀ j, j < k → ¬ UFit s i j) ∨ (∃ j, j < 5 ∧ UFit s i j ∧ ci = .int .i64 (i + (refB j).size : Nat) ∧ co = .string (O ++ refA j) ∧ cf = .bool true))) (fun _ _ _ ck _ => 5 - (intOf ck).toNat)
          case atStart => exact ⟨0, Nat.zero_le _, rfl, HW.out, Or.inl ⟨rfl, rfl, rfl, fun j h => by omega⟩⟩
          case round =>
            obtain ⟨k, hk, rfl, hbq, hcase⟩ := hrel
            have hbk2 : wr.heap[w.heap.size]? = some (.cells refCs 115) := by
              rw [hbq.block _ (Array.getElem?_eq_some_iff.1 HB.out.1).1]; exact HB.out.1
            have HQ := hide (show _ ∧ _ from ⟨hbq, hbk2⟩)
            clear hbq hbk2
            rcases hcase with ⟨rfl, rfl, rfl, hno⟩ | ⟨j, hj, hfit, rfl, rfl, rfl⟩
            · have Hno := hide hno
              clear hno
              have hk5 : k = 5 ∨ k < 5 := by omega
              rcases hk5 with rfl | hk5
              · have Hn := hide (show unesc s.data.toList = none by rw [HO.out, nofit_unesc hp H38.out Hno.out]; rfl)
                go_wp2_with fail
                go_ret2
                exact ⟨Or.inr ⟨Hn.out, rfl⟩, HB.out.2.trans (HQ.out.1.mono HB.out.2.size)⟩
              · have c0 : wr.cell? ⟨w.heap.size, k * 2, none⟩ = some (.string (refA k)) := by
                  have := (ref_cell k hk5).1
                  simp [World.cell?, HQ.out.2, this]
                have c1 : wr.cell? ⟨w.heap.size, k * 2 + 1, none⟩ = some (.string (refB k)) := by
                  have := (ref_cell k hk5).2
                  simp [World.cell?, HQ.out.2, this]
                have hsz := refB_size k
                have hsa := refA_size k
                by_cases hf : i + (refB k).size ≤ s.size
                · have hsl : ∀ w, (Instr.slice 9 (.string s) (some (.int .i64 i)) (some (.int .i64 (i + (refB k).size))) none).run Tryd.prog w = .ok (.string (s.extract i (i + (refB k).size))) w := fun w => by
                    rw [run_slice_string (P := Tryd.prog) w 9 s .i64 .i64 i (i + (refB k).size) Tryd.underlying9 (by omega) (by omega) (by omega)]
                    rw [show (((i : Int) + ((refB k).size : Int)).toNat) = i + (refB k).size by omega, Int.toNat_natCast]
                  obtain ⟨X, hX⟩ : ∃ X, X = s.extract i (i + (refB k).size) := ⟨_, rfl⟩
                  rw [← hX] at hsl
                  by_cases hq : X.data.toList = (refB k).data.toList
                  · have hq1 : (X.toList == (refB k).toList) = true := by rw [ByteArray.toList_eq, ByteArray.toList_eq, beq_iff_eq]; exact hq
                    have Hfit := hide (show UFit s i k from ⟨hf, by rw [← hX]; exact hq⟩)
                    clear hX hq
                    go_wp2_with fail
                    exact ⟨⟨k + 1, by omega, by go_num, HQ.out.1, Or.inr ⟨k, hk5, Hfit.out, by refine congrArg (Value.int .i64) ?_; push_cast; rfl, rfl, rfl⟩⟩, by simp [intOf]; omega⟩
                  · have hq1 : (X.toList == (refB k).toList) = false := by rw [ByteArray.toList_eq, ByteArray.toList_eq, beq_eq_false_iff_ne]; exact hq
                    have Hfit := hide (show ∀ j, j < k + 1 → ¬ UFit s i j from fun j hj => by
                      rcases Nat.lt_or_ge j k with h | h
                      · exact Hno.out j h
                      · obtain rfl : j = k := by omega
                        exact fun h => hq (by rw [hX]; exact h.2))
                    clear hX hq
                    go_wp2_with fail
                    exact ⟨⟨k + 1, by omega, by go_num, HQ.out.1, Or.inl ⟨rfl, rfl, rfl, Hfit.out⟩⟩, by simp [intOf]; omega⟩
                · have Hfit := hide (show ∀ j, j < k + 1 → ¬ UFit s i j from fun j hj => by
                    rcases Nat.lt_or_ge j k with h | h
                    · exact Hno.out j h
                    · obtain rfl : j = k := by omega
                      exact fun h => hf h.1)
                  go_wp2_with fail
                  exact ⟨⟨k + 1, by omega, by go_num, HQ.out.1, Or.inl ⟨rfl, rfl, rfl, Hfit.out⟩⟩, by simp [intOf]; omega⟩
            · have hsz := refB_size j
              have hsa := refA_size j
              have hle := hfit.1
              have Hn := hide (show unesc s.data.toList = (unesc (s.data.toList.drop (i + (refB j).size))).map ((O ++ refA j).data.toList ++ ·) by
                rw [HO.out, fit_unesc hj hfit, app_list, refA_list j hj]
                cases unesc (s.data.toList.drop (i + (refB j).size)) <;> simp)
              clear hfit
              have HE := hide (show (∃ (i_1 : Nat) (O_1 : ByteArray), i_1 ≤ s.size ∧ Value.int .i64 (i + (refB j).size) = .int .i64 i_1 ∧ Value.string (O ++ refA j) = .string O_1 ∧ O_1.size ≤ i_1 ∧ unesc s.data.toList = (unesc (s.data.toList.drop i_1)).map (O_1.data.toList ++ ·) ∧ Below w1.heap.size w1 wr) ∧ s.size - (intOf (Value.int .i64 (i + (refB j).size))).toNat < s.size - (intOf (Value.int .i64 i)).toNat from
                ⟨⟨i + (refB j).size, O ++ refA j, hle, by refine congrArg (Value.int .i64) ?_; push_cast; rfl, rfl, by rw [ByteArray.size_append]; omega, Hn.out, HQ.out.1⟩, by simp only [intOf]; omega⟩)
              have hk5 : k = 5 ∨ k < 5 := by omega
              rcases hk5 with rfl | hk5
              · go_wp2_with fail
                exact HE.out
              · go_wp2_with fail
                exact HE.out
        · have e38 : (((s[i]'hp).toNat : Int) != 38) = true := by rw [bne_iff_ne]; exact fun h => h38 (byte_of (n := 38) (by omega) (by decide))
          have hsl := slice_one s i hp
          have Hn := hide (show unesc s.data.toList = (unesc (s.data.toList.drop (i + 1))).map ((O ++ (⟨#[s[i]]⟩ : ByteArray)).data.toList ++ ·) by
            rw [HO.out, drop_cons s i hp, unesc_plain _ _ h60 h38, app_list]
            cases unesc (s.data.toList.drop (i + 1)) <;> simp)
          clear h60 h38
          have hone : (⟨#[s[i]'hp]⟩ : ByteArray).size = 1 := rfl
          go_wp2_with fail
          refine ⟨⟨i + 1, O ++ ⟨#[s[i]]⟩, by omega, by go_num, rfl, by rw [ByteArray.size_append]; omega, Hn.out, HW.out⟩, by simp [intOf]; omega⟩
    · have hie : i = s.size := by omega
      subst hie
      have Hn := hide (show unesc s.data.toList = some O.data.toList by
        rw [HO.out, List.drop_eq_nil_of_le (by rw [size_list]; exact Nat.le_refl _), unesc_nil]
        simp)
      go_wp2_with fail
      go_ret2
      exact ⟨Or.inl ⟨_, Hn.out, rfl⟩, HB.out.2.trans (HW.out.mono HB.out.2.size)⟩
end Go.Proofs.YthmidlmknkbdaaaDoor
namespace Go.Proofs.YthmidlmknkbdaaaDoor.Xm
open Go.RowKit

theorem mk_size (l : List UInt8) : (⟨l.toArray⟩ : ByteArray).size = l.length := by simp [ByteArray.size]
theorem mk_ext (l : List UInt8) (i j : Nat) : (⟨l.toArray⟩ : ByteArray).extract i j = ⟨((l.take j).drop i).toArray⟩ := by
  refine bytes_ext ?_
  rw [ext_list]
  simp [List.drop_take]
theorem mk_get (l : List UInt8) (i : Nat) (h : i < (⟨l.toArray⟩ : ByteArray).size) : (⟨l.toArray⟩ : ByteArray)[i]'h = l[i]'(by rw [mk_size] at h; exact h) := rfl
theorem tw_len {p : UInt8 → Bool} (a : List UInt8) (r : UInt8) (t : List UInt8) (h1 : ∀ b ∈ a, p b = true) (h2 : p r = false) : ((a ++ r :: t).takeWhile p).length = a.length := by
  rw [List.takeWhile_append_of_pos h1, List.takeWhile_cons_of_neg (by rw [h2]; decide)]
  simp
theorem nm_isNm {nm : List UInt8} (h : nmB nm = true) : ∀ b ∈ nm, isNm b = true := fun b hb => by
  unfold isNm
  rw [Bool.or_eq_true]
  exact nmB_byte h hb
theorem rfBlanks_is (s : ByteArray) (n : Nat) (w : World) (hs : s.size ≤ 1000000) (h : (s.data.toList.takeWhile isBl).length = n) : Calls Tryd.prog 60 #[.string s] w fun e w' => e = .returned (.int .i64 (n : Nat)) ∧ w' = w := by
  have := rfBlanks_any s w hs
  rwa [h] at this
theorem rfName_is (s : ByteArray) (n : Nat) (w : World) (hs : s.size ≤ 1000000) (h : (s.data.toList.takeWhile isNm).length = n) : Calls Tryd.prog 77 #[.string s] w fun e w' => e = .returned (.int .i64 (n : Nat)) ∧ w' = w := by
  have := rfName_any s w hs
  rwa [h] at this
theorem refName_yes (s : ByteArray) (w : World) (hs : s.size ≤ 1000000) (h : nmB s.data.toList = true) : Calls Tryd.prog 78 #[.string s] w fun e w' => e = .returned (.bool true) ∧ w' = w := by
  refine (refName_any s w (by unfold maxLen; omega)).mono ?_
  rintro e w' ⟨he, hw⟩
  exact ⟨he.yes ((nmB_iff s).2 h), hw⟩
theorem refUn_yes (s : ByteArray) (v : List UInt8) (w : World) (hs : s.size ≤ 3000) (h : unesc s.data.toList = some v) : Calls Tryd.prog 57 #[.string s] w fun e w' => e = .returned (.tuple #[.string ⟨v.toArray⟩, .int .i64 0]) ∧ Below w.heap.size w w' := by
  refine (refUnescape_any s w hs).mono ?_
  rintro e w' ⟨⟨l, hl, rfl⟩ | ⟨hn, _⟩, hw⟩
  · rw [h] at hl
    cases hl
    exact ⟨rfl, hw⟩
  · rw [h] at hn
    cases hn
/-- One attribute more in a row of the call's own. -/
theorem append_at (w : World) {ops : Array Oper} {rest : List Oper} {o : Oper} {a : Act} {Q : Exit → Act → World → Prop} (hg : o.guard = none) (s x : Operand)
    (hop : o.op = Op.call { callee := Callee.builtin Builtin.append, args := #[s, x], argTypes := #[53, 53] }) (base : Nat) (v : Value) (al : List (ByteArray × ByteArray)) (hs : a.eval s = v) (hE : w.ownsRow base 65 2 v al.length (attrCells al)) (y : ByteArray × ByteArray) (bx : Nat)
    (hx : a.eval x = .slice (some ⟨bx, 0, none⟩) 1 1) (hc : w.heap[bx]? = some (.cells #[.string y.1, .string y.2] 65)) (hl : al.length ≤ 200000) (hb : base ≤ w.heap.size)
    (hK : ∀ v' w', w'.ownsRow base 65 2 v' (al ++ [y]).length (attrCells (al ++ [y])) → w.grownBy w' v.ownBlock → wpList Tryd.prog ops Q rest (a.put o.dst v') w') : wpList Tryd.prog ops Q (o :: rest) a w := by
  obtain ⟨i, hi, hz0, hz1, hz2⟩ := info_parts infoAttr
  obtain ⟨v', w', hrun, r1, r2, _⟩ := run_append_own (P := Tryd.prog) w base 53 o.type 65 i _ 2 32 Tryd.underlying53 hi hz0 hz1 hz2 rfl (by decide) v al.length (attrCells al) hE ⟨bx, 0, none⟩ 1 1 [.string y.1, .string y.2] rfl (fun j u hj => by
    match j, hj with
    | 0, hj => simp at hj; subst hj; simp [Addr.add, World.cell?, hc]
    | 1, hj => simp at hj; subst hj; simp [Addr.add, World.cell?, hc]) (fun u hu => by simp at hu; rcases hu with rfl | rfl <;> rfl) (by unfold maxLen; omega) (by omega) hb
  refine wpList_plain hg fun K hK' => ?_
  unfold Oper.wp
  simp [execOp, hop, resolve, invoke, builtin, hs, hx, hrun, Result.andThen]
  have h2 : attrCells (al ++ [y]) = attrCells al ++ [.string y.1, .string y.2] := by simp [attrCells]
  exact hK' _ _ (hK v' w' (by rw [h2, List.length_append]; exact r1) r2)
/-- One attribute ahead of others: the pieces that the loop cuts. -/
structure Cuts (a : AttrL) (t : List UInt8) (s s1 s2 s4 x vs s6 : ByteArray) (k m : Nat) : Prop where
  z : s.size ≤ 2048
  e1 : s.extract 1 s.size = s1
  ex : s1.extract 0 k = x
  e2 : s1.extract k s1.size = s2
  e4 : s2.extract 1 s2.size = s4
  ev : s4.extract 1 m = vs
  e6 : s4.extract (m + 1) s4.size = s6
  z1 : s.size = s1.size + 1
  z2 : s1.size = k + s2.size
  z4 : s2.size = s4.size + 1
  z6 : s4.size = m + 1 + s6.size
  m1 : 1 ≤ m
  b0 : (s.data.toList.takeWhile isBl).length = 1
  n1 : (s1.data.toList.takeWhile isNm).length = k
  b2 : (s2.data.toList.takeWhile isBl).length = 0
  b4 : (s4.data.toList.takeWhile isBl).length = 0
  c2 : ∀ h : 0 < s2.size, s2[0]'h = 61
  c4 : ∀ h : 0 < s4.size, s4[0]'h = 39
  ci : ∀ i (h : i < s4.size), 1 ≤ i → i < m → s4[i]'h ≠ 39
  cm : ∀ h : m < s4.size, s4[m]'h = 39
  nx : nmB x.data.toList = true
  xe : x = ⟨a.1.toArray⟩
  uv : unesc vs.data.toList = some a.2
  s6e : s6 = ⟨t.toArray⟩
theorem cuts_at (a : AttrL) (t : List UInt8) (h : nmB a.1 = true) (hl : (atB a ++ t).length ≤ 2048) : ∃ s1 s2 s4 x vs s6 k m, Cuts a t ⟨(atB a ++ t).toArray⟩ s1 s2 s4 x vs s6 k m := by
  have hk := nmB_len h
  have e0 : atB a ++ t = 32 :: (a.1 ++ (61 :: 39 :: (esc a.2 ++ 39 :: t))) := by simp [atB]
  rw [e0] at hl ⊢
  refine ⟨⟨(a.1 ++ (61 :: 39 :: (esc a.2 ++ 39 :: t))).toArray⟩, ⟨(61 :: 39 :: (esc a.2 ++ 39 :: t)).toArray⟩, ⟨(39 :: (esc a.2 ++ 39 :: t)).toArray⟩, ⟨a.1.toArray⟩, ⟨(esc a.2).toArray⟩, ⟨t.toArray⟩, a.1.length, (esc a.2).length + 1, ?_⟩
  have hd : ∀ b ∈ esc a.2, b ≠ 39 := fun b hb => (esc_safe a.2 b hb).2.2.1
  refine ⟨by rw [mk_size]; exact hl, ?_, ?_, ?_, ?_, ?_, ?_, by simp [mk_size], by simp [mk_size], by simp [mk_size], by simp [mk_size]; omega, by omega, ?_, ?_, ?_, ?_, fun _ => rfl, fun _ => rfl, ?_, ?_, by rw [arr_list]; exact h, rfl, by rw [arr_list]; exact unesc_esc _, rfl⟩
  · rw [mk_ext, mk_size, List.take_length]; rfl
  · rw [mk_ext]; simp
  · rw [mk_ext, mk_size, List.take_length]; simp
  · rw [mk_ext, mk_size, List.take_length]; rfl
  · rw [mk_ext]; simp
  · rw [mk_ext, mk_size, List.take_length]; simp
  · rw [arr_list]
    obtain ⟨b, r, hbr, hbb⟩ := nm_head (rest := 61 :: 39 :: (esc a.2 ++ 39 :: t)) h
    rw [hbr]
    exact tw_len [32] b r (by decide) (nm_byte hbb).2.2.2.2.2.2.2.2.2.2
  · rw [arr_list]
    exact tw_len a.1 61 _ (nm_isNm h) (by decide)
  · rw [arr_list]; rfl
  · rw [arr_list]; rfl
  · intro i hi h1 h2
    rw [mk_get]
    obtain ⟨j, rfl⟩ : ∃ j, i = j + 1 := ⟨i - 1, by omega⟩
    rw [List.getElem_cons_succ, List.getElem_append_left (by omega)]
    exact hd _ (List.getElem_mem _)
  · intro hm
    rw [mk_get, List.getElem_cons_succ, List.getElem_append_right (by omega)]
    simp
theorem not_empty {s : ByteArray} (h : 0 < s.size) : s.toList.isEmpty = false := by
  cases hl : s.toList with
  | nil =>
    have : s.toList.length = s.size := by rw [ByteArray.toList_eq]; simp
    rw [hl] at this
    simp at this
    omega
  | cons a l => rfl
set_option maxRecDepth 100000 in
set_option maxHeartbeats 2000000 in
theorem rfAttrs_any (al : List AttrL) (w : World) (hal : ∀ a ∈ al, nmB a.1 = true) (hl : (atsB al).length ≤ 2048) :
    Calls Tryd.prog 79 #[.string ⟨(atsB al).toArray⟩] w fun e w' => ∃ v, e = .returned (.tuple #[v, .bool true]) ∧ w'.ownsRow w.heap.size 65 2 v (toB al).length (attrCells (toB al)) ∧ Below w.heap.size w w' := by
  obtain ⟨S, hS⟩ : ∃ S : ByteArray, ⟨(atsB al).toArray⟩ = S := ⟨_, rfl⟩
  rw [hS]
  have HS := hide (And.intro hS hal)
  have HL := hide hl
  clear hS hal hl
  go_enter Tryd.func79, Tryd.ntmps79
  go_wp2_with fail
  go_loopw [0, 4] (fun sv ov wr => ∃ (bl ar : List AttrL) (s : ByteArray) (ga : Option Addr) (gc : Nat), al = bl ++ ar ∧ sv = .string s ∧ s = ⟨(atsB ar).toArray⟩ ∧ ov = .slice ga bl.length gc ∧ wr.ownsRow w.heap.size 65 2 (.slice ga bl.length gc) (toB bl).length (attrCells (toB bl)) ∧ Below w.heap.size w wr) (fun sv _ _ => match sv with | .string s => s.size | _ => 0)
  case atStart => exact ⟨[], al, S, none, 0, rfl, rfl, HS.out.1.symm, rfl, World.ownsRow_nil _ _ _ _, Below.refl _ _⟩
  case round =>
    obtain ⟨bl, ar, s, ga, gc, hsplit, rfl, hs, rfl, hown, hbw⟩ := hrel
    cases ar with
    | nil =>
      have hz : s.size = 0 := by rw [hs]; rfl
      have hb := rfBlanks_is s 0 wr (by omega) (by rw [hs]; rfl)
      have HB := hide (And.intro hb (And.intro hown (And.intro hbw hsplit)))
      clear hb hown hbw hs hsplit
      go_wp2_with (go_at_call 60; refine HB.out.1.mono ?_; rintro e w1 ⟨rfl, hw1⟩; rw [hw1]; clear hw1)
      go_ret2
      have hbl : al = bl := by rw [HB.out.2.2.2]; simp
      exact ⟨_, rfl, by rw [hbl]; exact HB.out.2.1, HB.out.2.2.1⟩
    | cons a l =>
      have hlen := HL.out
      have hnm := HS.out.2 a (by rw [hsplit]; simp)
      have hats : atsB (a :: l) = atB a ++ atsB l := by simp [atsB]
      have hbln : bl.length ≤ 2048 := by
        have h1 := atsB_len al
        have h2 : bl.length ≤ al.length := by rw [hsplit]; simp
        omega
      rw [hats] at hs
      obtain ⟨s1, s2, s4, x, vs, s6, k, m, C⟩ := cuts_at a (atsB l) hnm (by rw [hsplit] at hlen; simp [atsB] at hlen ⊢; omega)
      rw [← hs] at C
      have hb := rfBlanks_is s 1 wr (by have := C.z; omega) C.b0
      have hn := rfName_is s1 k wr (by have := C.z; have := C.z1; omega) C.n1
      have hb2 := rfBlanks_is s2 0 wr (by have := C.z; have := C.z1; have := C.z2; omega) C.b2
      have hb4 := rfBlanks_is s4 0 wr (by have := C.z; have := C.z1; have := C.z2; have := C.z4; omega) C.b4
      have hna := refName_yes x wr (by rw [← C.ex, ByteArray.size_extract]; have := C.z; have := C.z1; omega) C.nx
      have hun := refUn_yes vs a.2 wr (by rw [← C.ev, ByteArray.size_extract]; have := C.z; have := C.z1; have := C.z2; have := C.z4; omega) C.uv
      have i1 : ¬ (1 : Int) = s.size := by have := C.z1; have := C.z2; have := C.z4; omega
      have i2 : (1 : Int) ≤ s.size := by have := C.z1; omega
      have i3 : (k : Int) ≤ s1.size := by have := C.z2; omega
      have i4 : (1 : Int) ≤ s2.size := by have := C.z4; omega
      have i5 : (0 : Int) < s2.size := by omega
      have i6 : (0 : Int) < s4.size := by have := C.z6; omega
      have i7 : (0 : Int) ≤ s2.size := by omega
      have i8 : (0 : Int) ≤ s4.size := by omega
      have e1 := C.e1
      have ex := C.ex
      have e2 := C.e2
      have e2' : s2.extract 0 s2.size = s2 := ByteArray.extract_zero_size
      have e4 := C.e4
      have e4' : s4.extract 0 s4.size = s4 := ByteArray.extract_zero_size
      have hl2 : 0 < s2.size := by omega
      have hl4 : 0 < s4.size := by omega
      have c2 := C.c2 hl2
      have c4 := C.c4 hl4
      have zz : s.size ≤ 2048 ∧ s1.size ≤ 2048 ∧ s2.size ≤ 2048 ∧ s4.size ≤ 2048 ∧ 1 ≤ m ∧ m < s4.size := by
        have := C.z1; have := C.z2; have := C.z4; have := C.z6; have := C.z; have := C.m1; omega
      obtain ⟨z, z1, z2, z4, m1, mz⟩ := zz
      have HC := hide C
      have HB := hide (And.intro hb (And.intro hn (And.intro hb2 (And.intro hb4 (And.intro hna hun)))))
      have HI := hide (And.intro hown (And.intro hbw hsplit))
      clear hb hn hb2 hb4 hna hun hown hbw hsplit hlen hats hs C
      have n2 := not_empty hl2
      have n4 := not_empty hl4
      go_wp2_with fail
      refine HB.out.1.mono ?_
      rintro e w1 ⟨rfl, hw1⟩
      rw [hw1]
      clear hw1 w1
      go_wp2_with fail
      refine HB.out.2.1.mono ?_
      rintro e w1 ⟨rfl, hw1⟩
      rw [hw1]
      clear hw1 w1
      go_wp2_with fail
      refine HB.out.2.2.1.mono ?_
      rintro e w1 ⟨rfl, hw1⟩
      rw [hw1]
      clear hw1 w1
      go_wp2_with fail
      refine HB.out.2.2.2.2.1.mono ?_
      rintro e w1 ⟨rfl, hw1⟩
      rw [hw1]
      clear hw1 w1
      go_wp2_with fail
      refine HB.out.2.2.2.1.mono ?_
      rintro e w1 ⟨rfl, hw1⟩
      rw [hw1]
      clear hw1 w1
      go_wp2_with fail
      go_loopw [9] (fun iv wq => ∃ i : Nat, 1 ≤ i ∧ i ≤ m ∧ iv = .int .i64 i ∧ wq = wr) (fun iv _ => m - (intOf iv).toNat)
      case atStart => exact ⟨1, by omega, m1, rfl, rfl⟩
      case round =>
        obtain ⟨i, hi1, him, rfl, rfl⟩ := hrel
        have g0 : IntKind.i64.wrap ((i : Int) + 1) = i + 1 := by rw [IntKind.wrap_i64]; omega
        have g1 : (i : Int) < s4.size := by omega
        have g2 : (0 : Int) ≤ i := by omega
        have g3 : i < s4.size := by omega
        by_cases hlt : i < m
        · have hne := HC.out.ci i g3 hi1 hlt
          have hne' : ((s4[i]'g3).toNat : Int) ≠ 39 := fun e => hne (UInt8.toNat_inj.1 (by show _ = 39; omega))
          have HN := hide hne
          clear hne
          go_wp2_with fail
          go_roundw
          case rel => exact ⟨i + 1, by omega, by omega, by simp, trivial⟩
          case measure => simp [intOf]; omega
        · obtain rfl : i = m := by omega
          have hcm := HC.out.cm g3
          have g4 : ¬ (i : Int) = s4.size := by omega
          have g5 : (1 : Int) ≤ i := by omega
          have g6 : (i : Int) ≤ s4.size := by omega
          have ev := HC.out.ev
          clear hlt
          go_wp2_with fail
          refine HB.out.2.2.2.2.2.mono ?_
          rintro e w1 ⟨rfl, hb1⟩
          have hz1 := hb1.size
          have hown1 := own_same HI.out.1 (fun g hg => hb1.block g (own_lt HI.out.1 g hg))
          have hbw1 : Below w.heap.size w w1 := HI.out.2.1.trans (hb1.mono HI.out.2.1.size)
          have hw0 := hbw1.size
          have hbx : (w1.alloc (.cells #[.string x, .string ⟨a.2.toArray⟩] 65)).ownsRow w.heap.size 65 2 (.slice ga bl.length gc) (toB bl).length (attrCells (toB bl)) := own_same hown1 (fun g hg => Below.heap_alloc _ _ _ (own_lt hown1 g hg))
          have H1 := hide (And.intro hbx hbw1)
          clear hbx hbw1 hown1 hb1
          go_wp2_with (at_builtin; refine stopHere ?_)
          unfold Hid
          refine append_at _ rfl _ _ rfl w.heap.size _ (toB bl) rfl H1.out.1 (x, ⟨a.2.toArray⟩) w1.heap.size rfl (World.alloc_heap_new w1 _) (by simp [toB]; omega) (by simp; omega) ?_
          intro v7 w7 hown7 hgr7
          obtain ⟨g7, c7, rfl⟩ := own_shape hown7
          have hbw7 : Below w.heap.size w w7 := ((H1.out.2.alloc (by omega) _)).grown hgr7 (by simp; omega) (fun g hg => own_base H1.out.1 g hg)
          have H7 := hide (And.intro hown7 hbw7)
          clear hown7 hbw7 hgr7
          have e6 := HC.out.e6
          have g7' : (i : Int) + 1 ≤ s4.size := by omega
          go_wp2_with fail
          have hB : toB (bl ++ [a]) = toB bl ++ [(x, ⟨a.2.toArray⟩)] := by rw [HC.out.xe]; simp [toB]
          have hL : (toB bl).length + 1 = (bl ++ [a]).length := by simp [toB]
          refine ⟨⟨bl ++ [a], l, s6, g7, c7, by rw [HI.out.2.2]; simp, rfl, HC.out.s6e, by rw [hL], ?_, H7.out.2⟩, ?_⟩
          · rw [hB, ← hL]
            have h := H7.out.1
            simp only [List.length_append, List.length_cons, List.length_nil, Nat.zero_add] at h ⊢
            exact h
          · have := HC.out.z1; have := HC.out.z2; have := HC.out.z4; have := HC.out.z6
            show s6.size < s.size
            omega
end Go.Proofs.YthmidlmknkbdaaaDoor.Xm
