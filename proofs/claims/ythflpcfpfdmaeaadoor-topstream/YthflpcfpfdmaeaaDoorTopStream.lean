/- TopStream: elements in a stream are told one by one, and the stream stays open. -/
import Derived.Test.YthflpcfpfdmaeaaDoorXM
import Derived.Test.YthflpcfpfdmaeaaDoorLive4
namespace Go.Proofs.YthflpcfpfdmaeaaDoor.Xm
open Go.RowKit

def oneT (b : UInt8) : List Tok := elemT ⟨[b].toArray⟩ [] []
theorem print_oneT (b : UInt8) : printT (oneT b) = [60, b, 47, 62] := by rfl
theorem right_oneT (b : UInt8) (h : 97 ≤ b.toNat ∧ b.toNat ≤ 122) : RightT (oneT b) := by
  refine ⟨by simp [oneT, elemT], fun k t hk => ?_, by rfl⟩
  match k, hk with
  | 0, hk => cases hk; exact .inl ⟨rfl, Nat.le_of_ble_eq_true rfl, nameOk_one b (by unfold IsB; omega), rfl, Nat.le_of_ble_eq_true rfl, fun i a h => by simp at h⟩
  | 1, hk => cases hk; exact .inr (.inl ⟨rfl, Nat.le_of_ble_eq_true rfl, rfl, rfl, rfl⟩)
  | k + 2, hk => simp [oneT, elemT] at hk
theorem letB_small (c : UInt8) : 97 ≤ (letB c).toNat ∧ (letB c).toNat ≤ 122 := by rw [letB_nat]; omega
theorem inv_open : Inv sOpen := ⟨by decide, by decide, by decide⟩
theorem inv_shut : Inv sShut := ⟨by decide, by decide, by decide⟩
set_option maxRecDepth 100000 in
set_option maxHeartbeats 4000000 in
theorem topStream_any (a1 : Option Addr) (c1 : Nat) (l0 : List UInt8) (w : World) (_h1 : l0.length ≤ c1) (hm1 : ByteMem w.heap.size w a1 l0) (hE0 : Env w) (h4 : 4 ≤ w.heap.size) :
    Calls Tryd.prog 4 #[.slice a1 l0.length c1] w fun e w' => e = .returned (.bool true) ∧ Below w.heap.size w w' := by
  have HM := hide (And.intro hm1 hE0)
  clear hm1 hE0
  obtain ⟨len, hlen⟩ : ∃ n, l0.length = n := ⟨_, rfl⟩
  have HLN := hide hlen
  rw [hlen]
  clear hlen
  go_enter Tryd.func4, Tryd.ntmps4
  go_wp2_with fail
  refine (new_any w).mono ?_
  rintro e w1 ⟨rfl, hP, hz1, hb1⟩
  have hE : Env w1 := HM.out.2.below hb1 h4
  obtain ⟨W2, hW2⟩ : ∃ W2, w1.alloc (.cells #[.int .u8 60, .int .u8 115, .int .u8 116, .int .u8 114, .int .u8 101, .int .u8 97, .int .u8 109, .int .u8 62] 5 (8, 9)) = W2 := ⟨_, rfl⟩
  have f2 : W2.heap[w1.heap.size]? = some (.cells #[.int .u8 60, .int .u8 115, .int .u8 116, .int .u8 114, .int .u8 101, .int .u8 97, .int .u8 109, .int .u8 62] 5 (8, 9)) := by rw [← hW2]; exact World.alloc_heap_new w1 _
  have hb2 : Below w1.heap.size w1 W2 := by rw [← hW2]; exact (Below.refl _ w1).alloc (Nat.le_refl _) _
  have hz2 : W2.heap.size = w1.heap.size + 1 := by rw [← hW2]; simp
  have hP2 := hP.below hb2
  have hB2 : Bytes W2 w.heap.size (.slice none 0 0) (.slice none 0 0) (some ⟨w1.heap.size, 0, none⟩) [60, 115, 116, 114, 101, 97, 109, 62] := bytes_block hP2 f2 (by intro h; cases h) (fun j c hj => by
    match j, hj with
    | 0, hj => cases hj; rfl
    | 1, hj => cases hj; rfl
    | 2, hj => cases hj; rfl
    | 3, hj => cases hj; rfl
    | 4, hj => cases hj; rfl
    | 5, hj => cases hj; rfl
    | 6, hj => cases hj; rfl
    | 7, hj => cases hj; rfl
    | n + 8, hj => simp at hj)
  have hE2 : Env W2 := hE.below hb2 (by omega)
  have hfe2 := Feed_any w.heap.size w.heap.size st0 _ _ _ 8 _ W2 hP2 inv0 hE2 h4 h4 hB2 (by decide)
  have cv2 : (convert 38 38 (.slice (some ⟨w1.heap.size, 0, none⟩) 8 8)).run Tryd.prog (w1.alloc (.cells #[.int .u8 60, .int .u8 115, .int .u8 116, .int .u8 114, .int .u8 101, .int .u8 97, .int .u8 109, .int .u8 62] 5)) = .ok (.slice (some ⟨w1.heap.size, 0, none⟩) 8 8) W2 := by rw [← hW2]; exact Lib.run_convert_bytes_const w1 _ 5 _ 8 8 Tryd.underlying38 Tryd.underlying5
  rw [FeedF_of rfl, feed_open] at hfe2
  have H2 := hide (And.intro hfe2 (And.intro (hb1.trans (hb2.mono (by omega))) hP2))
  have HZ1 := hide hz1
  clear hfe2 hB2 hE2 hP2 hb2 f2 hP hb1 hz1 hW2 hE
  go_wp2_with fail
  refine H2.out.1.mono ?_
  rintro e w3 ⟨st3, v3, l3, vw3, vo3, rfl, q1, q2, q3, q4⟩
  obtain rfl : st3 = sOpen := q4.ok rfl
  have hl3 : l3.length = 1 := by simpa using congrArg List.length q1
  have hsh := own_shape q2.1
  rw [hl3] at hsh
  obtain ⟨ga3, gc3, rfl⟩ := hsh
  have hb3 : Below w.heap.size w w3 := H2.out.2.1.trans (Run.under H2.out.2.2 q3)
  have H3 := hide (And.intro hb3 q3.isP)
  clear q1 q2 q3 q4 hb3 hl3
  have hbr : sOpen.broken = 0 := rfl
  rw [hbr]
  go_wp2_with fail
  go_loopw [6] (fun j wr => ∃ k : Nat, k ≤ min len 40 ∧ j = .int .i64 k ∧ (∃ vw vo, IsP w.heap.size w.heap.size sOpen vw vo wr) ∧ Below w.heap.size w wr) (fun j _ => min len 40 - (intOf j).toNat)
  case atStart => exact ⟨0, Nat.zero_le _, rfl, ⟨_, _, H3.out.2⟩, H3.out.1⟩
  case round =>
    obtain ⟨k, hk, rfl, ⟨vw, vo, hP⟩, hbw⟩ := hrel
    have hw1 : IntKind.i64.wrap ((k : Int) + 1) = k + 1 := by rw [IntKind.wrap_i64]; omega
    have hwz := hbw.size
    have hpl := hP.lt
    by_cases hlt : k < min len 40
    · have hl1 : k < len := by omega
      have hl2 : k < 40 := by omega
      obtain ⟨c, hc⟩ : ∃ c, l0[k]? = some c := ⟨l0[k]'(by have := HLN.out; omega), by simp⟩
      obtain ⟨b, o, rfl, hbl, hcell⟩ := (HM.out.1.below hbw) k c hc
      have cv := conv_one c wr
      have hsm := letB_small c
      have HI := hide (And.intro hP hbw)
      clear hc hP hbw
      obtain ⟨nb, hnb⟩ : ∃ nb, letB c = nb := ⟨_, rfl⟩
      rw [hnb] at cv hsm
      obtain ⟨W1, hW1⟩ : ∃ W1, wr.alloc (.cells #[.int .u8 (97 + (c.toNat : Int) % 26)] 5) = W1 := ⟨_, rfl⟩
      rw [hW1] at cv
      have hbW1 : Below wr.heap.size wr W1 := by rw [← hW1]; exact (Below.refl _ wr).alloc (Nat.le_refl _) _
      have HW1 := hide hbW1
      clear hbW1 hnb
      go_wp2_with fail
      refine (element_row ⟨[nb].toArray⟩ none 0 [] none 0 [] (fun _ => (none, 0)) W1 (by show 1 ≤ _; omega) ⟨by simp, by simp, by simp⟩ ⟨by simp, by simp⟩ (by simp)).mono ?_
      rintro e w4 ⟨v4, l4, rfl, hl4, hE4, hb4⟩
      have hz1' := HW1.out.size
      have hbw4 : Below wr.heap.size wr w4 := HW1.out.trans (hb4.mono hz1')
      have hEw4 : Env w4 := (HM.out.2.below HI.out.2 h4).below hbw4 (by omega)
      have hp := printed (oneT nb) hl4 hE4 (right_oneT nb hsm) hEw4.1 hEw4.2.1
      rw [print_oneT] at hp
      have HP := hide hp
      have HB4 := hide hbw4
      clear hp hE4 hb4 hl4 hbw4 hEw4
      go_wp2_with fail
      refine HP.out.mono ?_
      rintro e w5 ⟨rfl, hb5⟩
      obtain ⟨V6, cap6, cv6, hW6, z6, hb6⟩ := to_bytes ⟨[60, nb, 47, 62].toArray⟩ w5
      have hz4 := HB4.out.size
      have hz5 := hb5.size
      have hbw6 : Below wr.heap.size wr V6 := (HB4.out.trans (hb5.mono hz4)).trans (hb6.mono (by omega))
      have hP6 := HI.out.1.below hbw6
      have hE6 : Env V6 := (HM.out.2.below HI.out.2 h4).below hbw6 (by omega)
      have hB6 : Bytes V6 w.heap.size vw vo (some ⟨w5.heap.size, 0, none⟩) [60, nb, 47, 62] := bytes_block hP6 hW6.choose_spec.choose_spec.1 (fun e => by have := own_lt HI.out.1.2.2.1 _ e.symm; omega) hW6.choose_spec.choose_spec.2
      have hfe := Feed_any w.heap.size w.heap.size sOpen _ _ _ cap6 [60, nb, 47, 62] V6 hP6 inv_open hE6 h4 h4 hB6 (by simp)
      rw [FeedF_of rfl, feed_emp nb hsm] at hfe
      have hcz : (⟨[60, nb, 47, 62].toArray⟩ : ByteArray).size = 4 := rfl
      rw [hcz] at cv6
      have H6 := hide (And.intro hfe (And.intro hP6 hbw6))
      clear hfe hP6 hE6 hB6 hbw6 hW6 hb5 hb6 hcz z6
      go_wp2_with fail
      refine H6.out.1.mono ?_
      rintro e w7 ⟨st7, v7, l7, vw7, vo7, rfl, q1, q2, q3, q4⟩
      obtain rfl : st7 = sOpen := q4.ok rfl
      obtain ⟨x7, y7, rfl, hx7⟩ : ∃ x7 y7, l7 = [x7, y7] ∧ x7.1 = ⟨1, ⟨[nb].toArray⟩, [], ⟨#[]⟩⟩ := by
        have hl : l7.length = 2 := by simpa [empTok] using congrArg List.length q1
        match l7, hl, q1 with
        | [x, y], _, q1 => exact ⟨x, y, rfl, by simp [empTok] at q1; exact q1.1⟩
      obtain ⟨g7, cap7, rfl, hcap7, _, d1, _⟩ := row_cells q2 (k := 0) rfl
      rw [hx7] at d1
      have d1' : w7.cell? ⟨g7, 1, none⟩ = some (.string ⟨[nb].toArray⟩) := d1
      have hde := depth_any _ _ _ _ _ w7 q3.isP
      have hb7 : Below w.heap.size w w7 := (HI.out.2.trans (H6.out.2.2.mono hwz)).trans (Run.under H6.out.2.1 q3)
      have H7 := hide (And.intro hde (And.intro q3.isP hb7))
      have hq2 : ((⟨[nb].toArray⟩ : ByteArray).toList == (⟨[nb].toArray⟩ : ByteArray).toList) = true := by simp
      have hlen2 : ([x7, y7] : List TokV).length = 2 := rfl
      have hbr : sOpen.broken = 0 := rfl
      rw [hbr, hlen2]
      rw [hlen2] at hcap7
      clear hde hb7 q1 q2 q3 q4 hx7 d1 hlen2 cv6
      go_wp2_with fail
      refine H7.out.1.mono ?_
      rintro e w8 ⟨rfl, hw8⟩
      rw [hw8]
      have hop : ((sOpen.op.length : Nat) : Int) = 1 := rfl
      rw [hop]
      clear hw8
      go_wp2_with fail
      go_roundw
      case rel => exact ⟨k + 1, by omega, by simp, ⟨_, _, H7.out.2.1⟩, H7.out.2.2⟩
      case measure => simp [intOf]; omega
    · have hke : k = min len 40 := by omega
      have hE : Env wr := HM.out.2.below hbw h4
      obtain ⟨W9, hW9⟩ : ∃ W9, wr.alloc (.cells #[.int .u8 60, .int .u8 47, .int .u8 115, .int .u8 116, .int .u8 114, .int .u8 101, .int .u8 97, .int .u8 109, .int .u8 62] 5 (9, 10)) = W9 := ⟨_, rfl⟩
      have f9 : W9.heap[wr.heap.size]? = some (.cells #[.int .u8 60, .int .u8 47, .int .u8 115, .int .u8 116, .int .u8 114, .int .u8 101, .int .u8 97, .int .u8 109, .int .u8 62] 5 (9, 10)) := by rw [← hW9]; exact World.alloc_heap_new wr _
      have hb9 : Below wr.heap.size wr W9 := by rw [← hW9]; exact (Below.refl _ wr).alloc (Nat.le_refl _) _
      have hz9 : W9.heap.size = wr.heap.size + 1 := by rw [← hW9]; simp
      have hP9 := hP.below hb9
      have hB9 : Bytes W9 w.heap.size vw vo (some ⟨wr.heap.size, 0, none⟩) [60, 47, 115, 116, 114, 101, 97, 109, 62] := bytes_block hP9 f9 (fun e => by have := own_lt hP.2.2.1 _ e.symm; omega) (fun j c hj => by
        match j, hj with
        | 0, hj => cases hj; rfl
        | 1, hj => cases hj; rfl
        | 2, hj => cases hj; rfl
        | 3, hj => cases hj; rfl
        | 4, hj => cases hj; rfl
        | 5, hj => cases hj; rfl
        | 6, hj => cases hj; rfl
        | 7, hj => cases hj; rfl
        | 8, hj => cases hj; rfl
        | n + 9, hj => simp at hj)
      have hE9 : Env W9 := hE.below hb9 (by omega)
      have hfe9 := Feed_any w.heap.size w.heap.size sOpen _ _ _ 9 _ W9 hP9 inv_open hE9 h4 h4 hB9 (by decide)
      have cv9 : (convert 38 38 (.slice (some ⟨wr.heap.size, 0, none⟩) 9 9)).run Tryd.prog (wr.alloc (.cells #[.int .u8 60, .int .u8 47, .int .u8 115, .int .u8 116, .int .u8 114, .int .u8 101, .int .u8 97, .int .u8 109, .int .u8 62] 5)) = .ok (.slice (some ⟨wr.heap.size, 0, none⟩) 9 9) W9 := by rw [← hW9]; exact Lib.run_convert_bytes_const wr _ 5 _ 9 9 Tryd.underlying38 Tryd.underlying5
      rw [FeedF_of rfl, feed_close] at hfe9
      have H9 := hide (And.intro hfe9 (And.intro (hbw.trans (hb9.mono hwz)) (And.intro hP9 hE9)))
      clear hfe9 hB9 hE9 hP9 hb9 f9 hP hbw hW9 hE
      have hcs : ¬ ((k : Int) < len) ∨ ((k : Int) < len ∧ ¬ ((k : Int) < 40)) := by omega
      rcases hcs with g1 | ⟨g1, g2⟩
      all_goals
        go_wp2_with fail
        refine H9.out.1.mono ?_
        rintro e w10 ⟨st10, v10, l10, vw10, vo10, rfl, q1, q2, q3, q4⟩
        obtain rfl : st10 = sShut := q4.ok rfl
        have hl10 : l10.length = 1 := by simpa using congrArg List.length q1
        have hsh := own_shape q2.1
        rw [hl10] at hsh
        obtain ⟨ga10, gc10, rfl⟩ := hsh
        have hbw10 : Below w.heap.size w w10 := H9.out.2.1.trans (Run.under H9.out.2.2.1 q3)
        have hz10 := hbw10.size
        have hP := q3.isP
        have hE : Env w10 := HM.out.2.below hbw10 h4
        obtain ⟨W11, hW11⟩ : ∃ W11, w10.alloc (.cells #[.int .u8 60, .int .u8 97, .int .u8 62] 5 (3, 4)) = W11 := ⟨_, rfl⟩
        have f11 : W11.heap[w10.heap.size]? = some (.cells #[.int .u8 60, .int .u8 97, .int .u8 62] 5 (3, 4)) := by rw [← hW11]; exact World.alloc_heap_new w10 _
        have hb11 : Below w10.heap.size w10 W11 := by rw [← hW11]; exact (Below.refl _ w10).alloc (Nat.le_refl _) _
        have hz11 : W11.heap.size = w10.heap.size + 1 := by rw [← hW11]; simp
        have hP11 := hP.below hb11
        have hB11 : Bytes W11 w.heap.size vw10 vo10 (some ⟨w10.heap.size, 0, none⟩) [60, 97, 62] := bytes_block hP11 f11 (fun e => by have := own_lt hP.2.2.1 _ e.symm; omega) (fun j c hj => by
          match j, hj with
          | 0, hj => cases hj; rfl
          | 1, hj => cases hj; rfl
          | 2, hj => cases hj; rfl
          | n + 3, hj => simp at hj)
        have hE11 : Env W11 := hE.below hb11 (by omega)
        have hfe11 := Feed_any w.heap.size w.heap.size sShut _ _ _ 3 _ W11 hP11 inv_shut hE11 h4 h4 hB11 (by decide)
        have cv11 : (convert 38 38 (.slice (some ⟨w10.heap.size, 0, none⟩) 3 3)).run Tryd.prog (w10.alloc (.cells #[.int .u8 60, .int .u8 97, .int .u8 62] 5)) = .ok (.slice (some ⟨w10.heap.size, 0, none⟩) 3 3) W11 := by rw [← hW11]; exact Lib.run_convert_bytes_const w10 _ 5 _ 3 3 Tryd.underlying38 Tryd.underlying5
        rw [FeedF_of rfl] at hfe11
        have H11 := hide (And.intro hfe11 (And.intro (hbw10.trans (hb11.mono hz10)) hP11))
        clear hfe11 hB11 hE11 hP11 hb11 f11 hP hE q1 q2 q3 q4 hbw10 hW11 hl10
        have hbr : sShut.broken = 0 := rfl
        rw [hbr]
        go_wp2_with fail
        refine H11.out.1.mono ?_
        rintro e w12 ⟨st12, v12, l12, vw12, vo12, rfl, q1, q2, q3, q4⟩
        have hbr12 : st12.broken = 6 := q4.broken.trans feed_err
        rw [hbr12]
        have H12 := hide (H11.out.2.1.trans (Run.under H11.out.2.2 q3))
        clear q1 q2 q3 q4 hbr12
        go_wp2_with fail
        go_ret
        exact ⟨rfl, H12.out⟩
end Go.Proofs.YthflpcfpfdmaeaaDoor.Xm
