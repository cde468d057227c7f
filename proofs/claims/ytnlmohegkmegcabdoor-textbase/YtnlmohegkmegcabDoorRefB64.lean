/- The document's own Base64. -/
import Derived.Test.YtnlmohegkmegcabDoorRefPlace
namespace Go.Proofs.YtnlmohegkmegcabDoor
open Go.RowKit

def gx (l : List UInt8) (k : Nat) : Nat := (l.getD k 0).toNat
theorem gx_lt (l : List UInt8) (k : Nat) : gx l k ≤ 255 := by
  have := (l.getD k 0).toNat_lt
  unfold gx
  omega
def gnum (l : List UInt8) : Nat := gx l 0 * 65536 + gx l 1 * 256 + gx l 2
/-- The four signs of the first group; m: how many bytes it has. -/
def out4 (l : List UInt8) (m : Nat) : List UInt8 := [dg (gnum l / 262144 % 64), dg (gnum l / 4096 % 64), if 2 ≤ m then dg (gnum l / 64 % 64) else 61, if 3 ≤ m then dg (gnum l % 64) else 61]
theorem b64_out4 (l : List UInt8) (h : l ≠ []) : b64 l = out4 l (min 3 l.length) ++ b64 (l.drop 3) := by
  match l, h with
  | [x], _ =>
    have hx := x.toNat_lt
    simp [b64, out4, sx, gnum, gx]
    congr 1
    omega
  | [x, y], _ =>
    have hx := x.toNat_lt
    have hy := y.toNat_lt
    simp [b64, out4, sx, gnum, gx]
    congr 1
    omega
  | x :: y :: z :: r, _ =>
    have hx := x.toNat_lt
    have hy := y.toNat_lt
    have hz := z.toNat_lt
    simp [b64, out4, sx, gnum, gx]
    congr 1
    omega
theorem gx_at (s : ByteArray) (i k : Nat) (h : i + k < s.size) : gx (s.data.toList.drop i) k = (s[i + k]'h).toNat := by
  unfold gx
  have := list_at s (i + k) h
  rw [List.getD_eq_getElem?_getD, List.getElem?_drop, this]
  rfl
theorem gx_none (s : ByteArray) (i k : Nat) (h : ¬ i + k < s.size) : gx (s.data.toList.drop i) k = 0 := by
  unfold gx
  rw [List.getD_eq_getElem?_getD, List.getElem?_drop, List.getElem?_eq_none (by rw [size_list]; omega)]
  rfl
theorem wrapsI (n : Int) (h₀ : 0 ≤ n) (h₁ : n < 2 ^ 63) : IntKind.i64.wrap n = n := by rw [IntKind.wrap_i64]; omega
theorem and63i (x : Int) (h0 : 0 ≤ x) (h1 : x < 16777216) : bits BinOp.and IntKind.i64 x 63 = x % 64 := by
  have := bits_mask .i64 63 (by decide) wrapsI 6 (by decide) x h0 (by omega)
  simpa using this
theorem index_at (s : ByteArray) (i : Nat) (h : i < s.size) (z : Int) (hz : z = i) (w : World) : (Instr.index 9 (.string s) (.int .i64 z)).run Tryd.prog w = .ok (.int .u8 (s[i]'h).toNat) w := by
  subst hz
  have h2 : ¬ (s.size : Int) ≤ i := by omega
  simp [go_sem, h]
def nAt (l : List UInt8) (k : Nat) : Nat := match k with | 0 => 0 | 1 => gx l 0 | 2 => gx l 0 * 256 + gx l 1 | _ => gnum l

set_option maxHeartbeats 1000000 in
theorem refBase64_any (s : ByteArray) (w : World) (hs : s.size ≤ 3000) : Calls Tryd.prog 24 #[.string s] w fun e w' => e = .returned (.string ⟨(b64 s.data.toList).toArray⟩) ∧ Below w.heap.size w w' := by
  go_enter Tryd.func24, Tryd.ntmps24
  go_wp2_with fail
  go_loopw [3, 4] (fun co ci wr => ∃ (i : Nat) (O : ByteArray), i ≤ s.size + 2 ∧ ci = .int .i64 i ∧ co = .string O ∧ O.size ≤ 2 * i ∧ b64 s.data.toList = O.data.toList ++ b64 (s.data.toList.drop i) ∧ Below w.heap.size w wr) (fun _ ci _ => s.size + 3 - (intOf ci).toNat)
  case atStart => exact ⟨0, ⟨#[]⟩, Nat.zero_le _, rfl, rfl, Nat.le_refl _, rfl, Below.refl _ _⟩
  case round =>
    obtain ⟨i, O, hi, rfl, rfl, hOi, hO, hbw⟩ := hrel
    have HO := hide hO
    have HW := hide hbw
    clear hO hbw
    by_cases hp : i < s.size
    · obtain ⟨l, hl⟩ : ∃ l, l = s.data.toList.drop i := ⟨_, rfl⟩
      have hll : l.length = s.size - i := by rw [hl, List.length_drop, size_list]
      obtain ⟨m, hm⟩ : ∃ m, m = min 3 l.length := ⟨_, rfl⟩
      have hm1 : 1 ≤ m := by omega
      have hm3 : m ≤ 3 := by omega
      have b0 := gx_lt l 0
      have b1 := gx_lt l 1
      have b2 := gx_lt l 2
      have Hx := hide (show ∀ k, k < 3 → (k < m ↔ i + k < s.size) from fun k hk => by omega)
      have Hl := hide hl
      have Hm := hide hm
      clear hl hm
      go_wp2_with fail
      go_loopw [5, 6, 7] (fun cn cm ck wr => ∃ (k : Nat), k ≤ 3 ∧ ck = .int .i64 k ∧ cn = .int .i64 (nAt l k) ∧ cm = .int .i64 (min k m : Nat) ∧ Below w.heap.size w wr) (fun _ _ ck _ => 3 - (intOf ck).toNat)
      case atStart => exact ⟨0, Nat.zero_le _, rfl, rfl, by simp, HW.out⟩
      case round =>
        obtain ⟨k, hk, rfl, rfl, rfl, hbw⟩ := hrel
        have hk3 : k = 3 ∨ k = 2 ∨ k = 1 ∨ k = 0 := by omega
        rcases hk3 with rfl | rfl | rfl | rfl
        · have HW2 := hide hbw
          clear hbw
          obtain ⟨N, hN⟩ : ∃ N, N = gnum l := ⟨_, rfl⟩
          have hNb : N ≤ 16777215 := by rw [hN]; unfold gnum; omega
          have hO4 : out4 l m = [dg (N / 262144 % 64), dg (N / 4096 % 64), if 2 ≤ m then dg (N / 64 % 64) else 61, if 3 ≤ m then dg (N % 64) else 61] := by rw [hN]; rfl
          rw [show nAt l 3 = N from hN.symm, show min 3 m = m by omega]
          have Hg := hide (show b64 l = out4 l m ++ b64 (l.drop 3) by
            rw [Hm.out]
            exact b64_out4 l (by intro h; rw [h] at hll; simp at hll; omega))
          have H4 := hide hO4
          clear hO4 hN
          go_wp2_with fail
          go_loopw [3, 8] (fun co ck wr => ∃ (k : Nat) (P : ByteArray), k ≤ 4 ∧ ck = .int .i64 k ∧ co = .string P ∧ P.size ≤ 2 * i + k ∧ P.data.toList = O.data.toList ++ (out4 l m).take k ∧ Below w.heap.size w wr) (fun _ ck _ => 4 - (intOf ck).toNat)
          case atStart => exact ⟨0, O, Nat.zero_le _, rfl, rfl, by omega, by simp, HW2.out⟩
          case round =>
            obtain ⟨k, P, hk, rfl, rfl, hPs, hP, hbw⟩ := hrel
            have HP := hide (show _ ∧ _ from ⟨hP, hbw⟩)
            clear hP hbw
            have hk3 : k = 4 ∨ k = 3 ∨ k = 2 ∨ k = 1 ∨ k = 0 := by omega
            rcases hk3 with rfl | rfl | rfl | rfl | rfl
            · go_wp2_with fail
              refine ⟨⟨i + 3, P, by omega, by go_num, rfl, by omega, ?_, HP.out.2⟩, by simp only [intOf]; omega⟩
              have h1 := HO.out
              rw [← Hl.out, Hg.out, Hl.out, List.drop_drop] at h1
              rw [h1, HP.out.1, List.take_of_length_le (by rw [H4.out]; simp), Hl.out]
              simp
            · by_cases hm3 : 3 ≤ m
              · have hgt : ¬ ((m : Int) < 3) := by omega
                obtain ⟨a, ha⟩ : ∃ a, a = N % 64 := ⟨_, rfl⟩
                have ha6 : a < 64 := by omega
                have hand : bits BinOp.and IntKind.i64 ((N : Int)) 63 = (a : Int) := by
                  rw [and63i _ (by omega) (by omega)]
                  omega
                have hsl := dig_slice a ha6
                have hone : (⟨#[dg a]⟩ : ByteArray).size = 1 := rfl
                have Ha := hide ha
                clear ha
                go_wp2_with fail
                refine ⟨⟨4, P ++ ⟨#[dg a]⟩, by decide, rfl, rfl, by rw [ByteArray.size_append]; omega, ?_, HP.out.2⟩, by simp [intOf]⟩
                rw [app_list, HP.out.1, H4.out, Ha.out]
                simp [hm3]
              · have hgt : (m : Int) < 3 := by omega
                have hone : (⟨#[61]⟩ : ByteArray).size = 1 := rfl
                go_wp2_with fail
                refine ⟨⟨4, P ++ ⟨#[61]⟩, by decide, rfl, rfl, by rw [ByteArray.size_append]; omega, ?_, HP.out.2⟩, by simp [intOf]⟩
                rw [app_list, HP.out.1, H4.out]
                simp [hm3]
            · by_cases hm2 : 2 ≤ m
              · have hgt : ¬ ((m : Int) < 2) := by omega
                obtain ⟨a, ha⟩ : ∃ a, a = N / 64 % 64 := ⟨_, rfl⟩
                have ha6 : a < 64 := by omega
                have hand : bits BinOp.and IntKind.i64 ((N : Int) / 64) 63 = (a : Int) := by
                  rw [and63i _ (by omega) (by omega)]
                  omega
                have hsl := dig_slice a ha6
                have hone : (⟨#[dg a]⟩ : ByteArray).size = 1 := rfl
                have Ha := hide ha
                clear ha
                go_wp2_with fail
                refine ⟨⟨3, P ++ ⟨#[dg a]⟩, by decide, rfl, rfl, by rw [ByteArray.size_append]; omega, ?_, HP.out.2⟩, by simp [intOf]⟩
                rw [app_list, HP.out.1, H4.out, Ha.out]
                simp [hm2]
              · have hgt : (m : Int) < 2 := by omega
                have hone : (⟨#[61]⟩ : ByteArray).size = 1 := rfl
                go_wp2_with fail
                refine ⟨⟨3, P ++ ⟨#[61]⟩, by decide, rfl, rfl, by rw [ByteArray.size_append]; omega, ?_, HP.out.2⟩, by simp [intOf]⟩
                rw [app_list, HP.out.1, H4.out]
                simp [hm2]
            · have hgt : ¬ ((m : Int) < 1) := by omega
              obtain ⟨a, ha⟩ : ∃ a, a = N / 4096 % 64 := ⟨_, rfl⟩
              have ha6 : a < 64 := by omega
              have hand : bits BinOp.and IntKind.i64 ((N : Int) / 4096) 63 = (a : Int) := by
                rw [and63i _ (by omega) (by omega)]
                omega
              have hsl := dig_slice a ha6
              have hone : (⟨#[dg a]⟩ : ByteArray).size = 1 := rfl
              have Ha := hide ha
              clear ha
              go_wp2_with fail
              refine ⟨⟨2, P ++ ⟨#[dg a]⟩, by decide, rfl, rfl, by rw [ByteArray.size_append]; omega, ?_, HP.out.2⟩, by simp [intOf]⟩
              rw [app_list, HP.out.1, H4.out, Ha.out]
              simp
            · have hgt : ¬ ((m : Int) < 0) := by omega
              obtain ⟨a, ha⟩ : ∃ a, a = N / 262144 % 64 := ⟨_, rfl⟩
              have ha6 : a < 64 := by omega
              have hand : bits BinOp.and IntKind.i64 ((N : Int) / 262144) 63 = (a : Int) := by
                rw [and63i _ (by omega) (by omega)]
                omega
              have hsl := dig_slice a ha6
              have hone : (⟨#[dg a]⟩ : ByteArray).size = 1 := rfl
              have Ha := hide ha
              clear ha
              go_wp2_with fail
              refine ⟨⟨1, P ++ ⟨#[dg a]⟩, by decide, rfl, rfl, by rw [ByteArray.size_append]; omega, ?_, HP.out.2⟩, by simp [intOf]⟩
              rw [app_list, HP.out.1, H4.out, Ha.out]
              simp
        · have HW2 := hide hbw
          clear hbw
          obtain ⟨n, hn⟩ : ∃ n, n = nAt l 2 := ⟨_, rfl⟩
          have hnb : n ≤ 65535 := by rw [hn]; simp only [nAt]; omega
          rw [← hn]
          have Hn := hide hn
          clear hn
          by_cases hq : i + 2 < s.size
          · have hkm : 2 < m := (Hx.out 2 (by decide)).2 hq
            have hix := index_at s (i + 2) hq ((i : Int) + 2) (by omega)
            have h256 := (s[i + 2]'hq).toNat_lt
            have Hg := hide (show nAt l 3 = n * 256 + (s[i + 2]'hq).toNat by
              have := gx_at s i 2 hq
              rw [← Hl.out] at this
              rw [Hn.out]
              simp only [nAt, gnum]
              omega)
            rw [show min 2 m = 2 by omega]
            go_wp2_with fail
            refine ⟨⟨3, by decide, rfl, ?_, ?_, HW2.out⟩, by simp [intOf]⟩
            · rw [Hg.out]; go_num
            · rw [show min 3 m = 3 by omega]; rfl
          · have hkm : ¬ 2 < m := fun h => hq ((Hx.out 2 (by decide)).1 h)
            have hq' : ¬ ((i : Int) + 2 < s.size) := by omega
            have Hg := hide (show nAt l 3 = n * 256 by
              have := gx_none s i 2 hq
              rw [← Hl.out] at this
              rw [Hn.out]
              simp only [nAt, gnum]
              omega)
            rw [show min 2 m = m by omega]
            go_wp2_with fail
            refine ⟨⟨3, by decide, rfl, ?_, ?_, HW2.out⟩, by simp [intOf]⟩
            · rw [Hg.out]; go_num
            · rw [show min 3 m = m by omega]
        · have HW2 := hide hbw
          clear hbw
          obtain ⟨n, hn⟩ : ∃ n, n = nAt l 1 := ⟨_, rfl⟩
          have hnb : n ≤ 65535 := by rw [hn]; simp only [nAt]; omega
          rw [← hn]
          have Hn := hide hn
          clear hn
          by_cases hq : i + 1 < s.size
          · have hkm : 1 < m := (Hx.out 1 (by decide)).2 hq
            have hix := index_at s (i + 1) hq ((i : Int) + 1) (by omega)
            have h256 := (s[i + 1]'hq).toNat_lt
            have Hg := hide (show nAt l 2 = n * 256 + (s[i + 1]'hq).toNat by
              have := gx_at s i 1 hq
              rw [← Hl.out] at this
              rw [Hn.out]
              simp only [nAt]
              omega)
            rw [show min 1 m = 1 by omega]
            go_wp2_with fail
            refine ⟨⟨2, by decide, rfl, ?_, ?_, HW2.out⟩, by simp [intOf]⟩
            · rw [Hg.out]; go_num
            · rw [show min 2 m = 2 by omega]; rfl
          · have hkm : ¬ 1 < m := fun h => hq ((Hx.out 1 (by decide)).1 h)
            have hq' : ¬ ((i : Int) + 1 < s.size) := by omega
            have Hg := hide (show nAt l 2 = n * 256 by
              have := gx_none s i 1 hq
              rw [← Hl.out] at this
              rw [Hn.out]
              simp only [nAt]
              omega)
            rw [show min 1 m = m by omega]
            go_wp2_with fail
            refine ⟨⟨2, by decide, rfl, ?_, ?_, HW2.out⟩, by simp [intOf]⟩
            · rw [Hg.out]; go_num
            · rw [show min 2 m = m by omega]
        · have HW2 := hide hbw
          clear hbw
          obtain ⟨n, hn⟩ : ∃ n, n = nAt l 0 := ⟨_, rfl⟩
          have hnb : n ≤ 65535 := by rw [hn]; simp only [nAt]; omega
          rw [← hn]
          have Hn := hide hn
          clear hn
          by_cases hq : i < s.size
          · have hkm : 0 < m := (Hx.out 0 (by decide)).2 hq
            have hix := index_at s (i) hq ((i : Int)) (by omega)
            have h256 := (s[i]'hq).toNat_lt
            have Hg := hide (show nAt l 1 = n * 256 + (s[i]'hq).toNat by
              have := gx_at s i 0 (by simpa using hq)
              simp only [Nat.add_zero] at this
              rw [← Hl.out] at this
              rw [Hn.out]
              simp only [nAt]
              omega)
            rw [show min 0 m = 0 by omega]
            go_wp2_with fail
            refine ⟨⟨1, by decide, rfl, ?_, ?_, HW2.out⟩, by simp [intOf]⟩
            · rw [Hg.out]; go_num
            · rw [show min 1 m = 1 by omega]; rfl
          · exact absurd hp hq
    · have Hn := hide (show b64 s.data.toList = O.data.toList by
        rw [HO.out, List.drop_eq_nil_of_le (by rw [size_list]; omega)]
        simp [b64])
      go_wp2_with fail
      go_ret
      exact ⟨by rw [Hn.out]; rfl, HW.out⟩
end Go.Proofs.YtnlmohegkmegcabDoor
