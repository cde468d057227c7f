/- Base64: groups of three bytes as four digits. -/
import Derived.Test.YtnlmohegkmegcabDoorB64
import Derived.Deep.AppendLies
namespace Go.Proofs.YtnlmohegkmegcabDoor
open Go.RowKit

set_option maxHeartbeats 2000000 in
theorem base64_any (s : ByteArray) (w : World) (hs : s.size ≤ 1000000) : Calls Tryd.prog 23 #[.string s] w fun e w' => e = .returned (.string ⟨(b64 s.data.toList).toArray⟩) ∧ Below w.heap.size w w' := by
  obtain ⟨i0, hi, hz0, hz1, hz2⟩ := byteInfo
  have H := hide (show _ ∧ _ ∧ _ ∧ _ from ⟨hi, hz0, hz1, hz2⟩)
  clear hi hz0 hz1 hz2
  go_enter Tryd.func23, Tryd.ntmps23
  go_wp2_with (at_make; refine wpList_make_own _ rfl _ _ 33 rfl w.heap.size 5 i0 _ 1 Tryd.underlying33 H.out.1 H.out.2.1 H.out.2.2.1 .i64 .i64 _ (s.size / 3 * 4 + 4) rfl rfl ?h1 ?h2 ?h3 ?h4 ?_)
  case h1 => omega
  case h2 => rw [H.out.2.2.2]; omega
  case h3 => unfold maxLen; omega
  case h4 => exact Nat.le_refl _
  intro w1 hown hgr
  have hb0 : Below w.heap.size w w1 := (Below.refl _ _).grown hgr (Nat.le_refl _) (fun k hk => by cases hk)
  clear hgr
  go_wp2_with fail
  go_loopw [0, 3] (fun sv bv wr => ∃ (t : ByteArray) (acc : List UInt8), sv = .string t ∧ t.size ≤ s.size ∧ acc ++ b64 t.data.toList = b64 s.data.toList ∧ acc.length + 2 * t.size ≤ 2 * s.size ∧ wr.ownsRow w.heap.size 5 1 bv acc.length (Lib.byteCells acc) ∧ Below w.heap.size w wr) (fun sv _ _ => strOf sv)
  case atStart => exact ⟨s, [], rfl, Nat.le_refl _, rfl, by simp, hown, hb0⟩
  case round =>
    obtain ⟨t, acc, rfl, ht, hacc, hlen, hown', hb⟩ := hrel
    have Hacc := hide (show _ ∧ _ from ⟨hacc, hown'⟩)
    clear hacc hown hb0
    by_cases h3 : 3 ≤ t.size
    · have hi0 : (0 : Int) < (t.size : Int) := by omega
      have hi1 : (1 : Int) < (t.size : Int) := by omega
      have hi2 : (2 : Int) < (t.size : Int) := by omega
      have u0 := (t[0]'(by omega)).toNat_lt
      have u1 := (t[1]'(by omega)).toNat_lt
      have u2 := (t[2]'(by omega)).toNat_lt
      go_wp2_with fail
      go_region_held3 (fun w' => True) (trivial) (first | (go_at_call 39; refine (group_any _ _ _ ?_ ?_ ?_ _).mono ?_; (omega); (omega); (omega); rintro e w2 ⟨rfl, hbg⟩) | (refine step_append_str (by rfl) _ _ 33 9 (by rfl) w.heap.size 5 i0 Tryd.underlying33 Tryd.underlying9 H.out.1 H.out.2.1 H.out.2.2.1 H.out.2.2.2 _ acc.length (Lib.byteCells acc) (by rfl) (own_below (w := wr.drew) Hacc.out.2 hbg) ⟨(sx (t[0]'(by omega)).toNat (t[1]'(by omega)).toNat (t[2]'(by omega)).toNat).toArray⟩ (by rfl) (lenOk hlen ht hs) (lenOk2 hlen ht hs) (szOk hb hbg) ?_; intro v' w3 hown3 hgrow))
      all_goals
        go_wp2_with fail
        refine ⟨⟨t.extract 3 t.size, acc ++ sx (t[0]'(by omega)).toNat (t[1]'(by omega)).toNat (t[2]'(by omega)).toNat, rfl, by rw [drop_size]; omega, ?_, ?_, ?_, ?_⟩, ?_⟩
        · rw [List.append_assoc, ← b64_step t h3]; exact Hacc.out.1
        · rw [List.length_append, drop_size]; show acc.length + 4 + 2 * (t.size - 3) ≤ 2 * s.size; omega
        · rw [List.length_append, Lib.byteCells_append]; exact hown3
        · have hb2 := hb.drew.trans (hbg.mono (by rw [World.size_drew]; exact hb.size))
          exact hb2.grown hgrow (szOk hb hbg) (fun k hk => own_lt Hacc.out.2 k hk)
        · simp only [strOf]; rw [drop_size]; omega
    · by_cases h0 : t.size = 0
      · have e1 : ((t.size : Int) == 1) = false := by rw [beq_eq_false_iff_ne]; omega
        have e2 : ((t.size : Int) == 2) = false := by rw [beq_eq_false_iff_ne]; omega
        have cv := conv_own Hacc.out.2
        have hnil : b64 t.data.toList = [] := by
          have : t.data.toList = [] := List.eq_nil_of_length_eq_zero (by rw [size_list]; exact h0)
          rw [this]; rfl
        have Hn := hide hnil
        clear hnil h0
        go_wp2_with fail
        go_ret
        have h5 := Hacc.out.1
        rw [Hn.out, List.append_nil] at h5
        exact ⟨by rw [← h5]; rfl, hb⟩
      · by_cases h1 : t.size = 1
        · have e1 : ((t.size : Int) == 1) = true := by rw [beq_iff_eq]; omega
          have hp0 : 0 < t.size := by omega
          have hq0 : (0 : Int) < (t.size : Int) := by omega
          obtain ⟨ga, gb, gc, gd, hg⟩ := sx_four (t[0]'hp0).toNat 0 0
          have hG : ∀ w, Calls Tryd.prog 39 #[.int .u8 (t[0]'hp0).toNat, .int .u8 0, .int .u8 0] w fun e w' => e = .returned (.string ⟨#[ga, gb, gc, gd]⟩) ∧ Below w.heap.size w w' := fun w => by
            have := group_any (t[0]'hp0).toNat 0 0 (by have := (t[0]'hp0).toNat_lt; omega) (by omega) (by omega) w
            rw [hg] at this
            exact this
          have HG := hide hG
          have Hg := hide (show b64 t.data.toList = [ga, gb] ++ [61, 61] by
            have hl := size_list t
            have h00 := list_at t 0 hp0
            match ht : t.data.toList, hl with
            | [], hl => simp at hl; omega
            | [q], _ =>
              rw [ht] at h00
              simp only [List.getElem?_cons_zero, Option.some.injEq] at h00
              show (sx q.toNat 0 0).take 2 ++ [61, 61] = _
              rw [h00, hg]
              rfl
            | _ :: _ :: _, hl => simp at hl; omega)
          clear hG hg h1
          go_wp2_with fail
          refine (HG.out _).mono ?_
          rintro e w2 ⟨rfl, hbg⟩
          have hown2 := own_below Hacc.out.2 hbg
          have hbb := hb.trans (hbg.mono hb.size)
          go_wp2_with (at_builtin; refine Lib.wpList_append_own_string _ rfl _ _ 33 9 rfl w.heap.size 5 i0 Tryd.underlying33 Tryd.underlying9 H.out.1 H.out.2.1 H.out.2.2.1 H.out.2.2.2 _ acc.length (Lib.byteCells acc) rfl hown2 _ rfl ?c3 ?c4 ?c5 ?_)
          case c3 => show acc.length + 2 ≤ _; unfold maxLen; omega
          case c4 => show acc.length + 2 ≤ _; omega
          case c5 => exact Nat.le_trans hb.size hbg.size
          intro v1 w3 hown3 hgr3 _
          have hb3 := hbb.grown hgr3 (Nat.le_trans hb.size hbg.size) (fun k hk => own_lt hown2 k hk)
          have hown4 : w3.ownsRow w.heap.size 5 1 v1 (acc ++ [ga, gb]).length (Lib.byteCells (acc ++ [ga, gb])) := by
            rw [List.length_append, Lib.byteCells_append]; exact hown3
          clear hown3 hgr3 hown2 hbg hbb
          go_wp2_with (at_builtin; refine Lib.wpList_append_own_string _ rfl _ _ 33 9 rfl w.heap.size 5 i0 Tryd.underlying33 Tryd.underlying9 H.out.1 H.out.2.1 H.out.2.2.1 H.out.2.2.2 _ (acc ++ [ga, gb]).length (Lib.byteCells (acc ++ [ga, gb])) rfl hown4 ⟨#[61, 61]⟩ rfl ?c6 ?c7 ?c8 ?_)
          case c6 => rw [List.length_append]; show acc.length + 2 + 2 ≤ _; unfold maxLen; omega
          case c7 => rw [List.length_append]; show acc.length + 2 + 2 ≤ _; omega
          case c8 => exact hb3.size
          intro v2 w4 hown5 hgr5 _
          have hb5 := hb3.grown hgr5 hb3.size (fun k hk => own_lt hown4 k hk)
          obtain ⟨aF, haF⟩ : ∃ aF, aF = acc ++ [ga, gb] ++ [61, 61] := ⟨_, rfl⟩
          have cv : (convert 33 9 v2).run Tryd.prog w4 = .ok (.string ⟨aF.toArray⟩) w4 := conv_own (B := w.heap.size) (by
            rw [haF, Lib.byteCells_append, List.length_append, List.length_append]; exact hown5)
          have HF := hide (show b64 s.data.toList = aF by rw [haF, ← Hacc.out.1, Hg.out, List.append_assoc])
          clear hown5 hgr5 hown4 hb3 haF
          go_wp2_with fail
          go_ret
          exact ⟨by rw [HF.out]; rfl, hb5⟩
        · have e1 : ((t.size : Int) == 1) = false := by rw [beq_eq_false_iff_ne]; omega
          have e2 : ((t.size : Int) == 2) = true := by rw [beq_iff_eq]; omega
          have h2 : t.size = 2 := by omega
          have hp0 : 0 < t.size := by omega
          have hq0 : (0 : Int) < (t.size : Int) := by omega
          have hp1 : 1 < t.size := by omega
          have hq1 : (1 : Int) < (t.size : Int) := by omega
          obtain ⟨ga, gb, gc, gd, hg⟩ := sx_four (t[0]'hp0).toNat (t[1]'hp1).toNat 0
          have hG : ∀ w, Calls Tryd.prog 39 #[.int .u8 (t[0]'hp0).toNat, .int .u8 (t[1]'hp1).toNat, .int .u8 0] w fun e w' => e = .returned (.string ⟨#[ga, gb, gc, gd]⟩) ∧ Below w.heap.size w w' := fun w => by
            have := group_any (t[0]'hp0).toNat (t[1]'hp1).toNat 0 (by have := (t[0]'hp0).toNat_lt; omega) (by have := (t[1]'hp1).toNat_lt; omega) (by omega) w
            rw [hg] at this
            exact this
          have HG := hide hG
          have Hg := hide (show b64 t.data.toList = [ga, gb, gc] ++ [61] by
            have hl := size_list t
            have h00 := list_at t 0 hp0
            have h01 := list_at t 1 hp1
            match ht : t.data.toList, hl with
            | [], hl => simp at hl; omega
            | [_], hl => simp at hl; omega
            | [q, r], _ =>
              rw [ht] at h00 h01
              simp only [List.getElem?_cons_zero, List.getElem?_cons_succ, Option.some.injEq] at h00 h01
              show (sx q.toNat r.toNat 0).take 3 ++ [61] = _
              rw [h00, h01, hg]
              rfl
            | _ :: _ :: _ :: _, hl => simp at hl; omega)
          clear hG hg h1 h2
          go_wp2_with fail
          go_region_held3 (fun w' => True) (trivial) (first | (go_at_call 39; refine (HG.out _).mono ?_; rintro e w2 ⟨rfl, hbg⟩) | (refine step_append_str (by rfl) _ _ 33 9 (by rfl) w.heap.size 5 i0 Tryd.underlying33 Tryd.underlying9 H.out.1 H.out.2.1 H.out.2.2.1 H.out.2.2.2 _ acc.length (Lib.byteCells acc) (by rfl) (own_below (w := wr.drew) Hacc.out.2 hbg) ((⟨#[ga, gb, gc, gd]⟩ : ByteArray).extract 0 3) (by rfl) (lenOk3 hlen ht hs) (lenOk4 hlen ht hs) (szOk hb hbg) ?_; intro v' w3 hown3 hgrow))
          all_goals
            have hb3 := (hb.drew.trans (hbg.mono (by rw [World.size_drew]; exact hb.size))).grown hgrow (szOk hb hbg) (fun k hk => own_lt Hacc.out.2 k hk)
            have hown4 : w3.ownsRow w.heap.size 5 1 v' (acc ++ [ga, gb, gc]).length (Lib.byteCells (acc ++ [ga, gb, gc])) := by
              rw [List.length_append, Lib.byteCells_append]; exact hown3
            have hba : Below w3.heap.size w3 (w3.alloc (.cells #[.int .u8 61] 5)) := (Below.refl _ _).alloc (Nat.le_refl _) _
            have hown5 := own_below hown4 hba
            have hb4 := hb3.alloc hb3.size (.cells #[.int .u8 61] 5)
            clear hown3 hgrow hbg hba
            go_wp2_with (at_builtin; refine wpList_append_lies _ rfl _ _ 33 rfl w.heap.size 5 i0 (.int .u8 0) 1 1 Tryd.underlying33 H.out.1 H.out.2.1 H.out.2.2.1 H.out.2.2.2 rfl (by omega) _ (acc ++ [ga, gb, gc]).length (Lib.byteCells (acc ++ [ga, gb, gc])) rfl hown5 ⟨w3.heap.size, 0, none⟩ 1 1 [.int .u8 61] rfl rfl ?c6 ?c7 (by omega) ?c8 ?c9 ?c10 _ rfl ?_)
            case c6 => intro j u hj; cases j with
              | zero => cases hj; simp [Addr.add]
              | succ j => simp at hj
            case c7 => intro u hu; simp at hu; subst hu; rfl
            case c8 => rw [List.length_append]; show acc.length + 3 + 1 ≤ _; unfold maxLen; omega
            case c9 => rw [List.length_append]; show (acc.length + 3 + 1) * 1 ≤ _; omega
            case c10 => exact hb4.size
            intro g cap w5 hown6 hgr6 _ _
            have hb5 := hb4.grown hgr6 hb4.size (fun k hk => own_lt hown5 k hk)
            obtain ⟨aF, haF⟩ : ∃ aF, aF = acc ++ [ga, gb, gc] ++ [61] := ⟨_, rfl⟩
            have cv : (convert 33 9 (.slice (some ⟨g, 0, none⟩) (acc.length + 3 + 1) cap)).run Tryd.prog w5 = .ok (.string ⟨aF.toArray⟩) w5 := conv_own (B := w.heap.size) (by
              have haL : aF.length = acc.length + 3 + 1 := by rw [haF]; simp
              rw [haL, haF, Lib.byteCells_append]; exact hown6)
            have HF := hide (show b64 s.data.toList = aF by rw [haF, ← Hacc.out.1, Hg.out, List.append_assoc])
            clear hown4 hown5 hown6 hgr6 hb3 hb4 haF
            go_wp2_with fail
            go_ret
            exact ⟨by rw [HF.out]; rfl, hb5⟩
end Go.Proofs.YtnlmohegkmegcabDoor
