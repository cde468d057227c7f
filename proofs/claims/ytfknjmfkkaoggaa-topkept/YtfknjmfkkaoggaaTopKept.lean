/- TopKept. -/
import Derived.Test.YtfknjmfkkaoggaaS22
namespace Go.Proofs.Ytfknjmfkkaoggaa
open Go.RowKit Go.Shelf

set_option maxRecDepth 100000 in
set_option maxHeartbeats 4000000 in
theorem topKept_any (ao : Option Addr) (cap : Nat) (ts : List ByteArray) (co : Option Addr) (ccap : Nat) (cs : List UInt8) (so : Option Addr) (sc : Nat) (sv : List Bool) (w : World) (hT : TxMem w.heap.size w ao ts) (_hcl : cs.length ≤ ccap) (hcm : ccap ≤ 9223372036854775807) (hC : ByteMem w.heap.size w co cs) (hV : BoolMem w.heap.size w so sv) :
    Calls Try.prog 12 #[.slice ao ts.length cap, .slice co cs.length ccap, .slice so sv.length sc] w fun e w' => e = .returned (.bool true) ∧ Below w.heap.size w w' := by
  have H0 := hide (new_any w.heap.size 40 w (Nat.le_refl _) (by omega) (by omega))
  have hlen := hT.1
  have HT := hide (And.intro hT (And.intro hC hV))
  obtain ⟨tn, htn⟩ : ∃ tn, ts.length = tn := ⟨_, rfl⟩
  obtain ⟨cn, hcn⟩ : ∃ cn, cs.length = cn := ⟨_, rfl⟩
  obtain ⟨sn, hsn⟩ : ∃ sn, sv.length = sn := ⟨_, rfl⟩
  rw [htn, hcn, hsn]
  rw [htn] at hlen
  have hcle : cn ≤ 9223372036854775807 := by omega
  clear hT hC hV
  go_enter Try.func12, Try.ntmps12
  go_wp2_with (first
    | (go_at_call 29; refine H0.out.mono ?_; rintro e w1 ⟨p0, vl0, rfl, d1, hp1, b1⟩; have s1 := b1.size; have H1 := hide (And.intro d1 b1); clear d1 b1)
    | (go_at_call 26; refine (sto_new (by omega) (by omega) H1.out.1 (by omega)).mono ?_; rintro e w2 ⟨q, p, vl, vw, rfl, d2, hq, b2, f2⟩; have s2 := b2.size; have H2 := hide (And.intro d2 (H1.out.2.trans (b2.mono s1))); clear d2 b2 f2))
  go_loopw [8, 9, 10] (fun st la i wr => ∃ (k : Nat) (bl : ByteArray) (q kk tt p : Nat) (d : Dv) (vl vw : Value), k ≤ min tn 12 ∧ i = .int .i64 k ∧ la = .string bl ∧ st = .pointer (some ⟨q, 0, none⟩) ∧ tt ≤ k ∧ Sto w.heap.size q kk (BitVec.ofNat 64 tt) bl.data.toList 40 p d vl vw wr ∧ Below w.heap.size w wr) (fun _ _ i _ => min tn 12 - (intOf i).toNat)
  case atStart => exact ⟨0, ⟨#[]⟩, _, _, 0, _, _, _, _, Nat.zero_le _, rfl, rfl, rfl, Nat.le_refl _, H2.out.1, H2.out.2⟩
  case round =>
    obtain ⟨k, bl, q, kk, tt, p, d, vl3, vw3, hk, rfl, rfl, rfl, htt, hS, hbw⟩ := hrel
    have hw1 : IntKind.i64.wrap ((k : Int) + 1) = k + 1 := by rw [IntKind.wrap_i64]; omega
    by_cases hlt : k < min tn 12
    · have hl1 : (k : Int) < tn := by omega
      have hl2 : (k : Int) < 12 := by omega
      obtain ⟨t, ht⟩ : ∃ t, ts[k]? = some t := ⟨ts[k]'(by omega), by simp⟩
      obtain ⟨bb, off, rfl, hb0, c0⟩ := (HT.out.1.below hbw).2 k t ht
      have HS := hide (And.intro hS hbw)
      have s0 := hS.low
      clear hS hbw
      have htk : (BitVec.ofNat 64 tt).toNat = tt := by rw [BitVec.toNat_ofNat]; omega
      have hinc : BitVec.ofNat 64 tt + 1#64 = BitVec.ofNat 64 (tt + 1) := by
        apply BitVec.eq_of_toNat_eq
        rw [inc_nat (by omega), htk, BitVec.toNat_ofNat]
        omega
      have hc1 : ∀ x : Nat, ((40 - 2) / 2 * 64 : Nat) = 1216 := fun _ => rfl
      by_cases h2 : 1216 < t.size
      · have h2i : (1216 : Int) < t.size := by omega
        have h2j : (1216 : Int) ≤ t.size := by omega
        go_wp2_with (first
          | (go_at_call 23; refine (room_sto HS.out.1).mono ?_; rintro e w3 ⟨rfl, b3⟩; have s3 := b3.size; have H3 := hide (And.intro (HS.out.1.below b3) (HS.out.2.trans (b3.mono (by omega)))); clear b3; refine stopHere ?_))
        unfold Hid
        go_wp2_with (first
          | (go_at_call 23; refine (room_sto H3.out.1).mono ?_; rintro e w4 ⟨rfl, b4⟩; have s4 := b4.size; have HX := hide (And.intro (H3.out.1.below b4) (H3.out.2.trans (b4.mono (by omega)))); clear b4; refine stopHere ?_))
        unfold Hid
        have s3' := s3
        obtain ⟨u, hu, hul⟩ : ∃ u : ByteArray, t.extract 0 1216 = u ∧ u.size ≤ 1216 := ⟨_, rfl, by rw [ByteArray.size_extract]; omega⟩
        have hsl : ∀ V, (Instr.slice 9 (.string t) none (some (.int .i64 1216)) none).run Try.prog V = .ok (.string u) V := fun V => by
          rw [← hu]
          simp [go_sem, h2j]
        by_cases hci : k < cn
        · obtain ⟨c, hc⟩ : ∃ c, cs[k]? = some c := ⟨cs[k]'(by omega), by simp⟩
          obtain ⟨cb, co', rfl, hcb0, hcc⟩ := (HT.out.2.1.below HX.out.2) k c hc
          have hci' : (k : Int) < cn := by omega
          have hc8 := c.toNat_lt
          by_cases hev : c.toNat % 2 = 0
          · have hev1 : Int.tmod (c.toNat : Int) 2 = 0 := by rw [Int.tmod_eq_emod_of_nonneg (by omega)]; omega
            obtain ⟨W5, c5, cv5, m5, b5, z5, hc5⟩ := str_bytes w4 u
            obtain ⟨wri, hwri⟩ : ∃ wri : Nat, c.toNat / 2 % 24 = wri := ⟨_, rfl⟩
            have hq3 : (c.toNat : Int) / 2 % 24 = wri := by omega
            have hb5 := HX.out.2.trans (b5.mono (show w.heap.size ≤ w4.heap.size by omega))
            have hvm := HT.out.2.2.below hb5
            obtain ⟨_, _, e9, _, hcc5⟩ := (HT.out.2.1.below hb5) k c hc
            cases e9
            have hsv := torn_sto (HX.out.1.below b5) _ _ u.size c5 (wri : Int) so sv sc m5 (fun g o _ e => by
              cases e
              exact ⟨by omega, fun hf => by have := (HX.out.1.lt hf).2; omega⟩) (size_toList u) hc5 (by omega) (by omega) (by omega) ⟨hvm.1, fun j v hj => (hvm.2 j v hj).imp fun b ⟨o, e1, e2, e3⟩ => ⟨o, e1, by have := hb5.size; omega, e3⟩⟩ (fun j v b off hj e hf => by
                obtain ⟨b', o', e1, e2, _⟩ := hvm.2 j v hj
                rw [e] at e1
                cases e1
                have := (HX.out.1.lt hf).1
                omega)
            rw [hinc, hsn] at hsv
            have HV := hide hsv
            have H5 := hide (And.intro hvm (And.intro trivial hb5))
            clear m5 b5 hsv hvm hb5
            go_wp2_with (first
              | (go_at_call 24; (first | rw [hq3] | skip); refine HV.out.mono ?_; rintro e w6 ⟨rfl, h6⟩; refine stopHere ?_))
            unfold Hid
            rcases h6 with h6 | ⟨_, h6⟩
            · skip
              obtain ⟨vl6, vw6, d6, f6, n6⟩ := h6
              have s6 := f6.below.size
              have H6 := hide (And.intro d6 (H5.out.2.2.trans f6.below))
              clear d6 f6 n6

              go_wp2_with (first
                | (go_at_call 20; refine (load_str H6.out.1 bl (mk_toList bl)).mono ?_; rintro e w7 ⟨v7, rfl, cv7, b7⟩; have s7 := b7.size; have H7 := hide (And.intro (H6.out.1.below b7) (H6.out.2.trans (b7.mono (by omega)))); clear b7; refine stopHere ?_))
              unfold Hid
              go_wp2_with (first
                | (go_at_call 20; refine (load_str H7.out.1 bl (mk_toList bl)).mono ?_; rintro e w8 ⟨v8, rfl, cv8, b8⟩; have s8 := b8.size; have H8 := hide (And.intro (H7.out.1.below b8) (H7.out.2.trans (b8.mono (by omega)))); clear b8; refine stopHere ?_))
              unfold Hid

              go_wp2_with (first
                | (go_at_call 27; refine (device_any w.heap.size q p _ _ _ w8 H8.out.1.is H8.out.1.ok (by omega)).mono ?_; rintro e w20 ⟨p20, l20, a20, rfl, d20, b20, _⟩; have s20 := b20.size; have H20 := hide (And.intro d20 (H8.out.2.trans (b20.mono (by omega)))); clear d20 b20)
                | (go_at_call 26; refine (open_sto H20.out.1 H8.out.1.inv (by omega) H8.out.1.size (by omega) (by omega)).mono ?_; rintro e w21 ⟨q21, p21, l21, a21, rfl, d21, hq21, b21, _⟩; have s21 := b21.size; have H21 := hide (And.intro d21 (H20.out.2.trans (b21.mono (by omega)))); clear d21 b21)
                | (go_at_call 20; refine (load_str H21.out.1 bl (mk_toList bl)).mono ?_; rintro e w22 ⟨v22, rfl, cv22, b22⟩; have H22 := hide (And.intro (H21.out.1.below b22) (H21.out.2.trans (b22.mono (by omega)))); clear b22))
              go_roundw
              case rel => exact ⟨k + 1, bl, q21, _, tt, p21, _, l21, a21, by omega, by simp, rfl, rfl, by omega, H22.out.1, H22.out.2⟩
              case measure => simp [intOf]; omega

            · by_cases hbu : u = bl
              · subst hbu
                obtain ⟨vl6, vw6, d6, f6, n6⟩ := h6
                have s6 := f6.below.size
                have H6 := hide (And.intro d6 (H5.out.2.2.trans f6.below))
                clear d6 f6 n6

                go_wp2_with (first
                  | (go_at_call 20; refine (load_str H6.out.1 u (mk_toList u)).mono ?_; rintro e w7 ⟨v7, rfl, cv7, b7⟩; have s7 := b7.size; have H7 := hide (And.intro (H6.out.1.below b7) (H6.out.2.trans (b7.mono (by omega)))); clear b7; refine stopHere ?_))
                unfold Hid
                go_wp2_with (first
                  | (go_at_call 20; refine (load_str H7.out.1 u (mk_toList u)).mono ?_; rintro e w8 ⟨v8, rfl, cv8, b8⟩; have s8 := b8.size; have H8 := hide (And.intro (H7.out.1.below b8) (H7.out.2.trans (b8.mono (by omega)))); clear b8; refine stopHere ?_))
                unfold Hid

                go_wp2_with (first
                  | (go_at_call 27; refine (device_any w.heap.size q p _ _ _ w8 H8.out.1.is H8.out.1.ok (by omega)).mono ?_; rintro e w20 ⟨p20, l20, a20, rfl, d20, b20, _⟩; have s20 := b20.size; have H20 := hide (And.intro d20 (H8.out.2.trans (b20.mono (by omega)))); clear d20 b20)
                  | (go_at_call 26; refine (open_sto H20.out.1 H8.out.1.inv (by omega) H8.out.1.size (by omega) (by omega)).mono ?_; rintro e w21 ⟨q21, p21, l21, a21, rfl, d21, hq21, b21, _⟩; have s21 := b21.size; have H21 := hide (And.intro d21 (H20.out.2.trans (b21.mono (by omega)))); clear d21 b21)
                  | (go_at_call 20; refine (load_str H21.out.1 u (mk_toList u)).mono ?_; rintro e w22 ⟨v22, rfl, cv22, b22⟩; have H22 := hide (And.intro (H21.out.1.below b22) (H21.out.2.trans (b22.mono (by omega)))); clear b22))
                go_roundw
                case rel => exact ⟨k + 1, u, q21, _, tt + 1, p21, _, l21, a21, by omega, by simp, rfl, rfl, by omega, H22.out.1, H22.out.2⟩
                case measure => simp [intOf]; omega

              · have hbu1 := str_ne hbu
                obtain ⟨vl6, vw6, d6, f6, n6⟩ := h6
                have s6 := f6.below.size
                have H6 := hide (And.intro d6 (H5.out.2.2.trans f6.below))
                clear d6 f6 n6

                go_wp2_with (first
                  | (go_at_call 20; refine (load_str H6.out.1 u (mk_toList u)).mono ?_; rintro e w7 ⟨v7, rfl, cv7, b7⟩; have s7 := b7.size; have H7 := hide (And.intro (H6.out.1.below b7) (H6.out.2.trans (b7.mono (by omega)))); clear b7; refine stopHere ?_))
                unfold Hid
                go_wp2_with (first
                  | (go_at_call 20; refine (load_str H7.out.1 u (mk_toList u)).mono ?_; rintro e w8 ⟨v8, rfl, cv8, b8⟩; have s8 := b8.size; have H8 := hide (And.intro (H7.out.1.below b8) (H7.out.2.trans (b8.mono (by omega)))); clear b8; refine stopHere ?_))
                unfold Hid

                go_wp2_with (first
                  | (go_at_call 27; refine (device_any w.heap.size q p _ _ _ w8 H8.out.1.is H8.out.1.ok (by omega)).mono ?_; rintro e w20 ⟨p20, l20, a20, rfl, d20, b20, _⟩; have s20 := b20.size; have H20 := hide (And.intro d20 (H8.out.2.trans (b20.mono (by omega)))); clear d20 b20)
                  | (go_at_call 26; refine (open_sto H20.out.1 H8.out.1.inv (by omega) H8.out.1.size (by omega) (by omega)).mono ?_; rintro e w21 ⟨q21, p21, l21, a21, rfl, d21, hq21, b21, _⟩; have s21 := b21.size; have H21 := hide (And.intro d21 (H20.out.2.trans (b21.mono (by omega)))); clear d21 b21)
                  | (go_at_call 20; refine (load_str H21.out.1 u (mk_toList u)).mono ?_; rintro e w22 ⟨v22, rfl, cv22, b22⟩; have H22 := hide (And.intro (H21.out.1.below b22) (H21.out.2.trans (b22.mono (by omega)))); clear b22))
                go_roundw
                case rel => exact ⟨k + 1, u, q21, _, tt + 1, p21, _, l21, a21, by omega, by simp, rfl, rfl, by omega, H22.out.1, H22.out.2⟩
                case measure => simp [intOf]; omega

          · have hev1 : Int.tmod (c.toNat : Int) 2 = 1 := by rw [Int.tmod_eq_emod_of_nonneg (by omega)]; omega
            obtain ⟨W5, c5, cv5, m5, b5, z5, hc5⟩ := str_bytes w4 u
            have hsv := save_sto (HX.out.1.below b5) _ _ u.size c5 m5 (fun g o _ e => by
              cases e
              exact ⟨by omega, fun hf => by have := (HX.out.1.lt hf).2; omega⟩) (size_toList u) hc5 (by omega) (by omega)
            rw [hinc] at hsv
            have HV := hide hsv
            have H5 := hide (HX.out.2.trans (b5.mono (by omega)))
            clear m5 b5 hsv
            go_wp2_with (first
              | (go_at_call 22; refine HV.out.mono ?_; rintro e w6 ⟨rfl, vl6, vw6, d6, f6, n6⟩; have s6 := f6.below.size; have H6 := hide (And.intro d6 (H5.out.trans f6.below)); clear d6 f6 n6)
              | (go_at_call 20; refine (load_str H6.out.1 u (mk_toList u)).mono ?_; rintro e w7 ⟨v7, rfl, cv7, b7⟩; have s7 := b7.size; have H7 := hide (And.intro (H6.out.1.below b7) (H6.out.2.trans (b7.mono (by omega)))); clear b7; refine stopHere ?_))
            unfold Hid

            go_wp2_with (first
              | (go_at_call 27; refine (device_any w.heap.size q p _ _ _ w7 H7.out.1.is H7.out.1.ok (by omega)).mono ?_; rintro e w20 ⟨p20, l20, a20, rfl, d20, b20, _⟩; have s20 := b20.size; have H20 := hide (And.intro d20 (H7.out.2.trans (b20.mono (by omega)))); clear d20 b20)
              | (go_at_call 26; refine (open_sto H20.out.1 H7.out.1.inv (by omega) H7.out.1.size (by omega) (by omega)).mono ?_; rintro e w21 ⟨q21, p21, l21, a21, rfl, d21, hq21, b21, _⟩; have s21 := b21.size; have H21 := hide (And.intro d21 (H20.out.2.trans (b21.mono (by omega)))); clear d21 b21)
              | (go_at_call 20; refine (load_str H21.out.1 u (mk_toList u)).mono ?_; rintro e w22 ⟨v22, rfl, cv22, b22⟩; have H22 := hide (And.intro (H21.out.1.below b22) (H21.out.2.trans (b22.mono (by omega)))); clear b22))
            go_roundw
            case rel => exact ⟨k + 1, u, q21, _, tt + 1, p21, _, l21, a21, by omega, by simp, rfl, rfl, by omega, H22.out.1, H22.out.2⟩
            case measure => simp [intOf]; omega

        · have hci' : ¬ (k : Int) < cn := by omega
          obtain ⟨W5, c5, cv5, m5, b5, z5, hc5⟩ := str_bytes w4 u
          have hsv := save_sto (HX.out.1.below b5) _ _ u.size c5 m5 (fun g o _ e => by
            cases e
            exact ⟨by omega, fun hf => by have := (HX.out.1.lt hf).2; omega⟩) (size_toList u) hc5 (by omega) (by omega)
          rw [hinc] at hsv
          have HV := hide hsv
          have H5 := hide (HX.out.2.trans (b5.mono (by omega)))
          clear m5 b5 hsv
          go_wp2_with (first
            | (go_at_call 22; refine HV.out.mono ?_; rintro e w6 ⟨rfl, vl6, vw6, d6, f6, n6⟩; have s6 := f6.below.size; have H6 := hide (And.intro d6 (H5.out.trans f6.below)); clear d6 f6 n6)
            | (go_at_call 20; refine (load_str H6.out.1 u (mk_toList u)).mono ?_; rintro e w7 ⟨v7, rfl, cv7, b7⟩; have s7 := b7.size; have H7 := hide (And.intro (H6.out.1.below b7) (H6.out.2.trans (b7.mono (by omega)))); clear b7; refine stopHere ?_))
          unfold Hid

          go_wp2_with (first
            | (go_at_call 27; refine (device_any w.heap.size q p _ _ _ w7 H7.out.1.is H7.out.1.ok (by omega)).mono ?_; rintro e w20 ⟨p20, l20, a20, rfl, d20, b20, _⟩; have s20 := b20.size; have H20 := hide (And.intro d20 (H7.out.2.trans (b20.mono (by omega)))); clear d20 b20)
            | (go_at_call 26; refine (open_sto H20.out.1 H7.out.1.inv (by omega) H7.out.1.size (by omega) (by omega)).mono ?_; rintro e w21 ⟨q21, p21, l21, a21, rfl, d21, hq21, b21, _⟩; have s21 := b21.size; have H21 := hide (And.intro d21 (H20.out.2.trans (b21.mono (by omega)))); clear d21 b21)
            | (go_at_call 20; refine (load_str H21.out.1 u (mk_toList u)).mono ?_; rintro e w22 ⟨v22, rfl, cv22, b22⟩; have H22 := hide (And.intro (H21.out.1.below b22) (H21.out.2.trans (b22.mono (by omega)))); clear b22))
          go_roundw
          case rel => exact ⟨k + 1, u, q21, _, tt + 1, p21, _, l21, a21, by omega, by simp, rfl, rfl, by omega, H22.out.1, H22.out.2⟩
          case measure => simp [intOf]; omega

      · have h2i : ¬ (1216 : Int) < t.size := by omega
        obtain ⟨u, hu, hul⟩ : ∃ u : ByteArray, t = u ∧ u.size ≤ 1216 := ⟨_, rfl, by omega⟩
        rw [hu] at c0 h2i
        go_wp2_with (first
          | (go_at_call 23; refine (room_sto HS.out.1).mono ?_; rintro e w3 ⟨rfl, b3⟩; have s3 := b3.size; have HX := hide (And.intro (HS.out.1.below b3) (HS.out.2.trans (b3.mono (by omega)))); clear b3; refine stopHere ?_))
        unfold Hid
        by_cases hci : k < cn
        · obtain ⟨c, hc⟩ : ∃ c, cs[k]? = some c := ⟨cs[k]'(by omega), by simp⟩
          obtain ⟨cb, co', rfl, hcb0, hcc⟩ := (HT.out.2.1.below HX.out.2) k c hc
          have hci' : (k : Int) < cn := by omega
          have hc8 := c.toNat_lt
          by_cases hev : c.toNat % 2 = 0
          · have hev1 : Int.tmod (c.toNat : Int) 2 = 0 := by rw [Int.tmod_eq_emod_of_nonneg (by omega)]; omega
            obtain ⟨W5, c5, cv5, m5, b5, z5, hc5⟩ := str_bytes w3 u
            obtain ⟨wri, hwri⟩ : ∃ wri : Nat, c.toNat / 2 % 24 = wri := ⟨_, rfl⟩
            have hq3 : (c.toNat : Int) / 2 % 24 = wri := by omega
            have hb5 := HX.out.2.trans (b5.mono (show w.heap.size ≤ w3.heap.size by omega))
            have hvm := HT.out.2.2.below hb5
            obtain ⟨_, _, e9, _, hcc5⟩ := (HT.out.2.1.below hb5) k c hc
            cases e9
            have hsv := torn_sto (HX.out.1.below b5) _ _ u.size c5 (wri : Int) so sv sc m5 (fun g o _ e => by
              cases e
              exact ⟨by omega, fun hf => by have := (HX.out.1.lt hf).2; omega⟩) (size_toList u) hc5 (by omega) (by omega) (by omega) ⟨hvm.1, fun j v hj => (hvm.2 j v hj).imp fun b ⟨o, e1, e2, e3⟩ => ⟨o, e1, by have := hb5.size; omega, e3⟩⟩ (fun j v b off hj e hf => by
                obtain ⟨b', o', e1, e2, _⟩ := hvm.2 j v hj
                rw [e] at e1
                cases e1
                have := (HX.out.1.lt hf).1
                omega)
            rw [hinc, hsn] at hsv
            have HV := hide hsv
            have H5 := hide (And.intro hvm (And.intro trivial hb5))
            clear m5 b5 hsv hvm hb5
            go_wp2_with (first
              | (go_at_call 24; (first | rw [hq3] | skip); refine HV.out.mono ?_; rintro e w6 ⟨rfl, h6⟩; refine stopHere ?_))
            unfold Hid
            rcases h6 with h6 | ⟨_, h6⟩
            · skip
              obtain ⟨vl6, vw6, d6, f6, n6⟩ := h6
              have s6 := f6.below.size
              have H6 := hide (And.intro d6 (H5.out.2.2.trans f6.below))
              clear d6 f6 n6

              go_wp2_with (first
                | (go_at_call 20; refine (load_str H6.out.1 bl (mk_toList bl)).mono ?_; rintro e w7 ⟨v7, rfl, cv7, b7⟩; have s7 := b7.size; have H7 := hide (And.intro (H6.out.1.below b7) (H6.out.2.trans (b7.mono (by omega)))); clear b7; refine stopHere ?_))
              unfold Hid
              go_wp2_with (first
                | (go_at_call 20; refine (load_str H7.out.1 bl (mk_toList bl)).mono ?_; rintro e w8 ⟨v8, rfl, cv8, b8⟩; have s8 := b8.size; have H8 := hide (And.intro (H7.out.1.below b8) (H7.out.2.trans (b8.mono (by omega)))); clear b8; refine stopHere ?_))
              unfold Hid

              go_wp2_with (first
                | (go_at_call 27; refine (device_any w.heap.size q p _ _ _ w8 H8.out.1.is H8.out.1.ok (by omega)).mono ?_; rintro e w20 ⟨p20, l20, a20, rfl, d20, b20, _⟩; have s20 := b20.size; have H20 := hide (And.intro d20 (H8.out.2.trans (b20.mono (by omega)))); clear d20 b20)
                | (go_at_call 26; refine (open_sto H20.out.1 H8.out.1.inv (by omega) H8.out.1.size (by omega) (by omega)).mono ?_; rintro e w21 ⟨q21, p21, l21, a21, rfl, d21, hq21, b21, _⟩; have s21 := b21.size; have H21 := hide (And.intro d21 (H20.out.2.trans (b21.mono (by omega)))); clear d21 b21)
                | (go_at_call 20; refine (load_str H21.out.1 bl (mk_toList bl)).mono ?_; rintro e w22 ⟨v22, rfl, cv22, b22⟩; have H22 := hide (And.intro (H21.out.1.below b22) (H21.out.2.trans (b22.mono (by omega)))); clear b22))
              go_roundw
              case rel => exact ⟨k + 1, bl, q21, _, tt, p21, _, l21, a21, by omega, by simp, rfl, rfl, by omega, H22.out.1, H22.out.2⟩
              case measure => simp [intOf]; omega

            · by_cases hbu : u = bl
              · subst hbu
                obtain ⟨vl6, vw6, d6, f6, n6⟩ := h6
                have s6 := f6.below.size
                have H6 := hide (And.intro d6 (H5.out.2.2.trans f6.below))
                clear d6 f6 n6

                go_wp2_with (first
                  | (go_at_call 20; refine (load_str H6.out.1 u (mk_toList u)).mono ?_; rintro e w7 ⟨v7, rfl, cv7, b7⟩; have s7 := b7.size; have H7 := hide (And.intro (H6.out.1.below b7) (H6.out.2.trans (b7.mono (by omega)))); clear b7; refine stopHere ?_))
                unfold Hid
                go_wp2_with (first
                  | (go_at_call 20; refine (load_str H7.out.1 u (mk_toList u)).mono ?_; rintro e w8 ⟨v8, rfl, cv8, b8⟩; have s8 := b8.size; have H8 := hide (And.intro (H7.out.1.below b8) (H7.out.2.trans (b8.mono (by omega)))); clear b8; refine stopHere ?_))
                unfold Hid

                go_wp2_with (first
                  | (go_at_call 27; refine (device_any w.heap.size q p _ _ _ w8 H8.out.1.is H8.out.1.ok (by omega)).mono ?_; rintro e w20 ⟨p20, l20, a20, rfl, d20, b20, _⟩; have s20 := b20.size; have H20 := hide (And.intro d20 (H8.out.2.trans (b20.mono (by omega)))); clear d20 b20)
                  | (go_at_call 26; refine (open_sto H20.out.1 H8.out.1.inv (by omega) H8.out.1.size (by omega) (by omega)).mono ?_; rintro e w21 ⟨q21, p21, l21, a21, rfl, d21, hq21, b21, _⟩; have s21 := b21.size; have H21 := hide (And.intro d21 (H20.out.2.trans (b21.mono (by omega)))); clear d21 b21)
                  | (go_at_call 20; refine (load_str H21.out.1 u (mk_toList u)).mono ?_; rintro e w22 ⟨v22, rfl, cv22, b22⟩; have H22 := hide (And.intro (H21.out.1.below b22) (H21.out.2.trans (b22.mono (by omega)))); clear b22))
                go_roundw
                case rel => exact ⟨k + 1, u, q21, _, tt + 1, p21, _, l21, a21, by omega, by simp, rfl, rfl, by omega, H22.out.1, H22.out.2⟩
                case measure => simp [intOf]; omega

              · have hbu1 := str_ne hbu
                obtain ⟨vl6, vw6, d6, f6, n6⟩ := h6
                have s6 := f6.below.size
                have H6 := hide (And.intro d6 (H5.out.2.2.trans f6.below))
                clear d6 f6 n6

                go_wp2_with (first
                  | (go_at_call 20; refine (load_str H6.out.1 u (mk_toList u)).mono ?_; rintro e w7 ⟨v7, rfl, cv7, b7⟩; have s7 := b7.size; have H7 := hide (And.intro (H6.out.1.below b7) (H6.out.2.trans (b7.mono (by omega)))); clear b7; refine stopHere ?_))
                unfold Hid
                go_wp2_with (first
                  | (go_at_call 20; refine (load_str H7.out.1 u (mk_toList u)).mono ?_; rintro e w8 ⟨v8, rfl, cv8, b8⟩; have s8 := b8.size; have H8 := hide (And.intro (H7.out.1.below b8) (H7.out.2.trans (b8.mono (by omega)))); clear b8; refine stopHere ?_))
                unfold Hid

                go_wp2_with (first
                  | (go_at_call 27; refine (device_any w.heap.size q p _ _ _ w8 H8.out.1.is H8.out.1.ok (by omega)).mono ?_; rintro e w20 ⟨p20, l20, a20, rfl, d20, b20, _⟩; have s20 := b20.size; have H20 := hide (And.intro d20 (H8.out.2.trans (b20.mono (by omega)))); clear d20 b20)
                  | (go_at_call 26; refine (open_sto H20.out.1 H8.out.1.inv (by omega) H8.out.1.size (by omega) (by omega)).mono ?_; rintro e w21 ⟨q21, p21, l21, a21, rfl, d21, hq21, b21, _⟩; have s21 := b21.size; have H21 := hide (And.intro d21 (H20.out.2.trans (b21.mono (by omega)))); clear d21 b21)
                  | (go_at_call 20; refine (load_str H21.out.1 u (mk_toList u)).mono ?_; rintro e w22 ⟨v22, rfl, cv22, b22⟩; have H22 := hide (And.intro (H21.out.1.below b22) (H21.out.2.trans (b22.mono (by omega)))); clear b22))
                go_roundw
                case rel => exact ⟨k + 1, u, q21, _, tt + 1, p21, _, l21, a21, by omega, by simp, rfl, rfl, by omega, H22.out.1, H22.out.2⟩
                case measure => simp [intOf]; omega

          · have hev1 : Int.tmod (c.toNat : Int) 2 = 1 := by rw [Int.tmod_eq_emod_of_nonneg (by omega)]; omega
            obtain ⟨W5, c5, cv5, m5, b5, z5, hc5⟩ := str_bytes w3 u
            have hsv := save_sto (HX.out.1.below b5) _ _ u.size c5 m5 (fun g o _ e => by
              cases e
              exact ⟨by omega, fun hf => by have := (HX.out.1.lt hf).2; omega⟩) (size_toList u) hc5 (by omega) (by omega)
            rw [hinc] at hsv
            have HV := hide hsv
            have H5 := hide (HX.out.2.trans (b5.mono (by omega)))
            clear m5 b5 hsv
            go_wp2_with (first
              | (go_at_call 22; refine HV.out.mono ?_; rintro e w6 ⟨rfl, vl6, vw6, d6, f6, n6⟩; have s6 := f6.below.size; have H6 := hide (And.intro d6 (H5.out.trans f6.below)); clear d6 f6 n6)
              | (go_at_call 20; refine (load_str H6.out.1 u (mk_toList u)).mono ?_; rintro e w7 ⟨v7, rfl, cv7, b7⟩; have s7 := b7.size; have H7 := hide (And.intro (H6.out.1.below b7) (H6.out.2.trans (b7.mono (by omega)))); clear b7; refine stopHere ?_))
            unfold Hid

            go_wp2_with (first
              | (go_at_call 27; refine (device_any w.heap.size q p _ _ _ w7 H7.out.1.is H7.out.1.ok (by omega)).mono ?_; rintro e w20 ⟨p20, l20, a20, rfl, d20, b20, _⟩; have s20 := b20.size; have H20 := hide (And.intro d20 (H7.out.2.trans (b20.mono (by omega)))); clear d20 b20)
              | (go_at_call 26; refine (open_sto H20.out.1 H7.out.1.inv (by omega) H7.out.1.size (by omega) (by omega)).mono ?_; rintro e w21 ⟨q21, p21, l21, a21, rfl, d21, hq21, b21, _⟩; have s21 := b21.size; have H21 := hide (And.intro d21 (H20.out.2.trans (b21.mono (by omega)))); clear d21 b21)
              | (go_at_call 20; refine (load_str H21.out.1 u (mk_toList u)).mono ?_; rintro e w22 ⟨v22, rfl, cv22, b22⟩; have H22 := hide (And.intro (H21.out.1.below b22) (H21.out.2.trans (b22.mono (by omega)))); clear b22))
            go_roundw
            case rel => exact ⟨k + 1, u, q21, _, tt + 1, p21, _, l21, a21, by omega, by simp, rfl, rfl, by omega, H22.out.1, H22.out.2⟩
            case measure => simp [intOf]; omega

        · have hci' : ¬ (k : Int) < cn := by omega
          obtain ⟨W5, c5, cv5, m5, b5, z5, hc5⟩ := str_bytes w3 u
          have hsv := save_sto (HX.out.1.below b5) _ _ u.size c5 m5 (fun g o _ e => by
            cases e
            exact ⟨by omega, fun hf => by have := (HX.out.1.lt hf).2; omega⟩) (size_toList u) hc5 (by omega) (by omega)
          rw [hinc] at hsv
          have HV := hide hsv
          have H5 := hide (HX.out.2.trans (b5.mono (by omega)))
          clear m5 b5 hsv
          go_wp2_with (first
            | (go_at_call 22; refine HV.out.mono ?_; rintro e w6 ⟨rfl, vl6, vw6, d6, f6, n6⟩; have s6 := f6.below.size; have H6 := hide (And.intro d6 (H5.out.trans f6.below)); clear d6 f6 n6)
            | (go_at_call 20; refine (load_str H6.out.1 u (mk_toList u)).mono ?_; rintro e w7 ⟨v7, rfl, cv7, b7⟩; have s7 := b7.size; have H7 := hide (And.intro (H6.out.1.below b7) (H6.out.2.trans (b7.mono (by omega)))); clear b7; refine stopHere ?_))
          unfold Hid

          go_wp2_with (first
            | (go_at_call 27; refine (device_any w.heap.size q p _ _ _ w7 H7.out.1.is H7.out.1.ok (by omega)).mono ?_; rintro e w20 ⟨p20, l20, a20, rfl, d20, b20, _⟩; have s20 := b20.size; have H20 := hide (And.intro d20 (H7.out.2.trans (b20.mono (by omega)))); clear d20 b20)
            | (go_at_call 26; refine (open_sto H20.out.1 H7.out.1.inv (by omega) H7.out.1.size (by omega) (by omega)).mono ?_; rintro e w21 ⟨q21, p21, l21, a21, rfl, d21, hq21, b21, _⟩; have s21 := b21.size; have H21 := hide (And.intro d21 (H20.out.2.trans (b21.mono (by omega)))); clear d21 b21)
            | (go_at_call 20; refine (load_str H21.out.1 u (mk_toList u)).mono ?_; rintro e w22 ⟨v22, rfl, cv22, b22⟩; have H22 := hide (And.intro (H21.out.1.below b22) (H21.out.2.trans (b22.mono (by omega)))); clear b22))
          go_roundw
          case rel => exact ⟨k + 1, u, q21, _, tt + 1, p21, _, l21, a21, by omega, by simp, rfl, rfl, by omega, H22.out.1, H22.out.2⟩
          case measure => simp [intOf]; omega
    · have HS := hide (And.intro hS hbw)
      have s0 := hS.low
      clear hS hbw
      rcases (show ¬ (k : Int) < tn ∨ ((k : Int) < tn ∧ ¬ (k : Int) < 12) by omega) with hx | ⟨hx, hx2⟩
      · go_wp2_with (first
          | (go_at_call 23; refine (room_sto HS.out.1).mono ?_; rintro e w5 ⟨rfl, b5⟩; have H5 := hide (HS.out.2.trans (b5.mono (by omega))); clear b5))
        go_ret
        exact ⟨rfl, H5.out⟩
      · go_wp2_with (first
          | (go_at_call 23; refine (room_sto HS.out.1).mono ?_; rintro e w5 ⟨rfl, b5⟩; have H5 := hide (HS.out.2.trans (b5.mono (by omega))); clear b5))
        go_ret
        exact ⟨rfl, H5.out⟩
end Go.Proofs.Ytfknjmfkkaoggaa
