/- TopPairs. -/
import Derived.Test.YtnbemfddcjhcaaaKF
import Derived.Test.YtnbemfddcjhcaaaS20
namespace Go.Proofs.Ytnbemfddcjhcaaa
open Go.RowKit Go.Shelf

/-- Pairs in memory. -/
def PrMem (n₀ : Nat) (w : World) (ao : Option Addr) (l : List (ByteArray × ByteArray)) : Prop := l.length ≤ 9223372036854775807 ∧ ∀ (k : Nat) (x : ByteArray × ByteArray), l[k]? = some x → ∃ b o, ao = some ⟨b, o, none⟩ ∧ b < n₀ ∧ w.cell? ⟨b, o + k * 2, none⟩ = some (.string x.1) ∧ w.cell? ⟨b, o + k * 2 + 1, none⟩ = some (.string x.2)
theorem PrMem.below {n₀ : Nat} {w w' : World} {ao : Option Addr} {l : List (ByteArray × ByteArray)} (h : PrMem n₀ w ao l) (hb : Below n₀ w w') : PrMem n₀ w' ao l := by
  refine ⟨h.1, fun k x hk => ?_⟩
  obtain ⟨b, o, e1, e2, c0, c1⟩ := h.2 k x hk
  exact ⟨b, o, e1, e2, (hb.cell (p := ⟨b, _, none⟩) e2).trans c0, (hb.cell (p := ⟨b, _, none⟩) e2).trans c1⟩
theorem own_split {w : World} {base n : Nat} {v : Value} {l : List UInt8} (h : w.ownsRow base 5 1 v l.length (Lib.byteCells l)) (hn : l.length = n) : ∃ ga gc, v = .slice ga n gc ∧ n ≤ gc ∧ ByteMem w.heap.size w ga l ∧ ∀ g o, l ≠ [] → ga = some ⟨g, o, none⟩ → base ≤ g ∧ g < w.heap.size := by
  have h0 := h
  obtain ⟨h1, ⟨rfl, h2⟩ | ⟨g, cap, cur, rfl, x1, x2, x3, x4, x5, x6⟩⟩ := h
  · have hl : l = [] := List.eq_nil_of_length_eq_zero h2
    subst hl
    subst hn
    exact ⟨none, 0, rfl, Nat.le_refl _, fun j c hj => (by cases hj), fun g o hne => absurd rfl hne⟩
  · refine ⟨_, cap, by rw [hn], by omega, own_bytes h0 rfl, fun g' o _ e => ?_⟩
    cases e
    exact ⟨x1, hp_lt x2⟩
theorem load_own {base q k : Nat} {t : V} {l : List UInt8} {sz p : Nat} {d : Dv} {vl vw : Value} {w : World} (h : Sto base q k t l sz p d vl vw w) :
    Calls Try.prog 11 #[.pointer (some ⟨q, 0, none⟩)] w fun e w' => ∃ v, e = .returned v ∧ w'.ownsRow w.heap.size 5 1 v l.length (Lib.byteCells l) ∧ Below w.heap.size w w' := by
  refine (load_sto h).mono ?_
  rintro e w' ⟨ga, gc, rfl, o, b⟩
  exact ⟨_, rfl, o, b⟩
set_option maxRecDepth 100000 in
set_option maxHeartbeats 4000000 in
theorem topPairs_any (ao : Option Addr) (cap : Nat) (ps : List (ByteArray × ByteArray)) (w : World) (hT : PrMem w.heap.size w ao ps) :
    Calls Try.prog 3 #[.slice ao ps.length cap] w fun e w' => e = .returned (.bool true) ∧ Below w.heap.size w w' := by
  have H0 := hide (Kv.kvNew_any w.heap.size w (Nat.le_refl _))
  have hlen := hT.1
  have HT := hide hT
  obtain ⟨tn, htn⟩ : ∃ tn, ps.length = tn := ⟨_, rfl⟩
  rw [htn] at hlen ⊢
  clear hT
  go_enter Try.func3, Try.ntmps3
  go_wp2_with (first
    | (go_at_call 4; refine H0.out.mono ?_; rintro e w1 ⟨pm, bm, rfl, d1, b1, f1⟩; have s1 := b1.size; have H1 := hide (And.intro d1 b1); clear d1 b1 f1))
  go_loopw [4] (fun i wr => ∃ (k : Nat) (L : List Kv.Pr), k ≤ min tn 20 ∧ i = .int .i64 k ∧ Kv.IsM w.heap.size pm bm L wr ∧ Kv.Good L ∧ L.length ≤ k ∧ (∀ x ∈ L, x.2.size ≤ 60) ∧ Below w.heap.size w wr) (fun i _ => min tn 20 - (intOf i).toNat)
  case atStart => exact ⟨0, [], Nat.zero_le _, rfl, H1.out.1, ⟨by simp, fun x hx => by cases hx⟩, Nat.le_refl _, fun x hx => (by cases hx), H1.out.2⟩
  case round =>
    obtain ⟨k, L, hk, rfl, hM, hG, hL, hsm, hbw⟩ := hrel
    have hw1 : IntKind.i64.wrap ((k : Int) + 1) = k + 1 := by rw [IntKind.wrap_i64]; omega
    have hlow := hbw.size
    by_cases hlt : k < min tn 20
    · have hl1 : (k : Int) < tn := by omega
      have hl2 : (k : Int) < 20 := by omega
      obtain ⟨x, hx⟩ : ∃ x, ps[k]? = some x := ⟨ps[k]'(by omega), by simp⟩
      obtain ⟨bb, off, rfl, hb0, c0, c1⟩ := (HT.out.below hbw).2 k x hx
      have HS := hide (And.intro hM (And.intro hG (And.intro hL (And.intro hsm hbw))))
      clear hM hG hL hsm hbw
      by_cases h6 : x.2.size ≤ 60
      · have h6i : (x.2.size : Int) ≤ 60 := by omega
        have HP := hide (Kv.put_any w.heap.size pm bm L x.1 x.2 wr.drew (HS.out.1.below (Below.refl _ _).drew) (by show w.heap.size ≤ wr.heap.size; omega))
        go_wp2_with fail
        go_region_held3 (fun w' => w'.cell? ⟨bb, off + k * 2, none⟩ = some (.string x.1) ∧ w'.cell? ⟨bb, off + k * 2 + 1, none⟩ = some (.string x.2)) (first | exact ⟨c0, c1⟩ | exact ⟨(m3.2.below.cell (p := ⟨bb, off + k * 2, none⟩) hb0).trans c0, (m3.2.below.cell (p := ⟨bb, off + k * 2 + 1, none⟩) hb0).trans c1⟩) (first
          | (go_at_call 5; refine HP.out.mono ?_; rintro e w3 ⟨rfl, m3⟩))
        obtain ⟨m3a, m3b⟩ := m3
        obtain ⟨hM, hG, hL, hsm, hbw⟩ := HS.out
        obtain ⟨q1, q2⟩ := Kv.put_small hM.rise hL hsm x.1 x.2 h6
        have H3 := hide (And.intro m3a (And.intro (Kv.good_put hG hM.rise x.1 x.2) (And.intro q1 (And.intro q2 ((hbw.trans (Below.refl _ _).drew).trans m3b.below)))))
        clear m3a m3b hM hG hL hsm hbw q1 q2
        go_wp2_with fail
        go_roundw
        case rel => exact ⟨k + 1, Kv.putL L x.1 x.2, by omega, by simp, H3.out.1, H3.out.2.1, H3.out.2.2.1, H3.out.2.2.2.1, H3.out.2.2.2.2⟩
        case measure => simp [intOf]; omega
      · have h6i : ¬ (x.2.size : Int) ≤ 60 := by omega
        go_wp2_with fail
        go_roundw
        case rel => exact ⟨k + 1, L, by omega, by simp, HS.out.1, HS.out.2.1, by have := HS.out.2.2.1; omega, HS.out.2.2.2.1, HS.out.2.2.2.2⟩
        case measure => simp [intOf]; omega
    · have HS := hide (And.intro hM (And.intro hG (And.intro hL (And.intro hsm hbw))))
      have hR := hM.rise
      have hsz : Kv.sizeM L ≤ 2540 := by
        have h1 := Kv.size_few (L := L) (fun x hx => by
          have h2 := hG.each x hx
          have h3 := hsm x hx
          unfold Kv.sz1
          omega)
        have : L.length * 127 ≤ 20 * 127 := Nat.mul_le_mul_right _ (by omega)
        omega
      clear hM hG hL hsm hbw
      have HN := hide (new_any w.heap.size 120 wr hlow (by omega) (by omega))
      rcases (show ¬ (k : Int) < tn ∨ ((k : Int) < tn ∧ ¬ (k : Int) < 20) by omega) with hx | ⟨hx, hx2⟩
      · go_wp2_with (first
          | (go_at_call 7; refine HN.out.mono ?_; rintro e w3 ⟨p0, vl0, rfl, d3, hp3, b3⟩; have s3 := b3.size; have H3 := hide (And.intro d3 (And.intro (HS.out.1.below b3) (HS.out.2.2.2.2.trans (b3.mono hlow)))); clear d3 b3)
          | (go_at_call 6; refine (sto_new (by omega) (by omega) H3.out.1 (by omega)).mono ?_; rintro e w4 ⟨q, p, vl, vw, rfl, d4, hq4, b4, f4⟩; have s4 := b4.size; have H4 := hide (And.intro d4 (And.intro (H3.out.2.1.below b4) (And.intro (H3.out.2.2.trans (b4.mono (by omega))) f4))); clear d4 b4 f4)
          | (go_at_call 9; refine (Kv.bytes_any w.heap.size pm bm L w4 H4.out.2.1 HS.out.2.1).mono ?_; rintro e w5 ⟨v5, rfl, r5, b5⟩; refine stopHere ?_))
        unfold Hid
        have s5 := b5.size
        have hbl := Kv.bytesM_len L
        obtain ⟨bl, hbl2⟩ : ∃ bl, (Kv.bytesM L).length = bl := ⟨_, rfl⟩
        obtain ⟨g5, c5, rfl, hcap, hB5, hno5⟩ := own_split r5 hbl2
        have hsv := save_sto (H4.out.1.below b5) g5 (Kv.bytesM L) bl c5 hB5 (fun g o hne e => by
          have h1 := hno5 g o hne e
          exact ⟨h1.2, fun hf => by have := (H4.out.1.lt hf).2; omega⟩) hbl2 hcap (by omega) (by decide)
        have HV := hide hsv
        have H5 := hide (And.intro (H4.out.2.1.below b5) (H4.out.2.2.1.trans (b5.mono (by omega))))
        clear hsv r5 b5 hcap hB5 hno5
        go_wp2_with (first
          | (go_at_call 8; refine HV.out.mono ?_; rintro e w6 ⟨rfl, vl6, vw6, d6, f6, n6⟩; refine stopHere ?_))
        unfold Hid
        have s6 := f6.below.size
        have m6 := H5.out.1.apart f6 (fun j hj hf => by
          have h1 := (HS.out.1.lt hj).2
          have h2 := H4.out.2.2.2 j hf
          omega)
        have H6 := hide (And.intro d6 (And.intro m6 (H5.out.2.trans f6.below)))
        clear d6 m6 f6 n6
        go_wp2_with (first
          | (go_at_call 11; refine (load_own H6.out.1).mono ?_; rintro e w7 ⟨v7, rfl, o7, b7⟩; have s7 := b7.size; have H7 := hide (And.intro o7 (And.intro (H6.out.2.1.below b7) (H6.out.2.2.trans (b7.mono (by omega))))); clear o7 b7)
          | (go_at_call 10; refine (Kv.load_row H7.out.1).mono ?_; rintro e w8 ⟨hR8, b8⟩; rcases hR8 with ⟨L', p', b', g', el, rfl, m8⟩ | ⟨hbad, _⟩; rotate_left; exact absurd ⟨L, ⟨HS.out.2.1, hR⟩, rfl⟩ hbad; obtain rfl := Kv.bytes_one g' ⟨HS.out.2.1, hR⟩ el.symm; have s8 := b8.size; have H8 := hide (And.intro (m8.less (show w.heap.size ≤ w7.heap.size by omega)) (And.intro (H7.out.2.1.below b8) (H7.out.2.2.trans (b8.mono (by omega))))); clear m8 b8 el; refine stopHere ?_))
        unfold Hid
        have h128 := HS.out.2.1.few
        obtain ⟨n, hn⟩ : ∃ n, L'.length = n := ⟨_, rfl⟩
        obtain ⟨zm, hzm⟩ : ∃ zm, Kv.sizeM L' = zm := ⟨_, rfl⟩
        have hln1 := Kv.len_any w.heap.size p' b' L' w8 H8.out.1
        have hln2 := Kv.len_any w.heap.size pm bm L' w8 H8.out.2.1
        have hsz1 := fun V (hV : Below w8.heap.size w8 V) => Kv.size_any w.heap.size p' b' L' V (H8.out.1.below hV) HS.out.2.1
        have hsz2 := fun V (hV : Below w8.heap.size w8 V) => Kv.size_any w.heap.size pm bm L' V (H8.out.2.1.below hV) HS.out.2.1
        have hsc1 := fun V (hV : Below w8.heap.size w8 V) => Kv.scan_any w.heap.size pm bm L' ⟨#[]⟩ V (H8.out.2.1.below hV) h128
        have hsc2 := fun V (hV : Below w8.heap.size w8 V) => Kv.scan_any w.heap.size p' b' L' ⟨#[]⟩ V (H8.out.1.below hV) h128
        rw [hn] at hln1 hln2
        rw [hzm] at hsz1 hsz2
        rw [Kv.scan_all] at hsc1 hsc2
        have HL1 := hide hln1
        have HL2 := hide hln2
        have HZ1 := hide hsz1
        have HZ2 := hide hsz2
        have HC1 := hide hsc1
        have HC2 := hide hsc2
        clear hln1 hln2 hsz1 hsz2 hsc1 hsc2 hbl hbl2 hzm hsz
        go_wp2_with (go_at_call 12; refine HL1.out.mono ?_; rintro e w' ⟨rfl, hw'⟩; rw [hw']; clear hw'; refine stopHere ?_)
        unfold Hid
        go_wp2_with (go_at_call 12; refine HL2.out.mono ?_; rintro e w' ⟨rfl, hw'⟩; rw [hw']; clear hw'; refine stopHere ?_)
        unfold Hid
        go_wp2_with (go_at_call 13; refine (HZ1.out w8 (Below.refl _ _)).mono ?_; rintro e w9 ⟨rfl, b9⟩; have B9 := hide b9; clear b9; refine stopHere ?_)
        unfold Hid
        go_wp2_with (go_at_call 13; refine (HZ2.out w9 B9.out).mono ?_; rintro e w10 ⟨rfl, b10⟩; have B10 := hide (B9.out.trans (b10.mono B9.out.size)); clear b10; refine stopHere ?_)
        unfold Hid
        go_wp2_with (go_at_call 14; refine (HC1.out w10 B10.out).mono ?_; rintro e w11 ⟨v11, rfl, o11, b11⟩; refine stopHere ?_)
        unfold Hid
        have B11 := hide (B10.out.trans (b11.mono B10.out.size))
        obtain ⟨a11, c11, rfl, r11⟩ := Kv.pair_own o11
        have R11 := hide r11
        clear r11 o11 b11
        rw [hn]
        go_wp2_with (go_at_call 14; refine (HC2.out w11 B11.out).mono ?_; rintro e w12 ⟨v12, rfl, o12, b12⟩; refine stopHere ?_)
        unfold Hid
        have B12 := hide b12
        obtain ⟨a12, c12, rfl, r12⟩ := Kv.pair_own o12
        have R12 := hide r12
        have BW := hide (H8.out.2.2.trans ((B11.out.trans (b12.mono B11.out.size)).mono (show w.heap.size ≤ w8.heap.size by omega)))
        clear r12 o12 b12
        rw [hn]
        have hpr := Kv.pr_neq
        have hgd := Kv.prGuard
        go_wp2_with fail
        go_loopw [10] (fun i wr => ∃ j : Nat, j ≤ n ∧ i = .int .i64 j ∧ Below w12.heap.size w12 wr) (fun i _ => n - (intOf i).toNat)
        case atStart => exact ⟨0, Nat.zero_le _, rfl, Below.refl _ _⟩
        case round =>
          obtain ⟨j, hj, rfl, hbw⟩ := hrel
          have hw2 : IntKind.i64.wrap ((j : Int) + 1) = j + 1 := by rw [IntKind.wrap_i64]; omega
          by_cases hjl : j < n
          · have hjl2 : (j : Int) < n := by omega
            obtain ⟨y, hy⟩ : ∃ y, L'[j]? = some y := ⟨L'[j]'(by omega), by simp⟩
            obtain ⟨g1, rfl, hg1, e0, e1⟩ := R11.out j y hy
            obtain ⟨g2, rfl, hg2, k0, k1⟩ := R12.out j y hy
            have hg1' : g1 < w12.heap.size := Nat.lt_of_lt_of_le hg1 B12.out.size
            have e0' := (hbw.cell (p := ⟨g1, j * 2, none⟩) hg1').trans ((B12.out.cell (p := ⟨g1, j * 2, none⟩) hg1).trans e0)
            have e1' := (hbw.cell (p := ⟨g1, j * 2 + 1, none⟩) hg1').trans ((B12.out.cell (p := ⟨g1, j * 2 + 1, none⟩) hg1).trans e1)
            have k0' := (hbw.cell (p := ⟨g2, j * 2, none⟩) hg2).trans k0
            have k1' := (hbw.cell (p := ⟨g2, j * 2 + 1, none⟩) hg2).trans k1
            have HB := hide hbw
            have hpy := fun V => Kv.pr_neq V y.1 y.2
            clear e0 e1 k0 k1 hbw hpr
            go_wp2_with fail
            go_quiet (fail)
            go_wp2_with fail
            exact ⟨⟨j + 1, by omega, by simp, below_drewN HB.out _⟩, by simp [intOf]; omega⟩
          · have hjl2 : ¬ (j : Int) < n := by omega
            have HB := hide (BW.out.trans (hbw.mono BW.out.size))
            clear hbw
            go_wp2_with fail
            go_ret
            exact ⟨rfl, HB.out⟩
      · go_wp2_with (first
          | (go_at_call 7; refine HN.out.mono ?_; rintro e w3 ⟨p0, vl0, rfl, d3, hp3, b3⟩; have s3 := b3.size; have H3 := hide (And.intro d3 (And.intro (HS.out.1.below b3) (HS.out.2.2.2.2.trans (b3.mono hlow)))); clear d3 b3)
          | (go_at_call 6; refine (sto_new (by omega) (by omega) H3.out.1 (by omega)).mono ?_; rintro e w4 ⟨q, p, vl, vw, rfl, d4, hq4, b4, f4⟩; have s4 := b4.size; have H4 := hide (And.intro d4 (And.intro (H3.out.2.1.below b4) (And.intro (H3.out.2.2.trans (b4.mono (by omega))) f4))); clear d4 b4 f4)
          | (go_at_call 9; refine (Kv.bytes_any w.heap.size pm bm L w4 H4.out.2.1 HS.out.2.1).mono ?_; rintro e w5 ⟨v5, rfl, r5, b5⟩; refine stopHere ?_))
        unfold Hid
        have s5 := b5.size
        have hbl := Kv.bytesM_len L
        obtain ⟨bl, hbl2⟩ : ∃ bl, (Kv.bytesM L).length = bl := ⟨_, rfl⟩
        obtain ⟨g5, c5, rfl, hcap, hB5, hno5⟩ := own_split r5 hbl2
        have hsv := save_sto (H4.out.1.below b5) g5 (Kv.bytesM L) bl c5 hB5 (fun g o hne e => by
          have h1 := hno5 g o hne e
          exact ⟨h1.2, fun hf => by have := (H4.out.1.lt hf).2; omega⟩) hbl2 hcap (by omega) (by decide)
        have HV := hide hsv
        have H5 := hide (And.intro (H4.out.2.1.below b5) (H4.out.2.2.1.trans (b5.mono (by omega))))
        clear hsv r5 b5 hcap hB5 hno5
        go_wp2_with (first
          | (go_at_call 8; refine HV.out.mono ?_; rintro e w6 ⟨rfl, vl6, vw6, d6, f6, n6⟩; refine stopHere ?_))
        unfold Hid
        have s6 := f6.below.size
        have m6 := H5.out.1.apart f6 (fun j hj hf => by
          have h1 := (HS.out.1.lt hj).2
          have h2 := H4.out.2.2.2 j hf
          omega)
        have H6 := hide (And.intro d6 (And.intro m6 (H5.out.2.trans f6.below)))
        clear d6 m6 f6 n6
        go_wp2_with (first
          | (go_at_call 11; refine (load_own H6.out.1).mono ?_; rintro e w7 ⟨v7, rfl, o7, b7⟩; have s7 := b7.size; have H7 := hide (And.intro o7 (And.intro (H6.out.2.1.below b7) (H6.out.2.2.trans (b7.mono (by omega))))); clear o7 b7)
          | (go_at_call 10; refine (Kv.load_row H7.out.1).mono ?_; rintro e w8 ⟨hR8, b8⟩; rcases hR8 with ⟨L', p', b', g', el, rfl, m8⟩ | ⟨hbad, _⟩; rotate_left; exact absurd ⟨L, ⟨HS.out.2.1, hR⟩, rfl⟩ hbad; obtain rfl := Kv.bytes_one g' ⟨HS.out.2.1, hR⟩ el.symm; have s8 := b8.size; have H8 := hide (And.intro (m8.less (show w.heap.size ≤ w7.heap.size by omega)) (And.intro (H7.out.2.1.below b8) (H7.out.2.2.trans (b8.mono (by omega))))); clear m8 b8 el; refine stopHere ?_))
        unfold Hid
        have h128 := HS.out.2.1.few
        obtain ⟨n, hn⟩ : ∃ n, L'.length = n := ⟨_, rfl⟩
        obtain ⟨zm, hzm⟩ : ∃ zm, Kv.sizeM L' = zm := ⟨_, rfl⟩
        have hln1 := Kv.len_any w.heap.size p' b' L' w8 H8.out.1
        have hln2 := Kv.len_any w.heap.size pm bm L' w8 H8.out.2.1
        have hsz1 := fun V (hV : Below w8.heap.size w8 V) => Kv.size_any w.heap.size p' b' L' V (H8.out.1.below hV) HS.out.2.1
        have hsz2 := fun V (hV : Below w8.heap.size w8 V) => Kv.size_any w.heap.size pm bm L' V (H8.out.2.1.below hV) HS.out.2.1
        have hsc1 := fun V (hV : Below w8.heap.size w8 V) => Kv.scan_any w.heap.size pm bm L' ⟨#[]⟩ V (H8.out.2.1.below hV) h128
        have hsc2 := fun V (hV : Below w8.heap.size w8 V) => Kv.scan_any w.heap.size p' b' L' ⟨#[]⟩ V (H8.out.1.below hV) h128
        rw [hn] at hln1 hln2
        rw [hzm] at hsz1 hsz2
        rw [Kv.scan_all] at hsc1 hsc2
        have HL1 := hide hln1
        have HL2 := hide hln2
        have HZ1 := hide hsz1
        have HZ2 := hide hsz2
        have HC1 := hide hsc1
        have HC2 := hide hsc2
        clear hln1 hln2 hsz1 hsz2 hsc1 hsc2 hbl hbl2 hzm hsz
        go_wp2_with (go_at_call 12; refine HL1.out.mono ?_; rintro e w' ⟨rfl, hw'⟩; rw [hw']; clear hw'; refine stopHere ?_)
        unfold Hid
        go_wp2_with (go_at_call 12; refine HL2.out.mono ?_; rintro e w' ⟨rfl, hw'⟩; rw [hw']; clear hw'; refine stopHere ?_)
        unfold Hid
        go_wp2_with (go_at_call 13; refine (HZ1.out w8 (Below.refl _ _)).mono ?_; rintro e w9 ⟨rfl, b9⟩; have B9 := hide b9; clear b9; refine stopHere ?_)
        unfold Hid
        go_wp2_with (go_at_call 13; refine (HZ2.out w9 B9.out).mono ?_; rintro e w10 ⟨rfl, b10⟩; have B10 := hide (B9.out.trans (b10.mono B9.out.size)); clear b10; refine stopHere ?_)
        unfold Hid
        go_wp2_with (go_at_call 14; refine (HC1.out w10 B10.out).mono ?_; rintro e w11 ⟨v11, rfl, o11, b11⟩; refine stopHere ?_)
        unfold Hid
        have B11 := hide (B10.out.trans (b11.mono B10.out.size))
        obtain ⟨a11, c11, rfl, r11⟩ := Kv.pair_own o11
        have R11 := hide r11
        clear r11 o11 b11
        rw [hn]
        go_wp2_with (go_at_call 14; refine (HC2.out w11 B11.out).mono ?_; rintro e w12 ⟨v12, rfl, o12, b12⟩; refine stopHere ?_)
        unfold Hid
        have B12 := hide b12
        obtain ⟨a12, c12, rfl, r12⟩ := Kv.pair_own o12
        have R12 := hide r12
        have BW := hide (H8.out.2.2.trans ((B11.out.trans (b12.mono B11.out.size)).mono (show w.heap.size ≤ w8.heap.size by omega)))
        clear r12 o12 b12
        rw [hn]
        have hpr := Kv.pr_neq
        have hgd := Kv.prGuard
        go_wp2_with fail
        go_loopw [10] (fun i wr => ∃ j : Nat, j ≤ n ∧ i = .int .i64 j ∧ Below w12.heap.size w12 wr) (fun i _ => n - (intOf i).toNat)
        case atStart => exact ⟨0, Nat.zero_le _, rfl, Below.refl _ _⟩
        case round =>
          obtain ⟨j, hj, rfl, hbw⟩ := hrel
          have hw2 : IntKind.i64.wrap ((j : Int) + 1) = j + 1 := by rw [IntKind.wrap_i64]; omega
          by_cases hjl : j < n
          · have hjl2 : (j : Int) < n := by omega
            obtain ⟨y, hy⟩ : ∃ y, L'[j]? = some y := ⟨L'[j]'(by omega), by simp⟩
            obtain ⟨g1, rfl, hg1, e0, e1⟩ := R11.out j y hy
            obtain ⟨g2, rfl, hg2, k0, k1⟩ := R12.out j y hy
            have hg1' : g1 < w12.heap.size := Nat.lt_of_lt_of_le hg1 B12.out.size
            have e0' := (hbw.cell (p := ⟨g1, j * 2, none⟩) hg1').trans ((B12.out.cell (p := ⟨g1, j * 2, none⟩) hg1).trans e0)
            have e1' := (hbw.cell (p := ⟨g1, j * 2 + 1, none⟩) hg1').trans ((B12.out.cell (p := ⟨g1, j * 2 + 1, none⟩) hg1).trans e1)
            have k0' := (hbw.cell (p := ⟨g2, j * 2, none⟩) hg2).trans k0
            have k1' := (hbw.cell (p := ⟨g2, j * 2 + 1, none⟩) hg2).trans k1
            have HB := hide hbw
            have hpy := fun V => Kv.pr_neq V y.1 y.2
            clear e0 e1 k0 k1 hbw hpr
            go_wp2_with fail
            go_quiet (fail)
            go_wp2_with fail
            exact ⟨⟨j + 1, by omega, by simp, below_drewN HB.out _⟩, by simp [intOf]; omega⟩
          · have hjl2 : ¬ (j : Int) < n := by omega
            have HB := hide (BW.out.trans (hbw.mono BW.out.size))
            clear hbw
            go_wp2_with fail
            go_ret
            exact ⟨rfl, HB.out⟩
end Go.Proofs.Ytnbemfddcjhcaaa
