/- StanzaBack: what is encoded is decoded as it was; what is decoded is right, and encoded says the same. -/
import Derived.Test.YtpknifioflagaaaDoorSt14
import Derived.Test.YtpknifioflagaaaDoorStB
namespace Go.Proofs.YtpknifioflagaaaDoor
open Go.RowKit Go.Shelf

theorem encode_non {k : Int} {ty fr tt id : ByteArray} {pa : Option Addr} {pc : Nat} {ts : List Tok} {av : Nat → Option Addr × Nat} {w : World} (hT : TokMem w.heap.size w pa ts av) (hs : ts.length ≤ 1000) (hz : ty.size ≤ 9223372036854775807 ∧ fr.size ≤ 9223372036854775807 ∧ tt.size ≤ 9223372036854775807 ∧ id.size ≤ 9223372036854775807) (hE : Env6 w) (h : ¬ StOk k ty fr tt id ts) :
    Calls Tryd.prog 10 #[.agg #[.int .u8 k, .string ty, .string fr, .string tt, .string id, .slice pa ts.length pc]] w fun e w' => e = .returned (.tuple #[.slice none 0 0, .int .i64 3]) ∧ Below w.heap.size w w' := by
  refine (encode_any k ty fr tt id pa pc ts av w hT hs hz hE.1 hE.2.1 hE.2.2.2).mono ?_
  rintro e w' ⟨⟨hn, _⟩ | ⟨_, he⟩, b⟩
  · exact absurd hn h
  · exact ⟨he, b⟩
theorem decode_non {ao : Option Addr} {cap : Nat} {ts : List Tok} {av : Nat → Option Addr × Nat} {w : World} (hT : TokMem w.heap.size w ao ts av) (hc : ts.length ≤ cap) (hs : ts.length ≤ 1000) (hE : Env6 w) (h : ¬ ∃ t d, DecOk ts t d) :
    Calls Tryd.prog 16 #[.slice ao ts.length cap] w fun e w' => e = .returned (.tuple #[.agg zeroSt, .int .i64 3]) ∧ Below w.heap.size w w' := by
  refine (decode_any ao cap ts av w hT hc hs hE.1 hE.2.1 hE.2.2.2).mono ?_
  rintro e w' ⟨⟨t, d, _, _, hd, _⟩ | ⟨_, he⟩, b⟩
  · exact absurd ⟨t, d, hd⟩ h
  · exact ⟨he, b⟩
theorem same_yes {k : Int} {ty fr tt id : ByteArray} {pa1 pa2 : Option Addr} {pc1 pc2 : Nat} {ts : List Tok} {av1 av2 : Nat → Option Addr × Nat} {w : World} (h1 : TokMem w.heap.size w pa1 ts av1) (h2 : TokMem w.heap.size w pa2 ts av2) :
    Calls Tryd.prog 19 #[.agg #[.int .u8 k, .string ty, .string fr, .string tt, .string id, .slice pa1 ts.length pc1], .agg #[.int .u8 k, .string ty, .string fr, .string tt, .string id, .slice pa2 ts.length pc2]] w fun e w' => e = .returned (.bool true) ∧ Below w.heap.size w w' := by
  refine (stSame_any k ty fr tt id pa1 pc1 ts av1 k ty fr tt id pa2 pc2 ts av2 w h1 h2).mono ?_
  rintro e w' ⟨⟨_, he⟩ | ⟨hn, _⟩, b⟩
  · exact ⟨he, b⟩
  · exact absurd ⟨rfl, rfl, rfl, rfl, rfl, rfl⟩ hn
theorem right_yes6 {k : Int} {ty fr tt id : ByteArray} {pa : Option Addr} {pc : Nat} {ts : List Tok} {av : Nat → Option Addr × Nat} {w : World} (hT : TokMem w.heap.size w pa ts av) (hs : ts.length ≤ 1000) (hz : ty.size ≤ 9223372036854775807 ∧ fr.size ≤ 9223372036854775807 ∧ tt.size ≤ 9223372036854775807 ∧ id.size ≤ 9223372036854775807) (hE : Env6 w) (h : StOk k ty fr tt id ts) :
    Calls Tryd.prog 14 #[.agg #[.int .u8 k, .string ty, .string fr, .string tt, .string id, .slice pa ts.length pc]] w fun e w' => e = .returned (.bool true) ∧ Below w.heap.size w w' := by
  refine (stRight_any k ty fr tt id pa pc ts av w hT hs hz hE.1 hE.2.1 hE.2.2.2).mono ?_
  rintro e w' ⟨⟨_, he⟩ | ⟨hn, _⟩, b⟩
  · exact ⟨he, b⟩
  · exact absurd h hn
/-- What was encoded is decoded. -/
theorem dec_back {k : Int} {ty fr tt id : ByteArray} {ts : List Tok} {ao : Option Addr} {n cap : Nat} {av : Nat → Option Addr × Nat} {w : World} (h : StOk k ty fr tt id ts) (hT : TokMem w.heap.size w ao (stT k ty fr tt id ts) av) (hn : (stT k ty fr tt id ts).length = n) (hc : n ≤ cap) (hs : n ≤ 1000) (hE : Env6 w) :
    Calls Tryd.prog 16 #[.slice ao n cap] w fun e w' => ∃ ga gc l, e = .returned (.tuple #[.agg #[.int .u8 k, .string ty, .string fr, .string tt, .string id, .slice ga ts.length gc], .int .i64 0]) ∧ l.map (·.1) = ts ∧ ElRow w.heap.size w' (.slice ga ts.length gc) l ∧ TokMem w'.heap.size w' ga ts (avOf l) ∧ Below w.heap.size w w' := by
  subst hn
  refine (decode_yes hT hc hs hE (dec_enc h)).mono ?_
  rintro e w' ⟨v, l, rfl, m, r, b⟩
  have hk : kNum (kindB k) = k := num_kind (kind_of h.1)
  have m' : l.map (·.1) = ts := m.trans (mid_elem _ _ _)
  have hl : l.length = ts.length := by rw [← m', List.length_map]
  have h2 : (stT k ty fr tt id ts).length = ts.length + 2 := by
    unfold stT elemT
    simp
  obtain ⟨ao2, cap2, rfl, hT2⟩ := tokMem_own r (by omega)
  rw [m'] at hT2
  rw [hl] at r ⊢
  exact ⟨ao2, cap2, l, by rw [hk], m', r, hT2, b⟩
theorem dec_sizes6 {n : Nat} {w : World} {la : Option Addr} {ls : List Tok} {lv : Nat → Option Addr × Nat} {t : Tok} {d : D4} (hT : TokMem n w la ls lv) (h : DecOk ls t d) : d.ty.size ≤ 9223372036854775807 ∧ d.fr.size ≤ 9223372036854775807 ∧ d.tt.size ≤ 9223372036854775807 ∧ d.id.size ≤ 9223372036854775807 := by
  obtain ⟨_, _, _, qA, _⟩ := hT.2 0 t h.2.1
  exact dec_sizes t.attrs d0 d qA.2.1 (by decide) h.2.2.1
theorem stT_len (k : Int) (ty fr tt id : ByteArray) (ts : List Tok) : (stT k ty fr tt id ts).length = ts.length + 2 := by
  unfold stT elemT
  simp
set_option maxRecDepth 100000 in
set_option maxHeartbeats 8000000 in
theorem stanzaBack_any (k : Int) (ty fr tt id : ByteArray) (pa : Option Addr) (pc : Nat) (ts : List Tok) (av : Nat → Option Addr × Nat) (la : Option Addr) (lc : Nat) (ls : List Tok) (lv : Nat → Option Addr × Nat) (w : World) (hT1 : TokMem w.heap.size w pa ts av) (hT2 : TokMem w.heap.size w la ls lv) (hc1 : ts.length ≤ pc) (hc2 : ls.length ≤ lc) (hz : ty.size ≤ 9223372036854775807 ∧ fr.size ≤ 9223372036854775807 ∧ tt.size ≤ 9223372036854775807 ∧ id.size ≤ 9223372036854775807) (hE : Env6 w) :
    Calls Tryd.prog 5 #[.agg #[.int .u8 k, .string ty, .string fr, .string tt, .string id, .slice pa ts.length pc], .slice la ls.length lc] w fun e w' => e = .returned (.bool true) ∧ Below w.heap.size w w' := by
  have mem1 : ∀ V, Below w.heap.size w V → TokMem V.heap.size V pa (ts.take 70) av := fun V hV => ((hT1.below hV).raise hV.size).take 70
  have mem2 : ∀ V, Below w.heap.size w V → TokMem V.heap.size V la ls lv := fun V hV => ((hT2.below hV).raise hV.size)
  have hs1 : (ts.take 70).length ≤ 70 := by rw [List.length_take]; omega
  have HF := hide fun (V : World) => few6_any k ty fr tt id pa pc ts V hc1 hT1.1
  have HLV := hide fun (V : World) (hV : Env6 V) => live_any V hV
  obtain ⟨us, hus⟩ : ∃ us, ts.take 70 = us := ⟨_, rfl⟩
  rw [hus] at hs1 HF mem1
  obtain ⟨m1, hm1⟩ : ∃ m1, ts.length = m1 := ⟨_, rfl⟩
  obtain ⟨m2, hm2⟩ : ∃ m2, ls.length = m2 := ⟨_, rfl⟩
  obtain ⟨n1, hn1⟩ : ∃ n1, us.length = n1 := ⟨_, rfl⟩
  rw [hm1, hn1] at HF
  rw [hm1, hm2]
  obtain ⟨Wa, hWa, aa, ba, za⟩ := newV w 25 #[.int .u8 k, .string ty, .string fr, .string tt, .string id, .slice pa m1 pc]
  obtain ⟨x0, x1, x2, x3, x4, x5⟩ := cells6 aa
  have HG := hide (And.intro mem1 (And.intro mem2 (And.intro hE (And.intro hz (And.intro hs1 (And.intro hn1 (And.intro hm2 hc2)))))))
  have H0 := hide (And.intro aa ba)
  clear aa ba mem1 mem2 hE hz hs1 hn1 hm2 hc2 hT1 hT2 hc1 hm1 hus
  go_enter Tryd.func5, Tryd.ntmps5
  go_wp2_with (go_at_call 9; refine (HF.out _).mono ?_; rintro e w1 ⟨rfl, b1⟩; refine stopHere ?_)
  unfold Hid
  have g1 := (b1.block w.heap.size (hp_lt H0.out.1)).trans H0.out.1
  have B1 : Below w.heap.size w w1 := H0.out.2.trans (b1.mono H0.out.2.size)
  obtain ⟨V, hV⟩ : ∃ W, ((((((w1.setCell ⟨w.heap.size, 0, none⟩ (.int .u8 k)).setCell ⟨w.heap.size, 1, none⟩ (.string ty)).setCell ⟨w.heap.size, 2, none⟩ (.string fr)).setCell ⟨w.heap.size, 3, none⟩ (.string tt)).setCell ⟨w.heap.size, 4, none⟩ (.string id)).setCell ⟨w.heap.size, 5, none⟩ (.slice pa n1 pc)) = W := ⟨_, rfl⟩
  have HS := hide (run_store_st g1 k ty fr tt id pa n1 pc)
  have gV : V.heap[w.heap.size]? = some (.cells #[.int .u8 k, .string ty, .string fr, .string tt, .string id, .slice pa n1 pc] 25) := by rw [← hV]; exact set6 g1 _ _ _ _ _ _
  have BV : Below w.heap.size w V := by rw [← hV]; exact below6 B1 (Nat.le_refl _) _ _ _ _ _ _
  obtain ⟨y0, y1, y2, y3, y4, y5⟩ := cells6 gV
  obtain ⟨mem1, mem2, hE, hz, hs1, hn1, hm2, hc2⟩ := HG.out
  have hU1 := mem1 V BV
  have HBV := hide (And.intro gV BV)
  rw [hV] at HS
  by_cases hok : StOk k ty fr tt id us
  · have HEn := hide (encode_yes (pc := pc) hU1 (by omega) hz (hE.below BV) hok)
    rw [hn1] at HEn
    have HOK := hide hok
    clear hok hU1 mem1 mem2 hE hz hs1 hn1 hm2 hc2 gV BV g1 B1 b1 x0 x1 x2 x3 x4 x5 HF hV
    go_wp2_with (first
      | (refine l_store 25 HS.out rfl rfl rfl rfl ?_)
      | (go_at_call 10; refine HEn.out.mono ?_; rintro e w2 ⟨v2, l2, rfl, e2, r2, b2⟩; refine stopHere ?_))
    unfold Hid
    obtain ⟨mem1, mem2, hE, hz, hs1, hn1, hm2, hc2⟩ := HG.out
    have hl2 : l2.length = n1 + 2 := by
      have h := congrArg List.length e2
      rw [List.length_map, stT_len, hn1] at h
      exact h
    obtain ⟨ga2, gc2, rfl⟩ := own_shape r2.1
    have hcap2 := own_cap r2.1
    obtain ⟨ao2, cap2, q2, hT2⟩ := tokMem_own r2 (by omega)
    cases q2
    rw [e2] at hT2
    have B2 : Below w.heap.size w w2 := HBV.out.2.trans (b2.mono HBV.out.2.size)
    have HDc := hide (dec_back (n := n1 + 2) (cap := gc2) HOK.out hT2 (by rw [stT_len, hn1]) (by omega) (by omega) (hE.below B2))
    rw [hn1] at HDc
    have g2 := (b2.block w.heap.size (hp_lt HBV.out.1)).trans HBV.out.1
    have HB2 := hide (And.intro g2 B2)
    obtain ⟨p2, hp2⟩ : ∃ p, n1 + 2 = p := ⟨_, rfl⟩
    rw [hl2, hp2]
    rw [hp2] at HDc
    clear mem1 mem2 hE hz hs1 hn1 hm2 hc2 g2 B2 b2 y0 y1 y2 y3 y4 y5 HEn hl2 hp2 e2 r2 hcap2 hT2 HS
    go_wp2_with (go_at_call 16; refine HDc.out.mono ?_; rintro e w3 ⟨ga3, gc3, l3, rfl, e3, r3, hT3, b3⟩; refine stopHere ?_)
    unfold Hid
    obtain ⟨W3, hW3, a3, c3, z3⟩ := newV w3 25 #[.int .u8 k, .string ty, .string fr, .string tt, .string id, .slice ga3 n1 gc3]
    have HST := hide (run_store_new (P := Tryd.prog) infoSt w3 (cs := #[.int .u8 k, .string ty, .string fr, .string tt, .string id, .slice ga3 n1 gc3]) (c := zeroSt) rfl rfl (by simp [Value.oneCell']))
    obtain ⟨mem1, mem2, hE, hz, hs1, hn1, hm2, hc2⟩ := HG.out
    have g3 := (c3.block w.heap.size (Nat.lt_of_lt_of_le (hp_lt HB2.out.1) b3.size)).trans ((b3.block w.heap.size (hp_lt HB2.out.1)).trans HB2.out.1)
    have B3 : Below w.heap.size w W3 := HB2.out.2.trans ((b3.trans (c3.mono b3.size)).mono HB2.out.2.size)
    have HSm := hide (same_yes (k := k) (ty := ty) (fr := fr) (tt := tt) (id := id) (pc1 := gc3) (pc2 := pc) ((hT3.below c3).raise c3.size) (mem1 W3 B3))
    rw [hn1] at HSm
    obtain ⟨y0, y1, y2, y3, y4, y5⟩ := cells6 g3
    obtain ⟨z0, z1, z2, z3', z4, z5⟩ := cells6 a3
    have HB3 := hide B3
    clear mem1 mem2 hE hz hs1 hn1 hm2 hc2 g3 B3 a3 c3 b3 e3 r3 hT3 z3 HDc
    go_wp2_with (first
      | (refine l_alloc 25 infoSt rfl rfl ?_)
      | (refine l_store 25 HST.out rfl rfl rfl rfl ?_; rw [hW3])
      | (go_at_call 19; refine HSm.out.mono ?_; rintro e w4 ⟨rfl, b4⟩; refine stopHere ?_))
    unfold Hid
    obtain ⟨V, HV⟩ : ∃ V, w4 = V := ⟨_, rfl⟩
    have HBV := hide (HB3.out.trans (b4.mono HB3.out.size))
    rw [HV] at HBV ⊢
    clear HB3 b4 HV y0 y1 y2 y3 y4 y5 z0 z1 z2 z3' z4 z5 HSm HST hW3 HB2 HOK
    by_cases h70 : m2 ≤ 70
    · have h70i : ¬ ((70 : Int) < m2) := by omega
      by_cases hd : ∃ t d, DecOk ls t d
      · obtain ⟨t, d, hd⟩ := hd
        obtain ⟨mem1, mem2, hE, hz, hs1, hn1, hm2, hc2⟩ := HG.out
        have HDl := hide (decode_yes (cap := lc) (mem2 V HBV.out) hc2 (by omega) (hE.below HBV.out) hd)
        rw [hm2] at HDl
        have HOD := hide hd
        clear hd mem1 mem2 hE hz hs1 hn1 hm2 hc2
        go_wp2_with (go_at_call 16; refine HDl.out.mono ?_; rintro e w5 ⟨v5, l5, rfl, e5, r5, b5⟩; refine stopHere ?_)
        unfold Hid
        obtain ⟨mem1, mem2, hE, hz, hs1, hn1, hm2, hc2⟩ := HG.out
        have h2 := (whole_first HOD.out.1).1
        obtain ⟨xs, hxs⟩ : ∃ xs, midT ls = xs := ⟨_, rfl⟩
        have hxl : xs.length ≤ 70 := by rw [← hxs, mid_len h2, hm2]; omega
        have hok5 := HOD.out.2.2.2
        have hz5 := dec_sizes6 (mem2 w (Below.refl _ _)) HOD.out
        rw [hxs] at e5 hok5
        obtain ⟨k5, hk5⟩ : ∃ k5, kNum t.name = k5 := ⟨_, rfl⟩
        obtain ⟨ty5, fr5, tt5, id5⟩ := d
        dsimp only at hok5 hz5 ⊢
        rw [hk5] at hok5 ⊢
        have hl5 : l5.length = xs.length := by rw [← e5, List.length_map]
        obtain ⟨n5, hn5⟩ : ∃ n5, xs.length = n5 := ⟨_, rfl⟩
        obtain ⟨ga5, gc5, rfl⟩ := own_shape r5.1
        obtain ⟨ao5, cap5, q5, hT5⟩ := tokMem_own r5 (by omega)
        cases q5
        rw [e5] at hT5
        rw [hl5, hn5]
        obtain ⟨W6, hW6, a6, c6, z6⟩ := newV w5 25 #[.int .u8 k5, .string ty5, .string fr5, .string tt5, .string id5, .slice ga5 n5 gc5]
        have HST := hide (run_store_new (P := Tryd.prog) infoSt w5 (cs := #[.int .u8 k5, .string ty5, .string fr5, .string tt5, .string id5, .slice ga5 n5 gc5]) (c := zeroSt) rfl rfl (by simp [Value.oneCell']))
        have B6 : Below w.heap.size w W6 := HBV.out.trans ((b5.trans (c6.mono b5.size)).mono HBV.out.size)
        have hT6 := (hT5.below c6).raise c6.size
        have HEn := hide (encode_yes (pc := gc5) hT6 (by omega) hz5 (hE.below B6) hok5)
        rw [hn5] at HEn
        have memX : ∀ U, Below w5.heap.size w5 U → TokMem U.heap.size U ga5 xs (avOf l5) := fun U hU => (hT5.below hU).raise hU.size
        obtain ⟨z0, z1, z2, z3, z4, z5⟩ := cells6 a6
        have H6 := hide (And.intro a6 (And.intro c6 (And.intro B6 (And.intro memX (And.intro hok5 (And.intro hz5 (And.intro hn5 hxl)))))))
        clear mem1 mem2 hE hz hs1 hn1 hm2 hc2 h2 hxs hxl hok5 hz5 e5 r5 hk5 hl5 hn5 hT5 hT6 B6 memX a6 c6 b5 HDl HOD
        go_wp2_with (first
          | (refine l_alloc 25 infoSt rfl rfl ?_)
          | (refine l_store 25 HST.out rfl rfl rfl rfl ?_; rw [hW6])
          | (go_at_call 10; refine HEn.out.mono ?_; rintro e w7 ⟨v7, l7, rfl, e7, r7, b7⟩; refine stopHere ?_))
        unfold Hid
        obtain ⟨a6, c6, B6, memX, hok5, hz5, hn5, hxl⟩ := H6.out
        have hl7 : l7.length = n5 + 2 := by
          have h := congrArg List.length e7
          rw [List.length_map, stT_len, hn5] at h
          exact h
        obtain ⟨ga7, gc7, rfl⟩ := own_shape r7.1
        have hcap7 := own_cap r7.1
        obtain ⟨ao7, cap7, q7, hT7⟩ := tokMem_own r7 (by omega)
        cases q7
        rw [e7] at hT7
        have B7 : Below w.heap.size w w7 := B6.trans (b7.mono B6.size)
        have HDc := hide (dec_back (n := n5 + 2) (cap := gc7) hok5 hT7 (by rw [stT_len, hn5]) (by omega) (by omega) (HG.out.2.2.1.below B7))
        rw [hn5] at HDc
        have g7 := (b7.block w5.heap.size (hp_lt a6)).trans a6
        have c7 : Below w5.heap.size w5 w7 := c6.trans (b7.mono c6.size)
        have H7 := hide (And.intro g7 (And.intro c7 (And.intro B7 (And.intro memX (And.intro hok5 (And.intro hz5 (And.intro hn5 hxl)))))))
        obtain ⟨p7, hp7⟩ : ∃ p, n5 + 2 = p := ⟨_, rfl⟩
        rw [hl7, hp7]
        rw [hp7] at HDc
        clear a6 c6 B6 memX hok5 hz5 hn5 hxl hl7 hcap7 e7 r7 hT7 B7 g7 c7 b7 hp7 z0 z1 z2 z3 z4 z5 HEn HST H6 hW6 z6
        go_wp2_with (go_at_call 16; refine HDc.out.mono ?_; rintro e w8 ⟨ga8, gc8, l8, rfl, e8, r8, hT8, b8⟩; refine stopHere ?_)
        unfold Hid
        obtain ⟨g7, c7, B7, memX, hok5, hz5, hn5, hxl⟩ := H7.out
        obtain ⟨W9, hW9, a9, c9, z9⟩ := newV w8 25 #[.int .u8 k5, .string ty5, .string fr5, .string tt5, .string id5, .slice ga8 n5 gc8]
        have HST := hide (run_store_new (P := Tryd.prog) infoSt w8 (cs := #[.int .u8 k5, .string ty5, .string fr5, .string tt5, .string id5, .slice ga8 n5 gc8]) (c := zeroSt) rfl rfl (by simp [Value.oneCell']))
        have g8 := (b8.block w5.heap.size (hp_lt g7)).trans g7
        have g9 := (c9.block w5.heap.size (hp_lt g8)).trans g8
        have c9' : Below w5.heap.size w5 W9 := (c7.trans (b8.mono c7.size)).trans (c9.mono (Nat.le_trans c7.size b8.size))
        have B9 : Below w.heap.size w W9 := (B7.trans (b8.mono B7.size)).trans (c9.mono (Nat.le_trans B7.size b8.size))
        have HL := hide (HLV.out W9 (HG.out.2.2.1.below B9))
        have memY : ∀ U, Below W9.heap.size W9 U → TokMem U.heap.size U ga8 xs (avOf l8) := fun U hU => (((hT8.below c9).raise c9.size).below hU).raise hU.size
        have H9 := hide (And.intro g9 (And.intro a9 (And.intro c9' (And.intro B9 (And.intro memX (And.intro memY (And.intro hok5 (And.intro hz5 (And.intro hn5 hxl)))))))))
        clear g7 c7 B7 memX hok5 hz5 hn5 hxl e8 r8 hT8 b8 a9 c9 g8 g9 c9' B9 memY H7 HDc
        go_wp2_with (first
          | (refine l_alloc 25 infoSt rfl rfl ?_)
          | (refine l_store 25 HST.out rfl rfl rfl rfl ?_; rw [hW9])
          | (go_at_call 12; refine HL.out.mono ?_; rintro e w10 ⟨rfl, b10⟩; refine stopHere ?_))
        unfold Hid
        obtain ⟨g9, a9, c9, B9, memX, memY, hok5, hz5, hn5, hxl⟩ := H9.out
        have c10 : Below w5.heap.size w5 w10 := c9.trans (b10.mono c9.size)
        have B10 : Below w.heap.size w w10 := B9.trans (b10.mono B9.size)
        have HRt := hide (right_yes6 (pc := gc5) (memX w10 c10) (by omega) hz5 (HG.out.2.2.1.below B10) hok5)
        rw [hn5] at HRt
        have g10 := (b10.block w5.heap.size (hp_lt g9)).trans g9
        have a10 := (b10.block w8.heap.size (hp_lt a9)).trans a9
        have H10 := hide (And.intro g10 (And.intro a10 (And.intro b10 (And.intro c10 (And.intro B10 (And.intro memX (And.intro memY hn5)))))))
        obtain ⟨z0, z1, z2, z3, z4, z5⟩ := cells6 g10
        clear g9 a9 c9 B9 memX memY hok5 hz5 hn5 hxl c10 B10 g10 a10 b10 HL HST H9 hW9 z9
        go_wp2_with (go_at_call 14; refine HRt.out.mono ?_; rintro e w11 ⟨rfl, b11⟩; refine stopHere ?_)
        unfold Hid
        obtain ⟨g10, a10, b10, c10, B10, memX, memY, hn5⟩ := H10.out
        have g11 := (b11.block w5.heap.size (hp_lt g10)).trans g10
        have a11 := (b11.block w8.heap.size (hp_lt a10)).trans a10
        have HSm := hide (same_yes (k := k5) (ty := ty5) (fr := fr5) (tt := tt5) (id := id5) (pc1 := gc5) (pc2 := gc8) (memX w11 (c10.trans (b11.mono c10.size))) (memY w11 (b10.trans (b11.mono b10.size))))
        rw [hn5] at HSm
        have HB11 := hide (B10.trans (b11.mono B10.size))
        clear z0 z1 z2 z3 z4 z5
        obtain ⟨z0, z1, z2, z3, z4, z5⟩ := cells6 g11
        obtain ⟨y0, y1, y2, y3, y4, y5⟩ := cells6 a11
        clear g10 a10 b10 c10 B10 memX memY hn5 g11 a11 b11 H10 HRt
        go_wp2_with (go_at_call 19; refine HSm.out.mono ?_; rintro e w12 ⟨rfl, b12⟩)
        go_ret
        exact ⟨rfl, HB11.out.trans (b12.mono HB11.out.size)⟩
      · obtain ⟨mem1, mem2, hE, hz, hs1, hn1, hm2, hc2⟩ := HG.out
        have HDl := hide (decode_non (cap := lc) (mem2 V HBV.out) hc2 (by omega) (hE.below HBV.out) hd)
        rw [hm2] at HDl
        unfold zeroSt at HDl
        clear hd mem1 mem2 hE hz hs1 hn1 hm2 hc2
        go_wp2_with (go_at_call 16; refine HDl.out.mono ?_; rintro e w5 ⟨rfl, b5⟩; refine stopHere ?_)
        unfold Hid
        obtain ⟨W6, hW6, a6, c6, z6⟩ := newV w5 25 #[.int .u8 0, .string ⟨#[]⟩, .string ⟨#[]⟩, .string ⟨#[]⟩, .string ⟨#[]⟩, .slice none 0 0]
        have HST := hide (run_store_new (P := Tryd.prog) infoSt w5 (cs := #[.int .u8 0, .string ⟨#[]⟩, .string ⟨#[]⟩, .string ⟨#[]⟩, .string ⟨#[]⟩, .slice none 0 0]) (c := zeroSt) rfl rfl (by simp [Value.oneCell']))
        have B6 : Below w.heap.size w W6 := HBV.out.trans ((b5.trans (c6.mono b5.size)).mono HBV.out.size)
        have HL := hide (HLV.out W6 (HG.out.2.2.1.below B6))
        have H6 := hide (And.intro a6 B6)
        clear a6 c6 z6 b5 B6 HDl
        go_wp2_with (first
          | (refine l_alloc 25 infoSt rfl rfl ?_)
          | (refine l_store 25 HST.out rfl rfl rfl rfl ?_; rw [hW6])
          | (go_at_call 12; refine HL.out.mono ?_; rintro e w7 ⟨rfl, b7⟩; refine stopHere ?_))
        unfold Hid
        obtain ⟨z0, z1, z2, z3, z4, z5⟩ := cells6 ((b7.block w5.heap.size (hp_lt H6.out.1)).trans H6.out.1)
        have HB7 := hide (H6.out.2.trans (b7.mono H6.out.2.size))
        clear HL HST b7 H6
        go_wp2_with fail
        go_ret
        exact ⟨rfl, HB7.out⟩
    · have h70i : (70 : Int) < m2 := by omega
      have HL := hide (HLV.out V (HG.out.2.2.1.below HBV.out))
      go_wp2_with (go_at_call 12; refine HL.out.mono ?_; rintro e w5 ⟨rfl, b5⟩)
      go_ret
      exact ⟨rfl, HBV.out.trans (b5.mono HBV.out.size)⟩
  · have HEn := hide (encode_non (pc := pc) hU1 (by omega) hz (hE.below BV) hok)
    rw [hn1] at HEn
    clear hok hU1 mem1 mem2 hE hz hs1 hn1 hm2 hc2 gV BV g1 B1 b1 x0 x1 x2 x3 x4 x5 HF hV
    go_wp2_with (first
      | (refine l_store 25 HS.out rfl rfl rfl rfl ?_)
      | (go_at_call 10; refine HEn.out.mono ?_; rintro e w2 ⟨rfl, b2⟩; refine stopHere ?_))
    unfold Hid
    have HBW := hide (HBV.out.2.trans (b2.mono HBV.out.2.size))
    clear HBV b2 HEn HS y0 y1 y2 y3 y4 y5
    have HBV := hide HBW.out
    clear HBW
    obtain ⟨V, HV⟩ : ∃ V, w2 = V := ⟨_, rfl⟩
    rw [HV] at HBV ⊢
    clear HV
    by_cases h70 : m2 ≤ 70
    · have h70i : ¬ ((70 : Int) < m2) := by omega
      by_cases hd : ∃ t d, DecOk ls t d
      · obtain ⟨t, d, hd⟩ := hd
        obtain ⟨mem1, mem2, hE, hz, hs1, hn1, hm2, hc2⟩ := HG.out
        have HDl := hide (decode_yes (cap := lc) (mem2 V HBV.out) hc2 (by omega) (hE.below HBV.out) hd)
        rw [hm2] at HDl
        have HOD := hide hd
        clear hd mem1 mem2 hE hz hs1 hn1 hm2 hc2
        go_wp2_with (go_at_call 16; refine HDl.out.mono ?_; rintro e w5 ⟨v5, l5, rfl, e5, r5, b5⟩; refine stopHere ?_)
        unfold Hid
        obtain ⟨mem1, mem2, hE, hz, hs1, hn1, hm2, hc2⟩ := HG.out
        have h2 := (whole_first HOD.out.1).1
        obtain ⟨xs, hxs⟩ : ∃ xs, midT ls = xs := ⟨_, rfl⟩
        have hxl : xs.length ≤ 70 := by rw [← hxs, mid_len h2, hm2]; omega
        have hok5 := HOD.out.2.2.2
        have hz5 := dec_sizes6 (mem2 w (Below.refl _ _)) HOD.out
        rw [hxs] at e5 hok5
        obtain ⟨k5, hk5⟩ : ∃ k5, kNum t.name = k5 := ⟨_, rfl⟩
        obtain ⟨ty5, fr5, tt5, id5⟩ := d
        dsimp only at hok5 hz5 ⊢
        rw [hk5] at hok5 ⊢
        have hl5 : l5.length = xs.length := by rw [← e5, List.length_map]
        obtain ⟨n5, hn5⟩ : ∃ n5, xs.length = n5 := ⟨_, rfl⟩
        obtain ⟨ga5, gc5, rfl⟩ := own_shape r5.1
        obtain ⟨ao5, cap5, q5, hT5⟩ := tokMem_own r5 (by omega)
        cases q5
        rw [e5] at hT5
        rw [hl5, hn5]
        obtain ⟨W6, hW6, a6, c6, z6⟩ := newV w5 25 #[.int .u8 k5, .string ty5, .string fr5, .string tt5, .string id5, .slice ga5 n5 gc5]
        have HST := hide (run_store_new (P := Tryd.prog) infoSt w5 (cs := #[.int .u8 k5, .string ty5, .string fr5, .string tt5, .string id5, .slice ga5 n5 gc5]) (c := zeroSt) rfl rfl (by simp [Value.oneCell']))
        have B6 : Below w.heap.size w W6 := HBV.out.trans ((b5.trans (c6.mono b5.size)).mono HBV.out.size)
        have hT6 := (hT5.below c6).raise c6.size
        have HEn := hide (encode_yes (pc := gc5) hT6 (by omega) hz5 (hE.below B6) hok5)
        rw [hn5] at HEn
        have memX : ∀ U, Below w5.heap.size w5 U → TokMem U.heap.size U ga5 xs (avOf l5) := fun U hU => (hT5.below hU).raise hU.size
        obtain ⟨z0, z1, z2, z3, z4, z5⟩ := cells6 a6
        have H6 := hide (And.intro a6 (And.intro c6 (And.intro B6 (And.intro memX (And.intro hok5 (And.intro hz5 (And.intro hn5 hxl)))))))
        clear mem1 mem2 hE hz hs1 hn1 hm2 hc2 h2 hxs hxl hok5 hz5 e5 r5 hk5 hl5 hn5 hT5 hT6 B6 memX a6 c6 b5 HDl HOD
        go_wp2_with (first
          | (refine l_alloc 25 infoSt rfl rfl ?_)
          | (refine l_store 25 HST.out rfl rfl rfl rfl ?_; rw [hW6])
          | (go_at_call 10; refine HEn.out.mono ?_; rintro e w7 ⟨v7, l7, rfl, e7, r7, b7⟩; refine stopHere ?_))
        unfold Hid
        obtain ⟨a6, c6, B6, memX, hok5, hz5, hn5, hxl⟩ := H6.out
        have hl7 : l7.length = n5 + 2 := by
          have h := congrArg List.length e7
          rw [List.length_map, stT_len, hn5] at h
          exact h
        obtain ⟨ga7, gc7, rfl⟩ := own_shape r7.1
        have hcap7 := own_cap r7.1
        obtain ⟨ao7, cap7, q7, hT7⟩ := tokMem_own r7 (by omega)
        cases q7
        rw [e7] at hT7
        have B7 : Below w.heap.size w w7 := B6.trans (b7.mono B6.size)
        have HDc := hide (dec_back (n := n5 + 2) (cap := gc7) hok5 hT7 (by rw [stT_len, hn5]) (by omega) (by omega) (HG.out.2.2.1.below B7))
        rw [hn5] at HDc
        have g7 := (b7.block w5.heap.size (hp_lt a6)).trans a6
        have c7 : Below w5.heap.size w5 w7 := c6.trans (b7.mono c6.size)
        have H7 := hide (And.intro g7 (And.intro c7 (And.intro B7 (And.intro memX (And.intro hok5 (And.intro hz5 (And.intro hn5 hxl)))))))
        obtain ⟨p7, hp7⟩ : ∃ p, n5 + 2 = p := ⟨_, rfl⟩
        rw [hl7, hp7]
        rw [hp7] at HDc
        clear a6 c6 B6 memX hok5 hz5 hn5 hxl hl7 hcap7 e7 r7 hT7 B7 g7 c7 b7 hp7 z0 z1 z2 z3 z4 z5 HEn HST H6 hW6 z6
        go_wp2_with (go_at_call 16; refine HDc.out.mono ?_; rintro e w8 ⟨ga8, gc8, l8, rfl, e8, r8, hT8, b8⟩; refine stopHere ?_)
        unfold Hid
        obtain ⟨g7, c7, B7, memX, hok5, hz5, hn5, hxl⟩ := H7.out
        obtain ⟨W9, hW9, a9, c9, z9⟩ := newV w8 25 #[.int .u8 k5, .string ty5, .string fr5, .string tt5, .string id5, .slice ga8 n5 gc8]
        have HST := hide (run_store_new (P := Tryd.prog) infoSt w8 (cs := #[.int .u8 k5, .string ty5, .string fr5, .string tt5, .string id5, .slice ga8 n5 gc8]) (c := zeroSt) rfl rfl (by simp [Value.oneCell']))
        have g8 := (b8.block w5.heap.size (hp_lt g7)).trans g7
        have g9 := (c9.block w5.heap.size (hp_lt g8)).trans g8
        have c9' : Below w5.heap.size w5 W9 := (c7.trans (b8.mono c7.size)).trans (c9.mono (Nat.le_trans c7.size b8.size))
        have B9 : Below w.heap.size w W9 := (B7.trans (b8.mono B7.size)).trans (c9.mono (Nat.le_trans B7.size b8.size))
        have HL := hide (HLV.out W9 (HG.out.2.2.1.below B9))
        have memY : ∀ U, Below W9.heap.size W9 U → TokMem U.heap.size U ga8 xs (avOf l8) := fun U hU => (((hT8.below c9).raise c9.size).below hU).raise hU.size
        have H9 := hide (And.intro g9 (And.intro a9 (And.intro c9' (And.intro B9 (And.intro memX (And.intro memY (And.intro hok5 (And.intro hz5 (And.intro hn5 hxl)))))))))
        clear g7 c7 B7 memX hok5 hz5 hn5 hxl e8 r8 hT8 b8 a9 c9 g8 g9 c9' B9 memY H7 HDc
        go_wp2_with (first
          | (refine l_alloc 25 infoSt rfl rfl ?_)
          | (refine l_store 25 HST.out rfl rfl rfl rfl ?_; rw [hW9])
          | (go_at_call 12; refine HL.out.mono ?_; rintro e w10 ⟨rfl, b10⟩; refine stopHere ?_))
        unfold Hid
        obtain ⟨g9, a9, c9, B9, memX, memY, hok5, hz5, hn5, hxl⟩ := H9.out
        have c10 : Below w5.heap.size w5 w10 := c9.trans (b10.mono c9.size)
        have B10 : Below w.heap.size w w10 := B9.trans (b10.mono B9.size)
        have HRt := hide (right_yes6 (pc := gc5) (memX w10 c10) (by omega) hz5 (HG.out.2.2.1.below B10) hok5)
        rw [hn5] at HRt
        have g10 := (b10.block w5.heap.size (hp_lt g9)).trans g9
        have a10 := (b10.block w8.heap.size (hp_lt a9)).trans a9
        have H10 := hide (And.intro g10 (And.intro a10 (And.intro b10 (And.intro c10 (And.intro B10 (And.intro memX (And.intro memY hn5)))))))
        obtain ⟨z0, z1, z2, z3, z4, z5⟩ := cells6 g10
        clear g9 a9 c9 B9 memX memY hok5 hz5 hn5 hxl c10 B10 g10 a10 b10 HL HST H9 hW9 z9
        go_wp2_with (go_at_call 14; refine HRt.out.mono ?_; rintro e w11 ⟨rfl, b11⟩; refine stopHere ?_)
        unfold Hid
        obtain ⟨g10, a10, b10, c10, B10, memX, memY, hn5⟩ := H10.out
        have g11 := (b11.block w5.heap.size (hp_lt g10)).trans g10
        have a11 := (b11.block w8.heap.size (hp_lt a10)).trans a10
        have HSm := hide (same_yes (k := k5) (ty := ty5) (fr := fr5) (tt := tt5) (id := id5) (pc1 := gc5) (pc2 := gc8) (memX w11 (c10.trans (b11.mono c10.size))) (memY w11 (b10.trans (b11.mono b10.size))))
        rw [hn5] at HSm
        have HB11 := hide (B10.trans (b11.mono B10.size))
        clear z0 z1 z2 z3 z4 z5
        obtain ⟨z0, z1, z2, z3, z4, z5⟩ := cells6 g11
        obtain ⟨y0, y1, y2, y3, y4, y5⟩ := cells6 a11
        clear g10 a10 b10 c10 B10 memX memY hn5 g11 a11 b11 H10 HRt
        go_wp2_with (go_at_call 19; refine HSm.out.mono ?_; rintro e w12 ⟨rfl, b12⟩)
        go_ret
        exact ⟨rfl, HB11.out.trans (b12.mono HB11.out.size)⟩
      · obtain ⟨mem1, mem2, hE, hz, hs1, hn1, hm2, hc2⟩ := HG.out
        have HDl := hide (decode_non (cap := lc) (mem2 V HBV.out) hc2 (by omega) (hE.below HBV.out) hd)
        rw [hm2] at HDl
        unfold zeroSt at HDl
        clear hd mem1 mem2 hE hz hs1 hn1 hm2 hc2
        go_wp2_with (go_at_call 16; refine HDl.out.mono ?_; rintro e w5 ⟨rfl, b5⟩; refine stopHere ?_)
        unfold Hid
        obtain ⟨W6, hW6, a6, c6, z6⟩ := newV w5 25 #[.int .u8 0, .string ⟨#[]⟩, .string ⟨#[]⟩, .string ⟨#[]⟩, .string ⟨#[]⟩, .slice none 0 0]
        have HST := hide (run_store_new (P := Tryd.prog) infoSt w5 (cs := #[.int .u8 0, .string ⟨#[]⟩, .string ⟨#[]⟩, .string ⟨#[]⟩, .string ⟨#[]⟩, .slice none 0 0]) (c := zeroSt) rfl rfl (by simp [Value.oneCell']))
        have B6 : Below w.heap.size w W6 := HBV.out.trans ((b5.trans (c6.mono b5.size)).mono HBV.out.size)
        have HL := hide (HLV.out W6 (HG.out.2.2.1.below B6))
        have H6 := hide (And.intro a6 B6)
        clear a6 c6 z6 b5 B6 HDl
        go_wp2_with (first
          | (refine l_alloc 25 infoSt rfl rfl ?_)
          | (refine l_store 25 HST.out rfl rfl rfl rfl ?_; rw [hW6])
          | (go_at_call 12; refine HL.out.mono ?_; rintro e w7 ⟨rfl, b7⟩; refine stopHere ?_))
        unfold Hid
        obtain ⟨z0, z1, z2, z3, z4, z5⟩ := cells6 ((b7.block w5.heap.size (hp_lt H6.out.1)).trans H6.out.1)
        have HB7 := hide (H6.out.2.trans (b7.mono H6.out.2.size))
        clear HL HST b7 H6
        go_wp2_with fail
        go_ret
        exact ⟨rfl, HB7.out⟩
    · have h70i : (70 : Int) < m2 := by omega
      have HL := hide (HLV.out V (HG.out.2.2.1.below HBV.out))
      go_wp2_with (go_at_call 12; refine HL.out.mono ?_; rintro e w5 ⟨rfl, b5⟩)
      go_ret
      exact ⟨rfl, HBV.out.trans (b5.mono HBV.out.size)⟩
end Go.Proofs.YtpknifioflagaaaDoor
