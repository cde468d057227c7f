/- StanzaFails: what failed is the condition of the answer, also behind its tokens. -/
import Derived.Test.YtpknifioflagaaaDoorSt14
import Derived.Test.YtpknifioflagaaaDoorStF
namespace Go.Proofs.YtpknifioflagaaaDoor
open Go.RowKit Go.Shelf

theorem stT_len2 (k : Int) (ty fr tt id : ByteArray) (ts : List Tok) : (stT k ty fr tt id ts).length = ts.length + 2 := by
  unfold stT elemT
  simp
theorem same_yes2 {k : Int} {ty fr tt id : ByteArray} {pa1 pa2 : Option Addr} {pc1 pc2 : Nat} {ts : List Tok} {av1 av2 : Nat → Option Addr × Nat} {w : World} (h1 : TokMem w.heap.size w pa1 ts av1) (h2 : TokMem w.heap.size w pa2 ts av2) :
    Calls Tryd.prog 19 #[.agg #[.int .u8 k, .string ty, .string fr, .string tt, .string id, .slice pa1 ts.length pc1], .agg #[.int .u8 k, .string ty, .string fr, .string tt, .string id, .slice pa2 ts.length pc2]] w fun e w' => e = .returned (.bool true) ∧ Below w.heap.size w w' := by
  refine (stSame_any k ty fr tt id pa1 pc1 ts av1 k ty fr tt id pa2 pc2 ts av2 w h1 h2).mono ?_
  rintro e w' ⟨⟨_, he⟩ | ⟨hn, _⟩, b⟩
  · exact ⟨he, b⟩
  · exact absurd ⟨rfl, rfl, rfl, rfl, rfl, rfl⟩ hn
theorem right_is {k : Int} {ty fr tt id : ByteArray} {pa : Option Addr} {pc : Nat} {ts : List Tok} {av : Nat → Option Addr × Nat} {w : World} (hT : TokMem w.heap.size w pa ts av) (hs : ts.length ≤ 1000) (hz : ty.size ≤ 9223372036854775807 ∧ fr.size ≤ 9223372036854775807 ∧ tt.size ≤ 9223372036854775807 ∧ id.size ≤ 9223372036854775807) (hE : Env6 w) {q : Bool} (h : q = true ↔ StOk k ty fr tt id ts) :
    Calls Tryd.prog 14 #[.agg #[.int .u8 k, .string ty, .string fr, .string tt, .string id, .slice pa ts.length pc]] w fun e w' => e = .returned (.bool q) ∧ Below w.heap.size w w' := by
  refine (stRight_any k ty fr tt id pa pc ts av w hT hs hz hE.1 hE.2.1 hE.2.2.2).mono ?_
  rintro e w' ⟨⟨h1, rfl⟩ | ⟨h1, rfl⟩, b⟩
  · rw [h.2 h1]
    exact ⟨rfl, b⟩
  · cases q with
    | false => exact ⟨rfl, b⟩
    | true => exact absurd (h.1 rfl) h1
/-- What was encoded is decoded. -/
theorem dec_back2 {k : Int} {ty fr tt id : ByteArray} {ts : List Tok} {ao : Option Addr} {n cap : Nat} {av : Nat → Option Addr × Nat} {w : World} (h : StOk k ty fr tt id ts) (hT : TokMem w.heap.size w ao (stT k ty fr tt id ts) av) (hn : (stT k ty fr tt id ts).length = n) (hc : n ≤ cap) (hs : n ≤ 1000) (hE : Env6 w) :
    Calls Tryd.prog 16 #[.slice ao n cap] w fun e w' => ∃ ga gc l, e = .returned (.tuple #[.agg #[.int .u8 k, .string ty, .string fr, .string tt, .string id, .slice ga ts.length gc], .int .i64 0]) ∧ l.map (·.1) = ts ∧ ElRow w.heap.size w' (.slice ga ts.length gc) l ∧ TokMem w'.heap.size w' ga ts (avOf l) ∧ Below w.heap.size w w' := by
  subst hn
  refine (decode_yes hT hc hs hE (dec_enc h)).mono ?_
  rintro e w' ⟨v, l, rfl, m, r, b⟩
  have hk : kNum (kindB k) = k := num_kind (kind_of h.1)
  have m' : l.map (·.1) = ts := m.trans (mid_elem _ _ _)
  have hl : l.length = ts.length := by rw [← m', List.length_map]
  have h2 := stT_len2 k ty fr tt id ts
  obtain ⟨ao2, cap2, rfl, hT2⟩ := tokMem_own r (by omega)
  rw [m'] at hT2
  rw [hl] at r ⊢
  exact ⟨ao2, cap2, l, by rw [hk], m', r, hT2, b⟩
theorem str_eq_self (s : ByteArray) : (s.toList == s.toList) = true := by simp
set_option maxRecDepth 100000 in
set_option maxHeartbeats 8000000 in
theorem stanzaFails_any (k : Int) (ty fr tt id : ByteArray) (pa : Option Addr) (pc : Nat) (ts : List Tok) (av : Nat → Option Addr × Nat) (c : Int) (w : World) (hT1 : TokMem w.heap.size w pa ts av) (hc1 : ts.length ≤ pc) (hz : ty.size ≤ 9223372036854775807 ∧ fr.size ≤ 9223372036854775807 ∧ tt.size ≤ 9223372036854775807 ∧ id.size ≤ 9223372036854775807) (hE : Env6 w) :
    Calls Tryd.prog 7 #[.agg #[.int .u8 k, .string ty, .string fr, .string tt, .string id, .slice pa ts.length pc], .int .i64 c] w fun e w' => e = .returned (.bool true) ∧ Below w.heap.size w w' := by
  have mem1 : ∀ V, Below w.heap.size w V → TokMem V.heap.size V pa (ts.take 70) av := fun V hV => ((hT1.below hV).raise hV.size).take 70
  have hs1 : (ts.take 70).length ≤ 70 := by rw [List.length_take]; omega
  have HF := hide fun (V : World) => few6_any k ty fr tt id pa pc ts V hc1 hT1.1
  have HLV := hide fun (V : World) (hV : Env6 V) => live_any V hV
  obtain ⟨us, hus⟩ : ∃ us, ts.take 70 = us := ⟨_, rfl⟩
  rw [hus] at hs1 HF mem1
  obtain ⟨m1, hm1⟩ : ∃ m1, ts.length = m1 := ⟨_, rfl⟩
  obtain ⟨n1, hn1⟩ : ∃ n1, us.length = n1 := ⟨_, rfl⟩
  rw [hm1, hn1] at HF
  rw [hm1]
  obtain ⟨Wa, hWa, aa, ba, za⟩ := newV w 25 #[.int .u8 k, .string ty, .string fr, .string tt, .string id, .slice pa m1 pc]
  obtain ⟨x0, x1, x2, x3, x4, x5⟩ := cells6 aa
  have HG := hide (And.intro mem1 (And.intro hE (And.intro hz (And.intro hs1 hn1))))
  have H0 := hide (And.intro aa ba)
  clear aa ba mem1 hE hz hs1 hn1 hT1 hc1 hm1 hus
  go_enter Tryd.func7, Tryd.ntmps7
  go_wp2_with (go_at_call 9; refine (HF.out _).mono ?_; rintro e w1 ⟨rfl, b1⟩; refine stopHere ?_)
  unfold Hid
  have g1 := (b1.block w.heap.size (hp_lt H0.out.1)).trans H0.out.1
  have B1 : Below w.heap.size w w1 := H0.out.2.trans (b1.mono H0.out.2.size)
  obtain ⟨V, hV⟩ : ∃ W, ((((((w1.setCell ⟨w.heap.size, 0, none⟩ (.int .u8 k)).setCell ⟨w.heap.size, 1, none⟩ (.string ty)).setCell ⟨w.heap.size, 2, none⟩ (.string fr)).setCell ⟨w.heap.size, 3, none⟩ (.string tt)).setCell ⟨w.heap.size, 4, none⟩ (.string id)).setCell ⟨w.heap.size, 5, none⟩ (.slice pa n1 pc)) = W := ⟨_, rfl⟩
  have HS := hide (run_store_st g1 k ty fr tt id pa n1 pc)
  have gV : V.heap[w.heap.size]? = some (.cells #[.int .u8 k, .string ty, .string fr, .string tt, .string id, .slice pa n1 pc] 25) := by rw [← hV]; exact set6 g1 _ _ _ _ _ _
  have BV : Below w.heap.size w V := by rw [← hV]; exact below6 B1 (Nat.le_refl _) _ _ _ _ _ _
  obtain ⟨y0, y1, y2, y3, y4, y5⟩ := cells6 gV
  obtain ⟨mem1, hE, hz, hs1, hn1⟩ := HG.out
  have HBV := hide (And.intro gV BV)
  rw [hV] at HS
  have HEr := hide (error_any k ty fr tt id pa n1 pc c V (hE.below BV).2.2.1)
  clear mem1 hE hz hs1 hn1 gV BV g1 B1 b1 x0 x1 x2 x3 x4 x5 HF hV
  go_wp2_with (first
    | (refine l_store 25 HS.out rfl rfl rfl rfl ?_)
    | (go_at_call 24; refine HEr.out.mono ?_; rintro e w2 ⟨v2, l2, rfl, e2, r2, b2⟩; refine stopHere ?_))
  unfold Hid
  have hl2 : l2.length = 4 := by
    have h := congrArg List.length e2
    rw [List.length_map] at h
    exact h
  obtain ⟨ga, gc, rfl⟩ := own_shape r2.1
  obtain ⟨ao2, cap2, q2, hT2⟩ := tokMem_own r2 (by omega)
  cases q2
  rw [e2] at hT2
  rw [hl2]
  obtain ⟨W3, hW3, a3, c3, z3⟩ := newV w2 25 #[.int .u8 k, .string ty_error, .string tt, .string fr, .string id, .slice ga 4 gc]
  have HST := hide (run_store_new (P := Tryd.prog) infoSt w2 (cs := #[.int .u8 k, .string ty_error, .string tt, .string fr, .string id, .slice ga 4 gc]) (c := zeroSt) rfl rfl (by simp [Value.oneCell']))
  have b3 : Below V.heap.size V W3 := b2.trans (c3.mono b2.size)
  have B3 : Below w.heap.size w W3 := HBV.out.2.trans (b3.mono HBV.out.2.size)
  have g3 := (b3.block w.heap.size (hp_lt HBV.out.1)).trans HBV.out.1
  have memE : ∀ U, Below W3.heap.size W3 U → TokMem U.heap.size U ga (errT c) (avOf l2) := fun U hU => (((hT2.below c3).raise c3.size).below hU).raise hU.size
  obtain ⟨hw2⟩ : Nonempty (w.heap.size < w2.heap.size) := ⟨Nat.lt_of_lt_of_le (hp_lt HBV.out.1) b2.size⟩
  have HR3 := hide (And.intro a3 (And.intro g3 (And.intro B3 (And.intro memE hw2))))
  obtain ⟨z0, z1, z2, z3', z4, z5⟩ := cells6 a3
  by_cases hc : 1 ≤ c ∧ c ≤ 10
  · have hF := failed_yes (k := k) (fr := tt) (tt := fr) (id := id) (pc := gc) (memE W3 (Below.refl _ _)) (HG.out.2.1.below B3).2.2.1 hc.1 hc.2
    rw [show (errT c).length = 4 from rfl] at hF
    have HFl := hide hF
    have hN : (condN c).toList.isEmpty = false := ty_ne (cond_some hc)
    have HN := hide fun (U : World) => rname_any c U
    have HC := hide hc
    unfold ty_error at HFl z1 HST hW3 ⊢
    clear hF hl2 e2 r2 hT2 a3 g3 B3 memE hw2 b2 b3 c3 y0 y1 y2 y3 y4 y5 HEr HS z3 hc
    go_wp2_with (first
      | (refine l_alloc 25 infoSt rfl rfl ?_)
      | (refine l_store 25 HST.out rfl rfl rfl rfl ?_; rw [hW3])
      | (go_at_call 20; refine HFl.out.mono ?_; rintro e w4 ⟨rfl, b4⟩; refine stopHere ?_))
    unfold Hid
    clear z0 z1 z2 z3' z4 z5
    obtain ⟨a3, g3, B3, memE, hw2⟩ := HR3.out
    have g4 := (b4.block w.heap.size (hp_lt g3)).trans g3
    have a4 := (b4.block w2.heap.size (hp_lt a3)).trans a3
    obtain ⟨y0, y1, y2, y3, y4, y5⟩ := cells6 g4
    obtain ⟨z0, z1, z2, z3, z4, z5⟩ := cells6 a4
    have B4 : Below w.heap.size w w4 := B3.trans (b4.mono B3.size)
    have s1 := str_eq_self fr
    have s2 := str_eq_self tt
    have s3 := str_eq_self id
    obtain ⟨q, hq⟩ : ∃ q : Bool, (q = true ↔ StOk k ty fr tt id us) := by
      by_cases h : StOk k ty fr tt id us
      · exact ⟨true, by simp [h]⟩
      · exact ⟨false, by simp [h]⟩
    obtain ⟨mem1, hE, hz, hs1, hn1⟩ := HG.out
    have HRt := hide (right_is (pc := pc) (mem1 w4 B4) (by omega) hz (hE.below B4) hq)
    rw [hn1] at HRt
    have HR4 := hide (And.intro a4 (And.intro g4 (And.intro B4 (And.intro memE (And.intro hw2 (And.intro b4 hq))))))
    clear a3 g3 B3 memE hw2 mem1 hE hz hs1 hn1 b4 g4 a4 B4 HR3 HFl HST hq
    go_wp2_with (first
      | (go_at_call 26; refine (HN.out _).mono ?_; rintro e w5 ⟨rfl, rfl⟩)
      | (go_at_call 14; refine HRt.out.mono ?_; rintro e w6 ⟨rfl, b6⟩; refine stopHere ?_))
    unfold Hid
    obtain ⟨a4, g4, B4, memE, hw2, b4, hq⟩ := HR4.out
    have a6 := (b6.block w2.heap.size (hp_lt a4)).trans a4
    have B6 : Below w.heap.size w w6 := B4.trans (b6.mono B4.size)
    have c6 : Below W3.heap.size W3 w6 := b4.trans (b6.mono b4.size)
    cases q with
    | false =>
      have HL := hide (HLV.out w6 (HG.out.2.1.below B6))
      have HB6 := hide B6
      clear a4 g4 B4 memE hw2 b4 hq a6 B6 c6 b6 HR4 HRt y0 y1 y2 y3 y4 y5 z0 z1 z2 z3 z4 z5
      go_wp2_with (go_at_call 12; refine HL.out.mono ?_; rintro e w7 ⟨rfl, b7⟩)
      go_ret
      exact ⟨rfl, HB6.out.trans (b7.mono HB6.out.size)⟩
    | true =>
      have hok := err_ok (hq.1 rfl) HC.out.1 HC.out.2
      obtain ⟨mem1, hE, hz, hs1, hn1⟩ := HG.out
      have hEn := encode_yes (pc := gc) (memE w6 c6) (by show (4 : Nat) ≤ 1000; omega) ⟨by decide, hz.2.2.1, hz.2.1, hz.2.2.2⟩ (hE.below B6) hok
      rw [show (errT c).length = 4 from rfl] at hEn
      have HEn := hide hEn
      unfold ty_error at HEn
      clear y0 y1 y2 y3 y4 y5 z0 z1 z2 z3 z4 z5
      obtain ⟨z0, z1, z2, z3, z4, z5⟩ := cells6 a6
      have HR6 := hide (And.intro a6 (And.intro B6 (And.intro c6 (And.intro memE hok))))
      clear a4 g4 B4 memE hw2 b4 hq a6 B6 c6 b6 HR4 HRt mem1 hE hz hs1 hn1 hEn hok
      go_wp2_with (go_at_call 10; refine HEn.out.mono ?_; rintro e w7 ⟨v7, l7, rfl, e7, r7, b7⟩; refine stopHere ?_)
      unfold Hid
      obtain ⟨a6, B6, c6, memE, hok⟩ := HR6.out
      have hl7 : l7.length = 6 := by
        have h := congrArg List.length e7
        rw [List.length_map, stT_len2] at h
        exact h
      obtain ⟨ga7, gc7, rfl⟩ := own_shape r7.1
      have hcap7 := own_cap r7.1
      obtain ⟨ao7, cap7, q7, hT7⟩ := tokMem_own r7 (by omega)
      cases q7
      rw [e7] at hT7
      have B7 : Below w.heap.size w w7 := B6.trans (b7.mono B6.size)
      have hDc := dec_back2 (n := 6) (cap := gc7) hok hT7 (by rw [stT_len2]; rfl) (by omega) (by omega) (HG.out.2.1.below B7)
      rw [show (errT c).length = 4 from rfl] at hDc
      have HDc := hide hDc
      unfold ty_error at HDc
      have a7 := (b7.block w2.heap.size (hp_lt a6)).trans a6
      have c7 : Below W3.heap.size W3 w7 := c6.trans (b7.mono c6.size)
      have HR7 := hide (And.intro a7 (And.intro B7 (And.intro c7 memE)))
      rw [hl7]
      clear a6 B6 c6 memE hok hl7 e7 r7 hcap7 hT7 B7 a7 c7 b7 hDc HEn HR6 z0 z1 z2 z3 z4 z5
      go_wp2_with (go_at_call 16; refine HDc.out.mono ?_; rintro e w8 ⟨ga8, gc8, l8, rfl, e8, r8, hT8, b8⟩; refine stopHere ?_)
      unfold Hid
      obtain ⟨a7, B7, c7, memE⟩ := HR7.out
      obtain ⟨W9, hW9, a9, c9, z9⟩ := newV w8 25 #[.int .u8 k, .string ⟨#[101, 114, 114, 111, 114]⟩, .string tt, .string fr, .string id, .slice ga8 4 gc8]
      have HST := hide (run_store_new (P := Tryd.prog) infoSt w8 (cs := #[.int .u8 k, .string ⟨#[101, 114, 114, 111, 114]⟩, .string tt, .string fr, .string id, .slice ga8 4 gc8]) (c := zeroSt) rfl rfl (by simp [Value.oneCell']))
      have a8 := (b8.block w2.heap.size (hp_lt a7)).trans a7
      have a9' := (c9.block w2.heap.size (hp_lt a8)).trans a8
      have c9' : Below W3.heap.size W3 W9 := (c7.trans (b8.mono c7.size)).trans (c9.mono (Nat.le_trans c7.size b8.size))
      have B9 : Below w.heap.size w W9 := (B7.trans (b8.mono B7.size)).trans (c9.mono (Nat.le_trans B7.size b8.size))
      have HL := hide (HLV.out W9 (HG.out.2.1.below B9))
      have memY : ∀ U, Below W9.heap.size W9 U → TokMem U.heap.size U ga8 (errT c) (avOf l8) := fun U hU => (((hT8.below c9).raise c9.size).below hU).raise hU.size
      have H9 := hide (And.intro a9' (And.intro a9 (And.intro c9' (And.intro B9 (And.intro memE memY)))))
      clear a7 B7 c7 memE e8 r8 hT8 b8 a9 c9 a8 a9' c9' B9 memY HR7 HDc z9
      go_wp2_with (first
        | (refine l_alloc 25 infoSt rfl rfl ?_)
        | (refine l_store 25 HST.out rfl rfl rfl rfl ?_; rw [hW9])
        | (go_at_call 12; refine HL.out.mono ?_; rintro e w10 ⟨rfl, b10⟩; refine stopHere ?_))
      unfold Hid
      obtain ⟨g9, a9, c9, B9, memX, memY⟩ := H9.out
      have g10 := (b10.block w2.heap.size (hp_lt g9)).trans g9
      have a10 := (b10.block w8.heap.size (hp_lt a9)).trans a9
      have hSm := same_yes2 (k := k) (ty := ty_error) (fr := tt) (tt := fr) (id := id) (pc1 := gc) (pc2 := gc8) (memX w10 (c9.trans (b10.mono c9.size))) (memY w10 b10)
      rw [show (errT c).length = 4 from rfl] at hSm
      have HSm := hide hSm
      unfold ty_error at HSm
      have HB10 := hide (B9.trans (b10.mono B9.size))
      obtain ⟨z0, z1, z2, z3, z4, z5⟩ := cells6 g10
      obtain ⟨y0, y1, y2, y3, y4, y5⟩ := cells6 a10
      clear g9 a9 c9 B9 memX memY g10 a10 hSm b10 H9 HL HST hW9
      go_wp2_with (go_at_call 19; refine HSm.out.mono ?_; rintro e w12 ⟨rfl, b12⟩)
      go_ret
      exact ⟨rfl, HB10.out.trans (b12.mono HB10.out.size)⟩
  · have hF := failed_none (k := k) (fr := tt) (tt := fr) (id := id) (pc := gc) (memE W3 (Below.refl _ _)) (HG.out.2.1.below B3).2.2.1 hc
    rw [show (errT c).length = 4 from rfl] at hF
    have HFl := hide hF
    have hcn : condN c = ⟨#[]⟩ := if_neg hc
    have hN : (condN c).toList.isEmpty = true := by rw [hcn]; exact ty_emp rfl
    have HN := hide fun (U : World) => rname_any c U
    unfold ty_error at HFl z1 HST hW3 ⊢
    clear hcn hF hl2 e2 r2 hT2 a3 g3 B3 memE hw2 b2 b3 c3 y0 y1 y2 y3 y4 y5 HEr HS z3 hc
    go_wp2_with (first
      | (refine l_alloc 25 infoSt rfl rfl ?_)
      | (refine l_store 25 HST.out rfl rfl rfl rfl ?_; rw [hW3])
      | (go_at_call 20; refine HFl.out.mono ?_; rintro e w4 ⟨rfl, b4⟩; refine stopHere ?_))
    unfold Hid
    have B4 : Below w.heap.size w w4 := HR3.out.2.2.1.trans (b4.mono HR3.out.2.2.1.size)
    have HL := hide (HLV.out w4 (HG.out.2.1.below B4))
    have HB4 := hide B4
    clear z0 z1 z2 z3' z4 z5 b4 B4 HFl HST hW3
    go_wp2_with (first
      | (go_at_call 26; refine (HN.out _).mono ?_; rintro e w5 ⟨rfl, rfl⟩)
      | (go_at_call 12; refine HL.out.mono ?_; rintro e w6 ⟨rfl, b6⟩))
    go_ret
    exact ⟨rfl, HB4.out.trans (b6.mono HB4.out.size)⟩
end Go.Proofs.YtpknifioflagaaaDoor
