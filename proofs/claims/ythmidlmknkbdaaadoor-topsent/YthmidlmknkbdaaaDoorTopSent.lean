/- TopSent: a stanza that is sent is read as it was, through its text. -/
import Derived.Test.YthmidlmknkbdaaaDoorXMB
import Derived.Test.YthmidlmknkbdaaaDoorXL
import Derived.Test.YthmidlmknkbdaaaDoorSt8
namespace Go.Proofs.YthmidlmknkbdaaaDoor
open Go.RowKit Go.Shelf

theorem hp_lt {w : World} {b : Nat} {o : Obj} (h : w.heap[b]? = some o) : b < w.heap.size := (Array.getElem?_eq_some_iff.1 h).1
/-- What a call leans on. -/
def EnvT (w : World) : Prop := Xm.Env w ∧ 4 ≤ w.heap.size
theorem EnvT.below {w w' : World} {n : Nat} (h : EnvT w) (hb : Below n w w') (hn : 4 ≤ n) : EnvT w' := ⟨h.1.below hb hn, Nat.le_trans h.2 hb.size⟩
theorem EnvT.maxG {w : World} (h : EnvT w) : Jd.MaxG w := h.1.2.2
theorem EnvT.lt {w : World} (h : EnvT w) : 3 < w.heap.size := Nat.lt_of_lt_of_le (by decide) h.2
theorem enc_yes {k : Int} {ty fr tt id : ByteArray} {pa : Option Addr} {pc : Nat} {ts : List Tok} {av : Nat → Option Addr × Nat} {w : World} (hT : TokMem w.heap.size w pa ts av) (hs : ts.length ≤ 1000) (hz : ty.size ≤ 9223372036854775807 ∧ fr.size ≤ 9223372036854775807 ∧ tt.size ≤ 9223372036854775807 ∧ id.size ≤ 9223372036854775807) (hE : EnvT w) (h : StOk k ty fr tt id ts) :
    Calls Tryd.prog 15 #[.agg #[.int .u8 k, .string ty, .string fr, .string tt, .string id, .slice pa ts.length pc]] w fun e w' => ∃ v l, e = .returned (.tuple #[v, .int .i64 0]) ∧ l.map (·.1) = stT k ty fr tt id ts ∧ ElRow w.heap.size w' v l ∧ Below w.heap.size w w' := by
  refine (encode_any k ty fr tt id pa pc ts av w hT hs hz hE.1.1 hE.maxG hE.lt).mono ?_
  rintro e w' ⟨⟨_, v, l, he, hm, hr⟩ | ⟨hn, _⟩, b⟩
  · exact ⟨v, l, he, hm, hr, b⟩
  · exact absurd h hn
theorem enc_no {k : Int} {ty fr tt id : ByteArray} {pa : Option Addr} {pc : Nat} {ts : List Tok} {av : Nat → Option Addr × Nat} {w : World} (hT : TokMem w.heap.size w pa ts av) (hs : ts.length ≤ 1000) (hz : ty.size ≤ 9223372036854775807 ∧ fr.size ≤ 9223372036854775807 ∧ tt.size ≤ 9223372036854775807 ∧ id.size ≤ 9223372036854775807) (hE : EnvT w) (h : ¬ StOk k ty fr tt id ts) :
    Calls Tryd.prog 15 #[.agg #[.int .u8 k, .string ty, .string fr, .string tt, .string id, .slice pa ts.length pc]] w fun e w' => e = .returned (.tuple #[.slice none 0 0, .int .i64 3]) ∧ Below w.heap.size w w' := by
  refine (encode_any k ty fr tt id pa pc ts av w hT hs hz hE.1.1 hE.maxG hE.lt).mono ?_
  rintro e w' ⟨⟨hn, _⟩ | ⟨_, he⟩, b⟩
  · exact absurd hn h
  · exact ⟨he, b⟩
theorem rightS_no {k : Int} {ty fr tt id : ByteArray} {pa : Option Addr} {pc : Nat} {ts : List Tok} {av : Nat → Option Addr × Nat} {w : World} (hT : TokMem w.heap.size w pa ts av) (hs : ts.length ≤ 1000) (hz : ty.size ≤ 9223372036854775807 ∧ fr.size ≤ 9223372036854775807 ∧ tt.size ≤ 9223372036854775807 ∧ id.size ≤ 9223372036854775807) (hE : EnvT w) (h : ¬ StOk k ty fr tt id ts) :
    Calls Tryd.prog 16 #[.agg #[.int .u8 k, .string ty, .string fr, .string tt, .string id, .slice pa ts.length pc]] w fun e w' => e = .returned (.bool false) ∧ Below w.heap.size w w' := by
  refine (stRight_any k ty fr tt id pa pc ts av w hT hs hz hE.1.1 hE.maxG hE.lt).mono ?_
  rintro e w' ⟨⟨hn, _⟩ | ⟨_, he⟩, b⟩
  · exact absurd hn h
  · exact ⟨he, b⟩
theorem right_none {w : World} (hE : EnvT w) : Calls Tryd.prog 14 #[.slice none 0 0] w fun e w' => e = .returned (.bool true) ∧ Below w.heap.size w w' := by
  refine (right_any none 0 [] (fun _ => (none, 0)) w ⟨by simp, fun k t hk => by simp at hk⟩ hE.1.1).mono ?_
  rintro e w' ⟨⟨_, he⟩ | ⟨hn, _⟩, b⟩
  · exact ⟨he, b⟩
  · exact absurd ⟨by simp, fun k t hk => by simp at hk, rfl⟩ hn
theorem own_capT {w : World} {base e s n gc : Nat} {ga : Option Addr} {xs : List Value} (h : w.ownsRow base e s (.slice ga n gc) n xs) : n ≤ gc := by
  obtain ⟨_, ⟨e, h⟩ | ⟨g, cap, cur, e, _, _, hc, _⟩⟩ := h
  · cases e
    omega
  · cases e
    exact hc
theorem stT_lenT (k : Int) (ty fr tt id : ByteArray) (ts : List Tok) : (stT k ty fr tt id ts).length = ts.length + 2 := by
  unfold stT elemT
  simp
/-- What was encoded is decoded. -/
theorem dec_yes {k : Int} {ty fr tt id : ByteArray} {ts : List Tok} {ao : Option Addr} {n cap : Nat} {av : Nat → Option Addr × Nat} {w : World} (h : StOk k ty fr tt id ts) (hT : TokMem w.heap.size w ao (stT k ty fr tt id ts) av) (hn : (stT k ty fr tt id ts).length = n) (hc : n ≤ cap) (hs : n ≤ 1000) (hE : EnvT w) :
    Calls Tryd.prog 19 #[.slice ao n cap] w fun e w' => ∃ ga gc l, e = .returned (.tuple #[.agg #[.int .u8 k, .string ty, .string fr, .string tt, .string id, .slice ga ts.length gc], .int .i64 0]) ∧ TokMem w'.heap.size w' ga ts (avOf l) ∧ Below w.heap.size w w' := by
  subst hn
  refine (decode_any ao cap _ av w hT hc hs hE.1.1 hE.maxG hE.lt).mono ?_
  rintro e w' ⟨⟨t', d', v, l, hd, he, hm, r⟩ | ⟨hn, _⟩, b⟩
  · obtain ⟨e1, e2⟩ := dec_one hd (dec_enc h)
    subst e1 e2
    subst he
    have hk : kNum (kindB k) = k := num_kind (kind_of h.1)
    have m' : l.map (·.1) = ts := hm.trans (mid_elem _ _ _)
    have hl : l.length = ts.length := by rw [← m', List.length_map]
    have h2 := stT_lenT k ty fr tt id ts
    obtain ⟨ao2, cap2, rfl, hT2⟩ := tokMem_own r (by omega)
    rw [m'] at hT2
    rw [hl]
    exact ⟨ao2, cap2, l, by rw [hk], hT2, b⟩
  · exact absurd ⟨_, _, dec_enc h⟩ hn
theorem sameS_yes {k : Int} {ty fr tt id : ByteArray} {pa1 pa2 : Option Addr} {pc1 pc2 : Nat} {ts : List Tok} {av1 av2 : Nat → Option Addr × Nat} {w : World} (h1 : TokMem w.heap.size w pa1 ts av1) (h2 : TokMem w.heap.size w pa2 ts av2) :
    Calls Tryd.prog 20 #[.agg #[.int .u8 k, .string ty, .string fr, .string tt, .string id, .slice pa1 ts.length pc1], .agg #[.int .u8 k, .string ty, .string fr, .string tt, .string id, .slice pa2 ts.length pc2]] w fun e w' => e = .returned (.bool true) ∧ Below w.heap.size w w' := by
  refine (stSame_any k ty fr tt id pa1 pc1 ts av1 k ty fr tt id pa2 pc2 ts av2 w h1 h2).mono ?_
  rintro e w' ⟨⟨_, he⟩ | ⟨hn, _⟩, b⟩
  · exact ⟨he, b⟩
  · exact absurd ⟨rfl, rfl, rfl, rfl, rfl, rfl⟩ hn
theorem print_len {ts : List Tok} (h : RightT ts) : (printT ts).length ≤ 4480000 := by
  have h1 := printTo_le h.2.1 ts.length
  have h2 := h.1
  unfold printT
  omega
set_option maxRecDepth 100000 in
set_option maxHeartbeats 8000000 in
theorem topSent_any (k : Int) (ty fr tt id : ByteArray) (pa : Option Addr) (pc : Nat) (ts : List Tok) (av : Nat → Option Addr × Nat) (w : World) (hT1 : TokMem w.heap.size w pa ts av) (hz : ty.size ≤ 9223372036854775807 ∧ fr.size ≤ 9223372036854775807 ∧ tt.size ≤ 9223372036854775807 ∧ id.size ≤ 9223372036854775807) (hE : EnvT w) :
    Calls Tryd.prog 4 #[.agg #[.int .u8 k, .string ty, .string fr, .string tt, .string id, .slice pa ts.length pc]] w fun e w' => e = .returned (.bool true) ∧ Below w.heap.size w w' := by
  have mem1 : ∀ V, Below w.heap.size w V → TokMem V.heap.size V pa ts av := fun V hV => (hT1.below hV).raise hV.size
  obtain ⟨n1, hn1⟩ : ∃ n1, ts.length = n1 := ⟨_, rfl⟩
  rw [hn1]
  obtain ⟨Wa, hWa, aa, ba, za⟩ := newV w 38 #[.int .u8 k, .string ty, .string fr, .string tt, .string id, .slice pa n1 pc]
  obtain ⟨x0, x1, x2, x3, x4, x5⟩ := cells6 aa
  have hEa := hE.below ba hE.2
  have HG := hide (And.intro mem1 (And.intro hE (And.intro hz (And.intro hn1 (And.intro aa (And.intro ba hEa))))))
  have h4 := hE.2
  clear aa ba mem1 hE hz hn1 hT1 hEa
  by_cases h70 : 70 < n1
  · have h70i : (70 : Int) < n1 := by omega
    have HR := hide (right_none HG.out.2.2.2.2.2.2)
    go_enter Tryd.func4, Tryd.ntmps4
    go_wp2_with (go_at_call 14; refine HR.out.mono ?_; rintro e w1 ⟨rfl, b1⟩; have B1 := hide b1; clear b1)
    go_ret
    exact ⟨rfl, HG.out.2.2.2.2.2.1.trans (B1.out.mono HG.out.2.2.2.2.2.1.size)⟩
  · have h70i : ¬ (70 : Int) < n1 := by omega
    by_cases hok : StOk k ty fr tt id ts
    · obtain ⟨mem1, hE, hz, hn1, aa, ba, hEa⟩ := HG.out
      have HEn := hide (enc_yes (pc := pc) (mem1 Wa ba) (by omega) hz hEa hok)
      rw [hn1] at HEn
      have HOK := hide hok
      clear hok mem1 hE hz hn1 aa ba hEa
      go_enter Tryd.func4, Tryd.ntmps4
      go_wp2_with (go_at_call 15; refine HEn.out.mono ?_; rintro e w2 ⟨v2, l2, rfl, e2, r2, b2⟩; refine stopHere ?_)
      unfold Hid
      obtain ⟨mem1, hE, hz, hn1, aa, ba, hEa⟩ := HG.out
      have hl2 : l2.length = n1 + 2 := by
        have h := congrArg List.length e2
        rw [List.length_map, stT_lenT, hn1] at h
        exact h
      obtain ⟨ga2, gc2, rfl⟩ := own_shape r2.1
      obtain ⟨ao2, cap2, q2, hT2⟩ := tokMem_own r2 (by omega)
      cases q2
      rw [e2] at hT2
      have B2 : Below w.heap.size w w2 := ba.trans (b2.mono ba.size)
      have hE2 := hE.below B2 hE.2
      obtain ⟨L, hL⟩ : ∃ L, stT k ty fr tt id ts = L := ⟨_, rfl⟩
      have hWh : WholeT L := hL ▸ HOK.out.2
      rw [hL] at hT2
      have hLn : L.length = n1 + 2 := by rw [← hL, stT_lenT, hn1]
      have hpr := print_any ga2 gc2 L (avOf l2) w2 hT2 hE2.1.1 hE2.1.2.1
      rw [hLn] at hpr
      have hbl := print_len hWh.1
      obtain ⟨X, hX⟩ : ∃ X : ByteArray, ⟨(printT L).toArray⟩ = X := ⟨_, rfl⟩
      have hXl : X.data.toList = printT L := by rw [← hX]
      rw [hX] at hpr
      have g2 := (b2.block w.heap.size (hp_lt aa)).trans aa
      have H2 := hide (And.intro hpr (And.intro g2 (And.intro B2 (And.intro hWh (And.intro hXl (And.intro hL hLn))))))
      obtain ⟨p2, hp2⟩ : ∃ p, n1 + 2 = p := ⟨_, rfl⟩
      have hp72 : p2 ≤ 72 := by omega
      rw [hl2, hp2]
      rw [hp2] at H2
      clear hpr g2 hL hXl hX hLn hT2 e2 r2 b2 mem1 hE hz hn1 aa ba hEa hl2 hE2 hp2 B2
      go_wp2_with (first
        | (go_at_call 6; refine H2.out.1.mono ?_; rintro e w5 ⟨⟨_, rfl⟩ | ⟨hn, _⟩, b5⟩; rotate_left; exact absurd hWh.1 hn; have H5 := hide b5; clear b5)
        | (go_at_call 17; refine (Xm.new_any w5).mono ?_; rintro e w6 ⟨rfl, hP6, hz6, hb6⟩; refine stopHere ?_))
      unfold Hid
      obtain ⟨hpr, g2, B2, _, hXl, hL, hLn⟩ := H2.out
      have s2 := B2.size
      have s5 := H5.out.size
      obtain ⟨V7, cap7, cv7, hW7, z7, hb7⟩ := Xm.to_bytes X w6
      have hP7 := hP6.below hb7
      have hbp : Below w5.heap.size w5 V7 := hb6.trans (hb7.mono (by omega))
      have B5 : Below w.heap.size w w5 := B2.trans (H5.out.mono s2)
      have B7 : Below w.heap.size w V7 := B5.trans (hbp.mono (by omega))
      have hE7 := HG.out.2.1.below B7 h4
      have hB7 : Xm.Bytes V7 w5.heap.size (.slice none 0 0) (.slice none 0 0) (some ⟨w6.heap.size, 0, none⟩) X.data.toList := Xm.bytes_block hP7 hW7.choose_spec.choose_spec.1 (by intro h; cases h) hW7.choose_spec.choose_spec.2
      have hfe := Xm.Feed_any w5.heap.size w5.heap.size Xm.st0 _ _ _ cap7 X.data.toList V7 hP7 Xm.inv0 hE7.1 (by omega) (by omega) hB7 (by rw [hXl]; omega)
      rw [show X.data.toList.length = X.size from Array.length_toList, hXl, Xm.FeedF_of rfl] at hfe
      have g7 := (((hbp.mono (Nat.le_refl _)).block w.heap.size (by have := hp_lt g2; omega)).trans (H5.out.block w.heap.size (hp_lt g2))).trans g2
      obtain ⟨x0, x1, x2, x3, x4, x5⟩ := cells6 g7
      have H7 := hide (And.intro hfe (And.intro hP7 (And.intro B7 (And.intro g7 z7))))
      have HXS := hide (show X.size = (printT L).length by rw [← hXl]; exact Array.length_toList.symm)
      have hv7 : w5.heap.size ≤ V7.heap.size := by omega
      have hlt2 : w.heap.size < w2.heap.size := hp_lt g2
      clear hpr g2 B2 hXl hP6 hb6 hb7 hP7 hbp hE7 hB7 hfe hW7 B5 B7 g7 hz6 z7
      rcases Xm.feed_back hWh with ⟨st', hfb, hsh⟩ | ⟨hbr, hlong⟩
      · have HFB := hide (And.intro hfb hsh)
        have HHL := hide (And.intro hL hLn)
        clear hfb hsh hL hLn
        go_wp2_with (first
          | (go_at_call 18; refine H7.out.1.mono ?_; rintro e w8 ⟨st8, v8, l8, vw8, vo8, rfl, q1, q2, q3, q4⟩; refine stopHere ?_))
        unfold Hid
        obtain ⟨hfb, hsh⟩ := HFB.out
        obtain ⟨hL, hLn⟩ := HHL.out
        rw [hfb] at q1 q4
        obtain rfl : st8 = st' := by
          rcases q4 with e | ⟨e, _⟩
          · exact e
          · exact absurd hsh.2.2.2 e
        rw [hsh.2.2.2]
        have hl8 : l8.length = p2 := by
          have h := congrArg List.length q1
          rw [List.length_map, hLn] at h
          exact h
        have hcap8 := q2.1
        obtain ⟨ga8, gc8, rfl⟩ := own_shape q2.1
        have hc8 := own_capT q2.1
        obtain ⟨ao8, cap8, q8, hT8⟩ := tokMem_own q2 (by omega)
        cases q8
        have B78 := Xm.Run.under H7.out.2.1 q3
        have s78 := B78.size
        have s7 := H7.out.2.2.1.size
        have B8 : Below w.heap.size w w8 := H7.out.2.2.1.trans (B78.mono (by omega))
        have g8 := (B78.block w.heap.size (by omega)).trans H7.out.2.2.2.1
        rw [q1, ← hL] at hT8
        have hE8 := HG.out.2.1.below B8 h4
        have hdc := dec_yes (n := p2) (cap := gc8) HOK.out hT8 (by rw [hL, hLn]) (by omega) (by omega) hE8
        rw [HG.out.2.2.2.1] at hdc
        have HD := hide hdc
        have H8 := hide (And.intro B8 g8)
        obtain ⟨y0, y1, y2, y3, y4, y5⟩ := cells6 g8
        rw [hl8]
        clear hfb hsh hL hLn q1 q2 q3 q4 hl8 hcap8 hc8 hT8 B78 B8 g8 hE8 hdc x0 x1 x2 x3 x4 x5
        go_wp2_with (go_at_call 19; refine HD.out.mono ?_; rintro e w9 ⟨ga9, gc9, l9, rfl, hT9, b9⟩; refine stopHere ?_)
        unfold Hid
        obtain ⟨W9, hW9, a9, c9, z9⟩ := newV w9 38 #[.int .u8 k, .string ty, .string fr, .string tt, .string id, .slice ga9 n1 gc9]
        have HST := hide (run_store_new (P := Tryd.prog) infoSt w9 (cs := #[.int .u8 k, .string ty, .string fr, .string tt, .string id, .slice ga9 n1 gc9]) (c := zeroSt) rfl rfl (by simp [Value.oneCell']))
        have g9 := (c9.block w.heap.size (Nat.lt_of_lt_of_le (hp_lt H8.out.2) b9.size)).trans ((b9.block w.heap.size (hp_lt H8.out.2)).trans H8.out.2)
        have B9 : Below w.heap.size w W9 := H8.out.1.trans ((b9.trans (c9.mono b9.size)).mono H8.out.1.size)
        have hsm := sameS_yes (k := k) (ty := ty) (fr := fr) (tt := tt) (id := id) (pc1 := gc9) (pc2 := pc) ((hT9.below c9).raise c9.size) (HG.out.1 W9 B9)
        rw [HG.out.2.2.2.1] at hsm
        have HSm := hide hsm
        obtain ⟨y0, y1, y2, y3, y4, y5⟩ := cells6 g9
        obtain ⟨u0, u1, u2, u3, u4, u5⟩ := cells6 a9
        have HB9 := hide B9
        clear hsm g9 a9 c9 b9 hT9 B9 z9 HD
        go_wp2_with (first
          | (refine l_alloc 38 infoSt rfl rfl ?_)
          | (refine l_store 38 HST.out rfl rfl rfl rfl ?_; rw [hW9])
          | (go_at_call 20; refine HSm.out.mono ?_; rintro e w10 ⟨rfl, b10⟩; have HB10 := hide (HB9.out.trans (b10.mono HB9.out.size)); clear b10))
        go_ret
        exact ⟨rfl, HB10.out⟩
      · have HBR := hide hbr
        have hxi : (512 : Int) < X.size := by have := HXS.out; omega
        clear hbr hlong hL hLn
        go_wp2_with (first
          | (go_at_call 18; refine H7.out.1.mono ?_; rintro e w8 ⟨st8, v8, l8, vw8, vo8, rfl, q1, q2, q3, q4⟩; refine stopHere ?_))
        unfold Hid
        have h5 : st8.broken = 5 := by
          rcases q4 with e | ⟨_, _, _, _, e⟩
          · rw [e]; exact HBR.out
          · rw [e]; exact HBR.out
        rw [h5]
        have B8 : Below w.heap.size w w8 := H7.out.2.2.1.trans ((Xm.Run.under H7.out.2.1 q3).mono (by omega))
        have HB8 := hide B8
        clear h5 q1 q2 q3 q4 B8
        go_wp2_with fail
        go_ret
        exact ⟨rfl, HB8.out⟩
    · obtain ⟨mem1, hE, hz, hn1, aa, ba, hEa⟩ := HG.out
      have HEn := hide (enc_no (pc := pc) (mem1 Wa ba) (by omega) hz hEa hok)
      rw [hn1] at HEn
      have HOK := hide hok
      clear hok mem1 hE hz hn1 aa ba hEa
      go_enter Tryd.func4, Tryd.ntmps4
      go_wp2_with (go_at_call 15; refine HEn.out.mono ?_; rintro e w2 ⟨rfl, b2⟩; refine stopHere ?_)
      unfold Hid
      obtain ⟨mem1, hE, hz, hn1, aa, ba, hEa⟩ := HG.out
      have B2 : Below w.heap.size w w2 := ba.trans (b2.mono ba.size)
      have g2 := (b2.block w.heap.size (hp_lt aa)).trans aa
      obtain ⟨y0, y1, y2, y3, y4, y5⟩ := cells6 g2
      have hri := rightS_no (pc := pc) (mem1 w2 B2) (by omega) hz (hE.below B2 h4) HOK.out
      rw [hn1] at hri
      have HR := hide hri
      have HB2 := hide B2
      clear hri mem1 hE hz hn1 aa ba hEa g2 b2 B2
      go_wp2_with (go_at_call 16; refine HR.out.mono ?_; rintro e w3 ⟨rfl, b3⟩; have HB3 := hide (HB2.out.trans (b3.mono HB2.out.size)); clear b3)
      go_ret
      exact ⟨rfl, HB3.out⟩
end Go.Proofs.YthmidlmknkbdaaaDoor
