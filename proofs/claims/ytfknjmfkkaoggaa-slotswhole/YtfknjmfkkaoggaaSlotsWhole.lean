/- SlotsWhole. -/
import Derived.Test.YtfknjmfkkaoggaaS28
namespace Go.Proofs.Ytfknjmfkkaoggaa
open Go.RowKit Go.Shelf

theorem infoBl : (Try.prog.info? 4).map (fun i => (i.zero, i.size, i.bytes)) = some (some (.bool false), 1, 1) := by kernel_rfl
abbrev RowB (w : World) (base : Nat) (v : Value) (l : List Bool) : Prop := w.ownsRow base 4 1 v l.length (l.map Value.bool)
/-- One more behind. -/
theorem put_bool {base : Nat} {v : Value} {l : List Bool} {w : World} (c : Bool) (h : RowB w base v l) (hb : base ≤ w.heap.size) (hl : l.length ≤ 10000000) : ∃ v' w', (Builtin.append_ #[42, 42] 42 #[v, .slice (some ⟨w.heap.size, 0, none⟩) 1 1]).run Try.prog (w.alloc (.cells #[.bool c] 4)) = .ok v' w' ∧ RowB w' base v' (l ++ [c]) ∧ w.grownBy w' v.ownBlock := by
  obtain ⟨ti, t1, t2, t3, t4⟩ := infos infoBl
  have hB : Below w.heap.size w (w.alloc (.cells #[.bool c] 4)) := (Below.refl _ w).alloc (Nat.le_refl _) _
  obtain ⟨v', w', hap, y1, y2, _, y4⟩ := run_append_own_at (P := Try.prog) (w.alloc (.cells #[.bool c] 4)) base 42 42 4 ti _ 1 1 Try.underlying42 t1 t2 t3 t4 rfl (by omega) v l.length (l.map Value.bool) (own_same h (fun g e => hB.block g (own_lt h g e))) ⟨w.heap.size, 0, none⟩ 1 1 [.bool c] rfl (cell_one_new w _ _) (by simp [Value.oneCell']) (by unfold maxLen; omega) (by omega) (Nat.le_trans hb hB.size)
  refine ⟨v', w', hap, ?_, (World.grownBy_alloc w _ _).trans y2⟩
  show w'.ownsRow base 4 1 v' (l ++ [c]).length ((l ++ [c]).map Value.bool)
  rw [List.map_append, List.length_append]
  exact y1
theorem RowB.mem {w : World} {base : Nat} {v : Value} {l : List Bool} (h : RowB w base v l) (hl : l.length ≤ 9223372036854775807) : ∃ ao cap, v = .slice ao l.length cap ∧ BoolMem w.heap.size w ao l ∧ ∀ b off, ao = some ⟨b, off, none⟩ → base ≤ b := by
  obtain ⟨h1, ⟨rfl, h2⟩ | ⟨g, cap, cur, rfl, x1, x2, x3, x4, x5, x6⟩⟩ := h
  · have hl : l = [] := List.eq_nil_of_length_eq_zero h2
    subst hl
    exact ⟨none, 0, rfl, ⟨by simp, fun j v hj => by cases hj⟩, fun _ _ e => by cases e⟩
  · refine ⟨_, _, rfl, ⟨hl, fun j v hj => ⟨g, 0, rfl, (Array.getElem?_eq_some_iff.1 x2).1, ?_⟩⟩, fun b off e => by cases e; exact x1⟩
    have hx : (l.map Value.bool)[j]? = some (.bool v) := by rw [List.getElem?_map, hj]; rfl
    have hjl := (List.getElem?_eq_some_iff.1 hj).1
    rw [← x6, List.getElem?_take_of_lt (by omega)] at hx
    simp [World.cell?, x2]
    simpa using hx
theorem torn_mem {base q p : Nat} {d : Dv} {vl vw : Value} {w : World} (h : IsS base q p d vl vw w) (hd : DvOk d) (hb : base ≤ w.heap.size) (h2 : 4 ≤ d.las.length) {ba : Option Addr} {b : List UInt8} {ln cap : Nat} (hB : ByteMem base w ba b) (hll : b.length = ln) (hc : ln ≤ cap) (hcm : cap ≤ 9223372036854775807) (hwf : d.wr.length + 5000 ≤ 1000000) {ao : Option Addr} {wri : Int} (hwn : ¬ wri < 0) {sv : List Bool} {cv : Nat} (hm : BoolMem w.heap.size w ao sv) (hmo : ∀ b off, ao = some ⟨b, off, none⟩ → ¬ foot p vl vw b) :
    Calls Try.prog 24 #[.pointer (some ⟨q, 0, none⟩), .slice ba ln cap, .int .i64 wri, .slice ao sv.length cv] w fun e w' => e = .returned (.int .i64 (errS d ln)) ∧ STo base q p vl vw (tornE d b wri sv) w w' := by
  unfold errS tornE
  rw [hll]
  by_cases hf : Full d ln
  · rw [if_pos hf, if_pos hf]
    exact torn_full base q p d vl vw ba ao wri sv cv ln cap w h hd hb h2 hd.most (by omega) hf
  · rw [if_neg hf, if_neg hf, if_neg hwn]
    exact torn_any base q p d vl vw ba ao wri sv cv b ln cap w h hd hb h2 hd.most (hB.up hb) (off_foot h hb hB) hll hc hwf hf hwn hm fun j v g off _ e => hmo g off e
theorem whole_same (d : Dv) (b : List UInt8) (hb : b.length ≤ 700) : tornE d b 100 (List.replicate 40 true) = saveE d b := by
  unfold tornE saveE
  rw [torn_whole d b 100 (List.replicate 40 true) (by omega) (by decide) (by omega)]
  rfl
theorem save_inv {d : Dv} {k : Nat} {t : V} {l : List UInt8} (h : Inv d k t l) (b : List UInt8) (ht : t.toNat < 18446744073709551615) : ∃ k' t' l', Inv (saveE d b) k' t' l' ∧ (saveE d b).las.length = d.las.length := by
  unfold saveE
  split
  · exact ⟨k, t, l, h, rfl⟩
  · rename_i hf
    unfold Full at hf
    obtain ⟨i1, i2, _⟩ := inv_save (b := b) h (by omega) ht
    exact ⟨_, _, _, i1, i2⟩
set_option maxRecDepth 100000 in
set_option maxHeartbeats 4000000 in
theorem slotsWhole_any (n : Nat) (hn : n < 256) (ao : Option Addr) (dcap : Nat) (ds : List Sd) (ba : Option Addr) (b : List UInt8) (cap : Nat) (w : World) (hm : SdMem w.heap.size w ao ds) (hB : ByteMem w.heap.size w ba b) (hc : b.length ≤ cap) (hcm : cap ≤ 9223372036854775807) :
    Calls Try.prog 7 #[.int .u8 n, .slice ao ds.length dcap, .slice ba b.length cap] w fun e w' => e = .returned (.bool true) ∧ Below w.heap.size w w' := by
  have H0 := hide (play_any n hn ao dcap ds w hm)
  obtain ⟨m, hmm⟩ : ∃ m, n % 16 + 4 = m := ⟨_, rfl⟩
  have hm1 : 4 ≤ m := by omega
  have hm2 : m ≤ 20 := by omega
  rw [hmm] at H0
  obtain ⟨dn, hdn⟩ : ∃ dn, ds.length = dn := ⟨_, rfl⟩
  rw [hdn] at H0
  rw [hdn]
  have hfw := fun (V : World) (hV : Below w.heap.size w V) => few_any ba b cap V (hB.below hV) hc
  obtain ⟨f, hf⟩ : ∃ f, b.take 700 = f := ⟨_, rfl⟩
  have hf7 : f.length ≤ 700 := by rw [← hf, List.length_take]; omega
  have hfc : f.length ≤ cap := by rw [← hf, List.length_take]; omega
  have HB := hide (show ByteMem w.heap.size w ba f from hf ▸ hB.take 700)
  obtain ⟨ln, hln⟩ : ∃ ln, b.length = ln := ⟨_, rfl⟩
  rw [hf, hln] at hfw
  obtain ⟨mf, hmf⟩ : ∃ mf, f.length = mf := ⟨_, rfl⟩
  rw [hmf] at hfw hf7 hfc
  rw [hln]
  have HFW := hide (And.intro hfw hmf)
  clear hm hB hdn hmm hf hln hfw hmf hc
  go_enter Try.func7, Try.ntmps7
  go_wp2_with (first
    | (go_at_call 14; refine H0.out.mono ?_; rintro e w1 ⟨qs, ps, qt, pt, d, rfl, P1, b1⟩; obtain ⟨vl, vw, k, t, l, t1, jt⟩ := P1.sto hm1 (by omega); have s1 := b1.size; have H1 := hide (And.intro t1 b1); clear t1 b1 P1)
    | (go_at_call 15; refine (live_any w1).mono ?_; rintro e w2 ⟨rfl, b2⟩; have s2 := b2.size; have H2 := hide (And.intro (H1.out.1.below b2) (H1.out.2.trans (b2.mono s1))); clear b2)
    | (go_at_call 17; refine (HFW.out.1 w2 H2.out.2).mono ?_; rintro e w' ⟨rfl, hw'⟩; rw [hw']; clear hw'))
  have hnil : RowB w2 w2.heap.size (.slice none 0 0) (List.replicate 0 true) := ⟨rfl, .inl ⟨rfl, rfl⟩⟩
  have HN := hide hnil
  clear hnil
  go_loopw [10, 11] (fun v i wr => ∃ j : Nat, j ≤ 40 ∧ i = .int .i64 j ∧ RowB wr w2.heap.size v (List.replicate j true) ∧ Below w2.heap.size w2 wr) (fun _ i _ => 40 - (intOf i).toNat)
  case atStart => exact ⟨0, Nat.zero_le _, rfl, HN.out, Below.refl _ _⟩
  case round =>
    obtain ⟨j, hj, rfl, hr, hb⟩ := hrel
    have hw1 : IntKind.i64.wrap ((j : Int) + 1) = j + 1 := by rw [IntKind.wrap_i64]; omega
    by_cases hlt : (j : Int) < 40
    · obtain ⟨v', w', hap, hr', hg⟩ := put_bool true hr hb.size (by rw [List.length_replicate]; omega)
      have HA := hide hap
      have hb' := hb.grown hg hb.size (fun k e => own_base hr k e)
      rw [← List.replicate_succ'] at hr'
      have HR := hide (And.intro hr' hb')
      clear hr hb hap hr' hg hb'
      go_wp2_with (first | (at_builtin; refine l_val rfl _ (ex_append2 (t := 42) (t' := 42) rfl rfl rfl HA.out) ?_))
      go_roundw
      case rel => exact ⟨j + 1, by omega, by simp, HR.out.1, HR.out.2⟩
      case measure => simp [intOf]; omega
    · obtain rfl : j = 40 := by omega
      obtain ⟨sa, scap, rfl, hbm, hbo⟩ := hr.mem (by rw [List.length_replicate]; omega)
      have T3 := H2.out.1.below hb
      have s3 := hb.size
      obtain ⟨k', t', l', hI', hz'⟩ := save_inv T3.inv f (by omega)
      have hsv := forkS_any w.heap.size qs ps d vl vw wr T3.is T3.ok (by omega)
      have HT3 := hide (And.intro T3 (And.intro (H2.out.2.trans (hb.mono (by omega))) (And.intro hbm hbo)))
      have HI := hide (And.intro hI' hz')
      have HK := hide hsv
      obtain ⟨er, her⟩ : ∃ er, errS d mf = er := ⟨_, rfl⟩
      obtain ⟨ls, hls⟩ : ∃ ls : ByteArray, ⟨l'.toArray⟩ = ls := ⟨_, rfl⟩
      have HLS := hide hls
      have HER := hide her
      rw [List.length_replicate]
      clear hr hb hbm hbo T3 hI' hz' hsv hls her
      go_wp2_with (first
        | (go_at_call 25; refine HK.out.mono ?_; rintro e w5 ⟨qf, pf, vlf, vwf, rfl, d5, hq5, b5, f5⟩; refine stopHere ?_))
      unfold Hid
      have s5 := b5.size
      have B5 := HT3.out.2.1.trans (b5.mono (by omega))
      have T5 := HT3.out.1.below b5
      have hs6 := save_all (cap := cap) T5.is T5.ok T5.low (by rw [T5.size]; exact hm1) (HB.out.below B5) HFW.out.2 hfc hcm (by rw [T5.inv.1]; show 0 + 5000 ≤ _; omega)
      rw [HER.out] at hs6
      have H5 := hide (And.intro T5 (And.intro d5 (And.intro (HT3.out.2.2.1.1 |> fun _ => b5) (And.intro B5 (And.intro hq5 f5)))))
      have HS6 := hide hs6
      clear hs6 T5 d5 b5 B5 hq5 f5
      go_wp2_with (first
        | (go_at_call 22; refine HS6.out.mono ?_; rintro e w6 ⟨rfl, t6⟩; refine stopHere ?_))
      unfold Hid
      obtain ⟨T5, d5, b5, B5, hq5, f5⟩ := H5.out
      obtain ⟨vl6, vw6, i6, fr6, n6⟩ := t6
      have s6 := fr6.below.size
      have B6 := B5.trans fr6.below
      have dn5 : ∀ j, foot pf vlf vwf j → ¬ foot ps vl vw j := fun j hj hp => by
        have h1 := f5 j hj
        have h2 := (HT3.out.1.lt hp).2
        omega
      have qn5 : ¬ foot ps vl vw qf := fun hp => by
        have h2 := (HT3.out.1.lt hp).2
        omega
      have d6 : IsS w.heap.size qf pf d vlf vwf w6 := ⟨(fr6.same _ (hp_lt d5.here) qn5).trans d5.here, d5.low, d5.dev.apart fr6 dn5⟩
      have m6 : BoolMem w6.heap.size w6 sa (List.replicate 40 true) := by
        refine ⟨HT3.out.2.2.1.1, fun j v hj => ?_⟩
        obtain ⟨g, o, e1, e2, e3⟩ := HT3.out.2.2.1.2 j v hj
        have hg := HT3.out.2.2.2 g o e1
        have hng : ¬ foot ps vl vw g := fun hp => by have := (H2.out.1.lt hp).2; omega
        refine ⟨g, o, e1, by omega, ?_⟩
        have q1 : w6.heap[g]? = wr.heap[g]? := (fr6.same g (by omega) hng).trans (b5.block g e2)
        unfold World.cell? at e3 ⊢
        simp only [q1]
        exact e3
      have mo6 : ∀ b off, sa = some ⟨b, off, none⟩ → ¬ foot pf vlf vwf b := fun g o e hp => by
        have h1 := f5 g hp
        obtain ⟨g', o', e1, e2, _⟩ := HT3.out.2.2.1.2 0 true rfl
        rw [e] at e1
        cases e1
        omega
      have hs7 := torn_mem (cap := cap) (wri := 100) (cv := scap) d6 T5.ok B6.size (by rw [T5.size]; exact hm1) (HB.out.below B6) HFW.out.2 hfc hcm (by rw [T5.inv.1]; show 0 + 5000 ≤ _; omega) (by omega) m6 mo6
      rw [HER.out, whole_same d f (by rw [HFW.out.2]; exact hf7), List.length_replicate] at hs7
      have H6 := hide (And.intro i6 (And.intro d6 (And.intro n6 (And.intro B6 (And.intro fr6 s6)))))
      have HS7 := hide hs7
      clear hs7 m6 mo6 d6 i6 n6 B6 fr6 dn5 qn5 T5 d5 b5 B5 f5
      go_wp2_with (first
        | (go_at_call 24; refine HS7.out.mono ?_; rintro e w8 ⟨rfl, t8⟩; refine stopHere ?_))
      unfold Hid
      obtain ⟨vl8, vw8, i8, fr8, n8⟩ := t8
      obtain ⟨i6, d6, n6, B6, fr6, _⟩ := H6.out
      obtain ⟨_, _, b5, _, _, f5⟩ := H5.out
      have s8 := fr8.below.size
      have off8 : ∀ j, foot ps vl6 vw6 j → ¬ foot pf vlf vwf j := fun j hj hp => by
        have h1 := f5 j hp
        rcases n6 j hj with h2 | h2
        · have := (HT3.out.1.lt h2).2
          omega
        · have := (d6.dev.lt hp).2
          have h9 : j < w5.heap.size := (H5.out.2.1.dev.lt hp).2
          omega
      have qoff8 : ¬ foot pf vlf vwf qs := fun hp => by
        have h1 := f5 qs hp
        have := hp_lt HT3.out.1.is.here
        omega
      have i8s : IsS w.heap.size qs ps (saveE d f) vl6 vw6 w8 := ⟨(fr8.same _ (hp_lt i6.here) qoff8).trans i6.here, i6.low, i6.dev.apart fr8 off8⟩
      have hsz : (saveE d f).las.length = m := HI.out.2.trans HT3.out.1.size
      have B8 := B6.trans fr8.below
      have H8 := hide (And.intro (Sto.mk i8s HI.out.1 hsz hm1 (by omega) B8.size) (And.intro (Sto.mk i8 HI.out.1 hsz hm1 (by omega) B8.size) B8))
      clear i8s i8 hsz off8 qoff8 B8 B6 fr6 fr8 n6 n8 i6 d6 b5 f5
      go_wp2_with fail
      have T0 := (H8.out.1).below (Below.refl _ w8).drew
      have U0 := (H8.out.2.1).below (Below.refl _ w8).drew
      have B0 : Below w8.heap.size w8 w8.drew := (Below.refl _ w8).drew
      obtain ⟨V0, hV0⟩ : ∃ V0, w8.drew = V0 := ⟨_, rfl⟩
      rw [hV0] at B0 T0 U0
      refine region_rel (S := fun V => Below V0.heap.size V0 V) (fun a W => ∃ xx : Nat → Value, (Below w8.heap.size w8 W) ∧ a = { tmps := #[xx 0, xx 1, xx 2, xx 3, xx 4, xx 5, .bool true, xx 7, xx 8, xx 9, xx 10, xx 11, xx 12, xx 13, xx 14, xx 15, xx 16, xx 17, xx 18, xx 19, xx 20, xx 21, xx 22, xx 23, xx 24, xx 25, xx 26, xx 27, xx 28, xx 29, xx 30, xx 31, xx 32, xx 33, xx 34, xx 35, xx 36, xx 37, xx 38, xx 39, xx 40, xx 41, xx 42, xx 43, xx 44, xx 45, xx 46, xx 47, xx 48, xx 49, xx 50, xx 51, xx 52, xx 53, xx 54, xx 55, xx 56, xx 57, xx 58, xx 59, xx 60, xx 61, xx 62, xx 63, xx 64], defers := [] }) (by kernel_rfl) ?any6 ?fin6
      case any6 =>
        rw [hV0]
        clear hV0
        have S0 : Below V0.heap.size V0 V0 := Below.refl _ _
        refine anyH_take (i := 0) (v := .int .i64 er) rfl (some 46) rfl (by kernel_rfl) (by kernel_rfl) (by kernel_rfl) (fun _ _ _ h => by cases h.1) (by kernel_rfl) (fun w0 hw0 => by first | rfl | kernel_rfl) S0 ?_
        simp only [Act.put, List.setIfInBounds_toArray, List.set_cons_zero, List.set_cons_succ]
        refine anyH_take (i := 1) (v := .int .i64 er) rfl (some 47) rfl (by kernel_rfl) (by kernel_rfl) (by kernel_rfl) (fun _ _ _ h => by cases h.1) (by kernel_rfl) (fun w0 hw0 => by first | rfl | kernel_rfl) S0 ?_
        simp only [Act.put, List.setIfInBounds_toArray, List.set_cons_zero, List.set_cons_succ]
        refine anyH_take (i := 2) (v := .bool true) rfl (some 48) rfl (by kernel_rfl) (by kernel_rfl) (by kernel_rfl) (fun _ _ _ h => by cases h.1) (by kernel_rfl) (fun w0 hw0 => ex_eqe rfl rfl rfl) S0 ?_
        simp only [Act.put, List.setIfInBounds_toArray, List.set_cons_zero, List.set_cons_succ]
        refine anyH_take (i := 3) (v := .bool true) rfl (some 49) rfl (by kernel_rfl) (by kernel_rfl) (by kernel_rfl) (fun _ _ _ h => by cases h.1) (by kernel_rfl) (fun w0 hw0 => by first | rfl | kernel_rfl) S0 ?_
        simp only [Act.put, List.setIfInBounds_toArray, List.set_cons_zero, List.set_cons_succ]
        refine anyH_take (i := 4) (v := .pointer (some ⟨qs, 0, none⟩)) rfl (some 50) rfl (by kernel_rfl) (by kernel_rfl) (by kernel_rfl) (fun _ _ _ h => by cases h.1) (by kernel_rfl) (fun w0 hw0 => by first | rfl | kernel_rfl) S0 ?_
        simp only [Act.put, List.setIfInBounds_toArray, List.set_cons_zero, List.set_cons_succ]
        refine anyH_take (i := 7) (v := .pointer (some ⟨qf, 0, none⟩)) rfl (some 53) rfl (by kernel_rfl) (by kernel_rfl) (by kernel_rfl) (fun _ _ _ h => by cases h.1) (by kernel_rfl) (fun w0 hw0 => by first | rfl | kernel_rfl) S0 ?_
        simp only [Act.put, List.setIfInBounds_toArray, List.set_cons_zero, List.set_cons_succ]
        refine anyH_one (i := 5) (by kernel_rfl) ?_
        refine op_call rfl (some 51) rfl (by kernel_rfl) #[.pointer (some ⟨qs, 0, none⟩)] rfl (by simp [Act.eval]) (fun _ _ => rfl) (load_sto T0) ?_
        rintro e V1 ⟨ga, gc, rfl, r1, b1⟩
        have b1 : Below V0.heap.size V0 V1 := b1
        refine ⟨_, rfl, S0.trans (b1.mono S0.size), ?_⟩
        simp only [Act.put, List.setIfInBounds_toArray, List.set_cons_zero, List.set_cons_succ]
        refine anyH_more (fun V => Below V1.heap.size V1 V) (fun V hV => S0.trans ((b1.trans (hV.mono b1.size)).mono S0.size)) ?_
        have S1 : Below V1.heap.size V1 V1 := Below.refl _ _
        have B1 : Below w8.heap.size w8 V1 := B0.trans (b1.mono B0.size)
        have T1 := T0.below b1
        have U1 := U0.below b1
        refine anyH_take (i := 6) (v := .string ls) rfl (some 52) rfl (by kernel_rfl) (by kernel_rfl) (by kernel_rfl) (fun _ _ _ h => by cases h.1) (by kernel_rfl) (fun w0 hw0 => ex_conv rfl rfl (HLS.out ▸ conv_own (own_same r1 (fun g e => hw0.block g (own_lt r1 g e))))) S1 ?_
        simp only [Act.put, List.setIfInBounds_toArray, List.set_cons_zero, List.set_cons_succ]
        refine anyH_one (i := 8) (by kernel_rfl) ?_
        refine op_call rfl (some 54) rfl (by kernel_rfl) #[.pointer (some ⟨qf, 0, none⟩)] rfl (by simp [Act.eval]) (fun _ _ => rfl) (load_sto U1) ?_
        rintro e V2 ⟨gb, gd, rfl, r2, b2⟩
        have b2 : Below V1.heap.size V1 V2 := b2
        refine ⟨_, rfl, S1.trans (b2.mono S1.size), ?_⟩
        simp only [Act.put, List.setIfInBounds_toArray, List.set_cons_zero, List.set_cons_succ]
        refine anyH_more (fun V => Below V2.heap.size V2 V) (fun V hV => S1.trans ((b2.trans (hV.mono b2.size)).mono S1.size)) ?_
        have S2 : Below V2.heap.size V2 V2 := Below.refl _ _
        have B2 : Below w8.heap.size w8 V2 := B1.trans (b2.mono B1.size)
        have T2 := T1.below b2
        have U2 := U1.below b2
        refine anyH_take (i := 9) (v := .string ls) rfl (some 55) rfl (by kernel_rfl) (by kernel_rfl) (by kernel_rfl) (fun _ _ _ h => by cases h.1) (by kernel_rfl) (fun w0 hw0 => ex_conv rfl rfl (HLS.out ▸ conv_own (own_same r2 (fun g e => hw0.block g (own_lt r2 g e))))) S2 ?_
        simp only [Act.put, List.setIfInBounds_toArray, List.set_cons_zero, List.set_cons_succ]
        refine anyH_take (i := 10) (v := .bool true) rfl (some 56) rfl (by kernel_rfl) (by kernel_rfl) (by kernel_rfl) (fun _ _ _ h => by cases h.1) (by kernel_rfl) (fun w0 hw0 => ex_eqs rfl rfl rfl) S2 ?_
        simp only [Act.put, List.setIfInBounds_toArray, List.set_cons_zero, List.set_cons_succ]
        refine anyH_take (i := 11) (v := .bool true) rfl (some 57) rfl (by kernel_rfl) (by kernel_rfl) (by kernel_rfl) (fun _ _ _ h => by cases h.1) (by kernel_rfl) (fun w0 hw0 => ex_pickT rfl rfl rfl) S2 ?_
        simp only [Act.put, List.setIfInBounds_toArray, List.set_cons_zero, List.set_cons_succ]
        refine anyH_take (i := 12) (v := .bool true) rfl (some 58) rfl (by kernel_rfl) (by kernel_rfl) (by kernel_rfl) (fun _ _ _ h => by cases h.1) (by kernel_rfl) (fun w0 hw0 => by first | rfl | kernel_rfl) S2 ?_
        simp only [Act.put, List.setIfInBounds_toArray, List.set_cons_zero, List.set_cons_succ]
        refine anyH_take (i := 13) (v := .pointer (some ⟨qs, 0, none⟩)) rfl (some 59) rfl (by kernel_rfl) (by kernel_rfl) (by kernel_rfl) (fun _ _ _ h => by cases h.1) (by kernel_rfl) (fun w0 hw0 => by first | rfl | kernel_rfl) S2 ?_
        simp only [Act.put, List.setIfInBounds_toArray, List.set_cons_zero, List.set_cons_succ]
        refine anyH_take (i := 15) (v := .pointer (some ⟨qf, 0, none⟩)) rfl (some 61) rfl (by kernel_rfl) (by kernel_rfl) (by kernel_rfl) (fun _ _ _ h => by cases h.1) (by kernel_rfl) (fun w0 hw0 => by first | rfl | kernel_rfl) S2 ?_
        simp only [Act.put, List.setIfInBounds_toArray, List.set_cons_zero, List.set_cons_succ]
        refine anyH_one (i := 14) (by kernel_rfl) ?_
        refine op_call rfl (some 60) rfl (by kernel_rfl) #[.pointer (some ⟨qs, 0, none⟩)] rfl (by simp [Act.eval]) (fun _ _ => rfl) (turn_sto T2) ?_
        rintro e V3 ⟨rfl, b3⟩
        have b3 : Below V2.heap.size V2 V3 := b3
        refine ⟨_, rfl, S2.trans (b3.mono S2.size), ?_⟩
        simp only [Act.put, List.setIfInBounds_toArray, List.set_cons_zero, List.set_cons_succ]
        refine anyH_more (fun V => Below V3.heap.size V3 V) (fun V hV => S2.trans ((b3.trans (hV.mono b3.size)).mono S2.size)) ?_
        have S3 : Below V3.heap.size V3 V3 := Below.refl _ _
        have B3 : Below w8.heap.size w8 V3 := B2.trans (b3.mono B2.size)
        have T3 := T2.below b3
        have U3 := U2.below b3
        refine anyH_one (i := 16) (by kernel_rfl) ?_
        refine op_call rfl (some 62) rfl (by kernel_rfl) #[.pointer (some ⟨qf, 0, none⟩)] rfl (by simp [Act.eval]) (fun _ _ => rfl) (turn_sto U3) ?_
        rintro e V4 ⟨rfl, b4⟩
        have b4 : Below V3.heap.size V3 V4 := b4
        refine ⟨_, rfl, S3.trans (b4.mono S3.size), ?_⟩
        simp only [Act.put, List.setIfInBounds_toArray, List.set_cons_zero, List.set_cons_succ]
        refine anyH_more (fun V => Below V4.heap.size V4 V) (fun V hV => S3.trans ((b4.trans (hV.mono b4.size)).mono S3.size)) ?_
        have S4 : Below V4.heap.size V4 V4 := Below.refl _ _
        have B4 : Below w8.heap.size w8 V4 := B3.trans (b4.mono B3.size)
        have T4 := T3.below b4
        have U4 := U3.below b4
        refine anyH_take (i := 17) (v := .bool true) rfl (some 63) rfl (by kernel_rfl) (by kernel_rfl) (by kernel_rfl) (fun _ _ _ h => by cases h.1) (by kernel_rfl) (fun w0 hw0 => ex_equ rfl rfl rfl) S4 ?_
        simp only [Act.put, List.setIfInBounds_toArray, List.set_cons_zero, List.set_cons_succ]
        refine anyH_take (i := 18) (v := .bool true) rfl (some 64) rfl (by kernel_rfl) (by kernel_rfl) (by kernel_rfl) (fun _ _ _ h => by cases h.1) (by kernel_rfl) (fun w0 hw0 => ex_pickT rfl rfl rfl) S4 ?_
        simp only [Act.put, List.setIfInBounds_toArray, List.set_cons_zero, List.set_cons_succ]
        refine anyH_val (i := 19) (by kernel_rfl) rfl (some 6) rfl (by kernel_rfl) (ex_any rfl rfl) S4 ?_
        simp only [Act.put, List.setIfInBounds_toArray, List.set_cons_zero, List.set_cons_succ]
        exact wpAnyH_done (by kernel_rfl) ⟨rfl, fill (B4) (by kernel_rfl)⟩ _
      case fin6 =>
        clear hV0 B0 T0 U0
        rintro a W6 ⟨xx, hB6, rfl⟩
        have HF := hide (H8.out.2.2.trans (hB6.mono (by have := H8.out.2.2.size; omega)))
        clear hB6
        go_wp2_with fail
        go_ret
        exact ⟨rfl, HF.out⟩
end Go.Proofs.Ytfknjmfkkaoggaa
