/- Stanzas: Decode. -/
import Derived.Test.YthmidlmknkbdaaaDoorXI
import Derived.Test.YthmidlmknkbdaaaDoorXJ
namespace Go.Proofs.YthmidlmknkbdaaaDoor
open Go.RowKit Go.Shelf

set_option maxRecDepth 100000 in
set_option maxHeartbeats 4000000 in
theorem decode_any (ao : Option Addr) (cap : Nat) (ts : List Tok) (av : Nat → Option Addr × Nat) (w : World) (hT : TokMem w.heap.size w ao ts av) (hc : ts.length ≤ cap) (hs : ts.length ≤ 1000) (hU : Tabs w) (hm : Jd.MaxG w) (h5 : 3 < w.heap.size) :
    Calls Tryd.prog 19 #[.slice ao ts.length cap] w fun e w' => ((∃ t d v l, DecOk ts t d ∧ e = .returned (.tuple #[.agg #[.int .u8 (kNum t.name), .string d.ty, .string d.fr, .string d.tt, .string d.id, v], .int .i64 0]) ∧ l.map (·.1) = midT ts ∧ ElRow w.heap.size w' v l) ∨ ((¬ ∃ t d, DecOk ts t d) ∧ e = .returned (.tuple #[.agg zeroSt, .int .i64 3]))) ∧ Below w.heap.size w w' := by
  have h1 : 3 < w.heap.size := h5
  unfold zeroSt
  obtain ⟨Wa, hWa, aa, ba, za⟩ := newV w 38 #[.int .u8 0, .string ⟨#[]⟩, .string ⟨#[]⟩, .string ⟨#[]⟩, .string ⟨#[]⟩, .slice none 0 0]
  obtain ⟨m, hml⟩ : ∃ m, ts.length = m := ⟨_, rfl⟩
  by_cases hw : WholeT ts
  · obtain ⟨h2, t, ht0, -⟩ := whole_first hw
    have HW := hide (whole_true (cap := cap) ((hT.below ba).raise (by omega)) (tabs_below hU ba) hw)
    obtain ⟨q1, q2, q3, q4, q5, b, off, rfl, hb, _⟩ := hT.2 0 t ht0
    have H0 := hide (And.intro hT (And.intro hU (And.intro hm (And.intro aa (And.intro ba (And.intro hml (And.intro hw ht0)))))))
    rw [hml] at HW hc hs h2 ⊢
    have h2i : (2 : Int) ≤ m := by omega
    have hpos : (0 : Int) < m := by omega
    clear hT hU hm aa ba hml hw
    go_enter Tryd.func19, Tryd.ntmps19
    go_wp2_with (go_at_call 7; refine HW.out.mono ?_; rintro e w1 ⟨rfl, b1⟩; refine stopHere ?_)
    unfold Hid
    obtain ⟨hT, hU, hm, aa, ba, hml, hw, _⟩ := H0.out
    have hz1 := b1.size
    have B1 : Below w.heap.size w w1 := ba.trans (b1.mono (by omega))
    have a1 := (b1.block w.heap.size (by omega)).trans aa
    obtain ⟨_, _, _, qA, qc, b', off', e', _, c0, c1, c2, c3⟩ := (hT.below B1).2 0 t ht0
    cases e'
    have HD := hide (decodeBegin_any t.kind t.name t.text (av 0).1 (av 0).2 t.attrs w1 (qA.mono (by omega)))
    obtain ⟨na, hna⟩ : ∃ na, t.attrs.length = na := ⟨_, rfl⟩
    rw [hna] at HD c2
    rw [Nat.zero_mul, Nat.add_zero] at c0 c1 c2 c3
    have hsz := fun d hd => dec_sizes t.attrs d0 d qA.2.1 (by decide) hd
    have H1 := hide (And.intro B1 (And.intro a1 (And.intro hna hsz)))
    clear hT hU hm aa ba hml hw b1 B1 a1 qA qc HW hna hsz
    cases hd : decA d0 t.attrs with
    | none =>
      have HDn := hide (HD.out.mono (R' := fun e w' => e = .returned (.tuple #[.agg #[.int .u8 0, .string ⟨#[]⟩, .string ⟨#[]⟩, .string ⟨#[]⟩, .string ⟨#[]⟩, .slice none 0 0], .bool false]) ∧ Below w1.heap.size w1 w') (by
        rintro e w' ⟨⟨d, h, _⟩ | ⟨_, rfl⟩, b⟩
        · rw [hd] at h
          cases h
        · exact ⟨rfl, b⟩))
      have HN := hide hd
      clear HD hd
      go_wp2_with (go_at_call 34; refine HDn.out.mono ?_; rintro e w2 ⟨rfl, b2⟩; refine stopHere ?_)
      unfold Hid
      obtain ⟨W3, hW3, a3, b3, z3⟩ := newV w2 38 #[.int .u8 0, .string ⟨#[]⟩, .string ⟨#[]⟩, .string ⟨#[]⟩, .string ⟨#[]⟩, .slice none 0 0]
      have HST := hide (run_store_new (P := Tryd.prog) infoSt w2 (cs := #[.int .u8 0, .string ⟨#[]⟩, .string ⟨#[]⟩, .string ⟨#[]⟩, .string ⟨#[]⟩, .slice none 0 0]) (c := zeroSt) rfl rfl (by simp [Value.oneCell']))
      obtain ⟨B1, a1, _⟩ := H1.out
      have hz2 := b2.size
      have hz3 := b3.size
      have hwlt : w.heap.size < w1.heap.size := (Array.getElem?_eq_some_iff.1 a1).1
      have a4 := (b3.block _ (by omega)).trans ((b2.block _ hwlt).trans a1)
      have B3 : Below w.heap.size w W3 := B1.trans ((b2.trans (b3.mono (by omega))).mono B1.size)
      have hf := frozen6 a4
      obtain ⟨y0, y1, y2, y3, y4, y5⟩ := cells6 a4
      have H3 := hide (And.intro a4 B3)
      clear B1 a1 b2 b3 a3 a4 B3 HDn c0 c1 c2 c3
      go_wp2_with (first
        | (refine l_alloc 38 infoSt rfl rfl ?_)
        | (refine l_store 38 HST.out rfl rfl rfl rfl ?_; rw [hW3]))
      exact bodyPost_ret (results_st rfl rfl rfl (set6 H3.out.1 _ _ _ _ _ _)) rfl ⟨.inr ⟨fun ⟨t', d, h⟩ => (by have h1 := h.2.1; rw [H0.out.2.2.2.2.2.2.2] at h1; cases h1; have h2 := h.2.2.1; rw [HN.out] at h2; cases h2), rfl⟩, below6 H3.out.2 (Nat.le_refl _) _ _ _ _ _ _⟩
    | some d =>
      have HDs := hide (HD.out.mono (R' := fun e w' => e = .returned (.tuple #[.agg #[.int .u8 (kNum t.name), .string d.ty, .string d.fr, .string d.tt, .string d.id, .slice none 0 0], .bool true]) ∧ Below w1.heap.size w1 w') (by
        rintro e w' ⟨⟨d', h, rfl⟩ | ⟨h, _⟩, b⟩
        · rw [hd] at h
          cases h
          exact ⟨rfl, b⟩
        · rw [hd] at h
          cases h))
      have HN := hide hd
      clear HD hd
      go_wp2_with (go_at_call 34; refine HDs.out.mono ?_; rintro e w2 ⟨rfl, b2⟩; refine stopHere ?_)
      unfold Hid
      obtain ⟨W3, hW3, a3, b3, z3⟩ := newV w2 38 #[.int .u8 (kNum t.name), .string d.ty, .string d.fr, .string d.tt, .string d.id, .slice none 0 0]
      have HST := hide (run_store_new (P := Tryd.prog) infoSt w2 (cs := #[.int .u8 (kNum t.name), .string d.ty, .string d.fr, .string d.tt, .string d.id, .slice none 0 0]) (c := zeroSt) rfl rfl (by simp [Value.oneCell']))
      obtain ⟨B1, a1, hna, hsz⟩ := H1.out
      obtain ⟨hT, hU, hm, _, _, hml, hw, _⟩ := H0.out
      have hz2 := b2.size
      have hz3 := b3.size
      have hwlt : w.heap.size < w1.heap.size := (Array.getElem?_eq_some_iff.1 a1).1
      have a4 := (b3.block _ (by omega)).trans ((b2.block _ hwlt).trans a1)
      have B3 : Below w.heap.size w W3 := B1.trans ((b2.trans (b3.mono (by omega))).mono B1.size)
      have hmid : (midT ts).length = m - 2 := by rw [mid_len (by omega), hml]
      have hcp := copyTokens_any (some ⟨b, off + 4, none⟩) (cap - 1) (midT ts) (fun k => av (k + 1)) W3 (((hT.below B3).mid).raise B3.size)
      rw [hmid] at hcp
      have HC := hide hcp
      have hmw : IntKind.i64.wrap ((m : Int) - 1) = (m : Int) - 1 := by rw [IntKind.wrap_i64]; omega
      have H3 := hide (And.intro a4 (And.intro B3 (And.intro a3 (And.intro (hsz d HN.out) hmid))))
      clear hT hU hm hml hw B1 a1 b2 b3 a3 a4 B3 HDs c0 c1 c2 c3 hcp hmid hsz hna
      go_wp2_with (first
        | (refine l_alloc 38 infoSt rfl rfl ?_)
        | (refine l_store 38 HST.out rfl rfl rfl rfl ?_; rw [hW3])
        | (refine l_val rfl _ (ex_mid rfl rfl rfl rfl rfl h2 hc) ?_)
        | (go_at_call 35; refine HC.out.mono ?_; rintro e w4 ⟨v4, l4, rfl, m4, r4, b4⟩; refine stopHere ?_))
      unfold Hid
      obtain ⟨a4, B3, a3, hsz, hmid⟩ := H3.out
      have hz4 := b4.size
      have hw2lt : w2.heap.size < W3.heap.size := (Array.getElem?_eq_some_iff.1 a3).1
      have g4 := (b4.block _ hw2lt).trans a3
      have g4r := (b4.block w.heap.size (by omega)).trans a4
      have hl4 : l4.length = m - 2 := by
        have h := congrArg List.length m4
        rw [List.length_map, hmid] at h
        exact h
      obtain ⟨ga4, gc4, hv4⟩ := own_shape r4.1
      subst hv4
      obtain ⟨x0, x1, x2, x3, x4, x5⟩ := cells6 g4
      have hf4 := frozen6 g4
      obtain ⟨W5, hW5⟩ : ∃ W5, w4.setCell ⟨w2.heap.size, 5, none⟩ (.slice ga4 l4.length gc4) = W5 := ⟨_, rfl⟩
      have g5 : W5.heap[w2.heap.size]? = some (.cells #[.int .u8 (kNum t.name), .string d.ty, .string d.fr, .string d.tt, .string d.id, .slice ga4 l4.length gc4] 38) := by rw [← hW5]; exact heap_setCell_same _ _ 5 _ _ _ g4
      have hne : w.heap.size ≠ w2.heap.size := by omega
      have g5r := (show W5.heap[w.heap.size]? = w4.heap[w.heap.size]? by rw [← hW5]; exact Below.heap_setCell _ _ _ _ hne).trans g4r
      have r5 : ElRow W3.heap.size W5 (.slice ga4 l4.length gc4) l4 := by rw [← hW5]; exact r4.set hw2lt 5 _
      have B4 : Below w.heap.size w w4 := B3.trans (b4.mono (by omega))
      have B5 : Below w.heap.size w W5 := by rw [← hW5]; exact B4.setCell (p := ⟨w2.heap.size, 5, none⟩) (by show w.heap.size ≤ w2.heap.size; omega) _
      obtain ⟨ao5, cap5, hv5, hT5⟩ := tokMem_own r5 (by omega)
      cases hv5
      obtain ⟨_, hU, hm, _, _, _, hw, _⟩ := H0.out
      have hz5 := B5.size
      have hrt := stRight_any (kNum t.name) d.ty d.fr d.tt d.id ga4 gc4 (l4.map (·.1)) (avOf l4) W5 hT5 (by rw [List.length_map]; omega) hsz (tabs_below hU B5) (hm.below B5 h1) (by omega)
      rw [List.length_map] at hrt
      have HR := hide hrt
      obtain ⟨n5, hn5⟩ : ∃ n5, l4.length = n5 := ⟨_, rfl⟩
      have H5 := hide (And.intro g5 (And.intro g5r (And.intro r5 (And.intro B5 (And.intro m4 (And.intro hw hn5))))))
      rw [hn5] at HR hW5 g5 ⊢
      obtain ⟨u0, u1, u2, u3, u4, u5⟩ := cells6 g5
      clear a4 B3 a3 hsz hmid g4 g4r r4 b4 m4 g5 g5r r5 B4 B5 hT5 hU hm hw hrt hn5 HC hl4
      go_wp2_with (go_at_call 16; refine HR.out.mono ?_; rintro e w6 ⟨⟨hok, rfl⟩ | ⟨hok, rfl⟩, b6⟩; refine stopHere ?_; rotate_left; refine stopHere ?_)
      all_goals unfold Hid
      all_goals
        obtain ⟨g5, g5r, r5, B5, m4, hw, hn5⟩ := H5.out
        have hz6 := b6.size
        have hl5 : w2.heap.size < W5.heap.size := (Array.getElem?_eq_some_iff.1 g5).1
        have g6 := (b6.block _ hl5).trans g5
        have g6r := (b6.block w.heap.size (by omega)).trans g5r
        rw [hn5] at g6
        obtain ⟨t0, t1, t2, t3, t4, t5⟩ := cells6 g6
        obtain ⟨s0, s1, s2, s3, s4, s5⟩ := cells6 g6r
        have hf6 := frozen6 g6r
        have B6 : Below w.heap.size w w6 := B5.trans (b6.mono B5.size)
        have H6 := hide (And.intro g6r (And.intro B6 (And.intro (r5.below b6) (And.intro m4 (And.intro hw hn5)))))
        clear g5 g5r r5 B5 m4 hw hn5 b6 g6 g6r B6 x0 x1 x2 x3 x4 x5 u0 u1 u2 u3 u4 u5
      · have HO := hide hok
        clear hok
        go_wp2_with fail
        exact bodyPost_ret (results_st rfl rfl rfl (set6 H6.out.1 _ _ _ _ _ _)) rfl ⟨.inr ⟨fun ⟨t', d', h⟩ => (by
          have h1 := h.2.1
          rw [H0.out.2.2.2.2.2.2.2] at h1
          cases h1
          have h2 := h.2.2.1
          rw [HN.out] at h2
          cases h2
          exact HO.out (by rw [H6.out.2.2.2.1]; exact h.2.2.2)), rfl⟩, below6 H6.out.2.1 (Nat.le_refl _) _ _ _ _ _ _⟩
      · have HO := hide hok
        clear hok
        go_wp2_with fail
        exact bodyPost_ret (results_st rfl rfl rfl (set6 H6.out.1 _ _ _ _ _ _)) rfl ⟨.inl ⟨t, d, _, l4, ⟨H6.out.2.2.2.2.1, H0.out.2.2.2.2.2.2.2, HN.out, by rw [← H6.out.2.2.2.1]; exact HO.out⟩, rfl, H6.out.2.2.2.1, by rw [← H6.out.2.2.2.2.2]; exact (H6.out.2.2.1.set6 (by omega) _ _ _ _ _ _).lower (by omega)⟩, below6 H6.out.2.1 (Nat.le_refl _) _ _ _ _ _ _⟩
  · have HW := hide (whole_false (cap := cap) ((hT.below ba).raise (by omega)) (tabs_below hU ba) hw)
    have H0 := hide (And.intro aa (And.intro ba hw))
    rw [hml] at HW ⊢
    clear hT hU hm aa ba hml hw
    go_enter Tryd.func19, Tryd.ntmps19
    go_wp2_with (go_at_call 7; refine HW.out.mono ?_; rintro e w1 ⟨rfl, b1⟩; refine stopHere ?_)
    unfold Hid
    obtain ⟨aa, ba, hw⟩ := H0.out
    have hz1 := b1.size
    have a1 := (b1.block w.heap.size (by omega)).trans aa
    have hf := frozen6 a1
    have B1 : Below w.heap.size w w1 := ba.trans (b1.mono (by omega))
    obtain ⟨x0, x1, x2, x3, x4, x5⟩ := cells6 a1
    have H1 := hide (And.intro a1 (And.intro B1 hw))
    clear aa ba hw a1 B1 b1
    go_wp2_with fail
    exact bodyPost_ret (results_st rfl rfl rfl (set6 H1.out.1 _ _ _ _ _ _)) rfl ⟨.inr ⟨fun ⟨t, d, h⟩ => H1.out.2.2 h.1, rfl⟩, below6 H1.out.2.1 (Nat.le_refl _) _ _ _ _ _ _⟩
end Go.Proofs.YthmidlmknkbdaaaDoor
