/- StanzaReads: what tokens say, or the error, is the document's. -/
import Derived.Test.YtpknifioflagaaaDoorXM
import Derived.Test.YtpknifioflagaaaDoorSt20
namespace Go.Proofs.YtpknifioflagaaaDoor
open Go.RowKit Go.Shelf

/-- What Decode answers: a stanza, or none, and the number of the error. -/
def DecW (us : List Tok) (k : Int) (ty fr tt id : ByteArray) (xs : List Tok) (ec : Int) : Prop := (∃ t d, DecOk us t d ∧ k = kNum t.name ∧ ty = d.ty ∧ fr = d.fr ∧ tt = d.tt ∧ id = d.id ∧ xs = midT us ∧ ec = 0) ∨ ((¬ ∃ t d, DecOk us t d) ∧ k = 0 ∧ ty = ⟨#[]⟩ ∧ fr = ⟨#[]⟩ ∧ tt = ⟨#[]⟩ ∧ id = ⟨#[]⟩ ∧ xs = [] ∧ ec = 3)
theorem dec_what (us : List Tok) : ∃ k ty fr tt id xs ec, DecW us k ty fr tt id xs ec := by
  by_cases h : ∃ t d, DecOk us t d
  · obtain ⟨t, d, hd⟩ := h
    exact ⟨_, _, _, _, _, _, _, .inl ⟨t, d, hd, rfl, rfl, rfl, rfl, rfl, rfl, rfl⟩⟩
  · exact ⟨_, _, _, _, _, _, _, .inr ⟨h, rfl, rfl, rfl, rfl, rfl, rfl, rfl⟩⟩
theorem dec_u {ao : Option Addr} {cap : Nat} {us xs : List Tok} {k ec : Int} {ty fr tt id : ByteArray} {av : Nat → Option Addr × Nat} {w : World} (hT : TokMem w.heap.size w ao us av) (hc : us.length ≤ cap) (hs : us.length ≤ 70) (hE : Env6 w) (hx : DecW us k ty fr tt id xs ec) :
    Calls Tryd.prog 16 #[.slice ao us.length cap] w fun e w' => ∃ ga gc av', e = .returned (.tuple #[.agg #[.int .u8 k, .string ty, .string fr, .string tt, .string id, .slice ga xs.length gc], .int .i64 ec]) ∧ TokMem w'.heap.size w' ga xs av' ∧ Below w.heap.size w w' := by
  refine (decode_any ao cap us av w hT hc (by omega) hE.1 hE.2.1 hE.2.2.2).mono ?_
  rintro e w' ⟨⟨t, d, v, l, hd, rfl, m, r⟩ | ⟨hn, rfl⟩, b⟩
  · rcases hx with ⟨t', d', hd', rfl, rfl, rfl, rfl, rfl, rfl, rfl⟩ | ⟨hn, _⟩
    · obtain ⟨rfl, rfl⟩ := dec_one hd hd'
      have h2 := (whole_first hd.1).1
      have h3 := mid_len h2
      have hl : l.length = (midT us).length := by rw [← m, List.length_map]
      obtain ⟨ao', cap', rfl, hT'⟩ := tokMem_own r (by omega)
      rw [m] at hT'
      exact ⟨ao', cap', _, by rw [hl], hT', b⟩
    · exact absurd ⟨t, d, hd⟩ hn
  · rcases hx with ⟨t', d', hd', _⟩ | ⟨_, rfl, rfl, rfl, rfl, rfl, rfl, rfl⟩
    · exact absurd ⟨t', d', hd'⟩ hn
    · exact ⟨none, 0, _, rfl, tokMem_nil _ _, b⟩
theorem rdec_u {ao : Option Addr} {cap : Nat} {us xs : List Tok} {k ec : Int} {ty fr tt id : ByteArray} {av : Nat → Option Addr × Nat} {w : World} (hT : TokMem w.heap.size w ao us av) (hav : ∀ i t, us[i]? = some t → (av i).1 = none → (av i).2 = 0) (hc : us.length ≤ cap) (hs : us.length ≤ 70) (hE : Env6 w) (hx : DecW us k ty fr tt id xs ec) :
    Calls Tryd.prog 17 #[.slice ao us.length cap] w fun e w' => ∃ ga gc av', e = .returned (.tuple #[.agg #[.int .u8 k, .string ty, .string fr, .string tt, .string id, .slice ga xs.length gc], .int .i64 ec]) ∧ TokMem w'.heap.size w' ga xs av' ∧ Below w.heap.size w w' := by
  refine (rdecode_any ao cap us av w hT hav hc (by omega) hE).mono ?_
  rintro e w' ⟨⟨t, d, ga, gc, av', hd, rfl, hT'⟩ | ⟨hn, rfl⟩, b⟩
  · rcases hx with ⟨t', d', hd', rfl, rfl, rfl, rfl, rfl, rfl, rfl⟩ | ⟨hn, _⟩
    · obtain ⟨rfl, rfl⟩ := dec_one hd hd'
      exact ⟨ga, gc, _, rfl, hT', b⟩
    · exact absurd ⟨t, d, hd⟩ hn
  · rcases hx with ⟨t', d', hd', _⟩ | ⟨_, rfl, rfl, rfl, rfl, rfl, rfl, rfl⟩
    · exact absurd ⟨t', d', hd'⟩ hn
    · exact ⟨none, 0, _, rfl, tokMem_nil _ _, b⟩
theorem take_av2 {ts : List Tok} {av : Nat → Option Addr × Nat} {n : Nat} (h : ∀ i t, ts[i]? = some t → (av i).1 = none → (av i).2 = 0) : ∀ i t, (ts.take n)[i]? = some t → (av i).1 = none → (av i).2 = 0 := by
  intro i t hi
  rw [List.getElem?_take] at hi
  split at hi
  · exact h i t hi
  · cases hi
set_option maxRecDepth 100000 in
set_option maxHeartbeats 4000000 in
theorem stanzaReads_any (la : Option Addr) (lc : Nat) (ls : List Tok) (lv : Nat → Option Addr × Nat) (w : World) (hT1 : TokMem w.heap.size w la ls lv) (hav : ∀ i t, ls[i]? = some t → (lv i).1 = none → (lv i).2 = 0) (hc1 : ls.length ≤ lc) (hE : Env6 w) :
    Calls Tryd.prog 4 #[.slice la ls.length lc] w fun e w' => e = .returned (.bool true) ∧ Below w.heap.size w w' := by
  have mem1 : ∀ V, Below w.heap.size w V → TokMem V.heap.size V la (ls.take 70) lv := fun V hV => ((hT1.below hV).raise hV.size).take 70
  have hav1 := take_av2 (n := 70) hav
  have hs1 : (ls.take 70).length ≤ 70 := by rw [List.length_take]; omega
  have hmin : (ls.take 70).length = min 70 ls.length := List.length_take
  have hlen := hT1.1
  have HLV := hide fun (V : World) (hV : Env6 V) => live_any V hV
  obtain ⟨us, hus⟩ : ∃ us, ls.take 70 = us := ⟨_, rfl⟩
  rw [hus] at hs1 mem1 hav1 hmin
  obtain ⟨k, ty, fr, tt, id, xs, ec, hx⟩ := dec_what us
  have HEn := hide fun (V : World) (hV : Below w.heap.size w V) => dec_u (cap := lc) (mem1 V hV) (by omega) (by omega) (hE.below hV) hx
  have HEr := hide fun (V : World) (hV : Below w.heap.size w V) => rdec_u (cap := lc) (mem1 V hV) hav1 (by omega) (by omega) (hE.below hV) hx
  obtain ⟨m1, hm1⟩ : ∃ m1, ls.length = m1 := ⟨_, rfl⟩
  obtain ⟨n1, hn1⟩ : ∃ n1, us.length = n1 := ⟨_, rfl⟩
  obtain ⟨n2, hn2⟩ : ∃ n2, xs.length = n2 := ⟨_, rfl⟩
  rw [hn1, hn2] at HEn HEr
  rw [hm1, hn1] at hmin
  rw [hm1] at hc1 hlen ⊢
  have HG := hide (And.intro hE hn2)
  clear mem1 hE hs1 hn1 hn2 hT1 hm1 hus hav hav1 hx
  by_cases h70 : 70 < m1
  · have h70i : (70 : Int) < m1 := by omega
    have hci : (70 : Int) ≤ lc := by omega
    obtain rfl : n1 = 70 := by omega
    clear hmin
    have HEn' := hide (HEn.out w (Below.refl _ _))
    clear HEn
    go_enter Tryd.func4, Tryd.ntmps4
    go_wp2_with (go_at_call 16; refine HEn'.out.mono ?_; rintro e w1 ⟨ga, gc, av1, rfl, hT1, b1⟩; refine stopHere ?_)
    unfold Hid
    obtain ⟨W2, hW2, a2, c2, z2⟩ := newV w1 25 #[.int .u8 k, .string ty, .string fr, .string tt, .string id, .slice ga n2 gc]
    have HST := hide (run_store_new (P := Tryd.prog) infoSt w1 (cs := #[.int .u8 k, .string ty, .string fr, .string tt, .string id, .slice ga n2 gc]) (c := zeroSt) rfl rfl (by simp [Value.oneCell']))
    have B2 : Below w.heap.size w W2 := b1.trans (c2.mono b1.size)
    have memA : ∀ U, Below W2.heap.size W2 U → TokMem U.heap.size U ga xs av1 := fun U hU => (((hT1.below c2).raise c2.size).below hU).raise hU.size
    have HEr' := hide (HEr.out W2 B2)
    have H2 := hide (And.intro a2 (And.intro B2 memA))
    clear a2 c2 B2 memA hT1 b1 HEr HEn' z2
    go_wp2_with (first
      | (refine l_alloc 25 infoSt rfl rfl ?_)
      | (refine l_store 25 HST.out rfl rfl rfl rfl ?_; rw [hW2])
      | (go_at_call 17; refine HEr'.out.mono ?_; rintro e w3 ⟨gb, gd, av3, rfl, hT3, b3⟩; refine stopHere ?_))
    unfold Hid
    obtain ⟨a2, B2, memA⟩ := H2.out
    obtain ⟨W4, hW4, a4, c4, z4⟩ := newV w3 25 #[.int .u8 k, .string ty, .string fr, .string tt, .string id, .slice gb n2 gd]
    have HST4 := hide (run_store_new (P := Tryd.prog) infoSt w3 (cs := #[.int .u8 k, .string ty, .string fr, .string tt, .string id, .slice gb n2 gd]) (c := zeroSt) rfl rfl (by simp [Value.oneCell']))
    have b4 : Below W2.heap.size W2 W4 := b3.trans (c4.mono b3.size)
    have B4 : Below w.heap.size w W4 := B2.trans (b4.mono B2.size)
    have g4 := (b4.block w1.heap.size (hp_lt a2)).trans a2
    have memB : ∀ U, Below W4.heap.size W4 U → TokMem U.heap.size U gb xs av3 := fun U hU => (((hT3.below c4).raise c4.size).below hU).raise hU.size
    have HL := hide (HLV.out W4 (HG.out.1.below B4))
    have H4 := hide (And.intro g4 (And.intro a4 (And.intro b4 (And.intro B4 (And.intro memA memB)))))
    clear a2 B2 memA a4 c4 b4 B4 g4 memB hT3 b3 HST HEr' H2 z4 hW2
    go_wp2_with (first
      | (refine l_alloc 25 infoSt rfl rfl ?_)
      | (refine l_store 25 HST4.out rfl rfl rfl rfl ?_; rw [hW4])
      | (go_at_call 12; refine HL.out.mono ?_; rintro e w5 ⟨rfl, b5⟩; refine stopHere ?_))
    unfold Hid
    obtain ⟨g4, a4, b4, B4, memA, memB⟩ := H4.out
    have g5 := (b5.block w1.heap.size (hp_lt g4)).trans g4
    have a5 := (b5.block w3.heap.size (hp_lt a4)).trans a4
    have hSm := (rSame6_any k ty fr tt id ga gc xs av1 k ty fr tt id gb gd xs av3 w5 (memA w5 (b4.trans (b5.mono b4.size))) (memB w5 b5)).mono (R' := fun e w' => e = .returned (.bool true) ∧ Below w5.heap.size w5 w') (by
      rintro e w' ⟨⟨_, he⟩ | ⟨hn, _⟩, b⟩
      · exact ⟨he, b⟩
      · exact absurd ⟨rfl, rfl, rfl, rfl, rfl, rfl⟩ hn)
    rw [HG.out.2] at hSm
    have HSm := hide hSm
    have HB5 := hide (B4.trans (b5.mono B4.size))
    obtain ⟨x0, x1, x2, x3, x4, x5⟩ := cells6 g5
    obtain ⟨y0, y1, y2, y3, y4, y5⟩ := cells6 a5
    clear g4 a4 b4 B4 memA memB g5 a5 hSm b5 H4 HL HST4 hW4
    go_wp2_with (go_at_call 18; refine HSm.out.mono ?_; rintro e w6 ⟨rfl, b6⟩)
    go_ret
    exact ⟨rfl, HB5.out.trans (b6.mono HB5.out.size)⟩
  · have h70i : ¬ ((70 : Int) < m1) := by omega
    obtain rfl : n1 = m1 := by omega
    clear hmin
    have HEn' := hide (HEn.out w (Below.refl _ _))
    clear HEn
    go_enter Tryd.func4, Tryd.ntmps4
    go_wp2_with (go_at_call 16; refine HEn'.out.mono ?_; rintro e w1 ⟨ga, gc, av1, rfl, hT1, b1⟩; refine stopHere ?_)
    unfold Hid
    obtain ⟨W2, hW2, a2, c2, z2⟩ := newV w1 25 #[.int .u8 k, .string ty, .string fr, .string tt, .string id, .slice ga n2 gc]
    have HST := hide (run_store_new (P := Tryd.prog) infoSt w1 (cs := #[.int .u8 k, .string ty, .string fr, .string tt, .string id, .slice ga n2 gc]) (c := zeroSt) rfl rfl (by simp [Value.oneCell']))
    have B2 : Below w.heap.size w W2 := b1.trans (c2.mono b1.size)
    have memA : ∀ U, Below W2.heap.size W2 U → TokMem U.heap.size U ga xs av1 := fun U hU => (((hT1.below c2).raise c2.size).below hU).raise hU.size
    have HEr' := hide (HEr.out W2 B2)
    have H2 := hide (And.intro a2 (And.intro B2 memA))
    clear a2 c2 B2 memA hT1 b1 HEr HEn' z2
    go_wp2_with (first
      | (refine l_alloc 25 infoSt rfl rfl ?_)
      | (refine l_store 25 HST.out rfl rfl rfl rfl ?_; rw [hW2])
      | (go_at_call 17; refine HEr'.out.mono ?_; rintro e w3 ⟨gb, gd, av3, rfl, hT3, b3⟩; refine stopHere ?_))
    unfold Hid
    obtain ⟨a2, B2, memA⟩ := H2.out
    obtain ⟨W4, hW4, a4, c4, z4⟩ := newV w3 25 #[.int .u8 k, .string ty, .string fr, .string tt, .string id, .slice gb n2 gd]
    have HST4 := hide (run_store_new (P := Tryd.prog) infoSt w3 (cs := #[.int .u8 k, .string ty, .string fr, .string tt, .string id, .slice gb n2 gd]) (c := zeroSt) rfl rfl (by simp [Value.oneCell']))
    have b4 : Below W2.heap.size W2 W4 := b3.trans (c4.mono b3.size)
    have B4 : Below w.heap.size w W4 := B2.trans (b4.mono B2.size)
    have g4 := (b4.block w1.heap.size (hp_lt a2)).trans a2
    have memB : ∀ U, Below W4.heap.size W4 U → TokMem U.heap.size U gb xs av3 := fun U hU => (((hT3.below c4).raise c4.size).below hU).raise hU.size
    have HL := hide (HLV.out W4 (HG.out.1.below B4))
    have H4 := hide (And.intro g4 (And.intro a4 (And.intro b4 (And.intro B4 (And.intro memA memB)))))
    clear a2 B2 memA a4 c4 b4 B4 g4 memB hT3 b3 HST HEr' H2 z4 hW2
    go_wp2_with (first
      | (refine l_alloc 25 infoSt rfl rfl ?_)
      | (refine l_store 25 HST4.out rfl rfl rfl rfl ?_; rw [hW4])
      | (go_at_call 12; refine HL.out.mono ?_; rintro e w5 ⟨rfl, b5⟩; refine stopHere ?_))
    unfold Hid
    obtain ⟨g4, a4, b4, B4, memA, memB⟩ := H4.out
    have g5 := (b5.block w1.heap.size (hp_lt g4)).trans g4
    have a5 := (b5.block w3.heap.size (hp_lt a4)).trans a4
    have hSm := (rSame6_any k ty fr tt id ga gc xs av1 k ty fr tt id gb gd xs av3 w5 (memA w5 (b4.trans (b5.mono b4.size))) (memB w5 b5)).mono (R' := fun e w' => e = .returned (.bool true) ∧ Below w5.heap.size w5 w') (by
      rintro e w' ⟨⟨_, he⟩ | ⟨hn, _⟩, b⟩
      · exact ⟨he, b⟩
      · exact absurd ⟨rfl, rfl, rfl, rfl, rfl, rfl⟩ hn)
    rw [HG.out.2] at hSm
    have HSm := hide hSm
    have HB5 := hide (B4.trans (b5.mono B4.size))
    obtain ⟨x0, x1, x2, x3, x4, x5⟩ := cells6 g5
    obtain ⟨y0, y1, y2, y3, y4, y5⟩ := cells6 a5
    clear g4 a4 b4 B4 memA memB g5 a5 hSm b5 H4 HL HST4 hW4
    go_wp2_with (go_at_call 18; refine HSm.out.mono ?_; rintro e w6 ⟨rfl, b6⟩)
    go_ret
    exact ⟨rfl, HB5.out.trans (b6.mono HB5.out.size)⟩
end Go.Proofs.YtpknifioflagaaaDoor
