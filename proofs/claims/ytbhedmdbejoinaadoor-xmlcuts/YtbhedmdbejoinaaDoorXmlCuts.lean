/- XmlCuts: it does not matter how bytes are cut: whatever the bytes and the cuts. -/
import Derived.Test.YtbhedmdbejoinaaDoorCutM
import Derived.Test.YtbhedmdbejoinaaDoorTokRow
import Derived.Test.YtbhedmdbejoinaaDoorRefSame
namespace Go.Proofs.YtbhedmdbejoinaaDoor
open Go.RowKit

theorem ByteMem.drop {n₀ : Nat} {w : World} {b o : Nat} {l : List UInt8} (h : ByteMem n₀ w (some ⟨b, o, none⟩) l) (k : Nat) : ByteMem n₀ w (some ⟨b, o + k, none⟩) (l.drop k) := fun j c hj => by
  rw [List.getElem?_drop] at hj
  obtain ⟨b', o', h0, h1, h2⟩ := h (k + j) c hj
  cases h0
  exact ⟨b, o + k, rfl, h1, by rw [Nat.add_assoc]; exact h2⟩
theorem take_more (l : List UInt8) (a c : Nat) : l.take a ++ (l.drop a).take c = l.take (a + c) := by
  rw [List.take_add]
/-- What is behind a break changes nothing. -/
theorem FeedF_cut {l : List UInt8} {a : Nat} (h : (FeedF st0 (l.take a)).1.broken ≠ 0) : FeedF st0 l = FeedF st0 (l.take a) := by
  have h2 := FeedF_app (l.take a) (l.drop a) inv0
  rw [List.take_append_drop] at h2
  rw [h2, FeedF_broken h]
  simp
theorem Sim.same {a b : PS} (h : Sim a b) : a.op = b.op ∧ a.wait = b.wait ∧ a.broken = b.broken := by
  rcases h with rfl | h
  · exact ⟨rfl, rfl, rfl⟩
  · exact ⟨h.2.1, h.2.2.1, h.2.2.2.2⟩
theorem Inv.len {l : List UInt8} (h : l.length ≤ 3000) : (FeedF st0 l).2.length ≤ 6000 := by
  rw [FeedF_of (st := st0) rfl]
  have := feedF_len' l st0 inv0
  omega

/-- A parser apart from another one that goes on. -/
theorem IsP.kept2 {p q : Nat} {bp bq : Nat} {st sq sq' : PS} {vw vo vwq voq : Value} {w w' : World} (h : IsP bp p st vw vo w) (hq : IsP bq q sq (.slice none 0 0) (.slice none 0 0) w) (g : Run bq q w (.slice none 0 0) (.slice none 0 0) sq' w' vwq voq) (hpq : p ≠ q := by omega) : IsP bp p st vw vo w' :=
  ⟨h.1, (g.block p h.lt hpq (by intro e; cases e) (by intro e; cases e)).trans h.2.1, own_same h.2.2.1 (fun k hk => g.block k (own_lt h.2.2.1 k hk) (own_ne0 h.2.2.1 hq.2.1 (by decide) k hk) (by intro e; cases e) (by intro e; cases e)), own_same h.2.2.2 (fun k hk => g.block k (own_lt h.2.2.2 k hk) (own_ne0 h.2.2.2 hq.2.1 (by decide) k hk) (by intro e; cases e) (by intro e; cases e))⟩

set_option maxRecDepth 100000 in
set_option maxHeartbeats 8000000 in
theorem xmlCuts_any (a1 a2 : Option Addr) (c1 c2 : Nat) (l1 l2 : List UInt8) (w : World) (h1 : l1.length ≤ c1) (_h2 : l2.length ≤ c2) (hm1 : ByteMem w.heap.size w a1 l1) (hm2 : ByteMem w.heap.size w a2 l2) (hE : Env w) (h4 : 4 ≤ w.heap.size) :
    Calls Tryd.prog 3 #[.slice a1 l1.length c1, .slice a2 l2.length c2] w fun e w' => e = .returned (.bool true) ∧ Below w.heap.size w w' := by
  have HM := hide (And.intro hm1 (And.intro hm2 hE))
  have hfw := xfew_any w.heap.size a1 c1 l1 w hm1 h1
  have hbl : (l1.take 3000).length ≤ 3000 := by rw [List.length_take]; omega
  have hnc : (l1.take 3000).length ≤ c1 := by rw [List.length_take]; omega
  obtain ⟨bs, hbs⟩ : ∃ bs, l1.take 3000 = bs := ⟨_, rfl⟩
  have hMb : ByteMem w.heap.size w a1 bs := by rw [← hbs]; exact hm1.take 3000
  rw [hbs] at hfw hbl hnc
  obtain ⟨n, hn⟩ : ∃ n, bs.length = n := ⟨_, rfl⟩
  rw [hn] at hfw hbl hnc
  have HFW := hide hfw
  have HB := hide hMb
  clear hm1 hm2 hE hfw hbs hMb
  go_enter Tryd.func3, Tryd.ntmps3
  go_wp2_with fail
  refine HFW.out.mono ?_
  rintro e w0 ⟨rfl, hw⟩
  subst hw
  go_wp2_with fail
  refine (new_any w0).mono ?_
  rintro e w1 ⟨rfl, hP1, hz1, hb1⟩
  have N1 := hide (And.intro hP1 hb1)
  clear hP1 hb1
  go_wp2_with fail
  refine (new_any w1).mono ?_
  rintro e w2 ⟨rfl, hP2, hz2, hb2⟩
  have hPp := N1.out.1.below hb2
  have hbw2 : Below w0.heap.size w0 w2 := N1.out.2.trans (hb2.mono (by omega))
  have hE2 := HM.out.2.2.below hbw2 h4
  have hfe := Feed_any w0.heap.size w0.heap.size st0 _ _ a1 c1 bs w2 hPp inv0 hE2 h4 h4 ((HB.out.below hbw2).bytes hPp (Nat.le_refl _)) (by omega)
  rw [hn] at hfe
  have N2 := hide (And.intro hPp (And.intro hP2 (And.intro hbw2 (And.intro hE2 hfe))))
  clear hPp hP2 hb2 hbw2 hE2 hfe
  go_wp2_with fail
  refine N2.out.2.2.2.2.mono ?_
  rintro e w3 ⟨st3, v3, l3, vw3, vo3, rfl, q1, q2, q3, q4⟩
  have hb3 := Run.under N2.out.1 q3
  have hz3 := q3.below.size
  have hbw3 : Below w0.heap.size w0 w3 := N2.out.2.2.1.trans hb3
  have hE3 := N2.out.2.2.2.1.below hb3 h4
  have hQ3 : IsP w1.heap.size w1.heap.size st0 (.slice none 0 0) (.slice none 0 0) w3 := ⟨Nat.le_refl _, (q3.block w1.heap.size (by omega) (by omega) (by intro e; cases e) (by intro e; cases e)).trans N2.out.2.1.2.1, World.ownsRow_nil _ _ _ _, World.ownsRow_nil _ _ _ _⟩
  have hlen3 : l3.length ≤ 6000 := by have h := Inv.len (l := bs) (by omega); rw [← q1, List.length_map] at h; exact h
  have HQ := hide hQ3
  have HW := hide (And.intro q3.isP (And.intro q2 (And.intro hE3 hbw3)))
  have HT := hide (And.intro q1 q4)
  obtain ⟨ga3, gc3, hv3⟩ := own_shape q2.1
  subst hv3
  have hPQ : w0.heap.size ≤ w1.heap.size := by omega
  have h4q : 4 ≤ w1.heap.size := by omega
  obtain ⟨br, hbr⟩ : ∃ br, st3.broken = br := ⟨_, rfl⟩
  rw [hbr]
  have HBR := hide hbr
  clear hb3 hbw3 hE3 hQ3 q1 q2 q3 q4 N1 N2 hbr
  go_wp2_with fail
  go_loopw [9, 10, 11, 12] (fun out f at_ i wr => ∃ (k a : Nat) (lq : List TokV) (vwq voq : Value), k ≤ 4000 ∧ a ≤ n ∧ f = .int .i64 0 ∧ at_ = .int .i64 a ∧ i = .int .i64 k ∧ (FeedF st0 (bs.take a)).1.broken = 0 ∧ lq.map (·.1) = (FeedF st0 (bs.take a)).2 ∧ ElRow w3.heap.size wr out lq ∧ Run w1.heap.size w1.heap.size w3 (.slice none 0 0) (.slice none 0 0) (FeedF st0 (bs.take a)).1 wr vwq voq) (fun _ _ _ i _ => 4000 - (intOf i).toNat)
  case atStart =>
    have e0 : FeedF st0 (bs.take 0) = (st0, []) := by rw [List.take_zero]; exact FeedF_of rfl _
    exact ⟨0, 0, [], _, _, Nat.zero_le _, Nat.zero_le _, rfl, rfl, rfl, by rw [e0]; rfl, by rw [e0]; rfl, ⟨World.ownsRow_nil _ _ _ _, fun x hx => by simp at hx⟩, by rw [e0]; exact Run.refl HQ.out⟩
  case round =>
    obtain ⟨k, a, lq, vwq, voq, hk, ha, rfl, rfl, rfl, hbq, hlq, hEl, hrun⟩ := hrel
    have hlqn : lq.length ≤ 6000 := by have h := Inv.len (l := bs.take a) (by rw [List.length_take]; omega); rw [← hlq, List.length_map] at h; exact h
    obtain ⟨gq, cq, hvq⟩ := own_shape hEl.1
    subst hvq
    have hzr := hrun.below.size
    by_cases hlt : (a : Int) < n
    · by_cases hk4 : (k : Int) < 4000
      · obtain ⟨b0, o0, hba, _⟩ := HB.out 0 (bs[0]'(by omega)) (List.getElem?_eq_getElem (by omega))
        subst hba
        have hub := Run.under HQ.out hrun
        have hEr : Env wr := HW.out.2.2.1.below hub h4q
        have hbwr := HW.out.2.2.2.trans (hub.mono hPQ)
        have hIq : Inv (FeedF st0 (bs.take a)).1 := FeedF_inv _ inv0
        have HRr := hide (And.intro hEl (And.intro hrun (And.intro hlq (And.intro hIq (And.intro hEr (HB.out.below hbwr))))))
        have HBW := hide hbwr
        clear hub hEr hbwr hIq hEl hrun hlq hbq
        have hca : (a : Int) ≤ c1 := by omega
        by_cases hkc : (k : Int) < l2.length
        · obtain ⟨cu, hcu⟩ : ∃ cu, l2[k]? = some cu := ⟨_, List.getElem?_eq_getElem (by omega)⟩
          obtain ⟨b2, o2, hb2e, hb2l, hcell⟩ := HM.out.2.1 k cu hcu
          subst hb2e
          have hcell' : wr.cell? ⟨b2, o2 + k, none⟩ = _ := (HBW.out.cell (p := ⟨b2, _, none⟩) hb2l).trans hcell
          have hcu256 := cu.toNat_lt
          obtain ⟨c0, hc0⟩ : ∃ c0 : Nat, cu.toNat = c0 := ⟨_, rfl⟩
          rw [hc0] at hcell' hcu256
          clear hcell hcu hc0
          by_cases hgt : (n : Int) - a < c0
          · obtain ⟨cc, hcc⟩ : ∃ cc : Nat, (n : Int) - a = cc := ⟨n - a, by omega⟩
            have hgt' : (cc : Int) < c0 := by omega
            have hwc : IntKind.i64.wrap ((n : Int) - a) = cc := by rw [hcc]; exact wrap_id _ (by omega) (by omega)
            have hpl : ((bs.drop a).take cc).length = cc := by rw [List.length_take, List.length_drop]; omega
            have hfe := Feed_any _ _ _ _ _ (some ⟨b0, o0 + a, none⟩) (c1 - a) ((bs.drop a).take cc) wr HRr.out.2.1.isP HRr.out.2.2.2.1 HRr.out.2.2.2.2.1 h4q h4q (((HRr.out.2.2.2.2.2.drop a).take cc).bytes HRr.out.2.1.isP hPQ) (by omega)
            rw [hpl] at hfe
            have hap := FeedF_app (bs.take a) ((bs.drop a).take cc) inv0
            rw [take_more] at hap
            have HF := hide (And.intro hfe hap)
            have w1x : (a : Int) + cc ≤ c1 := by omega
            have w2x : (0 : Int) ≤ (a : Int) + cc := by omega
            have w3x : (a : Int) ≤ (a : Int) + cc := by omega
            have w4x : IntKind.i64.wrap ((a : Int) + cc) = a + cc := wrap_id _ (by omega) (by omega)
            have htl : a + cc ≤ n := by omega
            have hl6 : (FeedF st0 (bs.take (a + cc))).2.length ≤ 6000 := Inv.len (by rw [List.length_take]; omega)
            clear hfe hap hpl
            go_wp2_with fail
            rw [← hz1]
            refine HF.out.1.mono ?_
            rintro e w4 ⟨st4, v4, l4, vw4, vo4, rfl, p1, p2, p3, p4⟩
            have hEl4 := HRr.out.1.run HRr.out.2.1.isP p3
            have hrun4 := HRr.out.2.1.then p3
            have hz4 := p3.below.size
            have p2' := p2.lower hzr
            have hl4 : lq.length + l4.length ≤ 6000 := by
              have h := hl6
              rw [HF.out.2] at h
              have h2 : ((FeedF st0 (bs.take a)).2 ++ (FeedF (FeedF st0 (bs.take a)).1 ((bs.drop a).take cc)).2).length ≤ 6000 := h
              rw [← p1, ← HRr.out.2.2.1, List.length_append, List.length_map, List.length_map] at h2
              exact h2
            have htoks : (lq ++ l4).map (·.1) = (FeedF st0 (bs.take (a + cc))).2 := by
              rw [HF.out.2, List.map_append, p1, HRr.out.2.2.1]
            have hsim : Sim st4 (FeedF st0 (bs.take (a + cc))).1 := by
              rw [HF.out.2]
              exact p4
            obtain ⟨g4, k4, hv4⟩ := own_shape p2.1
            subst hv4
            obtain ⟨b4, hb4⟩ : ∃ b4, st4.broken = b4 := ⟨_, rfl⟩
            rw [hb4]
            have H4 := hide (And.intro hEl4 (And.intro p2' (And.intro hrun4 (And.intro htoks (And.intro hsim hb4)))))
            clear hEl4 p2' hrun4 htoks hsim hb4 p1 p2 p3 p4 HF hl6
            go_wp2_with (at_builtin; refine stopHere ?_)
            unfold Hid
            refine append_rows _ rfl _ _ rfl w3.heap.size _ _ lq l4 rfl rfl H4.out.1 H4.out.2.1 (by omega) (by omega) (by omega) ?_
            intro v5 w5 hE5 hgr5
            have hrun5 := H4.out.2.2.1.grown H4.out.1 hgr5
            have htk5 := H4.out.2.2.2.1
            obtain ⟨l5, hl5⟩ : ∃ l5, lq ++ l4 = l5 := ⟨_, rfl⟩
            rw [hl5] at hE5 htk5
            have hl5n : l5.length ≤ 6000 := by rw [← hl5, List.length_append]; omega
            obtain ⟨g5, k5, hv5⟩ := own_shape hE5.1
            subst hv5
            have HTK := hide htk5
            have HL := hide hE5
            clear hl5 htk5
            have HR := hide hrun5
            clear hE5 hrun5 hgr5
            by_cases h0 : b4 = 0
            · have hbk : (FeedF st0 (bs.take (a + cc))).1.broken = 0 := by rw [← Sim.broken H4.out.2.2.2.2.1, H4.out.2.2.2.2.2]; exact h0
              have hst := H4.out.2.2.2.2.1.ok hbk
              have HX := hide (And.intro hbk hst)
              clear hbk hst
              subst h0
              go_wp2_with fail
              refine ⟨⟨k + 1, a + cc, l5, vw4, vo4, by omega, htl, rfl, by simp, by simp, HX.out.1, HTK.out, HL.out, ?_⟩, by simp [intOf]; omega⟩
              have h := HR.out
              rw [HX.out.2] at h
              exact h
            · have h0' : (b4 == 0) = false := by rw [beq_eq_false_iff_ne]; exact h0
              have hbk : (FeedF st0 (bs.take (a + cc))).1.broken ≠ 0 := by rw [← Sim.broken H4.out.2.2.2.2.1, H4.out.2.2.2.2.2]; exact h0
              have hcut := FeedF_cut hbk
              have hs3 := HT.out.2
              have ht3 := HT.out.1
              rw [hcut] at hs3 ht3
              have sA := hs3.same
              have sB := H4.out.2.2.2.2.1.same
              have HS := hide (And.intro (ht3.trans HTK.out.symm) (And.intro (congrArg List.length (sA.1.trans sB.1.symm)) (And.intro (congrArg List.length (sA.2.1.trans sB.2.1.symm)) (And.intro (sA.2.2.trans sB.2.2.symm) hl5n))))
              have hbb : br = b4 := by rw [← HBR.out, ← H4.out.2.2.2.2.2]; exact HS.out.2.2.2.1
              subst hbb
              clear hbk hcut hs3 ht3 sA sB h0
              have hlt2 : ¬ ((a : Int) + cc) < n := by omega
              have hub := Run.under HQ.out HR.out
              have hzX := HR.out.below.size
              have hEX : Env w5 := HW.out.2.2.1.below hub h4q
              have hlv := hide (live_any w5 hEX (by omega))
              go_wp2_with fail
              refine hlv.out.mono ?_
              rintro e w6 ⟨rfl, hb6⟩
              have hz6 := hb6.size
              have eA := (HW.out.2.1.run HQ.out HR.out).below hb6
              have eB := HL.out.below hb6
              obtain ⟨ao, ca, hva, hTA⟩ := tokMem_own2 eA (by omega)
              obtain ⟨bo, cb, hvb, hTB⟩ := tokMem_own2 eB (by have := HS.out.2.2.2.2; omega)
              have hsm := refSame_any ao bo ca cb _ _ _ _ w6 hTA hTB
              have hlm : (l3.map (·.1)).length = l3.length := List.length_map _
              have hlq : ((l5).map (·.1)).length = (l5).length := List.length_map _
              rw [hlm, hlq] at hsm
              rw [hva, hvb]
              have HSM := hide hsm
              have hPX := HW.out.1.kept2 (HQ.out) HR.out
              have HP6 := hide (And.intro (hPX.below hb6) (And.intro (HR.out.isP.below hb6) (((HW.out.2.2.2.trans (hub.mono hPQ)).trans (hb6.mono (by omega))))))
              clear hb6 eA eB hTA hTB hsm hva hvb hPX hub hEX
              go_wp2_with fail
              refine HSM.out.mono ?_
              rintro e w7 ⟨hte, hb7⟩
              obtain rfl : e = .returned (.bool true) := by
                rcases hte with ⟨_, h⟩ | ⟨h, _⟩
                · exact h
                · exact absurd HS.out.1 h
              have hz7 := hb7.size
              have hd1 := depth_any _ _ _ _ _ w7 (HP6.out.1.below hb7)
              have hd2 := depth_any _ _ _ _ _ w7 (HP6.out.2.1.below hb7)
              have hf1 := left_any _ _ _ _ _ w7 (HP6.out.1.below hb7)
              have hf2 := left_any _ _ _ _ _ w7 (HP6.out.2.1.below hb7)
              rw [← HS.out.2.1, hz1] at hd2
              rw [← HS.out.2.2.1, hz1] at hf2
              obtain ⟨dn, hdn⟩ : ∃ dn, st3.op.length = dn := ⟨_, rfl⟩
              obtain ⟨fn, hfn⟩ : ∃ fn, st3.wait.length = fn := ⟨_, rfl⟩
              rw [hdn] at hd1 hd2
              rw [hfn] at hf1 hf2
              have HD := hide (And.intro hd1 (And.intro hd2 (And.intro hf1 (And.intro hf2 (HP6.out.2.2.trans (hb7.mono (by omega)))))))
              clear hb7 hte hd1 hd2 hf1 hf2 hdn hfn
              go_wp2_with fail
              refine HD.out.1.mono ?_
              rintro e w8 ⟨rfl, hw⟩
              subst hw
              go_wp2_with fail
              refine HD.out.2.1.mono ?_
              rintro e w9 ⟨rfl, hw⟩
              subst hw
              go_wp2_with fail
              refine HD.out.2.2.1.mono ?_
              rintro e w10 ⟨rfl, hw⟩
              subst hw
              go_wp2_with fail
              refine HD.out.2.2.2.1.mono ?_
              rintro e w11 ⟨rfl, hw⟩
              subst hw
              go_wp2_with fail
              go_ret
              exact ⟨by simp, HD.out.2.2.2.2⟩
          · obtain ⟨cc, hcc⟩ : ∃ cc : Nat, (n : Int) - a = cc := ⟨n - a, by omega⟩
            have hgt' : ¬ (cc : Int) < c0 := by omega
            have hwc : IntKind.i64.wrap ((n : Int) - a) = cc := by rw [hcc]; exact wrap_id _ (by omega) (by omega)
            have hpl : ((bs.drop a).take c0).length = c0 := by rw [List.length_take, List.length_drop]; omega
            have hfe := Feed_any _ _ _ _ _ (some ⟨b0, o0 + a, none⟩) (c1 - a) ((bs.drop a).take c0) wr HRr.out.2.1.isP HRr.out.2.2.2.1 HRr.out.2.2.2.2.1 h4q h4q (((HRr.out.2.2.2.2.2.drop a).take c0).bytes HRr.out.2.1.isP hPQ) (by omega)
            rw [hpl] at hfe
            have hap := FeedF_app (bs.take a) ((bs.drop a).take c0) inv0
            rw [take_more] at hap
            have HF := hide (And.intro hfe hap)
            have w1x : (a : Int) + c0 ≤ c1 := by omega
            have w2x : (0 : Int) ≤ (a : Int) + c0 := by omega
            have w3x : (a : Int) ≤ (a : Int) + c0 := by omega
            have w4x : IntKind.i64.wrap ((a : Int) + c0) = a + c0 := wrap_id _ (by omega) (by omega)
            have htl : a + c0 ≤ n := by omega
            have hl6 : (FeedF st0 (bs.take (a + c0))).2.length ≤ 6000 := Inv.len (by rw [List.length_take]; omega)
            clear hfe hap hpl
            go_wp2_with fail
            rw [← hz1]
            refine HF.out.1.mono ?_
            rintro e w4 ⟨st4, v4, l4, vw4, vo4, rfl, p1, p2, p3, p4⟩
            have hEl4 := HRr.out.1.run HRr.out.2.1.isP p3
            have hrun4 := HRr.out.2.1.then p3
            have hz4 := p3.below.size
            have p2' := p2.lower hzr
            have hl4 : lq.length + l4.length ≤ 6000 := by
              have h := hl6
              rw [HF.out.2] at h
              have h2 : ((FeedF st0 (bs.take a)).2 ++ (FeedF (FeedF st0 (bs.take a)).1 ((bs.drop a).take c0)).2).length ≤ 6000 := h
              rw [← p1, ← HRr.out.2.2.1, List.length_append, List.length_map, List.length_map] at h2
              exact h2
            have htoks : (lq ++ l4).map (·.1) = (FeedF st0 (bs.take (a + c0))).2 := by
              rw [HF.out.2, List.map_append, p1, HRr.out.2.2.1]
            have hsim : Sim st4 (FeedF st0 (bs.take (a + c0))).1 := by
              rw [HF.out.2]
              exact p4
            obtain ⟨g4, k4, hv4⟩ := own_shape p2.1
            subst hv4
            obtain ⟨b4, hb4⟩ : ∃ b4, st4.broken = b4 := ⟨_, rfl⟩
            rw [hb4]
            have H4 := hide (And.intro hEl4 (And.intro p2' (And.intro hrun4 (And.intro htoks (And.intro hsim hb4)))))
            clear hEl4 p2' hrun4 htoks hsim hb4 p1 p2 p3 p4 HF hl6
            go_wp2_with (at_builtin; refine stopHere ?_)
            unfold Hid
            refine append_rows _ rfl _ _ rfl w3.heap.size _ _ lq l4 rfl rfl H4.out.1 H4.out.2.1 (by omega) (by omega) (by omega) ?_
            intro v5 w5 hE5 hgr5
            have hrun5 := H4.out.2.2.1.grown H4.out.1 hgr5
            have htk5 := H4.out.2.2.2.1
            obtain ⟨l5, hl5⟩ : ∃ l5, lq ++ l4 = l5 := ⟨_, rfl⟩
            rw [hl5] at hE5 htk5
            have hl5n : l5.length ≤ 6000 := by rw [← hl5, List.length_append]; omega
            obtain ⟨g5, k5, hv5⟩ := own_shape hE5.1
            subst hv5
            have HTK := hide htk5
            have HL := hide hE5
            clear hl5 htk5
            have HR := hide hrun5
            clear hE5 hrun5 hgr5
            by_cases h0 : b4 = 0
            · have hbk : (FeedF st0 (bs.take (a + c0))).1.broken = 0 := by rw [← Sim.broken H4.out.2.2.2.2.1, H4.out.2.2.2.2.2]; exact h0
              have hst := H4.out.2.2.2.2.1.ok hbk
              have HX := hide (And.intro hbk hst)
              clear hbk hst
              subst h0
              go_wp2_with fail
              refine ⟨⟨k + 1, a + c0, l5, vw4, vo4, by omega, htl, rfl, by simp, by simp, HX.out.1, HTK.out, HL.out, ?_⟩, by simp [intOf]; omega⟩
              have h := HR.out
              rw [HX.out.2] at h
              exact h
            · have h0' : (b4 == 0) = false := by rw [beq_eq_false_iff_ne]; exact h0
              have hbk : (FeedF st0 (bs.take (a + c0))).1.broken ≠ 0 := by rw [← Sim.broken H4.out.2.2.2.2.1, H4.out.2.2.2.2.2]; exact h0
              have hcut := FeedF_cut hbk
              have hs3 := HT.out.2
              have ht3 := HT.out.1
              rw [hcut] at hs3 ht3
              have sA := hs3.same
              have sB := H4.out.2.2.2.2.1.same
              have HS := hide (And.intro (ht3.trans HTK.out.symm) (And.intro (congrArg List.length (sA.1.trans sB.1.symm)) (And.intro (congrArg List.length (sA.2.1.trans sB.2.1.symm)) (And.intro (sA.2.2.trans sB.2.2.symm) hl5n))))
              have hbb : br = b4 := by rw [← HBR.out, ← H4.out.2.2.2.2.2]; exact HS.out.2.2.2.1
              subst hbb
              clear hbk hcut hs3 ht3 sA sB h0
              by_cases hlt2 : ((a : Int) + c0) < n
              all_goals
                have hub := Run.under HQ.out HR.out
                have hzX := HR.out.below.size
                have hEX : Env w5 := HW.out.2.2.1.below hub h4q
                have hlv := hide (live_any w5 hEX (by omega))
                go_wp2_with fail
                refine hlv.out.mono ?_
                rintro e w6 ⟨rfl, hb6⟩
                have hz6 := hb6.size
                have eA := (HW.out.2.1.run HQ.out HR.out).below hb6
                have eB := HL.out.below hb6
                obtain ⟨ao, ca, hva, hTA⟩ := tokMem_own2 eA (by omega)
                obtain ⟨bo, cb, hvb, hTB⟩ := tokMem_own2 eB (by have := HS.out.2.2.2.2; omega)
                have hsm := refSame_any ao bo ca cb _ _ _ _ w6 hTA hTB
                have hlm : (l3.map (·.1)).length = l3.length := List.length_map _
                have hlq : ((l5).map (·.1)).length = (l5).length := List.length_map _
                rw [hlm, hlq] at hsm
                rw [hva, hvb]
                have HSM := hide hsm
                have hPX := HW.out.1.kept2 (HQ.out) HR.out
                have HP6 := hide (And.intro (hPX.below hb6) (And.intro (HR.out.isP.below hb6) (((HW.out.2.2.2.trans (hub.mono hPQ)).trans (hb6.mono (by omega))))))
                clear hb6 eA eB hTA hTB hsm hva hvb hPX hub hEX
                go_wp2_with fail
                refine HSM.out.mono ?_
                rintro e w7 ⟨hte, hb7⟩
                obtain rfl : e = .returned (.bool true) := by
                  rcases hte with ⟨_, h⟩ | ⟨h, _⟩
                  · exact h
                  · exact absurd HS.out.1 h
                have hz7 := hb7.size
                have hd1 := depth_any _ _ _ _ _ w7 (HP6.out.1.below hb7)
                have hd2 := depth_any _ _ _ _ _ w7 (HP6.out.2.1.below hb7)
                have hf1 := left_any _ _ _ _ _ w7 (HP6.out.1.below hb7)
                have hf2 := left_any _ _ _ _ _ w7 (HP6.out.2.1.below hb7)
                rw [← HS.out.2.1, hz1] at hd2
                rw [← HS.out.2.2.1, hz1] at hf2
                obtain ⟨dn, hdn⟩ : ∃ dn, st3.op.length = dn := ⟨_, rfl⟩
                obtain ⟨fn, hfn⟩ : ∃ fn, st3.wait.length = fn := ⟨_, rfl⟩
                rw [hdn] at hd1 hd2
                rw [hfn] at hf1 hf2
                have HD := hide (And.intro hd1 (And.intro hd2 (And.intro hf1 (And.intro hf2 (HP6.out.2.2.trans (hb7.mono (by omega)))))))
                clear hb7 hte hd1 hd2 hf1 hf2 hdn hfn
                go_wp2_with fail
                refine HD.out.1.mono ?_
                rintro e w8 ⟨rfl, hw⟩
                subst hw
                go_wp2_with fail
                refine HD.out.2.1.mono ?_
                rintro e w9 ⟨rfl, hw⟩
                subst hw
                go_wp2_with fail
                refine HD.out.2.2.1.mono ?_
                rintro e w10 ⟨rfl, hw⟩
                subst hw
                go_wp2_with fail
                refine HD.out.2.2.2.1.mono ?_
                rintro e w11 ⟨rfl, hw⟩
                subst hw
                go_wp2_with fail
                go_ret
                exact ⟨by simp, HD.out.2.2.2.2⟩
        · obtain ⟨cc, hcc⟩ : ∃ cc : Nat, (n : Int) - a = cc := ⟨n - a, by omega⟩
          have hgt' : ¬ (cc : Int) < 1 := by omega
          have hwc : IntKind.i64.wrap ((n : Int) - a) = cc := by rw [hcc]; exact wrap_id _ (by omega) (by omega)
          have hpl : ((bs.drop a).take 1).length = 1 := by rw [List.length_take, List.length_drop]; omega
          have hfe := Feed_any _ _ _ _ _ (some ⟨b0, o0 + a, none⟩) (c1 - a) ((bs.drop a).take 1) wr HRr.out.2.1.isP HRr.out.2.2.2.1 HRr.out.2.2.2.2.1 h4q h4q (((HRr.out.2.2.2.2.2.drop a).take 1).bytes HRr.out.2.1.isP hPQ) (by omega)
          rw [hpl] at hfe
          have hap := FeedF_app (bs.take a) ((bs.drop a).take 1) inv0
          rw [take_more] at hap
          have HF := hide (And.intro hfe hap)
          have w1x : (a : Int) + 1 ≤ c1 := by omega
          have w2x : (0 : Int) ≤ (a : Int) + 1 := by omega
          have w3x : (a : Int) ≤ (a : Int) + 1 := by omega
          have w4x : IntKind.i64.wrap ((a : Int) + 1) = a + 1 := wrap_id _ (by omega) (by omega)
          have htl : a + 1 ≤ n := by omega
          have hl6 : (FeedF st0 (bs.take (a + 1))).2.length ≤ 6000 := Inv.len (by rw [List.length_take]; omega)
          clear hfe hap hpl
          go_wp2_with fail
          rw [← hz1]
          refine HF.out.1.mono ?_
          rintro e w4 ⟨st4, v4, l4, vw4, vo4, rfl, p1, p2, p3, p4⟩
          have hEl4 := HRr.out.1.run HRr.out.2.1.isP p3
          have hrun4 := HRr.out.2.1.then p3
          have hz4 := p3.below.size
          have p2' := p2.lower hzr
          have hl4 : lq.length + l4.length ≤ 6000 := by
            have h := hl6
            rw [HF.out.2] at h
            have h2 : ((FeedF st0 (bs.take a)).2 ++ (FeedF (FeedF st0 (bs.take a)).1 ((bs.drop a).take 1)).2).length ≤ 6000 := h
            rw [← p1, ← HRr.out.2.2.1, List.length_append, List.length_map, List.length_map] at h2
            exact h2
          have htoks : (lq ++ l4).map (·.1) = (FeedF st0 (bs.take (a + 1))).2 := by
            rw [HF.out.2, List.map_append, p1, HRr.out.2.2.1]
          have hsim : Sim st4 (FeedF st0 (bs.take (a + 1))).1 := by
            rw [HF.out.2]
            exact p4
          obtain ⟨g4, k4, hv4⟩ := own_shape p2.1
          subst hv4
          obtain ⟨b4, hb4⟩ : ∃ b4, st4.broken = b4 := ⟨_, rfl⟩
          rw [hb4]
          have H4 := hide (And.intro hEl4 (And.intro p2' (And.intro hrun4 (And.intro htoks (And.intro hsim hb4)))))
          clear hEl4 p2' hrun4 htoks hsim hb4 p1 p2 p3 p4 HF hl6
          go_wp2_with (at_builtin; refine stopHere ?_)
          unfold Hid
          refine append_rows _ rfl _ _ rfl w3.heap.size _ _ lq l4 rfl rfl H4.out.1 H4.out.2.1 (by omega) (by omega) (by omega) ?_
          intro v5 w5 hE5 hgr5
          have hrun5 := H4.out.2.2.1.grown H4.out.1 hgr5
          have htk5 := H4.out.2.2.2.1
          obtain ⟨l5, hl5⟩ : ∃ l5, lq ++ l4 = l5 := ⟨_, rfl⟩
          rw [hl5] at hE5 htk5
          have hl5n : l5.length ≤ 6000 := by rw [← hl5, List.length_append]; omega
          obtain ⟨g5, k5, hv5⟩ := own_shape hE5.1
          subst hv5
          have HTK := hide htk5
          have HL := hide hE5
          clear hl5 htk5
          have HR := hide hrun5
          clear hE5 hrun5 hgr5
          by_cases h0 : b4 = 0
          · have hbk : (FeedF st0 (bs.take (a + 1))).1.broken = 0 := by rw [← Sim.broken H4.out.2.2.2.2.1, H4.out.2.2.2.2.2]; exact h0
            have hst := H4.out.2.2.2.2.1.ok hbk
            have HX := hide (And.intro hbk hst)
            clear hbk hst
            subst h0
            go_wp2_with fail
            refine ⟨⟨k + 1, a + 1, l5, vw4, vo4, by omega, htl, rfl, by simp, by simp, HX.out.1, HTK.out, HL.out, ?_⟩, by simp [intOf]; omega⟩
            have h := HR.out
            rw [HX.out.2] at h
            exact h
          · have h0' : (b4 == 0) = false := by rw [beq_eq_false_iff_ne]; exact h0
            have hbk : (FeedF st0 (bs.take (a + 1))).1.broken ≠ 0 := by rw [← Sim.broken H4.out.2.2.2.2.1, H4.out.2.2.2.2.2]; exact h0
            have hcut := FeedF_cut hbk
            have hs3 := HT.out.2
            have ht3 := HT.out.1
            rw [hcut] at hs3 ht3
            have sA := hs3.same
            have sB := H4.out.2.2.2.2.1.same
            have HS := hide (And.intro (ht3.trans HTK.out.symm) (And.intro (congrArg List.length (sA.1.trans sB.1.symm)) (And.intro (congrArg List.length (sA.2.1.trans sB.2.1.symm)) (And.intro (sA.2.2.trans sB.2.2.symm) hl5n))))
            have hbb : br = b4 := by rw [← HBR.out, ← H4.out.2.2.2.2.2]; exact HS.out.2.2.2.1
            subst hbb
            clear hbk hcut hs3 ht3 sA sB h0
            by_cases hlt2 : ((a : Int) + 1) < n
            all_goals
              have hub := Run.under HQ.out HR.out
              have hzX := HR.out.below.size
              have hEX : Env w5 := HW.out.2.2.1.below hub h4q
              have hlv := hide (live_any w5 hEX (by omega))
              go_wp2_with fail
              refine hlv.out.mono ?_
              rintro e w6 ⟨rfl, hb6⟩
              have hz6 := hb6.size
              have eA := (HW.out.2.1.run HQ.out HR.out).below hb6
              have eB := HL.out.below hb6
              obtain ⟨ao, ca, hva, hTA⟩ := tokMem_own2 eA (by omega)
              obtain ⟨bo, cb, hvb, hTB⟩ := tokMem_own2 eB (by have := HS.out.2.2.2.2; omega)
              have hsm := refSame_any ao bo ca cb _ _ _ _ w6 hTA hTB
              have hlm : (l3.map (·.1)).length = l3.length := List.length_map _
              have hlq : ((l5).map (·.1)).length = (l5).length := List.length_map _
              rw [hlm, hlq] at hsm
              rw [hva, hvb]
              have HSM := hide hsm
              have hPX := HW.out.1.kept2 (HQ.out) HR.out
              have HP6 := hide (And.intro (hPX.below hb6) (And.intro (HR.out.isP.below hb6) (((HW.out.2.2.2.trans (hub.mono hPQ)).trans (hb6.mono (by omega))))))
              clear hb6 eA eB hTA hTB hsm hva hvb hPX hub hEX
              go_wp2_with fail
              refine HSM.out.mono ?_
              rintro e w7 ⟨hte, hb7⟩
              obtain rfl : e = .returned (.bool true) := by
                rcases hte with ⟨_, h⟩ | ⟨h, _⟩
                · exact h
                · exact absurd HS.out.1 h
              have hz7 := hb7.size
              have hd1 := depth_any _ _ _ _ _ w7 (HP6.out.1.below hb7)
              have hd2 := depth_any _ _ _ _ _ w7 (HP6.out.2.1.below hb7)
              have hf1 := left_any _ _ _ _ _ w7 (HP6.out.1.below hb7)
              have hf2 := left_any _ _ _ _ _ w7 (HP6.out.2.1.below hb7)
              rw [← HS.out.2.1, hz1] at hd2
              rw [← HS.out.2.2.1, hz1] at hf2
              obtain ⟨dn, hdn⟩ : ∃ dn, st3.op.length = dn := ⟨_, rfl⟩
              obtain ⟨fn, hfn⟩ : ∃ fn, st3.wait.length = fn := ⟨_, rfl⟩
              rw [hdn] at hd1 hd2
              rw [hfn] at hf1 hf2
              have HD := hide (And.intro hd1 (And.intro hd2 (And.intro hf1 (And.intro hf2 (HP6.out.2.2.trans (hb7.mono (by omega)))))))
              clear hb7 hte hd1 hd2 hf1 hf2 hdn hfn
              go_wp2_with fail
              refine HD.out.1.mono ?_
              rintro e w8 ⟨rfl, hw⟩
              subst hw
              go_wp2_with fail
              refine HD.out.2.1.mono ?_
              rintro e w9 ⟨rfl, hw⟩
              subst hw
              go_wp2_with fail
              refine HD.out.2.2.1.mono ?_
              rintro e w10 ⟨rfl, hw⟩
              subst hw
              go_wp2_with fail
              refine HD.out.2.2.2.1.mono ?_
              rintro e w11 ⟨rfl, hw⟩
              subst hw
              go_wp2_with fail
              go_ret
              exact ⟨by simp, HD.out.2.2.2.2⟩
      · have HRr := hide hrun
        have hub := Run.under HQ.out hrun
        have hEr : Env wr := HW.out.2.2.1.below hub h4q
        have hbwr := HW.out.2.2.2.trans (hub.mono hPQ)
        have hlv := hide (live_any wr hEr (by omega))
        have HBW := hide hbwr
        clear hub hEr hbwr hrun hEl hlq hbq
        go_wp2_with fail
        refine hlv.out.mono ?_
        rintro e w6 ⟨rfl, hb6⟩
        have H6 := hide (HBW.out.trans (hb6.mono (by omega)))
        clear hb6
        go_wp2_with fail
        go_ret
        exact ⟨rfl, H6.out⟩
    · obtain rfl : a = n := by omega
      have htk : bs.take a = bs := by rw [← hn]; exact List.take_length
      rw [htk] at hbq hlq hrun
      have hS := HT.out.2.ok hbq
      have HR := hide hrun
      have HL := hide hEl
      have HS := hide (And.intro (HT.out.1.trans hlq.symm) (And.intro (congrArg (fun s => s.op.length) hS) (And.intro (congrArg (fun s => s.wait.length) hS) (And.intro ((congrArg PS.broken hS).trans hbq) hlqn))))
      have hbr0 : br = 0 := by rw [← HBR.out]; exact HS.out.2.2.2.1
      subst hbr0
      clear hrun hEl hlq hbq hS htk
      have hub := Run.under HQ.out HR.out
      have hzX := HR.out.below.size
      have hEX : Env wr := HW.out.2.2.1.below hub h4q
      have hlv := hide (live_any wr hEX (by omega))
      go_wp2_with fail
      refine hlv.out.mono ?_
      rintro e w6 ⟨rfl, hb6⟩
      have hz6 := hb6.size
      have eA := (HW.out.2.1.run HQ.out HR.out).below hb6
      have eB := HL.out.below hb6
      obtain ⟨ao, ca, hva, hTA⟩ := tokMem_own2 eA (by omega)
      obtain ⟨bo, cb, hvb, hTB⟩ := tokMem_own2 eB (by have := HS.out.2.2.2.2; omega)
      have hsm := refSame_any ao bo ca cb _ _ _ _ w6 hTA hTB
      have hlm : (l3.map (·.1)).length = l3.length := List.length_map _
      have hlq : ((lq).map (·.1)).length = (lq).length := List.length_map _
      rw [hlm, hlq] at hsm
      rw [hva, hvb]
      have HSM := hide hsm
      have hPX := HW.out.1.kept2 (HQ.out) HR.out
      have HP6 := hide (And.intro (hPX.below hb6) (And.intro (HR.out.isP.below hb6) (((HW.out.2.2.2.trans (hub.mono hPQ)).trans (hb6.mono (by omega))))))
      clear hb6 eA eB hTA hTB hsm hva hvb hPX hub hEX
      go_wp2_with fail
      refine HSM.out.mono ?_
      rintro e w7 ⟨hte, hb7⟩
      obtain rfl : e = .returned (.bool true) := by
        rcases hte with ⟨_, h⟩ | ⟨h, _⟩
        · exact h
        · exact absurd HS.out.1 h
      have hz7 := hb7.size
      have hd1 := depth_any _ _ _ _ _ w7 (HP6.out.1.below hb7)
      have hd2 := depth_any _ _ _ _ _ w7 (HP6.out.2.1.below hb7)
      have hf1 := left_any _ _ _ _ _ w7 (HP6.out.1.below hb7)
      have hf2 := left_any _ _ _ _ _ w7 (HP6.out.2.1.below hb7)
      rw [← HS.out.2.1, hz1] at hd2
      rw [← HS.out.2.2.1, hz1] at hf2
      obtain ⟨dn, hdn⟩ : ∃ dn, st3.op.length = dn := ⟨_, rfl⟩
      obtain ⟨fn, hfn⟩ : ∃ fn, st3.wait.length = fn := ⟨_, rfl⟩
      rw [hdn] at hd1 hd2
      rw [hfn] at hf1 hf2
      have HD := hide (And.intro hd1 (And.intro hd2 (And.intro hf1 (And.intro hf2 (HP6.out.2.2.trans (hb7.mono (by omega)))))))
      clear hb7 hte hd1 hd2 hf1 hf2 hdn hfn
      go_wp2_with fail
      refine HD.out.1.mono ?_
      rintro e w8 ⟨rfl, hw⟩
      subst hw
      go_wp2_with fail
      refine HD.out.2.1.mono ?_
      rintro e w9 ⟨rfl, hw⟩
      subst hw
      go_wp2_with fail
      refine HD.out.2.2.1.mono ?_
      rintro e w10 ⟨rfl, hw⟩
      subst hw
      go_wp2_with fail
      refine HD.out.2.2.2.1.mono ?_
      rintro e w11 ⟨rfl, hw⟩
      subst hw
      go_wp2_with fail
      go_ret
      exact ⟨by simp, HD.out.2.2.2.2⟩
end Go.Proofs.YtbhedmdbejoinaaDoor
