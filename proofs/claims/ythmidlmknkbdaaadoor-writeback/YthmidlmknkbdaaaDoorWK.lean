/- The document's parser: a byte, whatever it is. The document's parser: bytes are fed. -/
import Derived.Test.YthmidlmknkbdaaaDoorWH
import Derived.Test.YthmidlmknkbdaaaDoorWI
import Derived.Test.YthmidlmknkbdaaaDoorWJ
namespace Go.Proofs.YthmidlmknkbdaaaDoor.Xm
open Go.RowKit

/-- What a byte does with the document's parser. -/
def OneDone (bt base p : Nat) (st : PS) (c : UInt8) (w : World) (e : Ending) (w' : World) : Prop := (∃ x, putF st c = .ok x ∧ OneOk bt base p x.1 x.2 w e w') ∨ (putF st c = .error 5 ∧ OneErr base p w e w')
theorem one_ok {bt base p : Nat} {st st' : PS} {toks : List Tok} {c : UInt8} {w : World} {args : Array Value} {f : Nat} (hp : putF st c = .ok (st', toks)) (h : Calls Tryd.prog f args w fun e w' => OneOk bt base p st' toks w e w') : Calls Tryd.prog f args w fun e w' => OneDone bt base p st c w e w' := h.mono fun _ _ hx => .inl ⟨_, hp, hx⟩
theorem one_err {bt base p : Nat} {st : PS} {c : UInt8} {w : World} {args : Array Value} {f : Nat} (hp : putF st c = .error 5) (h : Calls Tryd.prog f args w fun e w' => OneErr base p w e w') : Calls Tryd.prog f args w fun e w' => OneDone bt base p st c w e w' := h.mono fun _ _ hx => .inr ⟨hp, hx⟩
theorem rfOne_any (base p bt : Nat) (st : PS) (vw vo : Value) (c : UInt8) (w : World) (hP : IsF base p st vw vo w) (hbt : bt ≤ w.heap.size) (hT : Tabs w) (h4 : 4 ≤ p) (hI : Inv st) (hL : inTagL st.wait = false → st.wait.length ≤ 512) (hF : Fine st c) :
    Calls Tryd.prog 26 #[.pointer (some ⟨p, 0, none⟩), .int .u8 c.toNat] w fun e w' => OneDone bt base p st c w e w' := by
  have e60 : (((60 : UInt8).toNat : Nat) : Int) = 60 := rfl
  have e62 : (((62 : UInt8).toNat : Nat) : Int) = 62 := rfl
  have e39 : (((39 : UInt8).toNat : Nat) : Int) = 39 := rfl
  have e34 : (((34 : UInt8).toNat : Nat) : Int) = 34 := rfl
  have hwl := hI.wait
  by_cases hin : inTagL st.wait = true
  · have hin2 := inTagL_app hin [c]
    rcases Nat.lt_or_ge st.wait.length 2048 with hlen | hlen
    · cases hq2 : (quoteL st.quote c).2 with
      | true =>
        obtain ⟨hpr, ⟨st2, toks⟩, htag⟩ := hF.2 hin hlen hq2
        have hpe := (put_end hin hlen hq2).trans htag
        have hcq : c = 62 ∧ st.quote = 0 := by
          unfold quoteL at hq2
          split at hq2
          · cases hq2
          · split at hq2
            · cases hq2
            · rename_i h0
              split at hq2
              · cases hq2
              · exact ⟨by simpa using hq2, Classical.byContradiction fun h => h0 h⟩
        obtain ⟨rfl, hq0⟩ := hcq
        have hq1 : (quoteL st.quote 62).1 = 0 := by rw [hq0]; rfl
        rw [hq1] at htag
        rw [e62]
        exact one_ok hpe (rfOne_c0 base p bt st vw vo w hP hbt hin2 hlen hq0 st2 toks hpr htag hT h4 hI.op)
      | false =>
        have hpi := put_in hin hlen hq2
        by_cases hcq : c.toNat = st.quote
        · have hq1 : (quoteL st.quote c).1 = 0 := by unfold quoteL; rw [if_pos hcq]
          rw [hq1] at hpi
          by_cases hq0 : st.quote = 0
          · have hc0 : c = 0 := UInt8.toNat_inj.1 (by show c.toNat = 0; omega)
            subst hc0
            have hst : ({ st with wait := st.wait ++ [0], quote := 0 } : PS) = { st with wait := st.wait ++ [0] } := by rw [← hq0]
            rw [hst] at hpi
            exact one_ok hpi (rfOne_b6 base p bt st vw vo 0 w hP hbt (by decide) (by decide) (by decide) (by decide) hin2 hlen hq0)
          · by_cases hc60 : c = 60
            · subst hc60
              rw [e60]
              exact one_ok hpi (rfOne_b9 base p bt st vw vo w hP hbt hin2 hin hlen hcq.symm)
            · by_cases hc62 : c = 62
              · subst hc62
                rw [e62]
                exact one_ok hpi (rfOne_b8 base p bt st vw vo w hP hbt hin2 hlen hcq.symm)
              · exact one_ok hpi (rfOne_b2 base p bt st vw vo c w hP hbt hc60 hin2 hlen hq0 hcq.symm hc62)
        · by_cases hq0 : st.quote = 0
          · have hq1 : quoteL st.quote c = if c = 39 ∨ c = 34 then (c.toNat, false) else (st.quote, decide (c = 62)) := by
              unfold quoteL
              rw [if_neg hcq, if_neg (by omega)]
            by_cases h39 : c = 39
            · subst h39
              have hq1' : (quoteL st.quote 39).1 = 39 := by rw [hq1]; rfl
              rw [hq1'] at hpi
              rw [e39]
              exact one_ok hpi (rfOne_b4 base p bt st vw vo w hP hbt hin2 hlen hq0)
            · by_cases h34 : c = 34
              · subst h34
                have hq1' : (quoteL st.quote 34).1 = 34 := by rw [hq1]; rfl
                rw [hq1'] at hpi
                rw [e34]
                exact one_ok hpi (rfOne_b5 base p bt st vw vo w hP hbt hin2 hlen hq0)
              · rw [if_neg (by rintro (h | h); exact h39 h; exact h34 h)] at hq1
                have h62 : c ≠ 62 := by
                  rw [hq1] at hq2
                  simpa using hq2
                have hq1' : (quoteL st.quote c).1 = st.quote := by rw [hq1]
                rw [hq1'] at hpi
                by_cases hc60 : c = 60
                · subst hc60
                  rw [e60]
                  exact one_ok hpi (rfOne_b0 base p bt st vw vo w hP hbt hin2 hin hlen hq0)
                · exact one_ok hpi (rfOne_b6 base p bt st vw vo c w hP hbt hc60 h39 h34 h62 hin2 hlen hq0)
          · have hq1 : (quoteL st.quote c).1 = st.quote := by
              unfold quoteL
              rw [if_neg hcq, if_pos hq0]
            rw [hq1] at hpi
            have hqc : st.quote ≠ c.toNat := fun e => hcq e.symm
            by_cases hc60 : c = 60
            · subst hc60
              rw [e60]
              exact one_ok hpi (rfOne_b1 base p bt st vw vo w hP hbt hin2 hin hlen hq0 hqc)
            · by_cases hc62 : c = 62
              · subst hc62
                rw [e62]
                exact one_ok hpi (rfOne_b7 base p bt st vw vo w hP hbt hin2 hlen hq0 hqc)
              · exact one_ok hpi (rfOne_b3 base p bt st vw vo c w hP hbt hc60 hin2 hlen hq0 hqc hc62)
    · have hl : st.wait.length = 2048 := by omega
      have hpe := put_over (c := c) hin hl
      by_cases hc60 : c = 60
      · subst hc60
        rw [e60]
        exact one_err hpe (rfOne_a5 base p bt st vw vo w hP hbt hin2 hin hl)
      · exact one_err hpe (rfOne_a4 base p bt st vw vo c w hP hbt hc60 hin2 hl)
  · have hin' : inTagL st.wait = false := by simpa using hin
    have hl5 := hL hin'
    by_cases hc60 : c = 60
    · subst hc60
      obtain ⟨hq0, ⟨st2, toks⟩, htx⟩ := hF.1 rfl hin'
      have hpl := put_lt hin' hq0 htx
      rw [e60]
      by_cases hw : st.wait = []
      · rw [hw, text_none] at htx
        cases htx
        have hst : ({ ({ st with wait := [] } : PS) with wait := [60], quote := 0 } : PS) = { st with wait := [60] } := by rw [← hq0]
        rw [hst] at hpl
        exact one_ok hpl (rfOne_a2 base p bt st vw vo w hP hbt hw hl5 hq0)
      · have hst : ({ st2 with wait := [60], quote := 0 } : PS) = { st2 with wait := [60] } := by
          have h := (textL_keeps htx).2.2.1
          have h' : st2.quote = 0 := h.trans hq0
          rw [← h']
        rw [hst] at hpl
        exact one_ok hpl (rfOne_a3 base p bt st vw vo w hP hbt hw hin' st2 toks htx hT h4 hI.op hl5 hq0)
    · have hin3 : inTagL (st.wait ++ [c]) = false := by
        cases hw : st.wait with
        | nil =>
          show (c == 60) = false
          rw [beq_eq_false_iff_ne]
          exact hc60
        | cons a l =>
          rw [hw] at hin'
          exact hin'
      rcases Nat.lt_or_ge st.wait.length 512 with hlen | hlen
      · exact one_ok (put_text hc60 hin' hlen) (rfOne_a0 base p bt st vw vo c w hP hbt hc60 hin3 hlen)
      · exact one_err (put_full hc60 hin' (by omega)) (rfOne_a1 base p bt st vw vo c w hP hbt hc60 hin3 (by omega))
end Go.Proofs.YthmidlmknkbdaaaDoor.Xm
namespace Go.Proofs.YthmidlmknkbdaaaDoor.Xm
open Go.RowKit

/-- Bytes that lie apart from the parser. -/
def BytesF (w : World) (p : Nat) (ba : Option Addr) (l : List UInt8) : Prop := ∀ j c, l[j]? = some c → ∃ b o, ba = some ⟨b, o, none⟩ ∧ b < w.heap.size ∧ b ≠ p ∧ w.cell? ⟨b, o + j, none⟩ = some (.int .u8 c.toNat)
theorem BytesF.cell {w w' : World} {p : Nat} {ba : Option Addr} {l : List UInt8} (h : BytesF w p ba l) (hO : Only p w w') {j : Nat} {c : UInt8} (hj : l[j]? = some c) : ∃ b o, ba = some ⟨b, o, none⟩ ∧ w'.cell? ⟨b, o + j, none⟩ = some (.int .u8 c.toNat) := by
  obtain ⟨b, o, rfl, h1, h2, h3⟩ := h j c hj
  refine ⟨b, o, rfl, ?_⟩
  have hk := hO.block b h1 h2
  have hc : w'.cell? ⟨b, o + j, none⟩ = w.cell? ⟨b, o + j, none⟩ := by simp [World.cell?, hk]
  rw [hc]
  exact h3
/-- What waits is not too long. -/
def WInv (st : PS) : Prop := inTagL st.wait = false → st.wait.length ≤ 512
theorem put2_winv {st : PS} {t : List Tok} {c : UInt8} {x : PS × List Tok} (h : put2 st t c = .ok x) (h8 : st.op.length ≤ 8) : WInv x.1 := by
  unfold put2 at h
  split at h
  · cases h
  · rename_i hm
    split at h
    · split at h
      · have hk := (tagL_keeps (st' := x.1) (t := x.2) h h8).1
        intro _
        rw [hk]
        simp
      · rename_i hin _
        cases h
        intro e
        have e' : inTagL (st.wait ++ [c]) = false := e
        rw [hin] at e'
        cases e'
    · rename_i hin
      cases h
      intro _
      show (st.wait ++ [c]).length ≤ 512
      rw [mostL_out (by simpa using hin)] at hm
      omega
theorem putF_winv {st : PS} {c : UInt8} {x : PS × List Tok} (h : putF st c = .ok x) (hI : Inv st) : WInv x.1 := by
  unfold putF at h
  split at h
  · split at h
    · cases h
    · rename_i y hy
      refine put2_winv h ?_
      rw [(textL_keeps (st' := y.1) (t := y.2) hy).2.1]
      exact hI.op
  · exact put2_winv h hI.op
theorem ElRow.only {bt p : Nat} {w w' : World} {v : Value} {l : List TokV} {cs : Array Value} (h : ElRow bt w v l) (hO : Only p w w') (hp : w.heap[p]? = some (.cells cs 68)) : ElRow bt w' v l :=
  ⟨own_same h.1 (fun g hg => hO.block g (own_lt h.1 g hg) (own_ne0 h.1 hp (by decide) g hg)), fun y hy => ⟨own_same (h.2 y hy).1 (fun g hg => hO.block g (own_lt (h.2 y hy).1 g hg) (own_ne0 (h.2 y hy).1 hp (by decide) g hg)), (h.2 y hy).2⟩⟩
theorem Only.grownE {p : Nat} {w w2 w3 : World} {v : Value} {l : List TokV} (h : Only p w w2) (hE : ElRow w.heap.size w2 v l) (hg : w2.grownBy w3 v.ownBlock) (hp : p < w.heap.size) : Only p w w3 :=
  ⟨h.below.grown hg (Nat.le_trans (Nat.le_of_lt hp) h.size) (fun g hg' => Nat.le_trans (Nat.le_of_lt hp) (own_base hE.1 g hg')), Nat.le_trans h.size hg.size, fun j hj hjp => (hg.block j (Nat.lt_of_lt_of_le hj h.size) (fun e => absurd (own_base hE.1 j e.symm) (by omega))).trans (h.block j hj hjp)⟩
/-- How bytes end that are fed. -/
def FedF (base p : Nat) (ff : PS × List Tok) (w : World) (e : Ending) (w' : World) : Prop :=
  (∃ v l vw' vo', e = .returned (.tuple #[v, .int .i64 0]) ∧ l.map (·.1) = ff.2 ∧ ff.1.broken = 0 ∧ ElRow w.heap.size w' v l ∧ IsF base p ff.1 vw' vo' w' ∧ Only p w w') ∨ (ff.1.broken = 5 ∧ (∃ v, e = .returned (.tuple #[v, .int .i64 5])) ∧ Only p w w')
set_option maxRecDepth 100000 in
set_option maxHeartbeats 4000000 in
theorem rfFeed_any (base p : Nat) (st : PS) (vw vo : Value) (ba : Option Addr) (bc : Nat) (bs : List UInt8) (w : World) (hP : IsF base p st vw vo w) (hI : Inv st) (hW : WInv st) (hbr : st.broken = 0) (hT : Tabs w) (h4 : 4 ≤ p) (hB : BytesF w p ba bs) (hbl : bs.length ≤ 8000000) (hA : Along st bs) :
    Calls Tryd.prog 10 #[.pointer (some ⟨p, 0, none⟩), .slice ba bs.length bc] w fun e w' => FedF base p (feedF st bs) w e w' := by
  have hpl := hP.lt
  have c5 := hP.cells.2.2.2.2.2.1
  rw [hbr] at c5
  obtain ⟨ff, hff⟩ : ∃ ff, feedF st bs = ff := ⟨_, rfl⟩
  rw [hff]
  obtain ⟨n, hn⟩ : ∃ n, bs.length = n := ⟨_, rfl⟩
  rw [hn]
  have HH := hide (And.intro hP (And.intro hI (And.intro hW (And.intro hbr (And.intro hT (And.intro hB (And.intro hA (And.intro hff hn))))))))
  have hn8 : n ≤ 8000000 := by omega
  clear hP hI hW hbr hT hB hA hff hn hbl
  go_enter Tryd.func10, Tryd.ntmps10
  go_wp2_with fail
  go_loopw [6, 7] (fun told i wr => ∃ (k : Nat) (stk : PS) (vwk vok : Value) (l : List TokV), k ≤ n ∧ i = .int .i64 k ∧ l.map (·.1) ++ (feedF stk (bs.drop k)).2 = ff.2 ∧ (feedF stk (bs.drop k)).1 = ff.1 ∧ ElRow w.heap.size wr told l ∧ l.length ≤ 2 * k ∧ IsF base p stk vwk vok wr ∧ Only p w wr ∧ Inv stk ∧ WInv stk ∧ stk.broken = 0 ∧ Along stk (bs.drop k)) (fun _ i _ => n - (intOf i).toNat)
  case atStart => exact ⟨0, st, vw, vo, [], Nat.zero_le _, rfl, by rw [List.drop_zero, HH.out.2.2.2.2.2.2.2.1]; rfl, by rw [List.drop_zero, HH.out.2.2.2.2.2.2.2.1], nil_row _ _, Nat.zero_le _, HH.out.1, Only.refl _ _, HH.out.2.1, HH.out.2.2.1, HH.out.2.2.2.1, by rw [List.drop_zero]; exact HH.out.2.2.2.2.2.2.1⟩
  case round =>
    obtain ⟨k, stk, vwk, vok, l, hk, rfl, e1, e2, hEl, hl2k, hPk, hOk, hIk, hWk, hbk, hAk⟩ := hrel
    have hlen : bs.length = n := HH.out.2.2.2.2.2.2.2.2
    have hl8 : l.length ≤ 16000000 := by omega
    by_cases hlt : (k : Int) < n
    · obtain ⟨c, hc⟩ : ∃ c, bs[k]? = some c := ⟨_, List.getElem?_eq_getElem (by omega)⟩
      have hdr : bs.drop k = c :: bs.drop (k + 1) := by
        rw [List.drop_eq_getElem_cons (by omega)]
        have h := hc
        rw [List.getElem?_eq_getElem (by omega)] at h
        cases h
        rfl
      rw [hdr] at hAk e1 e2
      obtain ⟨b, o, hbe, hcell⟩ := HH.out.2.2.2.2.2.1.cell hOk hc
      have hTk := tabs_below4 HH.out.2.2.2.2.1 hOk.below h4
      have hone := rfOne_any base p w.heap.size stk vwk vok c wr hPk hOk.size hTk h4 hIk hWk hAk.1
      have hk0 : (0 : Int) ≤ k := by omega
      have HC := hide hone
      have HI := hide (And.intro e1 (And.intro e2 (And.intro hEl (And.intro hPk (And.intro hOk (And.intro hIk (And.intro hbk hAk.2)))))))
      obtain ⟨tg, tc, htold⟩ := own_shape hEl.1
      clear hone e1 e2 hEl hPk hOk hIk hWk hbk hAk hc hdr hTk hlen
      subst hbe
      subst htold
      go_wp2_with fail
      refine HC.out.mono ?_
      rintro e w2 (⟨⟨st2, t2⟩, q1, v2, l2, vw2, vo2, rfl, q3, q4, q5, q6⟩ | ⟨q1, st2, vw2, vo2, rfl, q5, q6⟩)
      · have hE2 := HI.out.2.2.1.only q6 HI.out.2.2.2.1.2.1
        have hkp := putF_keeps q1 HI.out.2.2.2.2.2.1
        have hwv := putF_winv q1 HI.out.2.2.2.2.2.1
        have hl2 : l2.length ≤ 2 := by
          have h := congrArg List.length q3
          rw [List.length_map] at h
          have h9 := hkp.2.2
          simp only at h
          omega
        have hff2 := feedF_ok (bs.drop (k + 1)) q1
        have hO2 := HI.out.2.2.2.2.1.trans q6
        obtain ⟨vg, vc, hv2⟩ := own_shape q4.1
        subst hv2
        have hz2 := hO2.size
        have H2 := hide (And.intro hE2 (And.intro q4 (And.intro hkp (And.intro hwv (And.intro hff2 (And.intro hO2 (And.intro q5 (And.intro q3 q1))))))))
        clear hE2 q4 hkp hwv hff2 hO2 q5 q6 q3 q1
        go_wp2_with (at_builtin; refine stopHere ?_)
        unfold Hid
        refine append_rows _ rfl _ _ rfl w.heap.size _ _ l l2 rfl rfl H2.out.1 H2.out.2.1 (by omega) (by omega) hz2 ?_
        intro v3 w3 hE3 hgr3
        have hO3 := H2.out.2.2.2.2.2.1.grownE H2.out.1 hgr3 hpl
        have hP3 := H2.out.2.2.2.2.2.2.1.grown H2.out.1 hgr3
        obtain ⟨g3, c3, hv3⟩ := own_shape hE3.1
        subst hv3
        have H3 := hide (And.intro hE3 (And.intro hO3 hP3))
        clear hE3 hgr3 hO3 hP3
        go_wp2_with fail
        go_roundw
        case rel =>
          refine ⟨k + 1, st2, vw2, vo2, l ++ l2, by omega, by simp, ?_, ?_, (by have h := H3.out.1; simp only [List.length_append] at h; exact h), by rw [List.length_append]; omega, H3.out.2.2, H3.out.2.1, H2.out.2.2.1.1, H2.out.2.2.2.1, H2.out.2.2.1.2.1.trans HI.out.2.2.2.2.2.2.1, HI.out.2.2.2.2.2.2.2 _ H2.out.2.2.2.2.2.2.2.2⟩
          · have h := HI.out.1
            rw [H2.out.2.2.2.2.1] at h
            rw [List.map_append, H2.out.2.2.2.2.2.2.2.1, List.append_assoc]
            exact h
          · have h := HI.out.2.1
            rw [H2.out.2.2.2.2.1] at h
            exact h
        case measure => simp [intOf]; omega
      · have hE2 := HI.out.2.2.1.only q6 HI.out.2.2.2.1.2.1
        have hff2 := feedF_err (bs.drop (k + 1)) q1
        have hO2 := HI.out.2.2.2.2.1.trans q6
        have hz2 := hO2.size
        have hb5 : ff.1.broken = 5 := by
          rw [← HI.out.2.1, hff2]
        have H2 := hide (And.intro hE2 (And.intro hO2 (And.intro q5 hb5)))
        clear hE2 hff2 hO2 q5 q6 q1 hb5
        go_wp2_with (at_builtin; refine stopHere ?_)
        unfold Hid
        refine append_rows _ rfl _ _ rfl w.heap.size _ _ l [] rfl rfl H2.out.1 (nil_row _ _) (by omega) (by simp) hz2 ?_
        intro v3 w3 hE3 hgr3
        have hO3 := H2.out.2.1.grownE H2.out.1 hgr3 hpl
        have hP3 := H2.out.2.2.1.grown H2.out.1 hgr3
        obtain ⟨_, _, _, _, _, x5, xf⟩ := hP3.cells
        have xf5 := xf 5 (by omega)
        have hO4 := hO3.set (i := 5) (.int .i64 5)
        have H3 := hide hO4
        clear hE3 hgr3 hO3 hP3 xf hO4
        go_wp2_with fail
        go_ret2
        exact .inr ⟨H2.out.2.2.2, ⟨_, rfl⟩, H3.out⟩
    · have hkl : k = bs.length := by omega
      have hdr : bs.drop k = [] := by rw [hkl]; exact List.drop_length
      rw [hdr] at e1 e2
      have e1' : l.map (·.1) = ff.2 := by simpa [feedF] using e1
      have e2' : stk = ff.1 := e2
      have HI := hide (And.intro e1' (And.intro e2' (And.intro hEl (And.intro hPk (And.intro hOk hbk)))))
      clear e1 e2 e1' e2' hEl hPk hOk hIk hWk hbk hAk hdr hkl hlen
      go_wp2_with fail
      go_ret2
      refine .inl ⟨_, l, vwk, vok, rfl, HI.out.1, ?_, HI.out.2.2.1, ?_, HI.out.2.2.2.2.1⟩
      · rw [← HI.out.2.1]
        exact HI.out.2.2.2.2.2
      · rw [← HI.out.2.1]
        exact HI.out.2.2.2.1
end Go.Proofs.YthmidlmknkbdaaaDoor.Xm
