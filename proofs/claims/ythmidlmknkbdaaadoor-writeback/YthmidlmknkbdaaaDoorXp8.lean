/- A parser: a byte is put. -/
import Derived.Test.YthmidlmknkbdaaaDoorXp7
namespace Go.Proofs.YthmidlmknkbdaaaDoor.Xm
open Go.RowKit

set_option maxRecDepth 100000 in
/-- What waits may be: a step of a region that draws. -/
theorem step_most {ops : Array Oper} {o : Oper} {a : Act} {w : World} {K : Act → World → Prop} {Q : Exit → Act → World → Prop} {E : Prop} (hg : o.guard = none) (t : Nat) (ty : TypeId)
    (hop : o.op = Op.call { callee := Callee.value (.func 71), args := #[.tmp t], argTypes := #[ty] }) (v : Value) (hx : a.tmps[t]?.getD undef = v) {R : Ending → World → Prop} (hC : Calls Tryd.prog 71 #[v] w R) (hK : ∀ e w', R e w' → ∃ v, e = .returned v ∧ K (a.put o.dst v) w') :
    if Region.wanted o (yielded ops a.tmps) = true then Oper.wp Tryd.prog o a w K Q else E := by
  have hw : Region.wanted o (yielded ops a.tmps) = true := by simp [Region.wanted, hg]
  rw [if_pos hw]
  have _f := Tryd.func71
  unfold Oper.wp
  simp only [execOp, hop, resolve, invoke]
  go_simp
  refine hC.mono ?_
  intro e w' hR
  obtain ⟨u, rfl, hk⟩ := hK e w' hR
  exact hk

/-- What a byte ends in that is put. -/
def PutTo (base p bt : Nat) (st : PS) (vw vo : Value) (w : World) (r : Except Int (PS × List Tok)) (e : Ending) (w' : World) : Prop :=
  (∃ st' toks v l vw' vo', r = .ok (st', toks) ∧ e = .returned v ∧ l.map (·.1) = toks ∧ ElRow bt w' v l ∧ Run base p w vw vo st' w' vw' vo') ∨
  (∃ err st' vw' vo', r = .error err ∧ e = stopE err ∧ st'.op = st.op ∧ Run base p w vw vo st' w' vw' vo')

set_option maxRecDepth 100000 in
set_option maxHeartbeats 4000000 in
theorem put_any (base p bt : Nat) (st : PS) (vw vo : Value) (c : UInt8) (w : World) (hP : IsP base p st vw vo w) (hI : Inv st) (hE : Env w) (h4 : 4 ≤ p) (hb4 : 4 ≤ base) (hbt : bt ≤ w.heap.size) :
    Calls Tryd.prog 52 #[.pointer (some ⟨p, 0, none⟩), .int .u8 c.toNat] w fun e w' => PutTo base p bt st vw vo w (putF st c) e w' := by
  have hpl := hP.lt
  have hiw := hI.wait
  have hio := hI.op
  have hiq := hI.quote
  clear hI
  obtain ⟨pf, hpf⟩ : ∃ pf, putF st c = pf := ⟨_, rfl⟩
  have HPF := hide hpf
  rw [hpf]
  clear hpf
  have HP := hide (And.intro hP hE)
  clear hP hE
  have hin := inTag_any base p st vw vo w HP.out.1 (by omega)
  by_cases hc : c = 60
  · have hc' : ((c.toNat : Int) == 60) = true := by rw [hc]; rfl
    have hcs : inTagL st.wait = true ∨ inTagL st.wait = false := by cases inTagL st.wait <;> simp
    rcases hcs with hit | hit
    · rw [hit] at hin
      have hpp : pf = put2 st [] c := by rw [← HPF.out]; unfold putF; rw [if_neg (fun h => by rw [hit] at h; exact absurd h.2 (by decide))]
      have H1 := hide (And.intro (Run.refl HP.out.1) (And.intro HP.out.2 (And.intro (show ElRow bt w (.slice none 0 0) [] from ⟨World.ownsRow_nil _ _ _ _, fun x hx => by simp at hx⟩) (And.intro hpp (And.intro hiw (And.intro hb4 hiq))))))
      clear hpp
      have HIN := hide hin
      clear hin hit hc
      go_enter Tryd.func52, Tryd.ntmps52
      go_wp2_with fail
      refine HIN.out.mono ?_
      rintro e w1 ⟨rfl, hw⟩
      subst hw
      obtain ⟨gw, gwc, hgw⟩ := own_shape H1.out.1.isP.2.2.1
      obtain ⟨n, hn⟩ : ∃ n, st.wait.length = n := ⟨_, rfl⟩
      have HN := hide hn
      obtain ⟨c0, _, _, _, _, _, cf⟩ := H1.out.1.isP.cells
      have cf0 := cf 0 (by omega)
      rw [hgw, hn] at c0
      have hpl1 : p < w1.heap.size := H1.out.1.isP.lt
      have hn2 : n ≤ 2048 := by rw [← hn]; exact H1.out.2.2.2.2.1
      have HGW := hide hgw
      clear cf hgw hn
      go_wp2_with (at_builtin; refine stopHere ?_)
      unfold Hid
      refine append_byte _ rfl _ _ rfl base _ st.wait rfl (by have h : (w1.alloc (.cells #[.int .u8 c.toNat] 5)).ownsRow base 5 1 vw st.wait.length (Lib.byteCells st.wait) := own_same H1.out.1.isP.2.2.1 (fun g hg => Below.heap_alloc _ _ _ (own_lt H1.out.1.isP.2.2.1 g hg)); rw [HGW.out, HN.out] at h; rw [HN.out]; exact h) c _ rfl (World.alloc_heap_new w1 _) (by rw [HN.out]; omega) (by have h0 := H1.out.1.isP.1; simp; omega) ?_
      intro v2 w2 hown2 hgr2 hob2
      obtain ⟨g2, c2, rfl⟩ := own_shape hown2
      have hgwn : (Value.slice gw n gwc).ownBlock = (vw).ownBlock := by rw [HGW.out, HN.out]
      have hpush := Run.push (st := st) (c := c) H1.out.1.isP hown2 (by rw [← hgwn]; exact hgr2) (by rw [← hgwn]; exact hob2)
      have hp2 : w2.heap[p]? = w1.heap[p]? := (hgr2.block p (by simp; omega) (fun e => own_ne0 H1.out.1.isP.2.2.1 H1.out.1.isP.2.1 (by decide) p (hgwn.symm.trans e.symm) rfl)).trans (Below.heap_alloc _ _ _ hpl1)
      have j0 : w2.cell? ⟨p, 0, none⟩ = some (.slice gw n gwc) := by
        have h := hp2.trans H1.out.1.isP.2.1
        have h' : w2.cell? ⟨p, 0, none⟩ = some vw := by simp [World.cell?, h]
        rw [h', HGW.out, HN.out]
      have jf : w2.frozen? ⟨p, 0, none⟩ = false := by
        have h := hp2.trans H1.out.1.isP.2.1
        simp [World.frozen?, h]
      have hlen : (st.wait ++ [c]).length = n + 1 := by rw [List.length_append, HN.out]; rfl
      rw [hlen] at hpush
      have hE2 : Env (w2.setCell ⟨p, 0, none⟩ (.slice g2 (n + 1) c2)) := by
        have hb : Below 4 w1 (w2.setCell ⟨p, 0, none⟩ (.slice g2 (n + 1) c2)) := (((Below.refl 4 w1).alloc (by omega) _).grown hgr2 (by simp; omega) (fun k hk => by have := own_base H1.out.1.isP.2.2.1 k (hgwn.symm.trans hk); have h0 := H1.out.2.2.2.2.2.1; omega)).setCell (p := ⟨p, 0, none⟩) h4 _
        exact H1.out.2.1.below hb (Nat.le_refl _)
      obtain ⟨W3, hW3⟩ : ∃ W3, w2.setCell ⟨p, 0, none⟩ (.slice g2 (n + 1) c2) = W3 := ⟨_, rfl⟩
      rw [hW3] at hpush hE2
      have HW3 := hide hW3
      have y0 := hpush.isP.cells.1
      obtain ⟨m, hm⟩ : ∃ m, mostL (st.wait ++ [c]) = m := ⟨_, rfl⟩
      have hmo := most_any base p _ _ _ W3.drew hpush.drew.isP (show (st.wait ++ [c]).length ≤ _ by omega)
      have hm' : mostL ({ st with wait := st.wait ++ [c] } : PS).wait = m := hm
      rw [hm'] at hmo
      have hr3 := (H1.out.1.then hpush).drew
      have hEl := (H1.out.2.2.1.run H1.out.1.isP hpush.drew)
      have hit := inTag_any base p _ _ _ W3.drew hpush.drew.isP (show (st.wait ++ [c]).length ≤ _ by omega)
      have het := endsTag_any base p _ _ _ c W3.drew hpush.drew.isP (show st.quote < 256 from H1.out.2.2.2.2.2.2)
      have H3 := hide (And.intro hr3 (And.intro hEl (And.intro hE2 (And.intro hm (And.intro hit het)))))
      have HMO := hide hmo
      clear hmo hr3 hEl hE2 hm hm' hit het hpush hgr2 hob2 hown2 hgwn hp2 hW3
      go_wp2_with fail
      rw [HW3.out]
      by_cases hgt : m < (n : Int) + 1
      · go_region_law
          (refine step_most rfl 32 _ rfl (.pointer (some ⟨p, 0, none⟩)) rfl HMO.out ?_; rintro e w3 ⟨rfl, hw⟩; refine ⟨_, rfl, ?_⟩; subst hw)
        all_goals
          go_wp2_with fail
          refine (giveUp_any 5 W3.drew).mono ?_
          rintro e w5 ⟨rfl, hw⟩
          subst hw
          refine ⟨rfl, .inr ⟨5, { st with wait := st.wait ++ [c] }, _, _, ?_, rfl, rfl, H3.out.1⟩⟩
          rw [H1.out.2.2.2.1]
          unfold put2
          rw [if_pos (by rw [H3.out.2.2.2.1]; omega)]
      · go_region_law
          (refine step_most rfl 32 _ rfl (.pointer (some ⟨p, 0, none⟩)) rfl HMO.out ?_; rintro e w3 ⟨rfl, hw⟩; refine ⟨_, rfl, ?_⟩; subst hw)
        all_goals
          go_wp2_with fail
          refine H3.out.2.2.2.2.1.mono ?_
          rintro e w3 ⟨rfl, hw⟩
          subst hw
          have hngt : ((st.wait ++ [c]).length : Int) ≤ mostL (st.wait ++ [c]) := by rw [H3.out.2.2.2.1]; omega
          have HGT := hide hngt
          clear hngt
          have hcs : inTagL (st.wait ++ [c]) = false ∨ inTagL (st.wait ++ [c]) = true := by cases inTagL (st.wait ++ [c]) <;> simp
          rcases hcs with hi | hi
          · have HI := hide hi
            have hi' : inTagL ({ st with wait := st.wait ++ [c] } : PS).wait = false := hi
            clear hi
            go_wp2_with fail
            go_ret
            refine .inl ⟨{ st with wait := st.wait ++ [c] }, [], .slice none 0 0, [], _, _, ?_, rfl, rfl, H3.out.2.1, H3.out.1⟩
            rw [H1.out.2.2.2.1]
            unfold put2
            rw [if_neg (Int.not_lt.2 HGT.out), if_neg (by rw [HI.out]; decide)]
          · have HI := hide hi
            have hi' : inTagL ({ st with wait := st.wait ++ [c] } : PS).wait = true := hi
            clear hi
            go_wp2_with fail
            refine H3.out.2.2.2.2.2.mono ?_
            rintro e w4 ⟨rfl, hP4, hO4⟩
            have hr4 := H3.out.1.then (Run.only hO4 hP4 rfl rfl)
            have hE4 := H3.out.2.1.run H3.out.1.isP (Run.only hO4 hP4 rfl rfl)
            have hev4 : Env w4 := Env.below (w := W3.drew) H3.out.2.2.1 hO4.below h4
            have hcs : (quoteL st.quote c).2 = false ∨ (quoteL st.quote c).2 = true := by cases (quoteL st.quote c).2 <;> simp
            rcases hcs with hq | hq
            · have H4 := hide (And.intro hr4 (And.intro hE4 hq))
              have hq' : (quoteL ({ st with wait := st.wait ++ [c] } : PS).quote c).2 = false := hq
              clear hr4 hE4 hev4 hq hP4 hO4
              go_wp2_with fail
              go_ret
              refine .inl ⟨{ st with wait := st.wait ++ [c], quote := (quoteL st.quote c).1 }, [], .slice none 0 0, [], _, _, ?_, rfl, rfl, H4.out.2.1, H4.out.1⟩
              rw [H1.out.2.2.2.1]
              unfold put2
              rw [if_neg (Int.not_lt.2 HGT.out), if_pos HI.out, if_neg (by rw [H4.out.2.2]; decide)]
            · have hc62 := quoteL_gt hq
              have hpi := piece_any base p _ _ _ w4 hP4 (show (st.wait ++ [c]).length ≤ _ by omega)
              have H4 := hide (And.intro hr4 (And.intro hev4 (And.intro hq (And.intro hpi hc62))))
              have hq' : (quoteL ({ st with wait := st.wait ++ [c] } : PS).quote c).2 = true := hq
              clear hr4 hE4 hev4 hq hP4 hO4 hpi hc62
              go_wp2_with fail
              refine H4.out.2.2.2.1.mono ?_
              rintro e w5 ⟨rfl, ⟨vw5, hvw5, hP5⟩, hO5⟩
              have hr5 := H4.out.1.then (Run.only hO5 hP5 hvw5 rfl)
              have hEv5 := H4.out.2.1.below hO5.below h4
              have hs5 := hr5.below.size
              have hta := takeTag_any base p bt _ vw5 vo ⟨(st.wait ++ [c]).toArray⟩ w5 hP5 (by rw [size_lst, arr_list]; omega) hEv5 h4 (by omega) (show st.op.length ≤ 1000 by have h : st.op = st.op := rfl; have h' : st.op.length = st.op.length := congrArg List.length h; omega) (by
                rw [H4.out.2.2.2.2]
                exact decl_ne st.wait)
              have H5 := hide (And.intro hr5 hta)
              clear hr5 hta hEv5 hP5 hO5 hvw5
              go_wp2_with fail
              refine H5.out.2.mono ?_
              rintro e w6 ⟨⟨st6, t6, v6, l6, vo6, q1, rfl, q3, q4, q5, q6⟩ | ⟨err, b6, q1, rfl, q5⟩, hB6⟩
              · have hpf6 : pf = .ok (st6, t6) := by
                  rw [H1.out.2.2.2.1]
                  unfold put2
                  rw [if_neg (Int.not_lt.2 HGT.out), if_pos HI.out, if_pos H4.out.2.2.1]
                  exact q1
                have H6 := hide (And.intro hpf6 (And.intro q3 (And.intro q4 (H5.out.1.then (Run.but hB6 q5 q6)))))
                clear hpf6 q1 q3 q4 q5 q6 hB6
                go_wp2_with fail
                go_ret
                exact .inl ⟨st6, t6, v6, l6, vw5, vo6, H6.out.1, rfl, H6.out.2.1, H6.out.2.2.1, H6.out.2.2.2⟩
              · have hpf6 : pf = .error err := by
                  rw [H1.out.2.2.2.1]
                  unfold put2
                  rw [if_neg (Int.not_lt.2 HGT.out), if_pos HI.out, if_pos H4.out.2.2.1]
                  exact q1
                exact ⟨rfl, .inr ⟨err, { st with wait := [], quote := (quoteL st.quote c).1, begun := b6 }, vw5, vo, hpf6, rfl, rfl, H5.out.1.then (Run.but hB6 q5 (.inl rfl))⟩⟩
    · rw [hit] at hin
      have hpi := piece_any base p st vw vo w HP.out.1 (by omega)
      have HIN := hide (And.intro hin (And.intro hit (And.intro hc hpi)))
      clear hin hit hc hpi
      go_enter Tryd.func52, Tryd.ntmps52
      go_wp2_with fail
      refine HIN.out.1.mono ?_
      rintro e w0 ⟨rfl, hw⟩
      subst hw
      go_wp2_with fail
      refine HIN.out.2.2.2.mono ?_
      rintro e w8 ⟨rfl, ⟨vw1, hvw1, hP8⟩, hO8⟩
      have hr8 := Run.only hO8 hP8 hvw1 (rfl : vo.ownBlock = vo.ownBlock)
      have hE8 := HP.out.2.below hO8.below h4
      have hs8 := hO8.size
      have htt := takeText_any base p bt _ vw1 vo ⟨st.wait.toArray⟩ w8 hP8 (by rw [size_lst, arr_list]; omega) hE8 h4 (by omega) (show st.op.length ≤ _ by omega)
      have H8 := hide (And.intro hr8 (And.intro hE8 htt))
      clear hr8 hE8 htt hP8 hO8 hvw1
      go_wp2_with fail
      refine H8.out.2.2.mono ?_
      rintro e w1 ⟨⟨st1, t1, v1, l1, q1, rfl, q3, q4, q5⟩ | ⟨err, b1, q1, rfl, q5⟩, hO9⟩
      · have hk := textL_keeps q1
        have hpp : pf = put2 st1 t1 c := by
          rw [← HPF.out]
          unfold putF
          rw [if_pos ⟨HIN.out.2.2.1, HIN.out.2.1⟩]
          have q1' : textL { st with wait := [] } st.wait = .ok (st1, t1) := q1
          rw [q1']
        have hw1 : st1.wait.length ≤ 2048 := by rw [hk.1]; exact Nat.zero_le _
        have hq1 : st1.quote < 256 := by rw [hk.2.2.1]; exact hiq
        have hop1 : st1.op = st.op := hk.2.1
        have HOP := hide (And.intro hop1 q3)
        have H1 := hide (And.intro (H8.out.1.then (Run.only hO9 q5 rfl rfl)) (And.intro (H8.out.2.1.below hO9.below h4) (And.intro q4 (And.intro hpp (And.intro hw1 (And.intro hb4 hq1))))))
        clear hpp hw1 hq1 hop1 hk q1 q3 q4 q5 hO9
        obtain ⟨gw, gwc, hgw⟩ := own_shape H1.out.1.isP.2.2.1
        obtain ⟨n, hn⟩ : ∃ n, st1.wait.length = n := ⟨_, rfl⟩
        have HN := hide hn
        obtain ⟨c0, _, _, _, _, _, cf⟩ := H1.out.1.isP.cells
        have cf0 := cf 0 (by omega)
        rw [hgw, hn] at c0
        have hpl1 : p < w1.heap.size := H1.out.1.isP.lt
        have hn2 : n ≤ 2048 := by rw [← hn]; exact H1.out.2.2.2.2.1
        have HGW := hide hgw
        clear cf hgw hn
        go_wp2_with (at_builtin; refine stopHere ?_)
        unfold Hid
        refine append_byte _ rfl _ _ rfl base _ st1.wait rfl (by have h : (w1.alloc (.cells #[.int .u8 c.toNat] 5)).ownsRow base 5 1 vw1 st1.wait.length (Lib.byteCells st1.wait) := own_same H1.out.1.isP.2.2.1 (fun g hg => Below.heap_alloc _ _ _ (own_lt H1.out.1.isP.2.2.1 g hg)); rw [HGW.out, HN.out] at h; rw [HN.out]; exact h) c _ rfl (World.alloc_heap_new w1 _) (by rw [HN.out]; omega) (by have h0 := H1.out.1.isP.1; simp; omega) ?_
        intro v2 w2 hown2 hgr2 hob2
        obtain ⟨g2, c2, rfl⟩ := own_shape hown2
        have hgwn : (Value.slice gw n gwc).ownBlock = (vw1).ownBlock := by rw [HGW.out, HN.out]
        have hpush := Run.push (st := st1) (c := c) H1.out.1.isP hown2 (by rw [← hgwn]; exact hgr2) (by rw [← hgwn]; exact hob2)
        have hp2 : w2.heap[p]? = w1.heap[p]? := (hgr2.block p (by simp; omega) (fun e => own_ne0 H1.out.1.isP.2.2.1 H1.out.1.isP.2.1 (by decide) p (hgwn.symm.trans e.symm) rfl)).trans (Below.heap_alloc _ _ _ hpl1)
        have j0 : w2.cell? ⟨p, 0, none⟩ = some (.slice gw n gwc) := by
          have h := hp2.trans H1.out.1.isP.2.1
          have h' : w2.cell? ⟨p, 0, none⟩ = some vw1 := by simp [World.cell?, h]
          rw [h', HGW.out, HN.out]
        have jf : w2.frozen? ⟨p, 0, none⟩ = false := by
          have h := hp2.trans H1.out.1.isP.2.1
          simp [World.frozen?, h]
        have hlen : (st1.wait ++ [c]).length = n + 1 := by rw [List.length_append, HN.out]; rfl
        rw [hlen] at hpush
        have hE2 : Env (w2.setCell ⟨p, 0, none⟩ (.slice g2 (n + 1) c2)) := by
          have hb : Below 4 w1 (w2.setCell ⟨p, 0, none⟩ (.slice g2 (n + 1) c2)) := (((Below.refl 4 w1).alloc (by omega) _).grown hgr2 (by simp; omega) (fun k hk => by have := own_base H1.out.1.isP.2.2.1 k (hgwn.symm.trans hk); have h0 := H1.out.2.2.2.2.2.1; omega)).setCell (p := ⟨p, 0, none⟩) h4 _
          exact H1.out.2.1.below hb (Nat.le_refl _)
        obtain ⟨W3, hW3⟩ : ∃ W3, w2.setCell ⟨p, 0, none⟩ (.slice g2 (n + 1) c2) = W3 := ⟨_, rfl⟩
        rw [hW3] at hpush hE2
        have HW3 := hide hW3
        have y0 := hpush.isP.cells.1
        obtain ⟨m, hm⟩ : ∃ m, mostL (st1.wait ++ [c]) = m := ⟨_, rfl⟩
        have hmo := most_any base p _ _ _ W3.drew hpush.drew.isP (show (st1.wait ++ [c]).length ≤ _ by omega)
        have hm' : mostL ({ st1 with wait := st1.wait ++ [c] } : PS).wait = m := hm
        rw [hm'] at hmo
        have hr3 := (H1.out.1.then hpush).drew
        have hEl := (H1.out.2.2.1.run H1.out.1.isP hpush.drew)
        have hit := inTag_any base p _ _ _ W3.drew hpush.drew.isP (show (st1.wait ++ [c]).length ≤ _ by omega)
        have het := endsTag_any base p _ _ _ c W3.drew hpush.drew.isP (show st1.quote < 256 from H1.out.2.2.2.2.2.2)
        have H3 := hide (And.intro hr3 (And.intro hEl (And.intro hE2 (And.intro hm (And.intro hit het)))))
        have HMO := hide hmo
        clear hmo hr3 hEl hE2 hm hm' hit het hpush hgr2 hob2 hown2 hgwn hp2 hW3
        go_wp2_with fail
        rw [HW3.out]
        by_cases hgt : m < (n : Int) + 1
        · go_region_law
            (refine step_most rfl 32 _ rfl (.pointer (some ⟨p, 0, none⟩)) rfl HMO.out ?_; rintro e w3 ⟨rfl, hw⟩; refine ⟨_, rfl, ?_⟩; subst hw)
          all_goals
            go_wp2_with fail
            refine (giveUp_any 5 W3.drew).mono ?_
            rintro e w5 ⟨rfl, hw⟩
            subst hw
            refine ⟨rfl, .inr ⟨5, { st1 with wait := st1.wait ++ [c] }, _, _, ?_, rfl, HOP.out.1, H3.out.1⟩⟩
            rw [H1.out.2.2.2.1]
            unfold put2
            rw [if_pos (by rw [H3.out.2.2.2.1]; omega)]
        · go_region_law
            (refine step_most rfl 32 _ rfl (.pointer (some ⟨p, 0, none⟩)) rfl HMO.out ?_; rintro e w3 ⟨rfl, hw⟩; refine ⟨_, rfl, ?_⟩; subst hw)
          all_goals
            go_wp2_with fail
            refine H3.out.2.2.2.2.1.mono ?_
            rintro e w3 ⟨rfl, hw⟩
            subst hw
            have hngt : ((st1.wait ++ [c]).length : Int) ≤ mostL (st1.wait ++ [c]) := by rw [H3.out.2.2.2.1]; omega
            have HGT := hide hngt
            clear hngt
            have hcs : inTagL (st1.wait ++ [c]) = false ∨ inTagL (st1.wait ++ [c]) = true := by cases inTagL (st1.wait ++ [c]) <;> simp
            rcases hcs with hi | hi
            · have HI := hide hi
              have hi' : inTagL ({ st1 with wait := st1.wait ++ [c] } : PS).wait = false := hi
              clear hi
              go_wp2_with fail
              go_ret
              refine .inl ⟨{ st1 with wait := st1.wait ++ [c] }, t1, v1, l1, _, _, ?_, rfl, HOP.out.2, H3.out.2.1, H3.out.1⟩
              rw [H1.out.2.2.2.1]
              unfold put2
              rw [if_neg (Int.not_lt.2 HGT.out), if_neg (by rw [HI.out]; decide)]
            · have HI := hide hi
              have hi' : inTagL ({ st1 with wait := st1.wait ++ [c] } : PS).wait = true := hi
              clear hi
              go_wp2_with fail
              refine H3.out.2.2.2.2.2.mono ?_
              rintro e w4 ⟨rfl, hP4, hO4⟩
              have hr4 := H3.out.1.then (Run.only hO4 hP4 rfl rfl)
              have hE4 := H3.out.2.1.run H3.out.1.isP (Run.only hO4 hP4 rfl rfl)
              have hev4 : Env w4 := Env.below (w := W3.drew) H3.out.2.2.1 hO4.below h4
              have hcs : (quoteL st1.quote c).2 = false ∨ (quoteL st1.quote c).2 = true := by cases (quoteL st1.quote c).2 <;> simp
              rcases hcs with hq | hq
              · have H4 := hide (And.intro hr4 (And.intro hE4 hq))
                have hq' : (quoteL ({ st1 with wait := st1.wait ++ [c] } : PS).quote c).2 = false := hq
                clear hr4 hE4 hev4 hq hP4 hO4
                go_wp2_with fail
                go_ret
                refine .inl ⟨{ st1 with wait := st1.wait ++ [c], quote := (quoteL st1.quote c).1 }, t1, v1, l1, _, _, ?_, rfl, HOP.out.2, H4.out.2.1, H4.out.1⟩
                rw [H1.out.2.2.2.1]
                unfold put2
                rw [if_neg (Int.not_lt.2 HGT.out), if_pos HI.out, if_neg (by rw [H4.out.2.2]; decide)]
              · have hc62 := quoteL_gt hq
                have hpi := piece_any base p _ _ _ w4 hP4 (show (st1.wait ++ [c]).length ≤ _ by omega)
                have H4 := hide (And.intro hr4 (And.intro hev4 (And.intro hq (And.intro hpi hc62))))
                have hq' : (quoteL ({ st1 with wait := st1.wait ++ [c] } : PS).quote c).2 = true := hq
                clear hr4 hE4 hev4 hq hP4 hO4 hpi hc62
                go_wp2_with fail
                refine H4.out.2.2.2.1.mono ?_
                rintro e w5 ⟨rfl, ⟨vw5, hvw5, hP5⟩, hO5⟩
                have hr5 := H4.out.1.then (Run.only hO5 hP5 hvw5 rfl)
                have hEv5 := H4.out.2.1.below hO5.below h4
                have hs5 := hr5.below.size
                have hta := takeTag_any base p bt _ vw5 vo ⟨(st1.wait ++ [c]).toArray⟩ w5 hP5 (by rw [size_lst, arr_list]; omega) hEv5 h4 (by omega) (show st1.op.length ≤ 1000 by have h : st1.op = st.op := HOP.out.1; have h' : st1.op.length = st.op.length := congrArg List.length h; omega) (by
                  rw [H4.out.2.2.2.2]
                  exact decl_ne st1.wait)
                have H5 := hide (And.intro hr5 hta)
                clear hr5 hta hEv5 hP5 hO5 hvw5
                go_wp2_with fail
                refine H5.out.2.mono ?_
                rintro e w6 ⟨⟨st6, t6, v6, l6, vo6, q1, rfl, q3, q4, q5, q6⟩ | ⟨err, b6, q1, rfl, q5⟩, hB6⟩
                · have hpf6 : pf = .ok (st6, t6) := by
                    rw [H1.out.2.2.2.1]
                    unfold put2
                    rw [if_neg (Int.not_lt.2 HGT.out), if_pos HI.out, if_pos H4.out.2.2.1]
                    exact q1
                  have H6 := hide (And.intro hpf6 (And.intro q3 (And.intro q4 (H5.out.1.then (Run.but hB6 q5 q6)))))
                  clear hpf6 q1 q3 q4 q5 q6 hB6
                  go_wp2_with fail
                  go_ret
                  exact .inl ⟨st6, t6, v6, l6, vw5, vo6, H6.out.1, rfl, H6.out.2.1, H6.out.2.2.1, H6.out.2.2.2⟩
                · have hpf6 : pf = .error err := by
                    rw [H1.out.2.2.2.1]
                    unfold put2
                    rw [if_neg (Int.not_lt.2 HGT.out), if_pos HI.out, if_pos H4.out.2.2.1]
                    exact q1
                  exact ⟨rfl, .inr ⟨err, { st1 with wait := [], quote := (quoteL st1.quote c).1, begun := b6 }, vw5, vo, hpf6, rfl, HOP.out.1, H5.out.1.then (Run.but hB6 q5 (.inl rfl))⟩⟩
      · have hpp : pf = .error err := by
          rw [← HPF.out]
          unfold putF
          rw [if_pos ⟨HIN.out.2.2.1, HIN.out.2.1⟩]
          have q1' : textL { st with wait := [] } st.wait = .error err := q1
          rw [q1']
        exact ⟨rfl, .inr ⟨err, { st with wait := [], begun := b1 }, vw1, vo, hpp, rfl, rfl, H8.out.1.then (Run.only hO9 q5 rfl rfl)⟩⟩
  · have hc' : ((c.toNat : Int) == 60) = false := by
      rw [beq_eq_false_iff_ne]
      intro h
      exact hc (u8_of (n := 60) (by omega) (by omega))
    have hpp : pf = put2 st [] c := by rw [← HPF.out]; unfold putF; rw [if_neg (fun h => hc h.1)]
    have H1 := hide (And.intro (Run.refl HP.out.1) (And.intro HP.out.2 (And.intro (show ElRow bt w (.slice none 0 0) [] from ⟨World.ownsRow_nil _ _ _ _, fun x hx => by simp at hx⟩) (And.intro hpp (And.intro hiw (And.intro hb4 hiq))))))
    clear hpp
    clear hin hc
    go_enter Tryd.func52, Tryd.ntmps52
    obtain ⟨gw, gwc, hgw⟩ := own_shape H1.out.1.isP.2.2.1
    obtain ⟨n, hn⟩ : ∃ n, st.wait.length = n := ⟨_, rfl⟩
    have HN := hide hn
    obtain ⟨c0, _, _, _, _, _, cf⟩ := H1.out.1.isP.cells
    have cf0 := cf 0 (by omega)
    rw [hgw, hn] at c0
    have hpl1 : p < w.heap.size := H1.out.1.isP.lt
    have hn2 : n ≤ 2048 := by rw [← hn]; exact H1.out.2.2.2.2.1
    have HGW := hide hgw
    clear cf hgw hn
    go_wp2_with (at_builtin; refine stopHere ?_)
    unfold Hid
    refine append_byte _ rfl _ _ rfl base _ st.wait rfl (by have h : (w.alloc (.cells #[.int .u8 c.toNat] 5)).ownsRow base 5 1 vw st.wait.length (Lib.byteCells st.wait) := own_same H1.out.1.isP.2.2.1 (fun g hg => Below.heap_alloc _ _ _ (own_lt H1.out.1.isP.2.2.1 g hg)); rw [HGW.out, HN.out] at h; rw [HN.out]; exact h) c _ rfl (World.alloc_heap_new w _) (by rw [HN.out]; omega) (by have h0 := H1.out.1.isP.1; simp; omega) ?_
    intro v2 w2 hown2 hgr2 hob2
    obtain ⟨g2, c2, rfl⟩ := own_shape hown2
    have hgwn : (Value.slice gw n gwc).ownBlock = (vw).ownBlock := by rw [HGW.out, HN.out]
    have hpush := Run.push (st := st) (c := c) H1.out.1.isP hown2 (by rw [← hgwn]; exact hgr2) (by rw [← hgwn]; exact hob2)
    have hp2 : w2.heap[p]? = w.heap[p]? := (hgr2.block p (by simp; omega) (fun e => own_ne0 H1.out.1.isP.2.2.1 H1.out.1.isP.2.1 (by decide) p (hgwn.symm.trans e.symm) rfl)).trans (Below.heap_alloc _ _ _ hpl1)
    have j0 : w2.cell? ⟨p, 0, none⟩ = some (.slice gw n gwc) := by
      have h := hp2.trans H1.out.1.isP.2.1
      have h' : w2.cell? ⟨p, 0, none⟩ = some vw := by simp [World.cell?, h]
      rw [h', HGW.out, HN.out]
    have jf : w2.frozen? ⟨p, 0, none⟩ = false := by
      have h := hp2.trans H1.out.1.isP.2.1
      simp [World.frozen?, h]
    have hlen : (st.wait ++ [c]).length = n + 1 := by rw [List.length_append, HN.out]; rfl
    rw [hlen] at hpush
    have hE2 : Env (w2.setCell ⟨p, 0, none⟩ (.slice g2 (n + 1) c2)) := by
      have hb : Below 4 w (w2.setCell ⟨p, 0, none⟩ (.slice g2 (n + 1) c2)) := (((Below.refl 4 w).alloc (by omega) _).grown hgr2 (by simp; omega) (fun k hk => by have := own_base H1.out.1.isP.2.2.1 k (hgwn.symm.trans hk); have h0 := H1.out.2.2.2.2.2.1; omega)).setCell (p := ⟨p, 0, none⟩) h4 _
      exact H1.out.2.1.below hb (Nat.le_refl _)
    obtain ⟨W3, hW3⟩ : ∃ W3, w2.setCell ⟨p, 0, none⟩ (.slice g2 (n + 1) c2) = W3 := ⟨_, rfl⟩
    rw [hW3] at hpush hE2
    have HW3 := hide hW3
    have y0 := hpush.isP.cells.1
    obtain ⟨m, hm⟩ : ∃ m, mostL (st.wait ++ [c]) = m := ⟨_, rfl⟩
    have hmo := most_any base p _ _ _ W3.drew hpush.drew.isP (show (st.wait ++ [c]).length ≤ _ by omega)
    have hm' : mostL ({ st with wait := st.wait ++ [c] } : PS).wait = m := hm
    rw [hm'] at hmo
    have hr3 := (H1.out.1.then hpush).drew
    have hEl := (H1.out.2.2.1.run H1.out.1.isP hpush.drew)
    have hit := inTag_any base p _ _ _ W3.drew hpush.drew.isP (show (st.wait ++ [c]).length ≤ _ by omega)
    have het := endsTag_any base p _ _ _ c W3.drew hpush.drew.isP (show st.quote < 256 from H1.out.2.2.2.2.2.2)
    have H3 := hide (And.intro hr3 (And.intro hEl (And.intro hE2 (And.intro hm (And.intro hit het)))))
    have HMO := hide hmo
    clear hmo hr3 hEl hE2 hm hm' hit het hpush hgr2 hob2 hown2 hgwn hp2 hW3
    go_wp2_with fail
    rw [HW3.out]
    by_cases hgt : m < (n : Int) + 1
    · go_region_law
        (refine step_most rfl 32 _ rfl (.pointer (some ⟨p, 0, none⟩)) rfl HMO.out ?_; rintro e w3 ⟨rfl, hw⟩; refine ⟨_, rfl, ?_⟩; subst hw)
      all_goals
        go_wp2_with fail
        refine (giveUp_any 5 W3.drew).mono ?_
        rintro e w5 ⟨rfl, hw⟩
        subst hw
        refine ⟨rfl, .inr ⟨5, { st with wait := st.wait ++ [c] }, _, _, ?_, rfl, rfl, H3.out.1⟩⟩
        rw [H1.out.2.2.2.1]
        unfold put2
        rw [if_pos (by rw [H3.out.2.2.2.1]; omega)]
    · go_region_law
        (refine step_most rfl 32 _ rfl (.pointer (some ⟨p, 0, none⟩)) rfl HMO.out ?_; rintro e w3 ⟨rfl, hw⟩; refine ⟨_, rfl, ?_⟩; subst hw)
      all_goals
        go_wp2_with fail
        refine H3.out.2.2.2.2.1.mono ?_
        rintro e w3 ⟨rfl, hw⟩
        subst hw
        have hngt : ((st.wait ++ [c]).length : Int) ≤ mostL (st.wait ++ [c]) := by rw [H3.out.2.2.2.1]; omega
        have HGT := hide hngt
        clear hngt
        have hcs : inTagL (st.wait ++ [c]) = false ∨ inTagL (st.wait ++ [c]) = true := by cases inTagL (st.wait ++ [c]) <;> simp
        rcases hcs with hi | hi
        · have HI := hide hi
          have hi' : inTagL ({ st with wait := st.wait ++ [c] } : PS).wait = false := hi
          clear hi
          go_wp2_with fail
          go_ret
          refine .inl ⟨{ st with wait := st.wait ++ [c] }, [], .slice none 0 0, [], _, _, ?_, rfl, rfl, H3.out.2.1, H3.out.1⟩
          rw [H1.out.2.2.2.1]
          unfold put2
          rw [if_neg (Int.not_lt.2 HGT.out), if_neg (by rw [HI.out]; decide)]
        · have HI := hide hi
          have hi' : inTagL ({ st with wait := st.wait ++ [c] } : PS).wait = true := hi
          clear hi
          go_wp2_with fail
          refine H3.out.2.2.2.2.2.mono ?_
          rintro e w4 ⟨rfl, hP4, hO4⟩
          have hr4 := H3.out.1.then (Run.only hO4 hP4 rfl rfl)
          have hE4 := H3.out.2.1.run H3.out.1.isP (Run.only hO4 hP4 rfl rfl)
          have hev4 : Env w4 := Env.below (w := W3.drew) H3.out.2.2.1 hO4.below h4
          have hcs : (quoteL st.quote c).2 = false ∨ (quoteL st.quote c).2 = true := by cases (quoteL st.quote c).2 <;> simp
          rcases hcs with hq | hq
          · have H4 := hide (And.intro hr4 (And.intro hE4 hq))
            have hq' : (quoteL ({ st with wait := st.wait ++ [c] } : PS).quote c).2 = false := hq
            clear hr4 hE4 hev4 hq hP4 hO4
            go_wp2_with fail
            go_ret
            refine .inl ⟨{ st with wait := st.wait ++ [c], quote := (quoteL st.quote c).1 }, [], .slice none 0 0, [], _, _, ?_, rfl, rfl, H4.out.2.1, H4.out.1⟩
            rw [H1.out.2.2.2.1]
            unfold put2
            rw [if_neg (Int.not_lt.2 HGT.out), if_pos HI.out, if_neg (by rw [H4.out.2.2]; decide)]
          · have hc62 := quoteL_gt hq
            have hpi := piece_any base p _ _ _ w4 hP4 (show (st.wait ++ [c]).length ≤ _ by omega)
            have H4 := hide (And.intro hr4 (And.intro hev4 (And.intro hq (And.intro hpi hc62))))
            have hq' : (quoteL ({ st with wait := st.wait ++ [c] } : PS).quote c).2 = true := hq
            clear hr4 hE4 hev4 hq hP4 hO4 hpi hc62
            go_wp2_with fail
            refine H4.out.2.2.2.1.mono ?_
            rintro e w5 ⟨rfl, ⟨vw5, hvw5, hP5⟩, hO5⟩
            have hr5 := H4.out.1.then (Run.only hO5 hP5 hvw5 rfl)
            have hEv5 := H4.out.2.1.below hO5.below h4
            have hs5 := hr5.below.size
            have hta := takeTag_any base p bt _ vw5 vo ⟨(st.wait ++ [c]).toArray⟩ w5 hP5 (by rw [size_lst, arr_list]; omega) hEv5 h4 (by omega) (show st.op.length ≤ 1000 by have h : st.op = st.op := rfl; have h' : st.op.length = st.op.length := congrArg List.length h; omega) (by
              rw [H4.out.2.2.2.2]
              exact decl_ne st.wait)
            have H5 := hide (And.intro hr5 hta)
            clear hr5 hta hEv5 hP5 hO5 hvw5
            go_wp2_with fail
            refine H5.out.2.mono ?_
            rintro e w6 ⟨⟨st6, t6, v6, l6, vo6, q1, rfl, q3, q4, q5, q6⟩ | ⟨err, b6, q1, rfl, q5⟩, hB6⟩
            · have hpf6 : pf = .ok (st6, t6) := by
                rw [H1.out.2.2.2.1]
                unfold put2
                rw [if_neg (Int.not_lt.2 HGT.out), if_pos HI.out, if_pos H4.out.2.2.1]
                exact q1
              have H6 := hide (And.intro hpf6 (And.intro q3 (And.intro q4 (H5.out.1.then (Run.but hB6 q5 q6)))))
              clear hpf6 q1 q3 q4 q5 q6 hB6
              go_wp2_with fail
              go_ret
              exact .inl ⟨st6, t6, v6, l6, vw5, vo6, H6.out.1, rfl, H6.out.2.1, H6.out.2.2.1, H6.out.2.2.2⟩
            · have hpf6 : pf = .error err := by
                rw [H1.out.2.2.2.1]
                unfold put2
                rw [if_neg (Int.not_lt.2 HGT.out), if_pos HI.out, if_pos H4.out.2.2.1]
                exact q1
              exact ⟨rfl, .inr ⟨err, { st with wait := [], quote := (quoteL st.quote c).1, begun := b6 }, vw5, vo, hpf6, rfl, rfl, H5.out.1.then (Run.but hB6 q5 (.inl rfl))⟩⟩
end Go.Proofs.YthmidlmknkbdaaaDoor.Xm
