/- A parser: what takes a whole tag. -/
import Derived.Test.YthmidlmknkbdaaaDoorXPB
namespace Go.Proofs.YthmidlmknkbdaaaDoor.Xm
open Go.RowKit

/-- What a step of a parser ends in: tokens and a state, or an error. -/
def StepsTo (base p bt : Nat) (st : PS) (vw vo : Value) (w : World) (r : Except Int (PS × List Tok)) (e : Ending) (w' : World) : Prop :=
  (∃ st' toks v l vo', r = .ok (st', toks) ∧ e = .returned v ∧ l.map (·.1) = toks ∧ ElRow bt w' v l ∧ IsP base p st' vw vo' w' ∧ (vo'.ownBlock = vo.ownBlock ∨ ∀ g, vo'.ownBlock = some g → w.heap.size ≤ g)) ∨
  (∃ err b, r = .error err ∧ e = stopE err ∧ IsP base p { st with begun := b } vw vo w')

set_option maxRecDepth 100000 in
set_option maxHeartbeats 4000000 in
theorem takeTag_any (base p bt : Nat) (st : PS) (vw vo : Value) (s : ByteArray) (w : World) (hP : IsP base p st vw vo w) (hs : s.size ≤ 10000) (hE : Env w) (h4 : 4 ≤ p) (hbt : bt ≤ w.heap.size) (hol : st.op.length ≤ 1000)
    (hne : (mayL [60, 63, 120, 109, 108] s.data.toList).2 = true → (mayL [60, 63, 120, 109, 108] s.data.toList).1 ≠ []) :
    Calls Tryd.prog 74 #[.pointer (some ⟨p, 0, none⟩), .string s] w fun e w' => StepsTo base p bt st vw vo w (tagL st s.data.toList) e w' ∧ But p vo w w' := by
  obtain ⟨_, _, _, c3, _, _, cf⟩ := hP.cells
  have cf3 := cf 3 (by omega)
  clear cf
  have HP := hide hP.set_begun
  have hpl := hP.lt
  have HE := hide hE
  clear hP hE
  obtain ⟨W1, hW1⟩ : ∃ W1, w.setCell ⟨p, 3, none⟩ (.bool true) = W1 := ⟨_, rfl⟩
  have hO1 : Only p w W1 := by rw [← hW1]; exact (Only.refl _ _).set _
  rw [hW1] at HP
  have hE1 : Env W1 := HE.out.below hO1.below h4
  have hch := chars_any s W1 (by unfold maxLen; omega) hE1.1
  have hz1 := hO1.size
  have HU := hide (And.intro hch (And.intro hO1 hE1))
  have HNE := hide hne
  clear hch hO1 hE1 hne
  obtain ⟨tl, htl⟩ : ∃ tl, tagL st s.data.toList = tl := ⟨_, rfl⟩
  have HTL := hide htl
  rw [htl]
  clear htl
  have hsl : s.data.toList.length = s.size := Array.length_toList
  obtain ⟨bg, hbg⟩ : ∃ bg, st.begun = bg := ⟨_, rfl⟩
  rw [hbg] at c3
  have HBG := hide hbg
  clear hbg
  cases bg
  all_goals
    go_enter Tryd.func74, Tryd.ntmps74
    go_wp2_with fail
    refine HU.out.1.mono ?_
    rintro e w2 ⟨⟨hc, rfl⟩ | ⟨hc, rfl⟩, hb2⟩
    case inr =>
      have H2 := hide hb2
      clear hb2
      go_wp2_with fail
      refine (giveUp_any 6 w2).mono ?_
      rintro e w3 ⟨rfl, hw⟩
      subst hw
      have hcb : ¬ charsB s.data.toList = true := fun h => hc ((charsB_iff _).1 h)
      exact ⟨rfl, .inr ⟨6, true, by rw [← HTL.out]; simp [tagL, hcb], rfl, HP.out.below H2.out⟩, (HU.out.2.1.trans (Only.of_below H2.out (by omega))).but _⟩
    have hcb : charsB s.data.toList = true := (charsB_iff _).2 hc
    have hP2 := HP.out.below hb2
    have hE2 := HU.out.2.2.below hb2 (by omega)
    have hz2 := hb2.size
    have hO2 := HU.out.2.1.trans (Only.of_below hb2 (by omega))
    have H2 := hide (And.intro hcb (And.intro hP2 (And.intro hE2 hO2)))
    clear hcb hP2 hE2 hO2 hb2 hc
  · go_wp2_with fail
    refine (isDeclaration_any s w2 (by omega) HNE.out).mono ?_
    rintro e w3 ⟨rfl, hb3⟩
    have hP3 := H2.out.2.1.below hb3
    have hE3 := H2.out.2.2.1.below hb3 (by omega)
    have hO3 := H2.out.2.2.2.trans (Only.of_below hb3 (by omega))
    have hz3 := hb3.size
    cases hd : isDecl s.data.toList with
    | true =>
      have H3 := hide (And.intro hP3 (And.intro hO3 hd))
      clear hP3 hE3 hO3 hb3 hd
      go_wp2_with fail
      go_ret
      refine ⟨.inl ⟨{ st with begun := true }, [], _, [], vo, ?_, rfl, rfl, ⟨World.ownsRow_nil _ _ _ _, fun x hx => by simp at hx⟩, H3.out.1, .inl rfl⟩, H3.out.2.1.but _⟩
      rw [← HTL.out]
      unfold tagL
      rw [if_pos H2.out.1, if_pos (by rw [HBG.out, H3.out.2.2]; rfl)]
    | false =>
      have hdl : (!st.begun && isDecl s.data.toList) = false := by rw [hd, Bool.and_false]
      have hp1 := hasPrefix2_any s ⟨#[60, 33]⟩ w3 (by omega) (by show 2 ≤ _; omega)
      have hp2 := hasPrefix2_any s ⟨#[60, 63]⟩ w3 (by omega) (by show 2 ≤ _; omega)
      have hp3 := hasPrefix2_any s ⟨#[60, 47]⟩ w3 (by omega) (by show 2 ≤ _; omega)
      have H3 := hide (And.intro hdl (And.intro hP3 (And.intro hE3 (And.intro hO3 (And.intro hp1 (And.intro hp2 hp3))))))
      clear hp1 hp2 hp3 hdl
      clear hP3 hE3 hO3 hb3 hd

      go_wp2_with fail
      refine H3.out.2.2.2.2.1.mono ?_
      rintro e w4 ⟨rfl, hw⟩
      subst hw
      cases hp1 : [60, 33].isPrefixOf s.data.toList with
      | true =>
        have HP1 := hide hp1
        clear hp1
        go_wp2_with fail
        refine (giveUp_any 7 w4).mono ?_
        rintro e w5 ⟨rfl, hw⟩
        subst hw
        exact ⟨rfl, .inr ⟨7, true, by rw [← HTL.out]; unfold tagL; rw [if_pos H2.out.1, if_neg (by rw [H3.out.1]; decide), if_pos HP1.out], rfl, H3.out.2.1⟩, H3.out.2.2.2.1.but _⟩
      | false =>
        have HP1 := hide hp1
        clear hp1
        go_wp2_with fail
        refine H3.out.2.2.2.2.2.1.mono ?_
        rintro e w5 ⟨rfl, hw⟩
        subst hw
        cases hp2 : [60, 63].isPrefixOf s.data.toList with
        | true =>
          have HP2 := hide hp2
          clear hp2
          go_wp2_with fail
          refine (giveUp_any 7 w5).mono ?_
          rintro e w6 ⟨rfl, hw⟩
          subst hw
          exact ⟨rfl, .inr ⟨7, true, by rw [← HTL.out]; unfold tagL; rw [if_pos H2.out.1, if_neg (by rw [H3.out.1]; decide), if_neg (by rw [HP1.out]; decide), if_pos HP2.out], rfl, H3.out.2.1⟩, H3.out.2.2.2.1.but _⟩
        | false =>
          have HP2 := hide hp2
          clear hp2
          go_wp2_with fail
          refine H3.out.2.2.2.2.2.2.mono ?_
          rintro e w6 ⟨rfl, hw⟩
          subst hw
          cases hp3 : [60, 47].isPrefixOf s.data.toList with
          | true =>
            have htg : tagL st s.data.toList = (match endL s.data.toList with | none => .error 6 | some nm => endP { st with begun := true } ⟨nm.toArray⟩) := by
              unfold tagL
              rw [if_pos H2.out.1, if_neg (by rw [H3.out.1]; decide), if_neg (by rw [HP1.out]; decide), if_neg (by rw [HP2.out]; decide), if_pos hp3]
              rfl
            have HTG := hide (HTL.out.symm.trans htg)
            clear hp3 htg
            go_wp2_with fail
            refine (readEnding_any s w6 (by omega)).mono ?_
            rintro e w7 ⟨⟨hn, rfl⟩ | ⟨nm, hn, rfl⟩, hb7⟩
            · have ht := HTG.out
              rw [hn] at ht
              exact ⟨rfl, .inr ⟨6, true, ht, rfl, H3.out.2.1.below hb7⟩, (H3.out.2.2.2.1.trans (Only.of_below hb7 (by omega))).but _⟩
            · have ht := HTG.out
              rw [hn] at ht
              have hnl := endL_len hn
              have hz7 := hb7.size
              have hen := pend_any base p bt _ vw vo ⟨nm.toArray⟩ w7 (H3.out.2.1.below hb7) (by rw [size_lst, arr_list]; omega) (by omega) (by show st.op.length ≤ _; omega)
              have hP7 := H3.out.2.1.below hb7
              have H7 := hide (And.intro ht (And.intro (H3.out.2.2.2.1.trans (Only.of_below hb7 (by omega))) (And.intro hen hP7)))
              clear ht hen hb7 hn hnl hP7
              go_wp2_with fail
              refine H7.out.2.2.1.mono ?_
              rintro e w8 ⟨⟨st', toks, v, l, vo', q1, rfl, q3, q4, q5, q6⟩ | ⟨q1, rfl, hw⟩, hO8⟩
              · have H8 := hide (And.intro q1 (And.intro q3 (And.intro q4 (And.intro q5 (And.intro q6 hO8)))))
                clear q1 q3 q4 q5 q6 hO8
                go_wp2_with fail
                go_ret
                exact ⟨.inl ⟨st', toks, v, l, vo', H7.out.1.trans H8.out.1, rfl, H8.out.2.1, H8.out.2.2.1, H8.out.2.2.2.1, .inl H8.out.2.2.2.2.1⟩, (H7.out.2.1.trans H8.out.2.2.2.2.2).but _⟩
              · subst hw
                exact ⟨rfl, .inr ⟨6, true, H7.out.1.trans q1, rfl, H7.out.2.2.2⟩, H7.out.2.1.but _⟩
          | false =>
            have htg : tagL st s.data.toList = (match beginL s.data.toList with | none => .error 6 | some x => beginP { st with begun := true } ⟨x.1.toArray⟩ (toB x.2.1) x.2.2) := by
              unfold tagL
              rw [if_pos H2.out.1, if_neg (by rw [H3.out.1]; decide), if_neg (by rw [HP1.out]; decide), if_neg (by rw [HP2.out]; decide), if_neg (by rw [hp3]; decide)]
              rfl
            have HTG := hide (HTL.out.symm.trans htg)
            clear hp3 htg
            go_wp2_with fail
            refine (readBeginning_any s w6 (by omega) H3.out.2.2.1 (by omega)).mono ?_
            rintro e w7 ⟨⟨hn, rfl⟩ | ⟨nm, al, ends, v, hn, rfl, hal, hrow⟩, hb7⟩
            · have ht := HTG.out
              rw [hn] at ht
              exact ⟨rfl, .inr ⟨6, true, ht, rfl, H3.out.2.1.below hb7⟩, (H3.out.2.2.2.1.trans (Only.of_below hb7 (by omega))).but _⟩
            · have ht := HTG.out
              rw [hn] at ht
              have hnl := beginL_len hn
              have hz7 := hb7.size
              obtain ⟨ga, gc, rfl⟩ := own_shape hrow
              have hbl : (toB al).length = al.length := by simp [toB]
              have hbe := pbegin_any base p bt _ vw vo ⟨nm.toArray⟩ ga gc (toB al) ends w7 (H3.out.2.1.below hb7) (by rw [size_lst, arr_list]; omega) (by omega) (by show st.op.length ≤ _; omega) (own_less hrow (by omega)) (by omega) (fun a ha => by
                obtain ⟨x, hx, rfl⟩ := List.mem_map.1 ha
                have h1 := hnl.2 x hx
                constructor
                · show ByteArray.size ⟨x.1.toArray⟩ ≤ _
                  rw [size_lst, arr_list]
                  omega
                · show ByteArray.size ⟨x.2.toArray⟩ ≤ _
                  rw [size_lst, arr_list]
                  omega)
              obtain ⟨nb, hnb⟩ : ∃ nb, (toB al).length = nb := ⟨_, rfl⟩
              rw [hnb] at hbe
              have H7 := hide (And.intro ht (And.intro (H3.out.2.2.2.1.trans (Only.of_below hb7 (by omega))) (And.intro hbe hz7)))
              rw [hnb]
              clear ht hbe hb7 hn hnl hrow hnb hbl hal
              go_wp2_with fail
              refine H7.out.2.2.1.mono ?_
              rintro e w8 ⟨⟨st', toks, v, l, vo', q1, rfl, q3, q4, q5, q6⟩ | ⟨err, q1, rfl, q5⟩, hO8⟩
              · have hob : vo'.ownBlock = vo.ownBlock ∨ ∀ g, vo'.ownBlock = some g → w.heap.size ≤ g := by
                  rcases q6 with h | h
                  · exact .inl h
                  · exact .inr (fun g hg => by have := h g hg; omega)
                have H8 := hide (And.intro q1 (And.intro q3 (And.intro q4 (And.intro q5 (And.intro hob hO8)))))
                clear q1 q3 q4 q5 q6 hO8 hob
                go_wp2_with fail
                go_ret
                exact ⟨.inl ⟨st', toks, v, l, vo', H7.out.1.trans H8.out.1, rfl, H8.out.2.1, H8.out.2.2.1, H8.out.2.2.2.1, H8.out.2.2.2.2.1⟩, But.after H7.out.2.1 ⟨H8.out.2.2.2.2.2.1, H8.out.2.2.2.2.2.2⟩⟩
              · exact ⟨rfl, .inr ⟨err, true, H7.out.1.trans q1, rfl, q5⟩, But.after H7.out.2.1 ⟨hO8.1, hO8.2⟩⟩
  · have hdl : (!st.begun && isDecl s.data.toList) = false := by rw [HBG.out]; rfl
    have hp1 := hasPrefix2_any s ⟨#[60, 33]⟩ w2 (by omega) (by show 2 ≤ _; omega)
    have hp2 := hasPrefix2_any s ⟨#[60, 63]⟩ w2 (by omega) (by show 2 ≤ _; omega)
    have hp3 := hasPrefix2_any s ⟨#[60, 47]⟩ w2 (by omega) (by show 2 ≤ _; omega)
    have H3 := hide (And.intro hdl (And.intro H2.out.2.1 (And.intro H2.out.2.2.1 (And.intro H2.out.2.2.2 (And.intro hp1 (And.intro hp2 hp3))))))
    clear hp1 hp2 hp3 hdl

    go_wp2_with fail
    refine H3.out.2.2.2.2.1.mono ?_
    rintro e w4 ⟨rfl, hw⟩
    subst hw
    cases hp1 : [60, 33].isPrefixOf s.data.toList with
    | true =>
      have HP1 := hide hp1
      clear hp1
      go_wp2_with fail
      refine (giveUp_any 7 w4).mono ?_
      rintro e w5 ⟨rfl, hw⟩
      subst hw
      exact ⟨rfl, .inr ⟨7, true, by rw [← HTL.out]; unfold tagL; rw [if_pos H2.out.1, if_neg (by rw [H3.out.1]; decide), if_pos HP1.out], rfl, H3.out.2.1⟩, H3.out.2.2.2.1.but _⟩
    | false =>
      have HP1 := hide hp1
      clear hp1
      go_wp2_with fail
      refine H3.out.2.2.2.2.2.1.mono ?_
      rintro e w5 ⟨rfl, hw⟩
      subst hw
      cases hp2 : [60, 63].isPrefixOf s.data.toList with
      | true =>
        have HP2 := hide hp2
        clear hp2
        go_wp2_with fail
        refine (giveUp_any 7 w5).mono ?_
        rintro e w6 ⟨rfl, hw⟩
        subst hw
        exact ⟨rfl, .inr ⟨7, true, by rw [← HTL.out]; unfold tagL; rw [if_pos H2.out.1, if_neg (by rw [H3.out.1]; decide), if_neg (by rw [HP1.out]; decide), if_pos HP2.out], rfl, H3.out.2.1⟩, H3.out.2.2.2.1.but _⟩
      | false =>
        have HP2 := hide hp2
        clear hp2
        go_wp2_with fail
        refine H3.out.2.2.2.2.2.2.mono ?_
        rintro e w6 ⟨rfl, hw⟩
        subst hw
        cases hp3 : [60, 47].isPrefixOf s.data.toList with
        | true =>
          have htg : tagL st s.data.toList = (match endL s.data.toList with | none => .error 6 | some nm => endP { st with begun := true } ⟨nm.toArray⟩) := by
            unfold tagL
            rw [if_pos H2.out.1, if_neg (by rw [H3.out.1]; decide), if_neg (by rw [HP1.out]; decide), if_neg (by rw [HP2.out]; decide), if_pos hp3]
            rfl
          have HTG := hide (HTL.out.symm.trans htg)
          clear hp3 htg
          go_wp2_with fail
          refine (readEnding_any s w6 (by omega)).mono ?_
          rintro e w7 ⟨⟨hn, rfl⟩ | ⟨nm, hn, rfl⟩, hb7⟩
          · have ht := HTG.out
            rw [hn] at ht
            exact ⟨rfl, .inr ⟨6, true, ht, rfl, H3.out.2.1.below hb7⟩, (H3.out.2.2.2.1.trans (Only.of_below hb7 (by omega))).but _⟩
          · have ht := HTG.out
            rw [hn] at ht
            have hnl := endL_len hn
            have hz7 := hb7.size
            have hen := pend_any base p bt _ vw vo ⟨nm.toArray⟩ w7 (H3.out.2.1.below hb7) (by rw [size_lst, arr_list]; omega) (by omega) (by show st.op.length ≤ _; omega)
            have hP7 := H3.out.2.1.below hb7
            have H7 := hide (And.intro ht (And.intro (H3.out.2.2.2.1.trans (Only.of_below hb7 (by omega))) (And.intro hen hP7)))
            clear ht hen hb7 hn hnl hP7
            go_wp2_with fail
            refine H7.out.2.2.1.mono ?_
            rintro e w8 ⟨⟨st', toks, v, l, vo', q1, rfl, q3, q4, q5, q6⟩ | ⟨q1, rfl, hw⟩, hO8⟩
            · have H8 := hide (And.intro q1 (And.intro q3 (And.intro q4 (And.intro q5 (And.intro q6 hO8)))))
              clear q1 q3 q4 q5 q6 hO8
              go_wp2_with fail
              go_ret
              exact ⟨.inl ⟨st', toks, v, l, vo', H7.out.1.trans H8.out.1, rfl, H8.out.2.1, H8.out.2.2.1, H8.out.2.2.2.1, .inl H8.out.2.2.2.2.1⟩, (H7.out.2.1.trans H8.out.2.2.2.2.2).but _⟩
            · subst hw
              exact ⟨rfl, .inr ⟨6, true, H7.out.1.trans q1, rfl, H7.out.2.2.2⟩, H7.out.2.1.but _⟩
        | false =>
          have htg : tagL st s.data.toList = (match beginL s.data.toList with | none => .error 6 | some x => beginP { st with begun := true } ⟨x.1.toArray⟩ (toB x.2.1) x.2.2) := by
            unfold tagL
            rw [if_pos H2.out.1, if_neg (by rw [H3.out.1]; decide), if_neg (by rw [HP1.out]; decide), if_neg (by rw [HP2.out]; decide), if_neg (by rw [hp3]; decide)]
            rfl
          have HTG := hide (HTL.out.symm.trans htg)
          clear hp3 htg
          go_wp2_with fail
          refine (readBeginning_any s w6 (by omega) H3.out.2.2.1 (by omega)).mono ?_
          rintro e w7 ⟨⟨hn, rfl⟩ | ⟨nm, al, ends, v, hn, rfl, hal, hrow⟩, hb7⟩
          · have ht := HTG.out
            rw [hn] at ht
            exact ⟨rfl, .inr ⟨6, true, ht, rfl, H3.out.2.1.below hb7⟩, (H3.out.2.2.2.1.trans (Only.of_below hb7 (by omega))).but _⟩
          · have ht := HTG.out
            rw [hn] at ht
            have hnl := beginL_len hn
            have hz7 := hb7.size
            obtain ⟨ga, gc, rfl⟩ := own_shape hrow
            have hbl : (toB al).length = al.length := by simp [toB]
            have hbe := pbegin_any base p bt _ vw vo ⟨nm.toArray⟩ ga gc (toB al) ends w7 (H3.out.2.1.below hb7) (by rw [size_lst, arr_list]; omega) (by omega) (by show st.op.length ≤ _; omega) (own_less hrow (by omega)) (by omega) (fun a ha => by
              obtain ⟨x, hx, rfl⟩ := List.mem_map.1 ha
              have h1 := hnl.2 x hx
              constructor
              · show ByteArray.size ⟨x.1.toArray⟩ ≤ _
                rw [size_lst, arr_list]
                omega
              · show ByteArray.size ⟨x.2.toArray⟩ ≤ _
                rw [size_lst, arr_list]
                omega)
            obtain ⟨nb, hnb⟩ : ∃ nb, (toB al).length = nb := ⟨_, rfl⟩
            rw [hnb] at hbe
            have H7 := hide (And.intro ht (And.intro (H3.out.2.2.2.1.trans (Only.of_below hb7 (by omega))) (And.intro hbe hz7)))
            rw [hnb]
            clear ht hbe hb7 hn hnl hrow hnb hbl hal
            go_wp2_with fail
            refine H7.out.2.2.1.mono ?_
            rintro e w8 ⟨⟨st', toks, v, l, vo', q1, rfl, q3, q4, q5, q6⟩ | ⟨err, q1, rfl, q5⟩, hO8⟩
            · have hob : vo'.ownBlock = vo.ownBlock ∨ ∀ g, vo'.ownBlock = some g → w.heap.size ≤ g := by
                rcases q6 with h | h
                · exact .inl h
                · exact .inr (fun g hg => by have := h g hg; omega)
              have H8 := hide (And.intro q1 (And.intro q3 (And.intro q4 (And.intro q5 (And.intro hob hO8)))))
              clear q1 q3 q4 q5 q6 hO8 hob
              go_wp2_with fail
              go_ret
              exact ⟨.inl ⟨st', toks, v, l, vo', H7.out.1.trans H8.out.1, rfl, H8.out.2.1, H8.out.2.2.1, H8.out.2.2.2.1, H8.out.2.2.2.2.1⟩, But.after H7.out.2.1 ⟨H8.out.2.2.2.2.2.1, H8.out.2.2.2.2.2.2⟩⟩
            · exact ⟨rfl, .inr ⟨err, true, H7.out.1.trans q1, rfl, q5⟩, But.after H7.out.2.1 ⟨hO8.1, hO8.2⟩⟩
end Go.Proofs.YthmidlmknkbdaaaDoor.Xm
