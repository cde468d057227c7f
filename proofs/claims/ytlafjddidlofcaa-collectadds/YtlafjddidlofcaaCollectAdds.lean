/- CollectAdds. -/
import Derived.Test.YtlafjddidlofcaaC18
namespace Go.Proofs.Ytlafjddidlofcaa
open Go.RowKit Go.Shelf

/-- What Add answers. -/
def AddV (l : List Pr) (s t : ByteArray) (n : Int) (ns : List Pr) : Prop := (AddBad l s t ∧ n = 3 ∧ ns = []) ∨ (¬ AddBad l s t ∧ AddCyc l s t ∧ n = 9 ∧ ns = []) ∨ (¬ AddBad l s t ∧ ¬ AddCyc l s t ∧ (pOf l s = none ∧ 64 ≤ l.length) ∧ n = 4 ∧ ns = []) ∨ (¬ AddBad l s t ∧ ¬ AddCyc l s t ∧ ¬ (pOf l s = none ∧ 64 ≤ l.length) ∧ n = 0 ∧ ns = putM l s t)
theorem addV_one {l : List Pr} {s t : ByteArray} {n n' : Int} {ns ns' : List Pr} (h : AddV l s t n ns) (k : AddV l s t n' ns') : n = n' ∧ ns = ns' := by
  rcases h with ⟨h1, rfl, rfl⟩ | ⟨h1, h2, rfl, rfl⟩ | ⟨h1, h2, h3, rfl, rfl⟩ | ⟨h1, h2, h3, rfl, rfl⟩ <;> rcases k with ⟨k1, rfl, rfl⟩ | ⟨k1, k2, rfl, rfl⟩ | ⟨k1, k2, k3, rfl, rfl⟩ | ⟨k1, k2, k3, rfl, rfl⟩ <;> first | exact ⟨rfl, rfl⟩ | contradiction
theorem addV_len {l : List Pr} {s t : ByteArray} {n : Int} {ns : List Pr} (h : AddV l s t n ns) : ns.length ≤ 1000000 := by
  rcases h with ⟨_, _, rfl⟩ | ⟨_, _, _, rfl⟩ | ⟨_, _, _, _, rfl⟩ | ⟨h1, h2, h3, _, rfl⟩
  · simp
  · simp
  · simp
  · have := (right_put h1 h2 h3).1
    omega
theorem add_v (ao : Option Addr) (cap : Nat) (l : List Pr) (s t : ByteArray) (w : World) (hm : EdMem w.heap.size w ao l) (hcap : l.length ≤ cap) (hc63 : cap ≤ maxLen) :
    Calls Try.prog 9 #[.slice ao l.length cap, .string s, .string t] w fun e w' => ∃ v n ns, e = .returned (.tuple #[v, .int .i64 n]) ∧ w'.ownsRow w.heap.size 47 2 v ns.length (edC ns) ∧ AddV l s t n ns ∧ Below w.heap.size w w' := by
  refine (add_any ao cap l s t w hm hcap hc63).mono ?_
  rintro e w' ⟨v, n, ns, rfl, y1, hr, b⟩
  refine ⟨v, n, ns, rfl, y1, ?_, b⟩
  rcases addR_cases hr with h | h | ⟨h1, h2, h3, h4, h5, h6⟩ | h
  · exact .inl h
  · exact .inr (.inl h)
  · exact .inr (.inr (.inl ⟨h1, h2, ⟨h3, h4⟩, h5, h6⟩))
  · exact .inr (.inr (.inr h))
theorem rAdd_v (ao : Option Addr) (cap : Nat) (l : List Pr) (s t : ByteArray) (w : World) (hm : EdMem w.heap.size w ao l) :
    Calls Try.prog 10 #[.slice ao l.length cap, .string s, .string t] w fun e w' => ∃ v n ns, e = .returned (.tuple #[v, .int .i64 n]) ∧ w'.ownsRow w.heap.size 47 2 v ns.length (edC ns) ∧ AddV l s t n ns ∧ Below w.heap.size w w' := by
  by_cases h1 : AddBad l s t
  · refine (rAdd_bad ao cap l s t w hm h1).mono ?_
    rintro e w' ⟨rfl, b⟩
    exact ⟨_, _, [], rfl, World.ownsRow_nil _ _ _ _, .inl ⟨h1, rfl, rfl⟩, b⟩
  · by_cases h2 : AddCyc l s t
    · refine (rAdd_cyc ao cap l s t w hm h1 h2).mono ?_
      rintro e w' ⟨rfl, b⟩
      exact ⟨_, _, [], rfl, World.ownsRow_nil _ _ _ _, .inr (.inl ⟨h1, h2, rfl, rfl⟩), b⟩
    · by_cases h3 : pOf l s = none ∧ 64 ≤ l.length
      · refine (rAdd_full ao cap l s t w hm h1 h2 h3.1 h3.2).mono ?_
        rintro e w' ⟨rfl, b⟩
        exact ⟨_, _, [], rfl, World.ownsRow_nil _ _ _ _, .inr (.inr (.inl ⟨h1, h2, h3, rfl, rfl⟩)), b⟩
      · refine (rAdd_ok ao cap l s t w hm ⟨h1, h2, h3⟩).mono ?_
        rintro e w' ⟨v, rfl, y1, b⟩
        exact ⟨v, _, _, rfl, y1, .inr (.inr (.inr ⟨h1, h2, h3, rfl, rfl⟩)), b⟩
/-- What Remove answers. -/
def RemV (l : List Pr) (s : ByteArray) (n : Int) (ns : List Pr) : Prop := (¬ RightE l ∧ n = 3 ∧ ns = []) ∨ (RightE l ∧ pOf l s = none ∧ n = 10 ∧ ns = []) ∨ (RightE l ∧ ¬ pOf l s = none ∧ n = 0 ∧ ns = delM l s)
theorem remV_one {l : List Pr} {s : ByteArray} {n n' : Int} {ns ns' : List Pr} (h : RemV l s n ns) (k : RemV l s n' ns') : n = n' ∧ ns = ns' := by
  rcases h with ⟨h1, rfl, rfl⟩ | ⟨h1, h2, rfl, rfl⟩ | ⟨h1, h2, rfl, rfl⟩ <;> rcases k with ⟨k1, rfl, rfl⟩ | ⟨k1, k2, rfl, rfl⟩ | ⟨k1, k2, rfl, rfl⟩ <;> first | exact ⟨rfl, rfl⟩ | contradiction
theorem remV_len {l : List Pr} {s : ByteArray} {n : Int} {ns : List Pr} (h : RemV l s n ns) : ns.length ≤ 1000000 := by
  rcases h with ⟨_, _, rfl⟩ | ⟨_, _, _, rfl⟩ | ⟨h1, _, _, rfl⟩
  · simp
  · simp
  · have h2 := del_len l s
    have h3 := h1.1
    omega
theorem del_all {l : List Pr} {s : ByteArray} : (delM l s).length = l.length ↔ pOf l s = none := by
  unfold delM
  rw [List.length_filter_eq_length_iff]
  constructor
  · intro h
    exact pOf_nowhere (fun y hy => by simpa using h y hy)
  · intro h y hy
    simpa using getM_none (L := l) h y hy
theorem remove_v (ao : Option Addr) (cap : Nat) (l : List Pr) (s : ByteArray) (w : World) (hm : EdMem w.heap.size w ao l) (hcap : l.length ≤ cap) (hc63 : cap ≤ maxLen) :
    Calls Try.prog 11 #[.slice ao l.length cap, .string s] w fun e w' => ∃ v n ns, e = .returned (.tuple #[v, .int .i64 n]) ∧ w'.ownsRow w.heap.size 47 2 v ns.length (edC ns) ∧ RemV l s n ns ∧ Below w.heap.size w w' := by
  refine (remove_any ao cap l s w hm hcap hc63).mono ?_
  rintro e w' ⟨v, n, ns, rfl, y1, hr, b⟩
  refine ⟨v, n, ns, rfl, y1, ?_, b⟩
  rcases hr with h | h | ⟨h1, h2, k, x, _, hx, he, h3⟩
  · exact .inl h
  · exact .inr (.inl h)
  · refine .inr (.inr ⟨h1, fun hn => ?_, h2, by rw [h3]; exact remove_del h1.2.2.1 hx he⟩)
    rw [← he, pOf_yes h1.2.2.1 hx] at hn
    cases hn
theorem rRemove_v (ao : Option Addr) (cap : Nat) (l : List Pr) (s : ByteArray) (w : World) (hm : EdMem w.heap.size w ao l) :
    Calls Try.prog 12 #[.slice ao l.length cap, .string s] w fun e w' => ∃ v n ns, e = .returned (.tuple #[v, .int .i64 n]) ∧ w'.ownsRow w.heap.size 47 2 v ns.length (edC ns) ∧ RemV l s n ns ∧ Below w.heap.size w w' := by
  refine (rRemove_any ao cap l s w hm).mono ?_
  rintro e w' ⟨v, n, ns, rfl, y1, hr, b⟩
  refine ⟨v, n, ns, rfl, y1, ?_, b⟩
  rcases hr with h | ⟨h1, h2, h3⟩ | ⟨h1, h2, h3⟩
  · exact .inl h
  · exact .inr (.inl ⟨h1, del_all.1 h2, h3⟩)
  · exact .inr (.inr ⟨h1, fun h => h2 (del_all.2 h), h3⟩)
/-- Edges by the program and by the document, held against each other. -/
theorem edges_agree {w0 w1 V : World} {base1 base2 : Nat} {n1 : List Pr} {v1 v2 : Value} (y1 : w0.ownsRow base1 47 2 v1 n1.length (edC n1)) (y2 : w1.ownsRow base2 47 2 v2 n1.length (edC n1)) (h1 : Below w0.heap.size w0 V) (h2 : Below w1.heap.size w1 V) (hl : n1.length ≤ 1000000) :
    Calls Try.prog 14 #[v1, v2] V fun e w' => e = .returned (.bool true) ∧ Below V.heap.size V w' := by
  obtain ⟨a1, c1, rfl, hE1, _⟩ := ed_own y1 hl
  obtain ⟨a2, c2, rfl, hE2, _⟩ := ed_own y2 hl
  refine (esame_any a1 a2 c1 c2 n1 n1 V ((hE1.below h1).more h1.size) ((hE2.below h2).more h2.size)).mono ?_
  rintro e w' ⟨rfl, b⟩
  rw [decide_eq_true rfl]
  exact ⟨rfl, b⟩
set_option maxRecDepth 100000 in
set_option maxHeartbeats 8000000 in
theorem collectAdds_any (ao : Option Addr) (cap : Nat) (l : List Pr) (s t : ByteArray) (w : World) (hm : EdArg w.heap.size w ao l) (hcap : l.length ≤ cap) (hc63 : cap ≤ maxLen) :
    Calls Try.prog 3 #[.slice ao l.length cap, .string s, .string t] w fun e w' => e = .returned (.bool true) ∧ Below w.heap.size w w' := by
  have HF := hide (few_any ao cap l w hm hcap)
  have HLV := hide fun V => live_any V
  clear hm
  obtain ⟨m0, hm0⟩ : ∃ m0, l.length = m0 := ⟨_, rfl⟩
  rw [hm0] at HF ⊢
  clear hm0 hcap
  go_enter Try.func3, Try.ntmps3
  go_wp2_with (go_at_call 8; refine HF.out.mono ?_; rintro e w0 ⟨⟨ao', l', rfl, hE, hc⟩, hw0⟩; rw [hw0]; clear hw0; refine stopHere ?_)
  unfold Hid
  clear HF
  obtain ⟨m, hml⟩ : ∃ m, l'.length = m := ⟨_, rfl⟩
  have HE := hide hE
  have HA := hide fun (V : World) (hV : EdMem V.heap.size V ao' l') => add_v ao' cap l' s t V hV hc hc63
  have HA2 := hide fun (V : World) (hV : EdMem V.heap.size V ao' l') => rAdd_v ao' cap l' s t V hV
  have HR := hide fun (V : World) (hV : EdMem V.heap.size V ao' l') => remove_v ao' cap l' s V hV hc hc63
  have HR2 := hide fun (V : World) (hV : EdMem V.heap.size V ao' l') => rRemove_v ao' cap l' s V hV
  have HT := hide fun (V : World) (hV : EdMem V.heap.size V ao' l') => right_any ao' cap l' V hV
  have HT2 := hide fun (V : World) (hV : EdMem V.heap.size V ao' l') => rright_any ao' cap l' V hV
  rw [hml] at HA HA2 HR HR2 HT HT2 ⊢
  clear hE hc hml hc63
  go_wp2_with (first
    | (go_at_call 9; refine (HA.out w HE.out).mono ?_; rintro e w1 ⟨v1, n1, l1, rfl, y1, h1, b1⟩; have H1 := hide (And.intro y1 (And.intro h1 b1)); clear y1 h1 b1; refine stopHere ?_))
  unfold Hid
  go_wp2_with (first
    | (go_at_call 10; refine (HA2.out w1 ((HE.out.below H1.out.2.2).more H1.out.2.2.size)).mono ?_; rintro e w2 ⟨v2, n2, l2, rfl, y2, h2, b2⟩; obtain ⟨rfl, rfl⟩ := addV_one H1.out.2.1 h2; have H2 := hide (And.intro y2 (And.intro b2 (H1.out.2.2.trans (b2.mono H1.out.2.2.size)))); clear y2 h2 b2; refine stopHere ?_))
  unfold Hid
  go_wp2_with (first
    | (go_at_call 11; refine (HR.out w2 ((HE.out.below H2.out.2.2).more H2.out.2.2.size)).mono ?_; rintro e w3 ⟨v3, n3, l3, rfl, y3, h3, b3⟩; have H3 := hide (And.intro y3 (And.intro h3 (And.intro b3 (H2.out.2.2.trans (b3.mono H2.out.2.2.size))))); clear y3 h3 b3; refine stopHere ?_))
  unfold Hid
  go_wp2_with (first
    | (go_at_call 12; refine (HR2.out w3 ((HE.out.below H3.out.2.2.2).more H3.out.2.2.2.size)).mono ?_; rintro e w4 ⟨v4, n4, l4, rfl, y4, h4, b4⟩; obtain ⟨rfl, rfl⟩ := remV_one H3.out.2.1 h4; have H4 := hide (And.intro y4 (And.intro b4 (H3.out.2.2.2.trans (b4.mono H3.out.2.2.2.size)))); clear y4 h4 b4; refine stopHere ?_))
  unfold Hid
  have hb1 : (n1 == n1) = true := by simp
  have hb3 : (n3 == n3) = true := by simp
  go_wp2_with (first
    | (go_at_call 13; refine (HLV.out _).mono ?_; rintro e w5 ⟨rfl, b5⟩; have H5 := hide b5; clear b5; have HS := hide (edges_agree (V := w5) H1.out.1 H2.out.1 (H2.out.2.1.trans ((H3.out.2.2.1.trans ((H4.out.2.1.trans (H5.out.mono H4.out.2.1.size)).mono H3.out.2.2.1.size)).mono H2.out.2.1.size)) (H3.out.2.2.1.trans ((H4.out.2.1.trans (H5.out.mono H4.out.2.1.size)).mono H3.out.2.2.1.size)) (addV_len H1.out.2.1)))
    | (go_at_call 14; refine HS.out.mono ?_; rintro e w6 ⟨rfl, b6⟩; have H6 := hide b6; clear b6 HS; refine stopHere ?_))
  unfold Hid
  have HS := hide (edges_agree (V := w6) H3.out.1 H4.out.1 (H4.out.2.1.trans ((H5.out.trans (H6.out.mono H5.out.size)).mono H4.out.2.1.size)) (H5.out.trans (H6.out.mono H5.out.size)) (remV_len H3.out.2.1))
  have hB6 : Below w.heap.size w w6 := H4.out.2.2.trans ((H5.out.trans (H6.out.mono H5.out.size)).mono H4.out.2.2.size)
  have HB6 := hide hB6
  clear hB6
  by_cases hr : RightE l'
  · have HRR := hide hr
    clear hr
    go_wp2_with (first
      | (go_at_call 14; refine HS.out.mono ?_; rintro e w7 ⟨rfl, b7⟩; have H7 := hide (HB6.out.trans (b7.mono HB6.out.size)); clear b7)
      | (go_at_call 15; refine ((HT.out w7 ((HE.out.below H7.out).more H7.out.size)).mono (R' := fun e w' => e = .returned (.bool true) ∧ Below w7.heap.size w7 w') (by rintro e w' ⟨⟨_, rfl⟩ | ⟨h, _⟩, b⟩; exact ⟨rfl, b⟩; exact absurd HRR.out h)).mono ?_; rintro e w8 ⟨rfl, b8⟩; have H8 := hide (H7.out.trans (b8.mono H7.out.size)); clear b8)
      | (go_at_call 16; refine ((HT2.out w8 ((HE.out.below H8.out).more H8.out.size)).mono (R' := fun e w' => e = .returned (.bool true) ∧ Below w8.heap.size w8 w') (by rintro e w' ⟨⟨_, rfl⟩ | ⟨h, _⟩, b⟩; exact ⟨rfl, b⟩; exact absurd HRR.out h)).mono ?_; rintro e w9 ⟨rfl, b9⟩; have H9 := hide (H8.out.trans (b9.mono H8.out.size)); clear b9))
    go_ret
    exact ⟨rfl, H9.out⟩
  · have HRR := hide hr
    clear hr
    go_wp2_with (first
      | (go_at_call 14; refine HS.out.mono ?_; rintro e w7 ⟨rfl, b7⟩; have H7 := hide (HB6.out.trans (b7.mono HB6.out.size)); clear b7)
      | (go_at_call 15; refine ((HT.out w7 ((HE.out.below H7.out).more H7.out.size)).mono (R' := fun e w' => e = .returned (.bool false) ∧ Below w7.heap.size w7 w') (by rintro e w' ⟨⟨h, _⟩ | ⟨_, rfl⟩, b⟩; exact absurd h HRR.out; exact ⟨rfl, b⟩)).mono ?_; rintro e w8 ⟨rfl, b8⟩; have H8 := hide (H7.out.trans (b8.mono H7.out.size)); clear b8)
      | (go_at_call 16; refine ((HT2.out w8 ((HE.out.below H8.out).more H8.out.size)).mono (R' := fun e w' => e = .returned (.bool false) ∧ Below w8.heap.size w8 w') (by rintro e w' ⟨⟨h, _⟩ | ⟨_, rfl⟩, b⟩; exact absurd h HRR.out; exact ⟨rfl, b⟩)).mono ?_; rintro e w9 ⟨rfl, b9⟩; have H9 := hide (H8.out.trans (b9.mono H8.out.size)); clear b9))
    go_ret
    exact ⟨rfl, H9.out⟩
end Go.Proofs.Ytlafjddidlofcaa
