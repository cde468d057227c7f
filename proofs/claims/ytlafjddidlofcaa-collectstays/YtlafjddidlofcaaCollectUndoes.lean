/- CollectUndoes. -/
import Derived.Test.YtlafjddidlofcaaCS
namespace Go.Proofs.Ytlafjddidlofcaa
open Go.RowKit Go.Shelf

theorem parent_is {ao : Option Addr} {cap : Nat} {l : List Pr} {s : ByteArray} {w : World} (hm : EdMem w.heap.size w ao l) (h : RightE l ∧ ∃ p, pOf l s = some p) : Calls Try.prog 17 #[.slice ao l.length cap, .string s] w fun e w' => (∃ p, pOf l s = some p ∧ e = .returned (.tuple #[.string p, .bool true])) ∧ Below w.heap.size w w' := by
  refine (parent_any ao cap l s w hm).mono ?_
  rintro e w' ⟨⟨p, _, hp, rfl⟩ | ⟨hn, _⟩, b⟩
  · exact ⟨⟨p, hp, rfl⟩, b⟩
  · exact absurd h hn
theorem parent_not {ao : Option Addr} {cap : Nat} {l : List Pr} {s : ByteArray} {w : World} (hm : EdMem w.heap.size w ao l) (h : ¬ (RightE l ∧ ∃ p, pOf l s = some p)) : Calls Try.prog 17 #[.slice ao l.length cap, .string s] w fun e w' => e = .returned (.tuple #[.string ⟨#[]⟩, .bool false]) ∧ Below w.heap.size w w' := by
  refine (parent_any ao cap l s w hm).mono ?_
  rintro e w' ⟨⟨p, hr, hp, _⟩ | ⟨_, rfl⟩, b⟩
  · exact absurd ⟨hr, p, hp⟩ h
  · exact ⟨rfl, b⟩
/-- What Add makes, where it is done. -/
def AddOk (l : List Pr) (s t : ByteArray) : Prop := ¬ AddBad l s t ∧ ¬ AddCyc l s t ∧ ¬ (pOf l s = none ∧ 64 ≤ l.length)
theorem add_ok {ao : Option Addr} {cap : Nat} {l : List Pr} {s t : ByteArray} {w : World} (hm : EdMem w.heap.size w ao l) (hcap : l.length ≤ cap) (hc63 : cap ≤ maxLen) (h : AddOk l s t) :
    Calls Try.prog 9 #[.slice ao l.length cap, .string s, .string t] w fun e w' => ∃ v, e = .returned (.tuple #[v, .int .i64 0]) ∧ w'.ownsRow w.heap.size 47 2 v (putM l s t).length (edC (putM l s t)) ∧ Below w.heap.size w w' := by
  refine (add_any ao cap l s t w hm hcap hc63).mono ?_
  rintro e w' ⟨v, n, ns, rfl, y1, hr, b⟩
  rcases addR_cases hr with ⟨h1, _⟩ | ⟨_, h1, _⟩ | ⟨_, _, h1, h2, _⟩ | ⟨_, _, _, rfl, rfl⟩
  · exact absurd h1 h.1
  · exact absurd h1 h.2.1
  · exact absurd ⟨h1, h2⟩ h.2.2
  · exact ⟨v, rfl, y1, b⟩
theorem add_no {ao : Option Addr} {cap : Nat} {l : List Pr} {s t : ByteArray} {w : World} (hm : EdMem w.heap.size w ao l) (hcap : l.length ≤ cap) (hc63 : cap ≤ maxLen) (h : ¬ AddOk l s t) :
    Calls Try.prog 9 #[.slice ao l.length cap, .string s, .string t] w fun e w' => ∃ ga gc n, e = .returned (.tuple #[.slice ga 0 gc, .int .i64 n]) ∧ n ≠ 0 ∧ Below w.heap.size w w' := by
  refine (add_any ao cap l s t w hm hcap hc63).mono ?_
  rintro e w' ⟨v, n, ns, rfl, y1, hr, b⟩
  obtain ⟨ga, gc, rfl⟩ := own_shape y1
  rcases addR_cases hr with ⟨_, h2, rfl⟩ | ⟨_, _, h2, rfl⟩ | ⟨_, _, _, _, h2, rfl⟩ | ⟨h1, h2, h3, _⟩
  · exact ⟨ga, gc, n, rfl, by omega, b⟩
  · exact ⟨ga, gc, n, rfl, by omega, b⟩
  · exact ⟨ga, gc, n, rfl, by omega, b⟩
  · exact absurd ⟨h1, h2, h3⟩ h
theorem right_of_ok {l : List Pr} {s t : ByteArray} (h : AddOk l s t) : RightE l := Classical.byContradiction fun hn => h.1 (.inl hn)
theorem remove_ok {ao : Option Addr} {cap : Nat} {l : List Pr} {s p : ByteArray} {w : World} (hm : EdMem w.heap.size w ao l) (hcap : l.length ≤ cap) (hc63 : cap ≤ maxLen) (hr : RightE l) (hp : pOf l s = some p) :
    Calls Try.prog 11 #[.slice ao l.length cap, .string s] w fun e w' => ∃ v, e = .returned (.tuple #[v, .int .i64 0]) ∧ w'.ownsRow w.heap.size 47 2 v (delM l s).length (edC (delM l s)) ∧ Below w.heap.size w w' := by
  refine (remove_any ao cap l s w hm hcap hc63).mono ?_
  rintro e w' ⟨v, n, ns, rfl, y1, h, b⟩
  rcases h with ⟨h, _⟩ | ⟨_, h, _⟩ | ⟨_, rfl, k, x, _, hx, he, rfl⟩
  · exact absurd hr h
  · rw [hp] at h
    cases h
  · rw [remove_del hr.2.2.1 hx he] at y1
    exact ⟨v, rfl, y1, b⟩
set_option maxRecDepth 100000 in
set_option maxHeartbeats 8000000 in
theorem collectUndoes_any (ao : Option Addr) (cap : Nat) (l : List Pr) (s t : ByteArray) (w : World) (hm : EdArg w.heap.size w ao l) (hcap : l.length ≤ cap) (hc63 : cap ≤ maxLen) :
    Calls Try.prog 6 #[.slice ao l.length cap, .string s, .string t] w fun e w' => e = .returned (.bool true) ∧ Below w.heap.size w w' := by
  have HF := hide (few_any ao cap l w hm hcap)
  have HLV := hide fun V => live_any V
  clear hm
  obtain ⟨m0, hm0⟩ : ∃ m0, l.length = m0 := ⟨_, rfl⟩
  rw [hm0] at HF ⊢
  clear hm0 hcap
  go_enter Try.func6, Try.ntmps6
  go_wp2_with (go_at_call 8; refine HF.out.mono ?_; rintro e w0 ⟨⟨ao', l', rfl, hE, hc⟩, hw0⟩; rw [hw0]; clear hw0; refine stopHere ?_)
  unfold Hid
  clear HF
  have hl6 := hE.1
  by_cases hp : RightE l' ∧ ∃ p, pOf l' s = some p
  · have HP := hide (parent_is (cap := cap) hE hp)
    obtain ⟨m, hml⟩ : ∃ m, l'.length = m := ⟨_, rfl⟩
    rw [hml] at HP ⊢
    clear hE hc hl6 hml hp
    go_wp2_with (first
      | (go_at_call 17; refine HP.out.mono ?_; rintro e w1 ⟨⟨p, _, rfl⟩, b1⟩)
      | (go_at_call 13; refine (HLV.out _).mono ?_; rintro e w5 ⟨rfl, b5⟩))
    go_ret
    exact ⟨rfl, b1.trans (b5.mono b1.size)⟩
  · have HP := hide (parent_not (cap := cap) hE hp)
    obtain ⟨m, hml⟩ : ∃ m, l'.length = m := ⟨_, rfl⟩
    have HE := hide (And.intro hE (And.intro hc (And.intro hp hml)))
    by_cases hok : AddOk l' s t
    · have hpn : pOf l' s = none := by
        cases h : pOf l' s with
        | none => rfl
        | some p => exact absurd ⟨right_of_ok hok, p, h⟩ hp
      have hrp := right_put hok.1 hok.2.1 hok.2.2
      have hlp := hrp.1
      have hri := (right_of_ok hok).2.2.1
      have hdl := del_put (t := t) hri hpn
      have hpp : pOf (putM l' s t) s = some t := by rw [pOf_put hri, if_pos rfl]
      have hln : (putM l' s t).length = l'.length + 1 := by rw [putM_len hri]; exact if_pos hpn
      have HA := hide fun (V : World) (hV : EdMem V.heap.size V ao' l') => add_ok (cap := cap) hV hc hc63 hok
      rw [hml] at HP HA ⊢
      have HK := hide (And.intro hrp (And.intro hlp (And.intro hdl (And.intro hpp hln))))
      clear hE hc hp hok hpn hrp hlp hri hdl hpp hln
      go_wp2_with (first
        | (go_at_call 17; refine HP.out.mono ?_; rintro e w1 ⟨rfl, b1⟩)
        | (go_at_call 9; refine (HA.out w1 ((HE.out.1.below b1).more b1.size)).mono ?_; rintro e w2 ⟨v, rfl, y2, b2⟩; refine stopHere ?_))
      unfold Hid
      obtain ⟨ao2, cap2, rfl, hE2, hc2, hd2⟩ := ed_own y2 (by have := HK.out.2.1; omega)
      have HR := hide (remove_ok hE2 hc2 hd2 HK.out.1 HK.out.2.2.2.1)
      rw [HK.out.2.2.1] at HR
      have hln := HK.out.2.2.2.2
      rw [hml] at hln
      rw [hln] at HR ⊢
      have B2 : Below w.heap.size w w2 := b1.trans (b2.mono b1.size)
      have H2 := hide B2
      rw [hml] at HR
      have hml1 : IntKind.i64.wrap ((m : Int) + 1) = m + 1 := by rw [IntKind.wrap_i64]; omega
      have HML := hide hml
      clear y2 b1 b2 B2 hE2 hc2 hd2 HP HA hln hml
      go_wp2_with (first
        | (go_at_call 11; refine HR.out.mono ?_; rintro e w3 ⟨v3, rfl, y3, b3⟩; rw [← HML.out] at y3; obtain ⟨ao3, cap3, rfl, hE3, hc3, hd3⟩ := ed_own y3 hl6; rw [HML.out]; have B3 : Below w.heap.size w w3 := H2.out.trans (b3.mono H2.out.size); have H3 := hide (And.intro B3 hE3); clear y3 b3 B3 hE3 hc3 hd3)
        | (go_at_call 13; refine (HLV.out _).mono ?_; rintro e w4 ⟨rfl, b4⟩; have B4 : Below w.heap.size w w4 := H3.out.1.trans (b4.mono H3.out.1.size); have HS := hide (esame_any ao3 ao' cap3 cap l' l' w4 ((H3.out.2.below b4).more b4.size) ((HE.out.1.below B4).more B4.size)); rw [HML.out, decide_eq_true rfl] at HS; have H4 := hide B4; clear b4 B4)
        | (go_at_call 14; refine HS.out.mono ?_; rintro e w5 ⟨rfl, b5⟩))
      go_ret
      exact ⟨rfl, H4.out.trans (b5.mono H4.out.size)⟩
    · have HA := hide fun (V : World) (hV : EdMem V.heap.size V ao' l') => add_no (cap := cap) hV hc hc63 hok
      rw [hml] at HP HA ⊢
      clear hE hc hl6 hml hp hok
      go_wp2_with (first
        | (go_at_call 17; refine HP.out.mono ?_; rintro e w1 ⟨rfl, b1⟩)
        | (go_at_call 9; refine (HA.out w1 ((HE.out.1.below b1).more b1.size)).mono ?_; rintro e w2 ⟨ga, gc, n, rfl, hn, b2⟩; have hnb : (n == 0) = false := beq_eq_false_iff_ne.2 hn; clear hn)
        | (go_at_call 13; refine (HLV.out _).mono ?_; rintro e w5 ⟨rfl, b5⟩))
      go_ret
      exact ⟨rfl, b1.trans ((b2.trans (b5.mono b2.size)).mono b1.size)⟩
end Go.Proofs.Ytlafjddidlofcaa
