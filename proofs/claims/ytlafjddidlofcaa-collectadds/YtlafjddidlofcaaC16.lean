/- The document's Parent, Above, Kids, Below; whether names, and edges, are the same. -/
import Derived.Test.YtlafjddidlofcaaC15
namespace Go.Proofs.Ytlafjddidlofcaa
open Go.RowKit Go.Shelf

theorem right_true {ao : Option Addr} {cap : Nat} {l : List Pr} {w : World} (hm : EdMem w.heap.size w ao l) (hr : RightE l) : Calls Try.prog 16 #[.slice ao l.length cap] w fun e w' => e = .returned (.bool true) ∧ Below w.heap.size w w' := by
  refine (rright_any ao cap l w hm).mono ?_
  rintro e w' ⟨⟨_, rfl⟩ | ⟨h, _⟩, b⟩
  · exact ⟨rfl, b⟩
  · exact absurd hr h
theorem right_false {ao : Option Addr} {cap : Nat} {l : List Pr} {w : World} (hm : EdMem w.heap.size w ao l) (hr : ¬ RightE l) : Calls Try.prog 16 #[.slice ao l.length cap] w fun e w' => e = .returned (.bool false) ∧ Below w.heap.size w w' := by
  refine (rright_any ao cap l w hm).mono ?_
  rintro e w' ⟨⟨h, _⟩ | ⟨_, rfl⟩, b⟩
  · exact absurd h hr
  · exact ⟨rfl, b⟩
set_option maxRecDepth 100000 in
set_option maxHeartbeats 1000000 in
theorem rParent_any (ao : Option Addr) (cap : Nat) (l : List Pr) (s : ByteArray) (w : World) (hm : EdMem w.heap.size w ao l) :
    Calls Try.prog 18 #[.slice ao l.length cap, .string s] w fun e w' => ((∃ p, RightE l ∧ pOf l s = some p ∧ e = .returned (.tuple #[.string p, .bool true])) ∨ (¬ (RightE l ∧ ∃ p, pOf l s = some p) ∧ e = .returned (.tuple #[.string ⟨#[]⟩, .bool false]))) ∧ Below w.heap.size w w' := by
  obtain ⟨m, hml⟩ : ∃ m, l.length = m := ⟨_, rfl⟩
  have HM := hide (And.intro hm hml)
  by_cases hr : RightE l
  · have HR := hide (right_true (cap := cap) hm hr)
    rw [hml] at HR ⊢
    have HX := hide hr
    clear hm hml hr
    cases hp : pOf l s with
    | none =>
      have HP := hide fun (V : World) (hV : EdMem V.heap.size V ao l) => rparent_none (cap := cap) hV hp
      rw [HM.out.2] at HP
      clear hp
      go_enter Try.func18, Try.ntmps18
      go_wp2_with (first
        | (go_at_call 16; refine HR.out.mono ?_; rintro e w1 ⟨rfl, b1⟩)
        | (go_at_call 32; refine (HP.out w1 ((HM.out.1.below b1).more b1.size)).mono ?_; rintro e w2 ⟨rfl, hww⟩; rw [hww]; clear hww))
      go_ret2
      exact ⟨.inr ⟨fun ⟨_, p, h⟩ => (by cases h), rfl⟩, b1⟩
    | some p =>
      have HP := hide fun (V : World) (hV : EdMem V.heap.size V ao l) => rparent_some (cap := cap) hV hp
      rw [HM.out.2] at HP
      clear hp
      go_enter Try.func18, Try.ntmps18
      go_wp2_with (first
        | (go_at_call 16; refine HR.out.mono ?_; rintro e w1 ⟨rfl, b1⟩)
        | (go_at_call 32; refine (HP.out w1 ((HM.out.1.below b1).more b1.size)).mono ?_; rintro e w2 ⟨rfl, hww⟩; rw [hww]; clear hww))
      go_ret2
      exact ⟨.inl ⟨_, HX.out, rfl, rfl⟩, b1⟩
  · have HR := hide (right_false (cap := cap) hm hr)
    rw [hml] at HR ⊢
    have HX := hide hr
    clear hm hml hr
    go_enter Try.func18, Try.ntmps18
    go_wp2_with (go_at_call 16; refine HR.out.mono ?_; rintro e w1 ⟨rfl, b1⟩)
    go_ret2
    exact ⟨.inr ⟨fun h => HX.out h.1, rfl⟩, b1⟩
set_option maxRecDepth 100000 in
set_option maxHeartbeats 1000000 in
theorem rAbove_any (ao : Option Addr) (cap : Nat) (l : List Pr) (s : ByteArray) (w : World) (hm : EdMem w.heap.size w ao l) :
    Calls Try.prog 23 #[.slice ao l.length cap, .string s] w fun e w' => ∃ v ns, e = .returned v ∧ w'.ownsRow w.heap.size 9 1 v ns.length (strC ns) ∧ ((RightE l ∧ ns = aboveL l s) ∨ (¬ RightE l ∧ ns = [])) ∧ Below w.heap.size w w' := by
  obtain ⟨m, hml⟩ : ∃ m, l.length = m := ⟨_, rfl⟩
  have HM := hide (And.intro hm hml)
  by_cases hr : RightE l
  · have HR := hide (right_true (cap := cap) hm hr)
    have HP := hide fun (V : World) (hV : EdMem V.heap.size V ao l) => rabove_any ao cap l s V hV
    rw [hml] at HR HP ⊢
    have HX := hide hr
    clear hm hml hr
    go_enter Try.func23, Try.ntmps23
    go_wp2_with (first
        | (go_at_call 16; refine HR.out.mono ?_; rintro e w1 ⟨rfl, b1⟩)
        | (go_at_call 31; refine (HP.out w1 ((HM.out.1.below b1).more b1.size)).mono ?_; rintro e w2 ⟨v, rfl, y1, b2⟩))
    go_ret
    exact ⟨_, _, rfl, own_less y1 b1.size, .inl ⟨HX.out, rfl⟩, b1.trans (b2.mono b1.size)⟩
  · have HR := hide (right_false (cap := cap) hm hr)
    rw [hml] at HR ⊢
    have HX := hide hr
    clear hm hml hr
    go_enter Try.func23, Try.ntmps23
    go_wp2_with (go_at_call 16; refine HR.out.mono ?_; rintro e w1 ⟨rfl, b1⟩)
    go_ret
    exact ⟨_, [], rfl, World.ownsRow_nil _ _ _ _, .inr ⟨HX.out, rfl⟩, b1⟩
set_option maxRecDepth 100000 in
set_option maxHeartbeats 4000000 in
theorem rKids_any (ao : Option Addr) (cap : Nat) (l : List Pr) (t : ByteArray) (w : World) (hm : EdMem w.heap.size w ao l) :
    Calls Try.prog 21 #[.slice ao l.length cap, .string t] w fun e w' => ∃ v ns, e = .returned v ∧ w'.ownsRow w.heap.size 9 1 v ns.length (strC ns) ∧ ((RightE l ∧ ns = kidL t l) ∨ (¬ RightE l ∧ ns = [])) ∧ Below w.heap.size w w' := by
  have hlen := hm.1
  obtain ⟨m, hml⟩ : ∃ m, l.length = m := ⟨_, rfl⟩
  have HM := hide (And.intro hm hml)
  by_cases hr : RightE l
  · have HR := hide fun (V : World) (hV : EdMem V.heap.size V ao l) => right_true (cap := cap) hV hr
    rw [hml] at HR hlen ⊢
    have HX := hide hr
    clear hm hml hr
    go_enter Try.func21, Try.ntmps21
    go_wp2_with fail
    go_loopw [5, 6] (fun v i wr => ∃ k : Nat, k ≤ m ∧ i = .int .i64 k ∧ wr.ownsRow w.heap.size 9 1 v (kidL t (l.take k)).length (strC (kidL t (l.take k))) ∧ Below w.heap.size w wr) (fun _ i _ => m - (intOf i).toNat)
    case atStart => exact ⟨0, Nat.zero_le _, rfl, World.ownsRow_nil _ _ _ _, Below.refl _ _⟩
    case round =>
      obtain ⟨k, hk, rfl, hrow, hbw⟩ := hrel
      have hw1 : IntKind.i64.wrap ((k : Int) + 1) = k + 1 := by rw [IntKind.wrap_i64]; omega
      have hwz := hbw.size
      have hE := (HM.out.1.below hbw).more hwz
      by_cases hlt : k < m
      · have hlti : (k : Int) < m := by omega
        obtain ⟨x, hx⟩ : ∃ x, l[k]? = some x := ⟨l[k]'(by have := HM.out.2; omega), by simp⟩
        have htk : l.take (k + 1) = l.take k ++ [x] := by rw [List.take_add_one, hx]; rfl
        have hbl2 := kid_len (l.take k) t
        rw [List.length_take] at hbl2
        obtain ⟨b, off, rfl, hbl, _, _⟩ := HM.out.1.2 k x hx
        obtain ⟨n4, hn4⟩ : ∃ n4, (kidL t (l.take k)).length = n4 := ⟨_, rfl⟩
        rw [hn4] at hrow hbl2
        obtain ⟨ga4, gc4, rfl⟩ := own_shape hrow
        have HI := hide (And.intro hrow (And.intro hbw (And.intro htk (And.intro hn4 (And.intro hx hE)))))
        clear hrow hbw hx htk hn4 hE
        go_wp2_with (go_at_call 16; refine (HR.out _ HI.out.2.2.2.2.2).mono ?_; rintro e w1 ⟨rfl, b1⟩; refine stopHere ?_)
        unfold Hid
        have hb1 : Below w.heap.size w w1 := HI.out.2.1.trans (b1.mono HI.out.2.1.size)
        have hr1 := own_same HI.out.1 (fun g e => b1.block g (own_lt HI.out.1 g e))
        obtain ⟨b', off', e', _, c0, c1⟩ := (HM.out.1.below hb1).2 k x HI.out.2.2.2.2.1
        cases e'
        have H1 := hide (And.intro hr1 hb1)
        clear hr1 hb1 b1

        cases hq : isKid t x with
        | false =>
          have he : x.2 ≠ t := by simpa [isKid] using hq
          have hz := txt_ne he
          have H2 := H1
          clear he
          obtain ⟨w2, hw2⟩ : ∃ w2, w1 = w2 := ⟨_, rfl⟩
          rw [hw2] at H2 c0 c1 ⊢
          clear H1
          go_wp2_with fail
          refine ⟨⟨k + 1, by omega, by simp, ?_, H2.out.2⟩, by simp [intOf]; omega⟩
          rw [HI.out.2.2.1, kid_no hq, HI.out.2.2.2.1]
          exact H2.out.1
        | true =>
          have he : x.2 = t := by simpa [isKid] using hq
          have hz := txt_eq he
          have H2 := H1
          clear he
          obtain ⟨w2, hw2⟩ : ∃ w2, w1 = w2 := ⟨_, rfl⟩
          rw [hw2] at H2 c0 c1 ⊢
          clear H1
          have hw2z := H2.out.2.size
          obtain ⟨n5, ga5, gc5, w4, hn5, hap, q1, q2⟩ := push_str (T := 35) x.1 H2.out.1 hw2z (by omega)
          obtain ⟨W3, hW3⟩ : ∃ W3, w2.alloc (.cells #[.string x.1] 9) = W3 := ⟨_, rfl⟩
          rw [hW3] at hap
          have HY := hide (And.intro q1 (And.intro (H2.out.2.trans q2) hn5))
          have HAp := hide hap
          clear q1 q2 hap hn5
          go_wp2_with (at_builtin; refine l_val rfl _ (ex_append2 (t := 35) (t' := 35) rfl rfl rfl HAp.out) ?_)
          obtain ⟨h1, h2, h3⟩ := HY.out
          refine ⟨⟨k + 1, by omega, by simp, ?_, h2⟩, by simp [intOf]; omega⟩
          have hln : (kidL t (l.take (k + 1))).length = n5 := by rw [HI.out.2.2.1, kid_yes hq, List.length_append, HI.out.2.2.2.1, h3]; rfl
          rw [hln, HI.out.2.2.1, kid_yes hq]
          exact h1
      · obtain rfl : k = m := by omega
        have hlti : ¬ ((k : Int) < k) := by omega
        rw [List.take_of_length_le (by have := HM.out.2; omega)] at hrow
        obtain ⟨n4, hn4⟩ : ∃ n4, (kidL t l).length = n4 := ⟨_, rfl⟩
        rw [hn4] at hrow
        obtain ⟨ga4, gc4, rfl⟩ := own_shape hrow
        have HI := hide (And.intro hrow (And.intro hbw (And.intro hn4 hE)))
        clear hrow hbw hn4 hE
        go_wp2_with (go_at_call 16; refine (HR.out _ HI.out.2.2.2).mono ?_; rintro e w1 ⟨rfl, b1⟩)
        go_ret
        refine ⟨_, kidL t l, rfl, ?_, .inl ⟨HX.out, rfl⟩, HI.out.2.1.trans (b1.mono HI.out.2.1.size)⟩
        rw [HI.out.2.2.1]
        exact own_same HI.out.1 (fun g e => b1.block g (own_lt HI.out.1 g e))
  · have HR := hide (right_false (cap := cap) hm hr)
    rw [hml] at HR ⊢
    have HX := hide hr
    clear hm hml hr
    go_enter Try.func21, Try.ntmps21
    go_wp2_with fail
    go_loopw [5, 6] (fun v i wr => v = .slice none 0 0 ∧ i = .int .i64 0 ∧ wr = w) (fun _ _ _ => 0)
    case atStart => exact ⟨rfl, rfl, rfl⟩
    case round =>
      obtain ⟨rfl, rfl, rfl⟩ := hrel
      go_wp2_with (go_at_call 16; refine HR.out.mono ?_; rintro e w1 ⟨rfl, b1⟩)
      go_ret
      exact ⟨_, [], rfl, World.ownsRow_nil _ _ _ _, .inr ⟨HX.out, rfl⟩, b1⟩
set_option maxRecDepth 100000 in
set_option maxHeartbeats 4000000 in
theorem rBelow_any (ao : Option Addr) (cap : Nat) (l : List Pr) (t : ByteArray) (w : World) (hm : EdMem w.heap.size w ao l) :
    Calls Try.prog 25 #[.slice ao l.length cap, .string t] w fun e w' => ∃ v ns, e = .returned v ∧ w'.ownsRow w.heap.size 9 1 v ns.length (strC ns) ∧ ((RightE l ∧ ns = belL l t l) ∨ (¬ RightE l ∧ ns = [])) ∧ Below w.heap.size w w' := by
  have hlen := hm.1
  obtain ⟨m, hml⟩ : ∃ m, l.length = m := ⟨_, rfl⟩
  have HM := hide (And.intro hm hml)
  by_cases hr : RightE l
  · have HR := hide fun (V : World) (hV : EdMem V.heap.size V ao l) => right_true (cap := cap) hV hr
    rw [hml] at HR hlen ⊢
    have HX := hide hr
    clear hm hml hr
    go_enter Try.func25, Try.ntmps25
    go_wp2_with fail
    go_loopw [5, 6] (fun v i wr => ∃ k : Nat, k ≤ m ∧ i = .int .i64 k ∧ wr.ownsRow w.heap.size 9 1 v (belL l t (l.take k)).length (strC (belL l t (l.take k))) ∧ Below w.heap.size w wr) (fun _ i _ => m - (intOf i).toNat)
    case atStart => exact ⟨0, Nat.zero_le _, rfl, World.ownsRow_nil _ _ _ _, Below.refl _ _⟩
    case round =>
      obtain ⟨k, hk, rfl, hrow, hbw⟩ := hrel
      have hw1 : IntKind.i64.wrap ((k : Int) + 1) = k + 1 := by rw [IntKind.wrap_i64]; omega
      have hwz := hbw.size
      have hE := (HM.out.1.below hbw).more hwz
      by_cases hlt : k < m
      · have hlti : (k : Int) < m := by omega
        obtain ⟨x, hx⟩ : ∃ x, l[k]? = some x := ⟨l[k]'(by have := HM.out.2; omega), by simp⟩
        have htk : l.take (k + 1) = l.take k ++ [x] := by rw [List.take_add_one, hx]; rfl
        have hbl2 := bel_len l (l.take k) t
        rw [List.length_take] at hbl2
        obtain ⟨b, off, rfl, hbl, _, _⟩ := HM.out.1.2 k x hx
        obtain ⟨n4, hn4⟩ : ∃ n4, (belL l t (l.take k)).length = n4 := ⟨_, rfl⟩
        rw [hn4] at hrow hbl2
        obtain ⟨ga4, gc4, rfl⟩ := own_shape hrow
        have HI := hide (And.intro hrow (And.intro hbw (And.intro htk (And.intro hn4 (And.intro hx hE)))))
        clear hrow hbw hx htk hn4 hE
        go_wp2_with (go_at_call 16; refine (HR.out _ HI.out.2.2.2.2.2).mono ?_; rintro e w1 ⟨rfl, b1⟩; refine stopHere ?_)
        unfold Hid
        have hb1 : Below w.heap.size w w1 := HI.out.2.1.trans (b1.mono HI.out.2.1.size)
        have hr1 := own_same HI.out.1 (fun g e => b1.block g (own_lt HI.out.1 g e))
        obtain ⟨b', off', e', _, c0, c1⟩ := (HM.out.1.below hb1).2 k x HI.out.2.2.2.2.1
        cases e'
        have H1 := hide (And.intro hr1 hb1)
        clear hr1 hb1 b1
        have HA := hide (rabove_any (some ⟨b, off, none⟩) cap l x.1 w1 ((HM.out.1.below H1.out.2).more H1.out.2.size))
        rw [HM.out.2] at HA
        have hal : (aboveL l x.1).length ≤ 1000000 := Nat.le_trans (chain_len _ _ _) HM.out.1.1
        have HS := hide hal
        clear hal
        cases hq : isBel l t x with
        | false =>
          have hz : anyB (aboveL l x.1) t = false := hq
          have HZ := hide hz
          clear hz
          go_wp2_with (first
            | (go_at_call 31; refine HA.out.mono ?_; rintro e w2 ⟨v, rfl, y1, b2⟩; have HV := hide (has_any w1.heap.size v _ t w2 y1 HS.out); rw [HZ.out] at HV; have H2 := hide (And.intro (own_same H1.out.1 (fun g e => b2.block g (own_lt H1.out.1 g e))) (H1.out.2.trans (b2.mono H1.out.2.size))); clear y1 b2)
            | (go_at_call 30; refine HV.out.mono ?_; rintro e w2' ⟨rfl, hww⟩; rw [hww]; clear hww))
          refine ⟨⟨k + 1, by omega, by simp, ?_, H2.out.2⟩, by simp [intOf]; omega⟩
          rw [HI.out.2.2.1, bel_no hq, HI.out.2.2.2.1]
          exact H2.out.1
        | true =>
          have hz : anyB (aboveL l x.1) t = true := hq
          have HZ := hide hz
          clear hz
          go_wp2_with (first
            | (go_at_call 31; refine HA.out.mono ?_; rintro e w2 ⟨v, rfl, y1, b2⟩; have HV := hide (has_any w1.heap.size v _ t w2 y1 HS.out); rw [HZ.out] at HV; have H2 := hide (And.intro (own_same H1.out.1 (fun g e => b2.block g (own_lt H1.out.1 g e))) (H1.out.2.trans (b2.mono H1.out.2.size))); clear y1 b2)
            | (go_at_call 30; refine HV.out.mono ?_; rintro e w2' ⟨rfl, hww⟩; rw [hww]; clear hww; refine stopHere ?_))
          unfold Hid
          obtain ⟨b', off', e', _, c0, c1⟩ := (HM.out.1.below H2.out.2).2 k x HI.out.2.2.2.2.1
          cases e'
          have hw2z := H2.out.2.size
          obtain ⟨n5, ga5, gc5, w4, hn5, hap, q1, q2⟩ := push_str (T := 35) x.1 H2.out.1 hw2z (by omega)
          obtain ⟨W3, hW3⟩ : ∃ W3, w2.alloc (.cells #[.string x.1] 9) = W3 := ⟨_, rfl⟩
          rw [hW3] at hap
          have HY := hide (And.intro q1 (And.intro (H2.out.2.trans q2) hn5))
          have HAp := hide hap
          clear q1 q2 hap hn5
          go_wp2_with (at_builtin; refine l_val rfl _ (ex_append2 (t := 35) (t' := 35) rfl rfl rfl HAp.out) ?_)
          obtain ⟨h1, h2, h3⟩ := HY.out
          refine ⟨⟨k + 1, by omega, by simp, ?_, h2⟩, by simp [intOf]; omega⟩
          have hln : (belL l t (l.take (k + 1))).length = n5 := by rw [HI.out.2.2.1, bel_yes hq, List.length_append, HI.out.2.2.2.1, h3]; rfl
          rw [hln, HI.out.2.2.1, bel_yes hq]
          exact h1
      · obtain rfl : k = m := by omega
        have hlti : ¬ ((k : Int) < k) := by omega
        rw [List.take_of_length_le (by have := HM.out.2; omega)] at hrow
        obtain ⟨n4, hn4⟩ : ∃ n4, (belL l t l).length = n4 := ⟨_, rfl⟩
        rw [hn4] at hrow
        obtain ⟨ga4, gc4, rfl⟩ := own_shape hrow
        have HI := hide (And.intro hrow (And.intro hbw (And.intro hn4 hE)))
        clear hrow hbw hn4 hE
        go_wp2_with (go_at_call 16; refine (HR.out _ HI.out.2.2.2).mono ?_; rintro e w1 ⟨rfl, b1⟩)
        go_ret
        refine ⟨_, belL l t l, rfl, ?_, .inl ⟨HX.out, rfl⟩, HI.out.2.1.trans (b1.mono HI.out.2.1.size)⟩
        rw [HI.out.2.2.1]
        exact own_same HI.out.1 (fun g e => b1.block g (own_lt HI.out.1 g e))
  · have HR := hide (right_false (cap := cap) hm hr)
    rw [hml] at HR ⊢
    have HX := hide hr
    clear hm hml hr
    go_enter Try.func25, Try.ntmps25
    go_wp2_with fail
    go_loopw [5, 6] (fun v i wr => v = .slice none 0 0 ∧ i = .int .i64 0 ∧ wr = w) (fun _ _ _ => 0)
    case atStart => exact ⟨rfl, rfl, rfl⟩
    case round =>
      obtain ⟨rfl, rfl, rfl⟩ := hrel
      go_wp2_with (go_at_call 16; refine HR.out.mono ?_; rintro e w1 ⟨rfl, b1⟩)
      go_ret
      exact ⟨_, [], rfl, World.ownsRow_nil _ _ _ _, .inr ⟨HX.out, rfl⟩, b1⟩
end Go.Proofs.Ytlafjddidlofcaa
