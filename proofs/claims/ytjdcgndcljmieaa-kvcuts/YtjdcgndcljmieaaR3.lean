/- The document's map: Put. -/
import Derived.Test.YtjdcgndcljmieaaR2
namespace Go.Proofs.Ytjdcgndcljmieaa
open Go.RowKit

theorem less_yes {a b : Str} (h : a < b) : Op.bytesLess a b = true := by rw [bytesLess_eq]; exact decide_eq_true h
theorem less_no {a b : Str} (h : ¬ a < b) : Op.bytesLess a b = false := by rw [bytesLess_eq]; exact decide_eq_false h
set_option maxRecDepth 100000 in
set_option maxHeartbeats 4000000 in
theorem rput_any (base p : Nat) (v : Value) (L : List Pr) (k x : ByteArray) (w : World) (h : IsR base p v L w) (hw : base ≤ w.heap.size) :
    Calls Try.prog 33 #[.pointer (some ⟨p, 0, none⟩), .string k, .string x] w fun e w' => e = .returned (.int .i64 (putE L k x)) ∧ ∃ v', RTo base p v (putL L k x) v' w w' := by
  by_cases hbad : badKV k x
  · have e0 : putE L k x = 2 := by unfold putE; rw [if_pos hbad]
    have e1 : putL L k x = L := by unfold putL; rw [e0, if_neg (by omega)]
    rw [e0, e1]
    have HS := hide (RTo.stay h (Below.refl _ w) hw)
    clear h e0 e1
    unfold badKV at hbad
    have hcs : ((k.size : Int) < 1) ∨ (¬ ((k.size : Int) < 1) ∧ (64 : Int) < k.size) ∨ (¬ ((k.size : Int) < 1) ∧ ¬ ((64 : Int) < k.size) ∧ (4096 : Int) < x.size) := by omega
    clear hbad
    rcases hcs with h1 | ⟨h1, h2⟩ | ⟨h1, h2, h3⟩
    all_goals
      go_enter Try.func33, Try.ntmps33
      go_wp2_with fail
      go_ret
      exact ⟨rfl, _, HS.out⟩
  · have hok := hbad
    unfold badKV at hok
    have h1 : ¬ ((k.size : Int) < 1) := by omega
    have h2 : ¬ ((64 : Int) < k.size) := by omega
    have h3 : ¬ ((4096 : Int) < x.size) := by omega
    have HH := hide h
    have hc := h.cell
    have hfew := h.few
    obtain ⟨m, hm⟩ : ∃ m, L.length = m := ⟨_, rfl⟩
    have hrow : w.ownsRow base 55 2 v m (pairC L) := by rw [← hm]; exact h.row
    rw [hm] at hfew
    clear hok
    by_cases hfull : getM L k = none ∧ 128 ≤ L.length
    · have e0 : putE L k x = 4 := by unfold putE; rw [if_neg hbad, if_pos hfull]
      have e1 : putL L k x = L := by unfold putL; rw [e0, if_neg (by omega)]
      rw [e0, e1]
      have HA := hide (at_none base p v L k w h hfull.1)
      have hge : (128 : Int) ≤ m := by omega
      obtain ⟨ga, gc, rfl⟩ := own_shape hrow
      clear h e0 e1 hbad hfull hrow hm
      go_enter Try.func33, Try.ntmps33
      go_wp2_with (first
        | (go_at_call 40; refine HA.out.mono ?_; rintro e w1 ⟨rfl, rfl⟩))
      go_ret
      exact ⟨rfl, _, RTo.stay HH.out (Below.refl _ _) hw⟩
    · have e0 : putE L k x = 0 := by unfold putE; rw [if_neg hbad, if_neg hfull]
      have e1 : putL L k x = insM k x (delM L k) := by unfold putL; rw [e0, if_pos rfl]; rfl
      have hlen : (putM L k x).length ≤ 128 := by
        rw [putM_len h.rise]
        split
        · rename_i hg
          have : ¬ 128 ≤ L.length := fun z => hfull ⟨hg, z⟩
          omega
        · omega
      have hfin : Rising (insM k x (delM L k)) ∧ (insM k x (delM L k)).length ≤ 128 := ⟨putM_rising h.rise k x, hlen⟩
      rw [e0, e1]
      obtain ⟨D, hD⟩ : ∃ D, delM L k = D := ⟨_, rfl⟩
      have hDl : D.length ≤ 128 := by rw [← hD]; exact Nat.le_trans (delM_le L k) h.few
      have HWo : Hid (∀ W, IsR base p v L W → Calls Try.prog 42 #[.pointer (some ⟨p, 0, none⟩), .string k] W fun e w' => ∃ u, e = .returned u ∧ Prs w' W.heap.size u D ∧ Below W.heap.size W w') := hide (fun W hR => by rw [← hD]; exact without_any base p v L k W hR)
      rw [hD] at hfin ⊢
      have HF := hide hfin
      have HA := hide (at_any base p v L k w h)
      have HG := hide (show getM L k = none → m < 128 from fun hg => by
        have : ¬ 128 ≤ L.length := fun z => hfull ⟨hg, z⟩
        omega)
      obtain ⟨ga, gc, rfl⟩ := own_shape hrow
      clear h e0 e1 hbad hfull hrow hm hlen hfin hD
      go_enter Try.func33, Try.ntmps33
      go_wp2_with (first
        | (go_at_call 40; refine HA.out.mono ?_; rintro e w1 ⟨⟨i, rfl, hi⟩, rfl⟩; refine stopHere ?_))
      unfold Hid
      have hi2 : (i = -1 ∧ m < 128) ∨ ∃ n : Nat, i = n := by
        rcases hi with ⟨hg, rfl⟩ | ⟨n, _, _, _, rfl, _⟩
        · exact .inl ⟨rfl, HG.out hg⟩
        · exact .inr ⟨n, rfl⟩
      clear hi
      rcases hi2 with ⟨rfl, hm2⟩ | ⟨n0, rfl⟩
      · have hge : ¬ ((128 : Int) ≤ m) := by omega
        go_wp2_with (first
          | (go_at_call 42; refine (HWo.out _ HH.out).mono ?_; rintro e w2 ⟨u, rfl, r2, b2⟩; have H2 := hide (And.intro r2 b2); clear r2 b2; refine stopHere ?_))
        unfold Hid
        obtain ⟨ua, uc, hu⟩ := own_shape H2.out.1
        obtain ⟨c, hc2⟩ : ∃ c, D.length = c := ⟨_, rfl⟩
        rw [hc2] at hu hDl
        subst hu
        have HC := hide hc2
        clear hc2 hc
        go_wp2_with fail
        go_loopw [8, 9, 10] (fun s q j wr => ∃ (n : Nat) (b : Bool), n ≤ c ∧ j = .int .i64 n ∧ q = .bool b ∧ CopI w1.heap.size k x D (.slice ua c uc) s n b wr ∧ Below w1.heap.size w1 wr) (fun _ _ j _ => c - (intOf j).toNat)
        case atStart => exact ⟨0, false, by omega, rfl, rfl, ⟨⟨_, .no (by simp), by rw [List.take_zero]; exact World.ownsRow_nil _ _ _ _⟩, H2.out.1, fun j _ h => by cases h⟩, H2.out.2⟩
        case round =>
          obtain ⟨n, q, hn, rfl, rfl, hI, hbw⟩ := hrel
          have hwz := hbw.size
          have hw1 : IntKind.i64.wrap ((n : Int) + 1) = n + 1 := by rw [IntKind.wrap_i64]; omega
          have hsrc : wr.ownsRow w1.heap.size 55 2 (.slice ua c uc) c (pairC D) := by have h := hI.src; unfold Prs at h; rwa [HC.out] at h
          by_cases hlt : n < c
          · have hlti : (n : Int) < c := by omega
            obtain ⟨y, hy⟩ : ∃ y, D[n]? = some y := ⟨D[n]'(by have := HC.out; omega), by simp⟩
            obtain ⟨b, rfl, hbl, c0, c1⟩ := pr_cells hsrc HC.out.symm hy
            cases q with
            | true =>
              obtain ⟨W, hW⟩ : ∃ W, wr.alloc (.cells #[.string y.1, .string y.2] 55) = W := ⟨_, rfl⟩
              obtain ⟨s', w3, hap, i3, b3⟩ := hI.step hy hwz (by have := HC.out; omega) hW
              have HAp := hide hap
              have HI := hide (And.intro i3 (hbw.trans b3))
              clear hap i3 b3 hI hbw hsrc hy
              go_wp2_with (first
                      | (at_builtin; refine l_val rfl _ (ex_append2 (t := 52) (t' := 52) rfl rfl rfl HAp.out) ?_))
              go_roundw
              case rel => exact ⟨n + 1, true, by omega, by simp, rfl, HI.out.1, HI.out.2⟩
              case measure => simp [intOf]; omega
            | false =>
              by_cases hk : k.toList < y.1.toList
              · have hkb := less_yes hk
                obtain ⟨W, hW⟩ : ∃ W, wr.alloc (.cells #[.string k, .string x] 55) = W := ⟨_, rfl⟩
                obtain ⟨s', w3, hap, ⟨S, hcS, hpS⟩, hpu, hfar, b3⟩ := hI.new hwz (by have := HC.out; omega) hW
                have hs3 := b3.size
                have hpu' : w3.ownsRow w1.heap.size 55 2 (.slice (some ⟨b, 0, none⟩) c uc) c (pairC D) := by have h := hpu; unfold Prs at h; rwa [HC.out] at h
                obtain ⟨b', hb', hbl', d0, d1⟩ := pr_cells hpu' HC.out.symm hy
                cases hb'
                obtain ⟨W2, hW2⟩ : ∃ W, w3.alloc (.cells #[.string y.1, .string y.2] 55) = W := ⟨_, rfl⟩
                obtain ⟨s2, w4, hap2, i4, b4⟩ := CopI.then hcS hpS hpu hfar hy hk (by omega) (by have := HC.out; omega) hW2
                have HAp := hide hap
                have HAp2 := hide hap2
                have HI := hide (And.intro i4 (hbw.trans (b3.trans b4)))
                clear hap hap2 i4 b4 b3 hcS hpS hpu hpu' hfar hI hbw hsrc hy
                go_wp2_with (first
                      | (at_builtin; refine l_val rfl _ (ex_append2 (t := 52) (t' := 52) rfl rfl rfl HAp.out) ?_)
                      | (at_builtin; refine l_val rfl _ (ex_append2 (t := 52) (t' := 52) rfl rfl rfl HAp2.out) ?_))
                go_roundw
                case rel => exact ⟨n + 1, true, by omega, by simp, rfl, HI.out.1, HI.out.2⟩
                case measure => simp [intOf]; omega
              · have hkb := less_no hk
                obtain ⟨W, hW⟩ : ∃ W, wr.alloc (.cells #[.string y.1, .string y.2] 55) = W := ⟨_, rfl⟩
                obtain ⟨s', w3, hap, i3, b3⟩ := hI.pass hy hk hwz (by have := HC.out; omega) hW
                have HAp := hide hap
                have HI := hide (And.intro i3 (hbw.trans b3))
                clear hap i3 b3 hI hbw hsrc hy
                go_wp2_with (first
                      | (at_builtin; refine l_val rfl _ (ex_append2 (t := 52) (t' := 52) rfl rfl rfl HAp.out) ?_))
                go_roundw
                case rel => exact ⟨n + 1, false, by omega, by simp, rfl, HI.out.1, HI.out.2⟩
                case measure => simp [intOf]; omega
          · obtain rfl : n = c := by omega
            have hlti : ¬ ((n : Int) < n) := by omega
            have ht : D.take n = D := by rw [← HC.out, List.take_length]
            have hcw := (HH.out.below hbw).cell
            have hfw := frozen_not (HH.out.below hbw).here
            cases q with
            | true =>
              obtain ⟨S, hcS, hpS⟩ := hI.cop
              rw [ht] at hcS
              rw [hcS.all] at hpS
              have HI := hide (RTo.turn HH.out hw hbw hpS HF.out.1 HF.out.2)
              obtain ⟨sa, sc, rfl⟩ := own_shape hpS
              clear hI hbw hsrc ht hcS hpS
              go_wp2_with fail
              go_ret
              exact ⟨rfl, _, HI.out⟩
            | false =>
              obtain ⟨W, hW⟩ : ∃ W, wr.alloc (.cells #[.string k, .string x] 55) = W := ⟨_, rfl⟩
              obtain ⟨s', w3, hap, ⟨S, hcS, hpS⟩, hpu, hfar, b3⟩ := hI.new hwz (by have := HC.out; omega) hW
              rw [ht] at hcS
              rw [hcS.last] at hpS
              have hB3 := hbw.trans b3
              have HI := hide (RTo.turn HH.out hw hB3 hpS HF.out.1 HF.out.2)
              have hcw3 := (HH.out.below hB3).cell
              have hfw3 := frozen_not (HH.out.below hB3).here
              obtain ⟨sa, sc, rfl⟩ := own_shape hpS
              have HAp := hide hap
              clear hI hbw hsrc ht hcS hpS hap hpu hfar b3 hB3 hcw hfw
              go_wp2_with (first
                      | (at_builtin; refine l_val rfl _ (ex_append2 (t := 52) (t' := 52) rfl rfl rfl HAp.out) ?_))
              go_ret
              exact ⟨rfl, _, HI.out⟩
      · have hn0 : ¬ ((n0 : Int) < 0) := by omega
        go_wp2_with (first
          | (go_at_call 42; refine (HWo.out _ HH.out).mono ?_; rintro e w2 ⟨u, rfl, r2, b2⟩; have H2 := hide (And.intro r2 b2); clear r2 b2; refine stopHere ?_))
        unfold Hid
        obtain ⟨ua, uc, hu⟩ := own_shape H2.out.1
        obtain ⟨c, hc2⟩ : ∃ c, D.length = c := ⟨_, rfl⟩
        rw [hc2] at hu hDl
        subst hu
        have HC := hide hc2
        clear hc2 hc
        go_wp2_with fail
        go_loopw [8, 9, 10] (fun s q j wr => ∃ (n : Nat) (b : Bool), n ≤ c ∧ j = .int .i64 n ∧ q = .bool b ∧ CopI w1.heap.size k x D (.slice ua c uc) s n b wr ∧ Below w1.heap.size w1 wr) (fun _ _ j _ => c - (intOf j).toNat)
        case atStart => exact ⟨0, false, by omega, rfl, rfl, ⟨⟨_, .no (by simp), by rw [List.take_zero]; exact World.ownsRow_nil _ _ _ _⟩, H2.out.1, fun j _ h => by cases h⟩, H2.out.2⟩
        case round =>
          obtain ⟨n, q, hn, rfl, rfl, hI, hbw⟩ := hrel
          have hwz := hbw.size
          have hw1 : IntKind.i64.wrap ((n : Int) + 1) = n + 1 := by rw [IntKind.wrap_i64]; omega
          have hsrc : wr.ownsRow w1.heap.size 55 2 (.slice ua c uc) c (pairC D) := by have h := hI.src; unfold Prs at h; rwa [HC.out] at h
          by_cases hlt : n < c
          · have hlti : (n : Int) < c := by omega
            obtain ⟨y, hy⟩ : ∃ y, D[n]? = some y := ⟨D[n]'(by have := HC.out; omega), by simp⟩
            obtain ⟨b, rfl, hbl, c0, c1⟩ := pr_cells hsrc HC.out.symm hy
            cases q with
            | true =>
              obtain ⟨W, hW⟩ : ∃ W, wr.alloc (.cells #[.string y.1, .string y.2] 55) = W := ⟨_, rfl⟩
              obtain ⟨s', w3, hap, i3, b3⟩ := hI.step hy hwz (by have := HC.out; omega) hW
              have HAp := hide hap
              have HI := hide (And.intro i3 (hbw.trans b3))
              clear hap i3 b3 hI hbw hsrc hy
              go_wp2_with (first
                      | (at_builtin; refine l_val rfl _ (ex_append2 (t := 52) (t' := 52) rfl rfl rfl HAp.out) ?_))
              go_roundw
              case rel => exact ⟨n + 1, true, by omega, by simp, rfl, HI.out.1, HI.out.2⟩
              case measure => simp [intOf]; omega
            | false =>
              by_cases hk : k.toList < y.1.toList
              · have hkb := less_yes hk
                obtain ⟨W, hW⟩ : ∃ W, wr.alloc (.cells #[.string k, .string x] 55) = W := ⟨_, rfl⟩
                obtain ⟨s', w3, hap, ⟨S, hcS, hpS⟩, hpu, hfar, b3⟩ := hI.new hwz (by have := HC.out; omega) hW
                have hs3 := b3.size
                have hpu' : w3.ownsRow w1.heap.size 55 2 (.slice (some ⟨b, 0, none⟩) c uc) c (pairC D) := by have h := hpu; unfold Prs at h; rwa [HC.out] at h
                obtain ⟨b', hb', hbl', d0, d1⟩ := pr_cells hpu' HC.out.symm hy
                cases hb'
                obtain ⟨W2, hW2⟩ : ∃ W, w3.alloc (.cells #[.string y.1, .string y.2] 55) = W := ⟨_, rfl⟩
                obtain ⟨s2, w4, hap2, i4, b4⟩ := CopI.then hcS hpS hpu hfar hy hk (by omega) (by have := HC.out; omega) hW2
                have HAp := hide hap
                have HAp2 := hide hap2
                have HI := hide (And.intro i4 (hbw.trans (b3.trans b4)))
                clear hap hap2 i4 b4 b3 hcS hpS hpu hpu' hfar hI hbw hsrc hy
                go_wp2_with (first
                      | (at_builtin; refine l_val rfl _ (ex_append2 (t := 52) (t' := 52) rfl rfl rfl HAp.out) ?_)
                      | (at_builtin; refine l_val rfl _ (ex_append2 (t := 52) (t' := 52) rfl rfl rfl HAp2.out) ?_))
                go_roundw
                case rel => exact ⟨n + 1, true, by omega, by simp, rfl, HI.out.1, HI.out.2⟩
                case measure => simp [intOf]; omega
              · have hkb := less_no hk
                obtain ⟨W, hW⟩ : ∃ W, wr.alloc (.cells #[.string y.1, .string y.2] 55) = W := ⟨_, rfl⟩
                obtain ⟨s', w3, hap, i3, b3⟩ := hI.pass hy hk hwz (by have := HC.out; omega) hW
                have HAp := hide hap
                have HI := hide (And.intro i3 (hbw.trans b3))
                clear hap i3 b3 hI hbw hsrc hy
                go_wp2_with (first
                      | (at_builtin; refine l_val rfl _ (ex_append2 (t := 52) (t' := 52) rfl rfl rfl HAp.out) ?_))
                go_roundw
                case rel => exact ⟨n + 1, false, by omega, by simp, rfl, HI.out.1, HI.out.2⟩
                case measure => simp [intOf]; omega
          · obtain rfl : n = c := by omega
            have hlti : ¬ ((n : Int) < n) := by omega
            have ht : D.take n = D := by rw [← HC.out, List.take_length]
            have hcw := (HH.out.below hbw).cell
            have hfw := frozen_not (HH.out.below hbw).here
            cases q with
            | true =>
              obtain ⟨S, hcS, hpS⟩ := hI.cop
              rw [ht] at hcS
              rw [hcS.all] at hpS
              have HI := hide (RTo.turn HH.out hw hbw hpS HF.out.1 HF.out.2)
              obtain ⟨sa, sc, rfl⟩ := own_shape hpS
              clear hI hbw hsrc ht hcS hpS
              go_wp2_with fail
              go_ret
              exact ⟨rfl, _, HI.out⟩
            | false =>
              obtain ⟨W, hW⟩ : ∃ W, wr.alloc (.cells #[.string k, .string x] 55) = W := ⟨_, rfl⟩
              obtain ⟨s', w3, hap, ⟨S, hcS, hpS⟩, hpu, hfar, b3⟩ := hI.new hwz (by have := HC.out; omega) hW
              rw [ht] at hcS
              rw [hcS.last] at hpS
              have hB3 := hbw.trans b3
              have HI := hide (RTo.turn HH.out hw hB3 hpS HF.out.1 HF.out.2)
              have hcw3 := (HH.out.below hB3).cell
              have hfw3 := frozen_not (HH.out.below hB3).here
              obtain ⟨sa, sc, rfl⟩ := own_shape hpS
              have HAp := hide hap
              clear hI hbw hsrc ht hcS hpS hap hpu hfar b3 hB3 hcw hfw
              go_wp2_with (first
                      | (at_builtin; refine l_val rfl _ (ex_append2 (t := 52) (t' := 52) rfl rfl rfl HAp.out) ?_))
              go_ret
              exact ⟨rfl, _, HI.out⟩
end Go.Proofs.Ytjdcgndcljmieaa
