/- CollectBoth. -/
import Derived.Test.YthhabbfhhkkkaaaC12
namespace Go.Proofs.Ythhabbfhhkkkaaa
open Go.RowKit Go.Shelf

def anyB (ns : List ByteArray) (b : ByteArray) : Bool := ns.any fun y => decide (y = b)
theorem any_mem {ns : List ByteArray} {b : ByteArray} : anyB ns b = true ↔ b ∈ ns := by simp [anyB]
theorem any_step {ns : List ByteArray} {b x : ByteArray} {k : Nat} (hx : ns[k]? = some x) : anyB (ns.take (k + 1)) b = (anyB (ns.take k) b || decide (x = b)) := by
  rw [List.take_add_one, hx]
  simp [anyB]
theorem row_str {W : World} {base n : Nat} {v : Value} {ns : List ByteArray} (h : W.ownsRow base 9 1 v n (strC ns)) {i : Nat} {s : ByteArray} (hi : ns[i]? = some s) : ∃ g cap, v = .slice (some ⟨g, 0, none⟩) n cap ∧ W.cell? ⟨g, i, none⟩ = some (.string s) := by
  obtain ⟨h1, ⟨rfl, h2⟩ | ⟨g, cap, cur, rfl, x1, x2, x3, x4, x5, x6⟩⟩ := h
  · subst h2
    have := (List.getElem?_eq_some_iff.1 hi).1
    simp [strC] at h1
    subst h1
    simp at this
  · refine ⟨g, cap, rfl, ?_⟩
    have hlt := (List.getElem?_eq_some_iff.1 hi).1
    have hn : ns.length = n * 1 := by rw [← h1]; simp [strC]
    have hs : (strC ns)[i]? = some (.string s) := by simp [strC, hi]
    rw [← x6, List.getElem?_take_of_lt (by omega)] at hs
    rw [cell_of_row W g _ _ _ _ x2]
    simpa using hs
theorem chain_has {l : List Pr} {f : Nat} {a b : ByteArray} (h : b ∈ chain l f a) : ∃ x ∈ l, x.1 = a := by
  cases hp : pOf l a with
  | none =>
    rw [chain_none hp] at h
    cases h
  | some p =>
    unfold pOf at hp
    obtain ⟨x, hx, _⟩ := Option.map_eq_some_iff.1 hp
    exact ⟨x, List.mem_of_find?_eq_some hx, by simpa using List.find?_some hx⟩
theorem both_same {l : List Pr} {a b : ByteArray} {n1 n2 : List ByteArray} (h1 : (RightE l ∧ n1 = aboveL l a) ∨ (¬ RightE l ∧ n1 = [])) (h2 : (RightE l ∧ n2 = belL l b l) ∨ (¬ RightE l ∧ n2 = [])) : anyB n1 b = anyB n2 a ∧ (anyB n1 b = true → a ≠ b) := by
  rcases h1 with ⟨hr, rfl⟩ | ⟨hr, rfl⟩
  · rcases h2 with ⟨_, rfl⟩ | ⟨h, _⟩
    · have hiff : anyB (aboveL l a) b = true ↔ anyB (belL l b l) a = true := by
        rw [any_mem, any_mem]
        constructor
        · intro h
          obtain ⟨x, hx, he⟩ := chain_has h
          exact List.mem_map.2 ⟨x, List.mem_filter.2 ⟨hx, isBel_yes (by rw [he]; exact h)⟩, he⟩
        · intro h
          obtain ⟨x, hx, he⟩ := List.mem_map.1 h
          have hb := (List.mem_filter.1 hx).2
          have hb2 : b ∈ chain l l.length x.1 := by simpa [isBel] using hb
          rw [he] at hb2
          exact hb2
      refine ⟨Bool.eq_iff_iff.2 hiff, fun h he => hr.2.2.2 ?_⟩
      have hm := any_mem.1 h
      obtain ⟨x, hx, hxa⟩ := chain_has hm
      refine ⟨x, hx, ?_⟩
      rw [hxa]
      rw [← he] at hm
      exact hm
    · exact absurd hr h
  · rcases h2 with ⟨h, _⟩ | ⟨_, rfl⟩
    · exact absurd h hr
    · exact ⟨rfl, fun h => by cases h⟩
set_option maxRecDepth 100000 in
set_option maxHeartbeats 8000000 in
theorem collectBoth_any (ao : Option Addr) (cap : Nat) (l : List Pr) (a b : ByteArray) (w : World) (hm : EdArg w.heap.size w ao l) (hcap : l.length ≤ cap) :
    Calls Try.prog 6 #[.slice ao l.length cap, .string a, .string b] w fun e w' => e = .returned (.bool true) ∧ Below w.heap.size w w' := by
  have HF := hide (few_any ao cap l w hm hcap)
  clear hm
  obtain ⟨m0, hm0⟩ : ∃ m0, l.length = m0 := ⟨_, rfl⟩
  rw [hm0] at HF ⊢
  clear hm0 hcap
  go_enter Try.func6, Try.ntmps6
  go_wp2_with (go_at_call 9; refine HF.out.mono ?_; rintro e w0 ⟨⟨ao', l', rfl, hE, hc⟩, hw0⟩; rw [hw0]; clear hw0; refine stopHere ?_)
  unfold Hid
  have HA := hide (above_any ao' cap l' a w hE)
  obtain ⟨m, hml⟩ : ∃ m, l'.length = m := ⟨_, rfl⟩
  have HE := hide (And.intro hE hml)
  rw [hml] at HA ⊢
  clear hE hml hc HF
  go_wp2_with fail
  refine HA.out.mono ?_
  rintro e w1 ⟨v1, n1, rfl, y1, h1, b1⟩
  have HB := hide (below_any ao' cap l' b w1 ((HE.out.1.below b1).more b1.size))
  rw [HE.out.2] at HB
  obtain ⟨k1, hk1⟩ : ∃ k1, n1.length = k1 := ⟨_, rfl⟩
  rw [hk1] at y1
  obtain ⟨ga1, gc1, rfl⟩ := own_shape y1
  have H1 := hide (And.intro y1 (And.intro h1 (And.intro b1 hk1)))
  clear y1 h1 b1 hk1 HA
  go_wp2_with fail
  refine HB.out.mono ?_
  rintro e w2 ⟨v2, n2, rfl, y2, h2, b2⟩
  obtain ⟨k2, hk2⟩ : ∃ k2, n2.length = k2 := ⟨_, rfl⟩
  rw [hk2] at y2
  obtain ⟨ga2, gc2, rfl⟩ := own_shape y2
  obtain ⟨hsm, hne⟩ := both_same H1.out.2.1 h2
  have y1 := own_same H1.out.1 (fun g e => b2.block g (own_lt H1.out.1 g e))
  have H2 := hide (And.intro y1 (And.intro y2 (And.intro (H1.out.2.2.1.trans (b2.mono H1.out.2.2.1.size)) (And.intro hk2 (And.intro hsm hne)))))
  have hl6 := HE.out.1.1
  have hq1 : k1 ≤ 1000000 := by
    rw [← H1.out.2.2.2]
    rcases H1.out.2.1 with ⟨_, h⟩ | ⟨_, h⟩
    · rw [h]
      exact Nat.le_trans (chain_len _ _ _) hl6
    · rw [h]
      simp
  have hq2 : k2 ≤ 1000000 := by
    rw [← hk2]
    rcases h2 with ⟨_, h⟩ | ⟨_, h⟩
    · rw [h]
      exact Nat.le_trans (bel_len _ _ _) hl6
    · rw [h]
      simp
  clear y1 y2 h2 b2 hk2 hsm hne HB hl6
  go_wp2_with fail
  go_loopw [7, 11] (fun u i wr => ∃ k : Nat, k ≤ k1 ∧ i = .int .i64 k ∧ u = .bool (anyB (n1.take k) b) ∧ wr = w2) (fun _ i _ => k1 - (intOf i).toNat)
  case atStart => exact ⟨0, Nat.zero_le _, rfl, rfl, rfl⟩
  case round =>
    obtain ⟨k, hk, rfl, rfl, rfl⟩ := hrel
    have hw1 : IntKind.i64.wrap ((k : Int) + 1) = k + 1 := by rw [IntKind.wrap_i64]; omega
    by_cases hlt : k < k1
    · have hlti : (k : Int) < k1 := by omega
      obtain ⟨x, hx⟩ : ∃ x, n1[k]? = some x := ⟨n1[k]'(by have := H1.out.2.2.2; omega), by simp⟩
      obtain ⟨g, gc, e1, c0⟩ := row_str H2.out.1 hx
      cases e1
      have hst := any_step (b := b) hx
      cases hu : anyB (n1.take k) b with
      | true =>
        rw [hu, Bool.true_or] at hst
        have HST := hide hst
        clear hst hx
        go_wp2_with fail
        exact ⟨⟨k + 1, by omega, by simp, by rw [HST.out], trivial⟩, by simp [intOf]; omega⟩
      | false =>
        rw [hu, Bool.false_or] at hst
        by_cases he : x = b
        · have hq := txt_eq he
          rw [decide_eq_true he] at hst
          have HST := hide hst
          clear hst hx he
          go_wp2_with fail
          exact ⟨⟨k + 1, by omega, by simp, by rw [HST.out], trivial⟩, by simp [intOf]; omega⟩
        · have hq := txt_ne he
          rw [decide_eq_false he] at hst
          have HST := hide hst
          clear hst hx he
          go_wp2_with fail
          exact ⟨⟨k + 1, by omega, by simp, by rw [HST.out], trivial⟩, by simp [intOf]; omega⟩
    · obtain rfl : k = k1 := by omega
      have hlti : ¬ ((k : Int) < k) := by omega
      rw [List.take_of_length_le (by have := H1.out.2.2.2; omega)]
      obtain ⟨u, hu⟩ : ∃ u, anyB n1 b = u := ⟨_, rfl⟩
      rw [hu]
      have HU := hide hu
      clear hu
      go_wp2_with fail
      go_loopw [8, 12] (fun d i wx => ∃ j : Nat, j ≤ k2 ∧ i = .int .i64 j ∧ d = .bool (anyB (n2.take j) a) ∧ wx = wr) (fun _ i _ => k2 - (intOf i).toNat)
      case atStart => exact ⟨0, Nat.zero_le _, rfl, rfl, rfl⟩
      case round =>
        obtain ⟨j, hj, rfl, rfl, rfl⟩ := hrel
        have hw2 : IntKind.i64.wrap ((j : Int) + 1) = j + 1 := by rw [IntKind.wrap_i64]; omega
        by_cases hlt2 : j < k2
        · have hlti2 : (j : Int) < k2 := by omega
          obtain ⟨x, hx⟩ : ∃ x, n2[j]? = some x := ⟨n2[j]'(by have := H2.out.2.2.2.1; omega), by simp⟩
          obtain ⟨g, gc, e1, c0⟩ := row_str H2.out.2.1 hx
          cases e1
          have hst := any_step (b := a) hx
          cases hv : anyB (n2.take j) a with
          | true =>
            rw [hv, Bool.true_or] at hst
            have HST := hide hst
            clear hst hx
            go_wp2_with fail
            exact ⟨⟨j + 1, by omega, by simp, by rw [HST.out], trivial⟩, by simp [intOf]; omega⟩
          | false =>
            rw [hv, Bool.false_or] at hst
            by_cases he : x = a
            · have hq := txt_eq he
              rw [decide_eq_true he] at hst
              have HST := hide hst
              clear hst hx he
              go_wp2_with fail
              exact ⟨⟨j + 1, by omega, by simp, by rw [HST.out], trivial⟩, by simp [intOf]; omega⟩
            · have hq := txt_ne he
              rw [decide_eq_false he] at hst
              have HST := hide hst
              clear hst hx he
              go_wp2_with fail
              exact ⟨⟨j + 1, by omega, by simp, by rw [HST.out], trivial⟩, by simp [intOf]; omega⟩
        · obtain rfl : j = k2 := by omega
          have hlti2 : ¬ ((j : Int) < j) := by omega
          rw [List.take_of_length_le (by have := H2.out.2.2.2.1; omega), ← H2.out.2.2.2.2.1, HU.out]
          have HLV := hide fun V => live_any V
          cases u with
          | true =>
            have hne := H2.out.2.2.2.2.2 HU.out
            have hq := txt_ne hne
            clear hne
            go_wp2_with (go_at_call 14; refine (HLV.out _).mono ?_; rintro e w5 ⟨rfl, b5⟩)
            go_ret
            exact ⟨rfl, H2.out.2.2.1.trans (b5.mono H2.out.2.2.1.size)⟩
          | false =>
            go_wp2_with (go_at_call 14; refine (HLV.out _).mono ?_; rintro e w5 ⟨rfl, b5⟩)
            go_ret
            exact ⟨rfl, H2.out.2.2.1.trans (b5.mono H2.out.2.2.1.size)⟩
end Go.Proofs.Ythhabbfhhkkkaaa
