/- Below. -/
import Derived.Test.YtlafjddidlofcaaC11
namespace Go.Proofs.Ytlafjddidlofcaa
open Go.RowKit Go.Shelf

theorem stopHere {p : Prop} (h : Hid p) : p := h
def isBel (l : List Pr) (t : ByteArray) (x : Pr) : Bool := (chain l l.length x.1).any fun y => decide (y = t)
theorem isBel_yes {l : List Pr} {t : ByteArray} {x : Pr} (h : t ∈ chain l l.length x.1) : isBel l t x = true := by simpa [isBel] using h
theorem isBel_no {l : List Pr} {t : ByteArray} {x : Pr} (h : t ∉ chain l l.length x.1) : isBel l t x = false := by
  cases hq : isBel l t x with
  | false => rfl
  | true => exact absurd (by simpa [isBel] using hq) h
/-- Those below a name. -/
def belL (l : List Pr) (t : ByteArray) (q : List Pr) : List ByteArray := (q.filter (isBel l t)).map (·.1)
theorem bel_yes {l q : List Pr} {t : ByteArray} {x : Pr} (h : isBel l t x = true) : belL l t (q ++ [x]) = belL l t q ++ [x.1] := by simp [belL, h]
theorem bel_no {l q : List Pr} {t : ByteArray} {x : Pr} (h : isBel l t x = false) : belL l t (q ++ [x]) = belL l t q := by simp [belL, h]
theorem bel_len (l q : List Pr) (t : ByteArray) : (belL l t q).length ≤ q.length := by
  unfold belL
  rw [List.length_map]
  exact List.length_filter_le _ _
def belV (g1 g2 : Nat) : Value := .func (.func 40) #[] #[.pointer (some ⟨g1, 0, none⟩), .pointer (some ⟨g2, 0, none⟩)]
set_option maxRecDepth 100000 in
set_option maxHeartbeats 1000000 in
theorem below1_any (ao : Option Addr) (cap : Nat) (l : List Pr) (t : ByteArray) (x : Pr) (g1 g2 : Nat) (w : World) (hm : EdMem w.heap.size w ao l) (hr : Rising l) (k1 : w.heap[g1]? = some (.cells #[.slice ao l.length cap] 22)) (k2 : w.heap[g2]? = some (.cells #[.string t] 9)) :
    Calls Try.prog 40 #[.agg #[.string x.1, .string x.2], .pointer (some ⟨g1, 0, none⟩), .pointer (some ⟨g2, 0, none⟩)] w fun e w' => e = .returned (.bool (isBel l t x)) ∧ Below w.heap.size w w' := by
  obtain ⟨W, hW, f1, z1, hB1⟩ := ed_box w x
  obtain ⟨x0, x1⟩ := two_at f1
  have c1 := one_cell ((hB1.block g1 (hp_lt k1)).trans k1)
  have c2 := one_cell ((hB1.block g2 (hp_lt k2)).trans k2)
  have HA := hide (isAbove_any ao cap l x.1 t W ((hm.below hB1).more hB1.size) hr)
  have HB := hide hB1
  obtain ⟨m, hml⟩ : ∃ m, l.length = m := ⟨_, rfl⟩
  have HL := hide hml
  rw [hml] at HA c1
  clear hm hr k1 k2 f1 hB1 hml
  go_enter Try.func40, Try.ntmps40
  go_wp2_with (go_at_call 27; refine HA.out.mono ?_; rintro e w1 ⟨h | h, b1⟩ <;> obtain ⟨hn, rfl⟩ := h)
  · go_ret
    refine ⟨?_, HB.out.trans (b1.mono HB.out.size)⟩
    rw [show isBel l t x = true from isBel_yes (by rw [HL.out]; exact hn)]
    rfl
  · go_ret
    refine ⟨?_, HB.out.trans (b1.mono HB.out.size)⟩
    rw [show isBel l t x = false from isBel_no (by rw [HL.out]; exact hn)]
    rfl
set_option maxRecDepth 100000 in
set_option maxHeartbeats 4000000 in
theorem childrenB_any (ao : Option Addr) (cap : Nat) (l : List Pr) (t : ByteArray) (g1 g2 : Nat) (w : World) (hm : EdMem w.heap.size w ao l) (k1 : w.heap[g1]? = some (.cells #[.slice ao l.length cap] 22)) (k2 : w.heap[g2]? = some (.cells #[.string t] 9)) :
    Calls Try.prog 36 #[.slice ao l.length cap, belV g1 g2] w fun e w' => ∃ v ns, e = .returned v ∧ w'.ownsRow w.heap.size 9 1 v ns.length (strC ns) ∧ ((RightE l ∧ ns = belL l t l) ∨ (¬ RightE l ∧ ns = [])) ∧ Below w.heap.size w w' := by
  have HR := hide (right_any ao cap l w hm)
  have hlen := hm.1
  obtain ⟨m, hml⟩ : ∃ m, l.length = m := ⟨_, rfl⟩
  have HM := hide (And.intro hm (And.intro k1 (And.intro k2 hml)))
  have kl1 := hp_lt k1
  have kl2 := hp_lt k2
  rw [hml] at HR hlen ⊢
  clear hm hml k1 k2
  unfold belV
  go_enter Try.func36, Try.ntmps36
  go_wp2_with (go_at_call 15; refine HR.out.mono ?_; rintro e w1 ⟨h | h, b1⟩ <;> obtain ⟨hn, rfl⟩ := h)
  · have hz1 := b1.size
    have HN := hide (And.intro hn b1)
    clear hn b1 HR
    go_loopw [5, 13] (fun v i wr => ∃ k : Nat, k ≤ m ∧ i = .int .i64 k ∧ wr.ownsRow w.heap.size 9 1 v (belL l t (l.take k)).length (strC (belL l t (l.take k))) ∧ Below w.heap.size w wr) (fun _ i _ => m - (intOf i).toNat)
    case atStart => exact ⟨0, Nat.zero_le _, rfl, World.ownsRow_nil _ _ _ _, HN.out.2⟩
    case round =>
      obtain ⟨k, hk, rfl, hrow, hbw⟩ := hrel
      have hw1 : IntKind.i64.wrap ((k : Int) + 1) = k + 1 := by rw [IntKind.wrap_i64]; omega
      have hwz := hbw.size
      by_cases hlt : k < m
      · have hlti : (k : Int) < m := by omega
        obtain ⟨x, hx⟩ : ∃ x, l[k]? = some x := ⟨l[k]'(by have := HM.out.2.2.2; omega), by simp⟩
        obtain ⟨b, off, rfl, hbl, c0, c1⟩ := (HM.out.1.below hbw).2 k x hx
        obtain ⟨W, hW, f1, z1, hB1⟩ := ed_box wr x
        obtain ⟨x0, x1⟩ := two_at f1
        have hBW : Below w.heap.size w W := hbw.trans (hB1.mono hwz)
        have HC := hide (below1_any (some ⟨b, off, none⟩) cap l t x g1 g2 W ((HM.out.1.below hBW).more hBW.size) HN.out.1.2.2.1 ((hBW.block g1 kl1).trans HM.out.2.1) ((hBW.block g2 kl2).trans HM.out.2.2.1))
        have htk : l.take (k + 1) = l.take k ++ [x] := by rw [List.take_add_one, hx]; rfl
        have hrW := own_same hrow (fun g e => hB1.block g (own_lt hrow g e))
        have hbl2 := bel_len l (l.take k) t
        rw [List.length_take] at hbl2
        obtain ⟨n4, hn4⟩ : ∃ n4, (belL l t (l.take k)).length = n4 := ⟨_, rfl⟩
        rw [hn4] at hrW hbl2
        have hs4 := own_shape hrW
        obtain ⟨ga4, gc4, rfl⟩ := hs4
        have HI := hide (And.intro hrW (And.intro hBW (And.intro htk (And.intro hn4 f1))))
        clear hrow hbw hx hB1 hBW htk hrW hn4 f1
        cases hq : isBel l t x with
        | false =>
          rw [hq] at HC
          go_wp2_with (go_at_call 40; refine HC.out.mono ?_; rintro e w2 ⟨rfl, b2⟩)
          refine ⟨⟨k + 1, by omega, by simp, ?_, HI.out.2.1.trans (b2.mono HI.out.2.1.size)⟩, by simp [intOf]; omega⟩
          rw [HI.out.2.2.1, bel_no hq, HI.out.2.2.2.1]
          exact own_same HI.out.1 (fun g e => b2.block g (own_lt HI.out.1 g e))
        | true =>
          rw [hq] at HC
          go_wp2_with (go_at_call 40; refine HC.out.mono ?_; rintro e w2 ⟨rfl, b2⟩; refine stopHere ?_)
          unfold Hid
          obtain ⟨y0, y1⟩ := two_at ((b2.block _ (hp_lt HI.out.2.2.2.2)).trans HI.out.2.2.2.2)
          have hz2 := b2.size
          have hr2 := own_same HI.out.1 (fun g e => b2.block g (own_lt HI.out.1 g e))
          have hB2 : Below w.heap.size w w2 := HI.out.2.1.trans (b2.mono HI.out.2.1.size)
          obtain ⟨W3, hW3⟩ : ∃ W3, w2.alloc (.cells #[.string x.1] 9) = W3 := ⟨_, rfl⟩
          have hB3 : Below w2.heap.size w2 W3 := by rw [← hW3]; exact (Below.refl _ w2).alloc (Nat.le_refl _) _
          have hc3 := cell_one_new w2 (.string x.1) 9
          rw [hW3] at hc3
          obtain ⟨ti, t1, t2, t3, t4⟩ := info_parts info9
          have hz3 := hB3.size
          have hz0 := hB2.size
          obtain ⟨v', w4, hap, q1, q2, _, _⟩ := run_append_own_at (P := Try.prog) W3 w.heap.size 35 35 9 ti _ 1 16 Try.underlying35 t1 t2 t3 t4 rfl (by omega) (.slice ga4 n4 gc4) n4 (strC (belL l t (l.take k))) (own_same hr2 (fun g e => hB3.block g (own_lt hr2 g e))) ⟨w2.heap.size, 0, none⟩ 1 1 [.string x.1] rfl hc3 (by simp [Value.oneCell']) (by unfold maxLen; omega) (by omega) (by omega)
          have hB4 : Below w.heap.size w w4 := (hB2.trans (hB3.mono hz0)).grown q2 (by omega) (fun r e => own_base hr2 r e)
          obtain ⟨n5, hn5⟩ : ∃ n5, n4 + 1 = n5 := ⟨_, rfl⟩
          rw [hn5] at q1
          obtain ⟨ga5, gc5, rfl⟩ := own_shape q1
          have HX := hide (And.intro q1 hB4)
          have HAp := hide hap
          clear q1 q2 hB4 hap hB2 hB3 hr2 t1 t2 t3 t4 hc3 b2 HC
          go_wp2_with (at_builtin; refine l_val rfl _ (ex_append2 (t := 35) (t' := 35) rfl rfl rfl HAp.out) ?_)
          refine ⟨⟨k + 1, by omega, by simp, ?_, HX.out.2⟩, by simp [intOf]; omega⟩
          have hln : (belL l t (l.take (k + 1))).length = n5 := by rw [HI.out.2.2.1, bel_yes hq, List.length_append, HI.out.2.2.2.1]; simpa using hn5
          rw [hln, HI.out.2.2.1, bel_yes hq, show strC (belL l t (l.take k) ++ [x.1]) = strC (belL l t (l.take k)) ++ [Value.string x.1] by simp [strC]]
          exact HX.out.1
      · obtain rfl : k = m := by omega
        have hlti : ¬ ((k : Int) < k) := by omega
        rw [List.take_of_length_le (by have := HM.out.2.2.2; omega)] at hrow
        obtain ⟨n4, hn4⟩ : ∃ n4, (belL l t l).length = n4 := ⟨_, rfl⟩
        rw [hn4] at hrow
        obtain ⟨ga4, gc4, rfl⟩ := own_shape hrow
        have HI := hide (And.intro hrow (And.intro hbw hn4))
        clear hrow hbw hn4
        go_wp2_with fail
        go_ret
        exact ⟨_, rfl, belL l t l, by rw [HI.out.2.2]; exact HI.out.1, .inl ⟨HN.out.1, rfl⟩, HI.out.2.1⟩
  · go_ret
    exact ⟨_, [], rfl, World.ownsRow_nil _ _ _ _, .inr ⟨hn, rfl⟩, b1⟩
set_option maxRecDepth 100000 in
set_option maxHeartbeats 1000000 in
theorem below_any (ao : Option Addr) (cap : Nat) (l : List Pr) (t : ByteArray) (w : World) (hm : EdMem w.heap.size w ao l) :
    Calls Try.prog 24 #[.slice ao l.length cap, .string t] w fun e w' => ∃ v ns, e = .returned v ∧ w'.ownsRow w.heap.size 9 1 v ns.length (strC ns) ∧ ((RightE l ∧ ns = belL l t l) ∨ (¬ RightE l ∧ ns = [])) ∧ Below w.heap.size w w' := by
  have hmf := hmf
  obtain ⟨Wa, hWa⟩ : ∃ Wa, (w.alloc (.cells #[.slice ao l.length cap] 22)).alloc (.cells #[.string t] 9) = Wa := ⟨_, rfl⟩
  have hBa : Below w.heap.size w Wa := by rw [← hWa]; exact ((Below.refl _ w).alloc (Nat.le_refl _) _).alloc (by simp) _
  have a0 : Wa.heap[w.heap.size]? = some (.cells #[.slice ao l.length cap] 22) := by rw [← hWa]; exact (Below.heap_alloc _ _ _ (by simp)).trans (heap_alloc_new w _)
  have a1 : Wa.heap[w.heap.size + 1]? = some (.cells #[.string t] 9) := by
    rw [← hWa]
    have := heap_alloc_new (w.alloc (.cells #[.slice ao l.length cap] 22)) (.cells #[.string t] 9)
    simpa using this
  have HC := hide (childrenB_any ao cap l t w.heap.size (w.heap.size + 1) Wa ((hm.below hBa).more hBa.size) a0 a1)
  have c0 := one_cell a0
  obtain ⟨m, hml⟩ : ∃ m, l.length = m := ⟨_, rfl⟩
  have HB := hide hBa
  rw [hml] at HC c0 hWa ⊢
  unfold belV at HC
  clear hm a0 a1 hBa hml
  go_enter Try.func24, Try.ntmps24
  go_wp2_with (go_at_call 36; refine HC.out.mono ?_; rintro e w1 ⟨v, ns, rfl, y1, h, b1⟩)
  go_ret
  exact ⟨v, ns, rfl, own_less y1 HB.out.size, h, HB.out.trans (b1.mono HB.out.size)⟩
end Go.Proofs.Ytlafjddidlofcaa
