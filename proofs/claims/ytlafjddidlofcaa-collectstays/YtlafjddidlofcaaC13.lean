/- Kids. -/
import Derived.Test.YtlafjddidlofcaaC12
namespace Go.Proofs.Ytlafjddidlofcaa
open Go.RowKit Go.Shelf

def isKid (t : ByteArray) (x : Pr) : Bool := decide (x.2 = t)
/-- Those right in a collection. -/
def kidL (t : ByteArray) (q : List Pr) : List ByteArray := (q.filter (isKid t)).map (·.1)
theorem kid_yes {q : List Pr} {t : ByteArray} {x : Pr} (h : isKid t x = true) : kidL t (q ++ [x]) = kidL t q ++ [x.1] := by simp [kidL, h]
theorem kid_no {q : List Pr} {t : ByteArray} {x : Pr} (h : isKid t x = false) : kidL t (q ++ [x]) = kidL t q := by simp [kidL, h]
theorem kid_len (q : List Pr) (t : ByteArray) : (kidL t q).length ≤ q.length := by
  unfold kidL
  rw [List.length_map]
  exact List.length_filter_le _ _
def kidV (g : Nat) : Value := .func (.func 37) #[] #[.pointer (some ⟨g, 0, none⟩)]
set_option maxRecDepth 100000 in
set_option maxHeartbeats 1000000 in
theorem kids1_any (t : ByteArray) (x : Pr) (g : Nat) (w : World) (k2 : w.heap[g]? = some (.cells #[.string t] 9)) :
    Calls Try.prog 37 #[.agg #[.string x.1, .string x.2], .pointer (some ⟨g, 0, none⟩)] w fun e w' => e = .returned (.bool (isKid t x)) ∧ Below w.heap.size w w' := by
  obtain ⟨W, hW, f1, z1, hB1⟩ := ed_box w x
  obtain ⟨x0, x1⟩ := two_at f1
  have c2 := one_cell ((hB1.block g (hp_lt k2)).trans k2)
  have HB := hide hB1
  clear k2 f1 hB1
  by_cases he : x.2 = t
  · have hq := txt_eq he
    have hk : isKid t x = true := decide_eq_true he
    rw [hk]
    clear he
    go_enter Try.func37, Try.ntmps37
    go_wp2_with fail
    go_ret
    exact ⟨rfl, HB.out⟩
  · have hq := txt_ne he
    have hk : isKid t x = false := decide_eq_false he
    rw [hk]
    clear he
    go_enter Try.func37, Try.ntmps37
    go_wp2_with fail
    go_ret
    exact ⟨rfl, HB.out⟩
set_option maxRecDepth 100000 in
set_option maxHeartbeats 4000000 in
theorem childrenK_any (ao : Option Addr) (cap : Nat) (l : List Pr) (t : ByteArray) (g2 : Nat) (w : World) (hm : EdMem w.heap.size w ao l) (k2 : w.heap[g2]? = some (.cells #[.string t] 9)) :
    Calls Try.prog 36 #[.slice ao l.length cap, kidV g2] w fun e w' => ∃ v ns, e = .returned v ∧ w'.ownsRow w.heap.size 9 1 v ns.length (strC ns) ∧ ((RightE l ∧ ns = kidL t l) ∨ (¬ RightE l ∧ ns = [])) ∧ Below w.heap.size w w' := by
  have HR := hide (right_any ao cap l w hm)
  have hlen := hm.1
  obtain ⟨m, hml⟩ : ∃ m, l.length = m := ⟨_, rfl⟩
  have HM := hide (And.intro hm (And.intro k2 hml))
  have kl2 := hp_lt k2
  rw [hml] at HR hlen ⊢
  clear hm hml k2
  unfold kidV
  go_enter Try.func36, Try.ntmps36
  go_wp2_with (go_at_call 15; refine HR.out.mono ?_; rintro e w1 ⟨h | h, b1⟩ <;> obtain ⟨hn, rfl⟩ := h)
  · have hz1 := b1.size
    have HN := hide (And.intro hn b1)
    clear hn b1 HR
    go_loopw [5, 13] (fun v i wr => ∃ k : Nat, k ≤ m ∧ i = .int .i64 k ∧ wr.ownsRow w.heap.size 9 1 v (kidL t (l.take k)).length (strC (kidL t (l.take k))) ∧ Below w.heap.size w wr) (fun _ i _ => m - (intOf i).toNat)
    case atStart => exact ⟨0, Nat.zero_le _, rfl, World.ownsRow_nil _ _ _ _, HN.out.2⟩
    case round =>
      obtain ⟨k, hk, rfl, hrow, hbw⟩ := hrel
      have hw1 : IntKind.i64.wrap ((k : Int) + 1) = k + 1 := by rw [IntKind.wrap_i64]; omega
      have hwz := hbw.size
      by_cases hlt : k < m
      · have hlti : (k : Int) < m := by omega
        obtain ⟨x, hx⟩ : ∃ x, l[k]? = some x := ⟨l[k]'(by have := HM.out.2.2; omega), by simp⟩
        obtain ⟨b, off, rfl, hbl, c0, c1⟩ := (HM.out.1.below hbw).2 k x hx
        obtain ⟨W, hW, f1, z1, hB1⟩ := ed_box wr x
        obtain ⟨x0, x1⟩ := two_at f1
        have hBW : Below w.heap.size w W := hbw.trans (hB1.mono hwz)
        have HC := hide (kids1_any t x g2 W ((hBW.block g2 kl2).trans HM.out.2.1))
        have htk : l.take (k + 1) = l.take k ++ [x] := by rw [List.take_add_one, hx]; rfl
        have hrW := own_same hrow (fun g e => hB1.block g (own_lt hrow g e))
        have hbl2 := kid_len (l.take k) t
        rw [List.length_take] at hbl2
        obtain ⟨n4, hn4⟩ : ∃ n4, (kidL t (l.take k)).length = n4 := ⟨_, rfl⟩
        rw [hn4] at hrW hbl2
        have hs4 := own_shape hrW
        obtain ⟨ga4, gc4, rfl⟩ := hs4
        have HI := hide (And.intro hrW (And.intro hBW (And.intro htk (And.intro hn4 f1))))
        clear hrow hbw hx hB1 hBW htk hrW hn4 f1
        cases hq : isKid t x with
        | false =>
          rw [hq] at HC
          go_wp2_with (go_at_call 37; refine HC.out.mono ?_; rintro e w2 ⟨rfl, b2⟩)
          refine ⟨⟨k + 1, by omega, by simp, ?_, HI.out.2.1.trans (b2.mono HI.out.2.1.size)⟩, by simp [intOf]; omega⟩
          rw [HI.out.2.2.1, kid_no hq, HI.out.2.2.2.1]
          exact own_same HI.out.1 (fun g e => b2.block g (own_lt HI.out.1 g e))
        | true =>
          rw [hq] at HC
          go_wp2_with (go_at_call 37; refine HC.out.mono ?_; rintro e w2 ⟨rfl, b2⟩; refine stopHere ?_)
          unfold Hid
          obtain ⟨y0, y1⟩ := two_at ((b2.block _ (hp_lt HI.out.2.2.2.2)).trans HI.out.2.2.2.2)
          have hz2 := b2.size
          have hr2 := own_same HI.out.1 (fun g e => b2.block g (own_lt HI.out.1 g e))
          have hB2 : Below w.heap.size w w2 := HI.out.2.1.trans (b2.mono HI.out.2.1.size)
          obtain ⟨W3, hW3⟩ : ∃ W3, w2.alloc (.cells #[.string x.1] 9) = W3 := ⟨_, rfl⟩
          have hB3 : Below w2.heap.size w2 W3 := by rw [← hW3]; exact (Below.refl _ w2).alloc (Nat.le_refl _) _
          have hc3 := cell_one_new w2 (.string x.1) 9
          rw [hW3] at hc3
          obtain ⟨ti, t1, t2, t3, t4⟩ := info_parts info9
          have hz3 := hB3.size
          have hz0 := hB2.size
          obtain ⟨v', w4, hap, q1, q2, _, _⟩ := run_append_own_at (P := Try.prog) W3 w.heap.size 35 35 9 ti _ 1 16 Try.underlying35 t1 t2 t3 t4 rfl (by omega) (.slice ga4 n4 gc4) n4 (strC (kidL t (l.take k))) (own_same hr2 (fun g e => hB3.block g (own_lt hr2 g e))) ⟨w2.heap.size, 0, none⟩ 1 1 [.string x.1] rfl hc3 (by simp [Value.oneCell']) (by unfold maxLen; omega) (by omega) (by omega)
          have hB4 : Below w.heap.size w w4 := (hB2.trans (hB3.mono hz0)).grown q2 (by omega) (fun r e => own_base hr2 r e)
          obtain ⟨n5, hn5⟩ : ∃ n5, n4 + 1 = n5 := ⟨_, rfl⟩
          rw [hn5] at q1
          obtain ⟨ga5, gc5, rfl⟩ := own_shape q1
          have HX := hide (And.intro q1 hB4)
          have HAp := hide hap
          clear q1 q2 hB4 hap hB2 hB3 hr2 t1 t2 t3 t4 hc3 b2 HC
          go_wp2_with (at_builtin; refine l_val rfl _ (ex_append2 (t := 35) (t' := 35) rfl rfl rfl HAp.out) ?_)
          refine ⟨⟨k + 1, by omega, by simp, ?_, HX.out.2⟩, by simp [intOf]; omega⟩
          have hln : (kidL t (l.take (k + 1))).length = n5 := by rw [HI.out.2.2.1, kid_yes hq, List.length_append, HI.out.2.2.2.1]; simpa using hn5
          rw [hln, HI.out.2.2.1, kid_yes hq, show strC (kidL t (l.take k) ++ [x.1]) = strC (kidL t (l.take k)) ++ [Value.string x.1] by simp [strC]]
          exact HX.out.1
      · obtain rfl : k = m := by omega
        have hlti : ¬ ((k : Int) < k) := by omega
        rw [List.take_of_length_le (by have := HM.out.2.2; omega)] at hrow
        obtain ⟨n4, hn4⟩ : ∃ n4, (kidL t l).length = n4 := ⟨_, rfl⟩
        rw [hn4] at hrow
        obtain ⟨ga4, gc4, rfl⟩ := own_shape hrow
        have HI := hide (And.intro hrow (And.intro hbw hn4))
        clear hrow hbw hn4
        go_wp2_with fail
        go_ret
        exact ⟨_, rfl, kidL t l, by rw [HI.out.2.2]; exact HI.out.1, .inl ⟨HN.out.1, rfl⟩, HI.out.2.1⟩
  · go_ret
    exact ⟨_, [], rfl, World.ownsRow_nil _ _ _ _, .inr ⟨hn, rfl⟩, b1⟩
set_option maxRecDepth 100000 in
set_option maxHeartbeats 1000000 in
theorem kids_any (ao : Option Addr) (cap : Nat) (l : List Pr) (t : ByteArray) (w : World) (hm : EdMem w.heap.size w ao l) :
    Calls Try.prog 20 #[.slice ao l.length cap, .string t] w fun e w' => ∃ v ns, e = .returned v ∧ w'.ownsRow w.heap.size 9 1 v ns.length (strC ns) ∧ ((RightE l ∧ ns = kidL t l) ∨ (¬ RightE l ∧ ns = [])) ∧ Below w.heap.size w w' := by
  have hmf := hmf
  obtain ⟨Wa, hWa⟩ : ∃ Wa, w.alloc (.cells #[.string t] 9) = Wa := ⟨_, rfl⟩
  have hBa : Below w.heap.size w Wa := by rw [← hWa]; exact (Below.refl _ w).alloc (Nat.le_refl _) _
  have a1 : Wa.heap[w.heap.size]? = some (.cells #[.string t] 9) := by rw [← hWa]; exact heap_alloc_new w _
  have HC := hide (childrenK_any ao cap l t w.heap.size Wa ((hm.below hBa).more hBa.size) a1)
  obtain ⟨m, hml⟩ : ∃ m, l.length = m := ⟨_, rfl⟩
  have HB := hide hBa
  rw [hml] at HC ⊢
  unfold kidV at HC
  clear hm a1 hBa hml
  go_enter Try.func20, Try.ntmps20
  go_wp2_with (go_at_call 36; refine HC.out.mono ?_; rintro e w1 ⟨v, ns, rfl, y1, h, b1⟩)
  go_ret
  exact ⟨v, ns, rfl, own_less y1 HB.out.size, h, HB.out.trans (b1.mono HB.out.size)⟩
end Go.Proofs.Ytlafjddidlofcaa
