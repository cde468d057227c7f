/- The document's Remove, Add. -/
import Derived.Test.YtlafjddidlofcaaC16
import Derived.Test.YtlafjddidlofcaaCS
namespace Go.Proofs.Ytlafjddidlofcaa
open Go.RowKit Go.Shelf

/-- An edge behind others. -/
theorem push_ed {wr : World} {base k : Nat} {v : Value} {L : List Pr} {T : TypeId} (x : Pr) (hn : L.length = k) (hrow : wr.ownsRow base 47 2 v k (edC L)) (hb : base ≤ wr.heap.size) (hk : k ≤ 1000000) :
    ∃ n' ga gc w4, n' = k + 1 ∧ (Builtin.append_ #[22, 22] T #[v, .slice (some ⟨wr.heap.size, 0, none⟩) 1 1]).run Try.prog (wr.alloc (.cells #[.string x.1, .string x.2] 47)) = .ok (.slice ga n' gc) w4 ∧ w4.ownsRow base 47 2 (.slice ga n' gc) n' (edC (L ++ [x])) ∧ Below base wr w4 := by
  subst hn
  obtain ⟨W, hW, f1, z1, hB1⟩ := ed_box wr x
  rw [hW]
  obtain ⟨g0, g1⟩ := two_at f1
  have hE := one_ed g0 g1 (hp_lt f1)
  have hr2 := own_same hrow (fun g e => hB1.block g (own_lt hrow g e))
  obtain ⟨v', w4, hap, q1, q2⟩ := append_ed (T := T) (cap := 1) hr2 hE (Nat.le_trans hb hB1.size) (by simp; omega)
  have hz1 := hB1.size
  have hB4 : Below base wr w4 := (hB1.mono hb).grown q2 (by omega) (fun r e => own_base hrow r e)
  obtain ⟨ga, gc, rfl⟩ := own_shape q1
  have hl : (L ++ [(x.1, x.2)]).length = L.length + 1 := by simp
  rw [hl] at hap q1
  exact ⟨L.length + 1, ga, gc, w4, rfl, hap, q1, hB4⟩
theorem del_step {l : List Pr} {s : ByteArray} {k : Nat} {x : Pr} (hx : l[k]? = some x) : delM (l.take (k + 1)) s = delM (l.take k) s ++ (if x.1 = s then [] else [x]) := by
  rw [List.take_add_one, hx]
  unfold delM
  rw [List.filter_append]
  by_cases h : x.1 = s <;> simp [h]
theorem del_len (l : List Pr) (s : ByteArray) : (delM l s).length ≤ l.length := List.length_filter_le _ _
set_option maxRecDepth 100000 in
set_option maxHeartbeats 4000000 in
theorem rRemove_any (ao : Option Addr) (cap : Nat) (l : List Pr) (s : ByteArray) (w : World) (hm : EdMem w.heap.size w ao l) :
    Calls Try.prog 12 #[.slice ao l.length cap, .string s] w fun e w' => ∃ v n ns, e = .returned (.tuple #[v, .int .i64 n]) ∧ w'.ownsRow w.heap.size 47 2 v ns.length (edC ns) ∧ ((¬ RightE l ∧ n = 3 ∧ ns = []) ∨ (RightE l ∧ (delM l s).length = l.length ∧ n = 10 ∧ ns = []) ∨ (RightE l ∧ (delM l s).length ≠ l.length ∧ n = 0 ∧ ns = delM l s)) ∧ Below w.heap.size w w' := by
  have hlen := hm.1
  obtain ⟨m, hml⟩ : ∃ m, l.length = m := ⟨_, rfl⟩
  have HM := hide (And.intro hm hml)
  by_cases hr : RightE l
  · have HR := hide (right_true (cap := cap) hm hr)
    rw [hml] at HR hlen ⊢
    have HX := hide hr
    clear hm hml hr
    go_enter Try.func12, Try.ntmps12
    go_wp2_with (go_at_call 16; refine HR.out.mono ?_; rintro e w1 ⟨rfl, b1⟩)
    have H1 := hide b1
    clear b1
    go_loopw [6, 7] (fun v i wr => ∃ k : Nat, k ≤ m ∧ i = .int .i64 k ∧ wr.ownsRow w.heap.size 47 2 v (delM (l.take k) s).length (edC (delM (l.take k) s)) ∧ Below w.heap.size w wr) (fun _ i _ => m - (intOf i).toNat)
    case atStart => exact ⟨0, Nat.zero_le _, rfl, World.ownsRow_nil _ _ _ _, H1.out⟩
    case round =>
      obtain ⟨k, hk, rfl, hrow, hbw⟩ := hrel
      have hw1 : IntKind.i64.wrap ((k : Int) + 1) = k + 1 := by rw [IntKind.wrap_i64]; omega
      have hwz := hbw.size
      by_cases hlt : k < m
      · have hlti : (k : Int) < m := by omega
        obtain ⟨x, hx⟩ : ∃ x, l[k]? = some x := ⟨l[k]'(by have := HM.out.2; omega), by simp⟩
        have hst := del_step (s := s) hx
        have hbl2 := del_len (l.take k) s
        rw [List.length_take] at hbl2
        obtain ⟨b, off, rfl, hbl, c0, c1⟩ := (HM.out.1.below hbw).2 k x hx
        obtain ⟨n4, hn4⟩ : ∃ n4, (delM (l.take k) s).length = n4 := ⟨_, rfl⟩
        rw [hn4] at hrow hbl2
        obtain ⟨ga4, gc4, rfl⟩ := own_shape hrow
        by_cases he : x.1 = s
        · have hq := txt_eq he
          rw [if_pos he, List.append_nil] at hst
          have HI := hide (And.intro hrow (And.intro hbw (And.intro hst hn4)))
          clear hrow hbw hst hn4 hx he
          go_wp2_with fail
          refine ⟨⟨k + 1, by omega, by simp, ?_, HI.out.2.1⟩, by simp [intOf]; omega⟩
          rw [HI.out.2.2.1, HI.out.2.2.2]
          exact HI.out.1
        · have hq := txt_ne he
          rw [if_neg he] at hst
          obtain ⟨n5, ga5, gc5, w4, hn5, hap, q1, q2⟩ := push_ed (T := 22) x hn4 hrow hwz (by omega)
          obtain ⟨W3, HW⟩ : ∃ W3, wr.alloc (.cells #[.string x.1, .string x.2] 47) = W3 := ⟨_, rfl⟩
          rw [HW] at hap
          rw [← hst] at q1
          have hln : (delM (l.take (k + 1)) s).length = n5 := by rw [hst, List.length_append, hn4, hn5]; rfl
          have HI := hide (And.intro q1 (And.intro (hbw.trans q2) hln))
          have HAp := hide hap
          clear hrow hbw hst hn4 hx he q1 q2 hap hn5 hln
          go_wp2_with (first
            | (refine l_val rfl _ (ex_build (us := #[(0, .string x.1), (1, .string x.2)]) rfl (by simp [Act.eval]) (run_edge x.1 x.2 _)) ?_)
            | (refine l_val rfl _ (ex_slice (us := #[(0, .agg #[.string x.1, .string x.2])]) rfl (by simp [Act.eval]) (run_one x.1 x.2 _)) ?_; rw [HW])
            | (at_builtin; refine l_val rfl _ (ex_append2 (t := 22) (t' := 22) rfl rfl rfl HAp.out) ?_))
          refine ⟨⟨k + 1, by omega, by simp, ?_, HI.out.2.1⟩, by simp [intOf]; omega⟩
          rw [HI.out.2.2]
          exact HI.out.1
      · obtain rfl : k = m := by omega
        have hlti : ¬ ((k : Int) < k) := by omega
        rw [List.take_of_length_le (by have := HM.out.2; omega)] at hrow
        obtain ⟨n4, hn4⟩ : ∃ n4, (delM l s).length = n4 := ⟨_, rfl⟩
        rw [hn4] at hrow
        obtain ⟨ga4, gc4, rfl⟩ := own_shape hrow
        have HI := hide (And.intro hrow (And.intro hbw hn4))
        clear hrow hbw hn4
        by_cases hz : n4 = k
        · have hzb : ((n4 : Int) == k) = true := by rw [hz]; simp
          have HZ := hide hz
          clear hz
          go_wp2_with fail
          go_ret2
          exact ⟨_, _, rfl, [], World.ownsRow_nil _ _ _ _, .inr (.inl ⟨HX.out, by rw [HI.out.2.2]; exact HZ.out, rfl, rfl⟩), HI.out.2.1⟩
        · have hzb : ((n4 : Int) == k) = false := by rw [beq_eq_false_iff_ne]; omega
          have HZ := hide hz
          clear hz
          go_wp2_with fail
          go_ret2
          exact ⟨_, _, rfl, delM l s, by rw [HI.out.2.2]; exact HI.out.1, .inr (.inr ⟨HX.out, by rw [HI.out.2.2]; exact HZ.out, rfl, rfl⟩), HI.out.2.1⟩
  · have HR := hide (right_false (cap := cap) hm hr)
    rw [hml] at HR ⊢
    have HX := hide hr
    clear hm hml hr
    go_enter Try.func12, Try.ntmps12
    go_wp2_with (go_at_call 16; refine HR.out.mono ?_; rintro e w1 ⟨rfl, b1⟩)
    go_ret2
    exact ⟨_, _, [], rfl, World.ownsRow_nil _ _ _ _, .inl ⟨HX.out, rfl, rfl⟩, b1⟩
/-- What the loop of Add has so far: nothing placed yet, or the edge among the first ones. -/
def AddL (l : List Pr) (s t : ByteArray) (k : Nat) (p : Bool) (ns : List Pr) : Prop := (p = false ∧ (∀ y ∈ l.take k, y.1.toList < s.toList) ∧ ns = l.take k) ∨ (p = true ∧ (∃ y ∈ l.take k, ¬ y.1.toList < s.toList) ∧ ns = putM (l.take k) s t)
theorem rising_take_any {l : List Pr} (h : Rising l) (k : Nat) : Rising (l.take k) := List.Pairwise.sublist (List.take_sublist k l) h
theorem snoc_rising {L : List Pr} {x : Pr} (h : Rising L) (hx : ∀ y ∈ L, kb y < kb x) : Rising (L ++ [x]) := List.pairwise_append.2 ⟨h, List.pairwise_singleton _ _, fun a ha b hb => by
  simp at hb
  rw [hb]
  exact hx a ha⟩
/-- All ahead of it: behind them. -/
theorem put_last {L : List Pr} {s t : ByteArray} (h : Rising L) (hx : ∀ y ∈ L, y.1.toList < s.toList) : L ++ [(s, t)] = putM L s t := by
  refine putM_is h (snoc_rising h (fun y hy => hx y hy)) (fun y => ?_)
  rw [List.mem_append, List.mem_singleton]
  constructor
  · rintro (hy | hy)
    · exact .inr ⟨hy, fun e => str_irrefl _ (by have := hx y hy; rw [e] at this; exact this)⟩
    · exact .inl hy
  · rintro (hy | ⟨hy, _⟩)
    · exact .inr hy
    · exact .inl hy
/-- One that stands there is put anew. -/
theorem put_same {L : List Pr} {s t : ByteArray} {x : Pr} (h : Rising (L ++ [x])) (hx : ∀ y ∈ L, y.1.toList < s.toList) (he : x.1 = s) : L ++ [(s, t)] = putM (L ++ [x]) s t := by
  have hL := (List.pairwise_append.1 h).1
  refine putM_is h (snoc_rising hL (fun y hy => hx y hy)) (fun y => ?_)
  rw [List.mem_append, List.mem_singleton, List.mem_append, List.mem_singleton]
  constructor
  · rintro (hy | hy)
    · exact .inr ⟨.inl hy, fun e => str_irrefl _ (by have := hx y hy; rw [e] at this; exact this)⟩
    · exact .inl hy
  · rintro (hy | ⟨hy | hy, hne⟩)
    · exact .inr hy
    · exact .inl hy
    · rw [hy] at hne
      exact absurd he hne
/-- One that stands above: the edge ahead of it. -/
theorem put_ahead {L : List Pr} {s t : ByteArray} {x : Pr} (h : Rising (L ++ [x])) (hx : ∀ y ∈ L, y.1.toList < s.toList) (he : s.toList < x.1.toList) : L ++ [(s, t)] ++ [x] = putM (L ++ [x]) s t := by
  have hL := (List.pairwise_append.1 h).1
  have hLx := (List.pairwise_append.1 h).2.2
  refine putM_is h (snoc_rising (snoc_rising hL (fun y hy => hx y hy)) (fun y hy => ?_)) (fun y => ?_)
  · rcases List.mem_append.1 hy with hy | hy
    · exact hLx y hy x (by simp)
    · rw [List.mem_singleton] at hy
      rw [hy]
      exact he
  · rw [List.mem_append, List.mem_append, List.mem_singleton, List.mem_singleton, List.mem_append, List.mem_singleton]
    constructor
    · rintro ((hy | hy) | hy)
      · exact .inr ⟨.inl hy, fun e => str_irrefl _ (by have := hx y hy; rw [e] at this; exact this)⟩
      · exact .inl hy
      · exact .inr ⟨.inr hy, fun e => str_irrefl _ (by rw [hy] at e; rw [e] at he; exact he)⟩
    · rintro (hy | ⟨hy | hy, _⟩)
      · exact .inl (.inr hy)
      · exact .inl (.inl hy)
      · exact .inr hy
/-- What comes behind it stays there. -/
theorem put_behind {L : List Pr} {s t : ByteArray} {x : Pr} (h : Rising (L ++ [x])) (hx : ∃ y ∈ L, ¬ y.1.toList < s.toList) : x.1 ≠ s ∧ putM L s t ++ [x] = putM (L ++ [x]) s t := by
  obtain ⟨z, hz, hzs⟩ := hx
  have hL := (List.pairwise_append.1 h).1
  have hLx : ∀ y ∈ L, kb y < kb x := fun y hy => (List.pairwise_append.1 h).2.2 y hy x (by simp)
  have hsx : s.toList < x.1.toList := by
    by_cases e : z.1.toList = s.toList
    · rw [← e]
      exact hLx z hz
    · exact str_trans (str_total hzs e) (hLx z hz)
  refine ⟨fun e => str_irrefl _ (by rw [e] at hsx; exact hsx), putM_is h (snoc_rising (putM_rising hL s t) (fun y hy => ?_)) (fun y => ?_)⟩
  · rcases mem_putM.1 hy with rfl | ⟨hy, _⟩
    · exact hsx
    · exact hLx y hy
  · rw [List.mem_append, List.mem_singleton, mem_putM, List.mem_append, List.mem_singleton]
    constructor
    · rintro ((hy | ⟨hy, hne⟩) | hy)
      · exact .inl hy
      · exact .inr ⟨.inl hy, hne⟩
      · exact .inr ⟨.inr hy, fun e => str_irrefl _ (by rw [hy] at e; rw [e] at hsx; exact hsx)⟩
    · rintro (hy | ⟨hy | hy, hne⟩)
      · exact .inl (.inl hy)
      · exact .inl (.inr ⟨hy, hne⟩)
      · exact .inr hy
/-- The first part of Add: it may be done. -/
theorem ok_parts {l : List Pr} {s t : ByteArray} : (¬ AddBad l s t ∧ ¬ AddCyc l s t ∧ ¬ (pOf l s = none ∧ 64 ≤ l.length)) ↔ RightE l ∧ s.toList.isEmpty = false ∧ t.toList.isEmpty = false ∧ s ≠ t ∧ s ∉ aboveL l t ∧ ¬ (pOf l s = none ∧ 64 ≤ l.length) := by
  unfold AddBad AddCyc aboveL
  constructor
  · rintro ⟨h1, h2, h3⟩
    exact ⟨Classical.byContradiction fun h => h1 (.inl h), not_empty fun h => h1 (.inr (.inl h)), not_empty fun h => h1 (.inr (.inr h)), fun h => h2 (.inl h), fun h => h2 (.inr h), h3⟩
  · rintro ⟨h1, h2, h3, h4, h5, h6⟩
    refine ⟨fun h => ?_, fun h => ?_, h6⟩
    · rcases h with h | h | h
      · exact h h1
      · rw [h2] at h
        cases h
      · rw [h3] at h
        cases h
    · rcases h with h | h
      · exact h4 h
      · exact h5 h
end Go.Proofs.Ytlafjddidlofcaa
