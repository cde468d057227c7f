/- The document's map: Delete, Put. -/
import Derived.Test.YtjdcgndcljmieaaR1
namespace Go.Proofs.Ytjdcgndcljmieaa
open Go.RowKit

/-- The map has become that of other pairs; nothing else was written. -/
def RTo (base p : Nat) (v : Value) (L' : List Pr) (v' : Value) (w w' : World) : Prop := IsR base p v' L' w' ∧ Frees base (footR p v) w w' ∧ ∀ j, footR p v' j → footR p v j ∨ w.heap.size ≤ j
section
variable {base p : Nat} {v u : Value} {L L' : List Pr} {w W : World}
theorem RTo.stay (h : IsR base p v L w) (hb : Below w.heap.size w W) (hn : base ≤ w.heap.size) : RTo base p v L v w W := ⟨h.below hb, Frees.of_below hb hn, fun _ h => .inl h⟩
theorem RTo.fit (h : RTo base p v L' u w W) : w.heap.size ≤ W.heap.size := h.2.1.below.size
theorem RTo.turn (h : IsR base p v L w) (hw : base ≤ w.heap.size) (hB : Below w.heap.size w W) (hr : Prs W w.heap.size u L') (ho : Rising L') (hf : L'.length ≤ 128) : RTo base p v L' u w (W.setCell ⟨p, 0, none⟩ u) := by
  have hp := hp_lt h.here
  have hb : W.heap[p]? = some (.cells #[v] 74) := (hB.block p hp).trans h.here
  have hg : ∀ g, u.ownBlock = some g → w.heap.size ≤ g := fun g e => own_base hr g e
  refine ⟨⟨h.low, heap_setCell_same _ _ 0 _ _ _ hb, own_less (own_same hr (fun g e => Below.heap_setCell _ _ _ _ (by have := hg g e; show g ≠ p; omega))) hw, ho, hf⟩, ⟨(hB.mono hw).setCell (p := ⟨p, 0, none⟩) h.low _, fun j hj hn => ?_⟩, fun j hj => ?_⟩
  · exact (Below.heap_setCell _ _ _ _ (fun e => hn (.inl e))).trans (hB.block j hj)
  · rcases hj with rfl | hj
    · exact .inl (.inl rfl)
    · exact .inr (hg j hj)
end
theorem frozen_not {w : World} {b : Nat} {cs : Array Value} {T : TypeId} (h : w.heap[b]? = some (.cells cs T)) : w.frozen? ⟨b, 0, none⟩ = false := by simp [World.frozen?, h]
theorem at_none (base p : Nat) (v : Value) (L : List Pr) (k : ByteArray) (w : World) (h : IsR base p v L w) (hg : getM L k = none) :
    Calls Try.prog 40 #[.pointer (some ⟨p, 0, none⟩), .string k] w fun e w' => e = .returned (.int .i64 (-1)) ∧ w' = w :=
  (at_any base p v L k w h).mono fun e w' ⟨⟨i, he, hi⟩, hw⟩ => by
    rcases hi with ⟨_, rfl⟩ | ⟨n, x, _, _, _, hs⟩
    · exact ⟨he, hw⟩
    · rw [hg] at hs
      cases hs
theorem at_some (base p : Nat) (v : Value) (L : List Pr) (k y : ByteArray) (w : World) (h : IsR base p v L w) (hg : getM L k = some y) :
    Calls Try.prog 40 #[.pointer (some ⟨p, 0, none⟩), .string k] w fun e w' => (∃ (n : Nat) (x : Pr), e = .returned (.int .i64 n) ∧ L[n]? = some x ∧ x.2 = y) ∧ w' = w :=
  (at_any base p v L k w h).mono fun e w' ⟨⟨i, he, hi⟩, hw⟩ => by
    rcases hi with ⟨hs, _⟩ | ⟨n, x, hx, _, rfl, hs⟩
    · rw [hg] at hs
      cases hs
    · rw [hg] at hs
      cases hs
      exact ⟨⟨n, x, he, hx, rfl⟩, hw⟩
set_option maxRecDepth 100000 in
set_option maxHeartbeats 2000000 in
theorem rdelete_any (base p : Nat) (v : Value) (L : List Pr) (k : ByteArray) (w : World) (h : IsR base p v L w) (hw : base ≤ w.heap.size) :
    Calls Try.prog 38 #[.pointer (some ⟨p, 0, none⟩), .string k] w fun e w' => e = .returned (.int .i64 (delE L k)) ∧ ∃ v', RTo base p v (delM L k) v' w w' := by
  have HH := hide h
  cases hg : getM L k with
  | none =>
    have e0 : delE L k = 10 := by unfold delE; rw [if_pos hg]
    have e1 : delM L k = L := delM_none hg
    have HA := hide (at_none base p v L k w h hg)
    rw [e0, e1]
    clear hg e0 e1 h
    go_enter Try.func38, Try.ntmps38
    go_wp2_with (first
      | (go_at_call 40; refine HA.out.mono ?_; rintro e w1 ⟨rfl, rfl⟩))
    go_ret
    exact ⟨rfl, _, RTo.stay HH.out (Below.refl _ _) hw⟩
  | some y =>
    have e0 : delE L k = 0 := by unfold delE; rw [if_neg (by rw [hg]; simp)]
    have HA := hide (at_some base p v L k y w h hg)
    rw [e0]
    clear hg e0 h
    go_enter Try.func38, Try.ntmps38
    go_wp2_with (first
      | (go_at_call 40; refine HA.out.mono ?_; rintro e w1 ⟨⟨n, x, rfl, hx⟩, rfl⟩; have hn0 : ¬ ((n : Int) < 0) := (by omega); clear hx)
      | (go_at_call 42; refine (without_any base p v L k _ HH.out).mono ?_; rintro e w2 ⟨u, rfl, r2, b2⟩; have hc := (HH.out.below b2).cell; have hf := frozen_not (HH.out.below b2).here; have H2 := hide (And.intro r2 b2); clear r2 b2; refine stopHere ?_))
    unfold Hid
    obtain ⟨ga, gc, rfl⟩ := own_shape H2.out.1
    go_wp2_with fail
    go_ret
    exact ⟨rfl, _, RTo.turn HH.out hw H2.out.2 H2.out.1 (delM_rising HH.out.rise k) (Nat.le_trans (delM_le L k) HH.out.few)⟩
theorem ins_none {k x : ByteArray} : ∀ {A B : List Pr}, (∀ y ∈ A, ¬ k.toList < kb y) → insM k x (A ++ B) = A ++ insM k x B
  | [], _, _ => rfl
  | y :: A, B, h => by
    rw [List.cons_append, insM, if_neg (h y (by simp)), ins_none (fun z hz => h z (by simp [hz]))]
    rfl
theorem ins_some {k x : ByteArray} : ∀ {A B : List Pr}, (∃ y ∈ A, k.toList < kb y) → insM k x (A ++ B) = insM k x A ++ B
  | [], _, h => by simp at h
  | y :: A, B, h => by
    rw [List.cons_append]
    by_cases hy : k.toList < kb y
    · rw [insM, if_pos hy, insM, if_pos hy]
      rfl
    · rw [insM, if_neg hy, insM, if_neg hy, ins_some (by
        obtain ⟨z, hz, hl⟩ := h
        rcases List.mem_cons.1 hz with rfl | hz
        · exact absurd hl hy
        · exact ⟨z, hz, hl⟩)]
      rfl
/-- What has been copied: with the pair, if one behind it has come. -/
inductive Cop (k x : ByteArray) (A : List Pr) : Bool → List Pr → Prop
  | no (h : ∀ y ∈ A, ¬ k.toList < kb y) : Cop k x A false A
  | yes (h : ∃ y ∈ A, k.toList < kb y) : Cop k x A true (insM k x A)
theorem Cop.more {k x : ByteArray} {A S : List Pr} {y : Pr} (h : Cop k x A true S) : Cop k x (A ++ [y]) true (S ++ [y]) := by
  cases h with
  | yes h =>
    rw [← ins_some h]
    obtain ⟨z, hz, hl⟩ := h
    exact .yes ⟨z, by simp [hz], hl⟩
theorem Cop.pass {k x : ByteArray} {A S : List Pr} {y : Pr} (h : Cop k x A false S) (hy : ¬ k.toList < kb y) : Cop k x (A ++ [y]) false (S ++ [y]) := by
  cases h with
  | no h =>
    refine .no fun z hz => ?_
    rcases List.mem_append.1 hz with hz | hz
    · exact h z hz
    · simp at hz
      rw [hz]
      exact hy
theorem Cop.turn {k x : ByteArray} {A S : List Pr} {y : Pr} (h : Cop k x A false S) (hy : k.toList < kb y) : Cop k x (A ++ [y]) true (S ++ [(k, x)] ++ [y]) := by
  cases h with
  | no h =>
    have e : A ++ [(k, x)] ++ [y] = insM k x (A ++ [y]) := by rw [ins_none h, insM, if_pos hy]; simp
    rw [e]
    exact .yes ⟨y, by simp, hy⟩
theorem Cop.len {k x : ByteArray} {A S : List Pr} {q : Bool} (h : Cop k x A q S) : S.length ≤ A.length + 1 := by
  cases h with
  | no h => omega
  | yes h => rw [insM_len]; omega
theorem Cop.last {k x : ByteArray} {A S : List Pr} (h : Cop k x A false S) : S ++ [(k, x)] = insM k x A := by
  cases h with
  | no h =>
    have := ins_none (x := x) (B := []) h
    rw [List.append_nil] at this
    rw [this]
    rfl
theorem Cop.all {k x : ByteArray} {A S : List Pr} (h : Cop k x A true S) : S = insM k x A := by
  cases h with
  | yes h => rfl
/-- The state of Put's copying. -/
structure CopI (base : Nat) (k x : ByteArray) (D : List Pr) (u s : Value) (n : Nat) (q : Bool) (w : World) : Prop where
  cop : ∃ S, Cop k x (D.take n) q S ∧ Prs w base s S
  src : Prs w base u D
  far : ∀ j, rowB u j → ¬ rowB s j
section
variable {base n : Nat} {k x : ByteArray} {D : List Pr} {u s s' : Value} {q : Bool} {w w' W : World}
/-- A pair of the old ones is copied. -/
theorem CopI.step (h : CopI base k x D u s n true w) {y : Pr} (hy : D[n]? = some y) (hb : base ≤ w.heap.size) (hD : D.length ≤ 200) (hW : w.alloc (.cells #[.string y.1, .string y.2] 55) = W) :
    ∃ v' w', (Builtin.append_ #[52, 52] 52 #[s, .slice (some ⟨w.heap.size, 0, none⟩) 1 1]).run Try.prog W = .ok v' w' ∧ CopI base k x D u v' (n + 1) true w' ∧ Below base w w' := by
  obtain ⟨S, hc, hs⟩ := h.cop
  have hl := hc.len
  rw [List.length_take] at hl
  obtain ⟨v', w', ha, y1, y2, y3⟩ := app_pair y hs hb hW (by omega)
  refine ⟨v', w', ha, ⟨⟨S ++ [y], ?_, y1⟩, own_same h.src (fun g e => y2.same g (own_lt h.src g e) (h.far g e)), fun j hj hk => ?_⟩, y2.below⟩
  · rw [List.take_add_one, hy]
    exact hc.more
  · rcases y3 j hk with z | z
    · exact h.far j hj z
    · have := own_lt h.src j hj
      omega
theorem CopI.pass (h : CopI base k x D u s n false w) {y : Pr} (hy : D[n]? = some y) (hk : ¬ k.toList < kb y) (hb : base ≤ w.heap.size) (hD : D.length ≤ 200) (hW : w.alloc (.cells #[.string y.1, .string y.2] 55) = W) :
    ∃ v' w', (Builtin.append_ #[52, 52] 52 #[s, .slice (some ⟨w.heap.size, 0, none⟩) 1 1]).run Try.prog W = .ok v' w' ∧ CopI base k x D u v' (n + 1) false w' ∧ Below base w w' := by
  obtain ⟨S, hc, hs⟩ := h.cop
  have hl := hc.len
  rw [List.length_take] at hl
  obtain ⟨v', w', ha, y1, y2, y3⟩ := app_pair y hs hb hW (by omega)
  refine ⟨v', w', ha, ⟨⟨S ++ [y], ?_, y1⟩, own_same h.src (fun g e => y2.same g (own_lt h.src g e) (h.far g e)), fun j hj hk => ?_⟩, y2.below⟩
  · rw [List.take_add_one, hy]
    exact hc.pass hk
  · rcases y3 j hk with z | z
    · exact h.far j hj z
    · have := own_lt h.src j hj
      omega
/-- The new pair is put ahead of an old one: the two appends. -/
theorem CopI.new (h : CopI base k x D u s n false w) (hb : base ≤ w.heap.size) (hD : D.length ≤ 200) (hW : w.alloc (.cells #[.string k, .string x] 55) = W) :
    ∃ v' w', (Builtin.append_ #[52, 52] 52 #[s, .slice (some ⟨w.heap.size, 0, none⟩) 1 1]).run Try.prog W = .ok v' w' ∧ (∃ S, Cop k x (D.take n) false S ∧ Prs w' base v' (S ++ [(k, x)])) ∧ Prs w' base u D ∧ (∀ j, rowB u j → ¬ rowB v' j) ∧ Below base w w' := by
  obtain ⟨S, hc, hs⟩ := h.cop
  have hl := hc.len
  rw [List.length_take] at hl
  obtain ⟨v', w', ha, y1, y2, y3⟩ := app_pair (k, x) hs hb hW (by omega)
  refine ⟨v', w', ha, ⟨S, hc, y1⟩, own_same h.src (fun g e => y2.same g (own_lt h.src g e) (h.far g e)), fun j hj hk => ?_, y2.below⟩
  rcases y3 j hk with z | z
  · exact h.far j hj z
  · have := own_lt h.src j hj
    omega
theorem CopI.then {S : List Pr} (hc : Cop k x (D.take n) false S) (hs : Prs w base s (S ++ [(k, x)])) (hu : Prs w base u D) (hf : ∀ j, rowB u j → ¬ rowB s j) {y : Pr} (hy : D[n]? = some y) (hk : k.toList < kb y) (hb : base ≤ w.heap.size) (hD : D.length ≤ 200) (hW : w.alloc (.cells #[.string y.1, .string y.2] 55) = W) :
    ∃ v' w', (Builtin.append_ #[52, 52] 52 #[s, .slice (some ⟨w.heap.size, 0, none⟩) 1 1]).run Try.prog W = .ok v' w' ∧ CopI base k x D u v' (n + 1) true w' ∧ Below base w w' := by
  have hl := hc.len
  rw [List.length_take] at hl
  obtain ⟨v', w', ha, y1, y2, y3⟩ := app_pair y hs hb hW (by simp; omega)
  refine ⟨v', w', ha, ⟨⟨S ++ [(k, x)] ++ [y], ?_, y1⟩, own_same hu (fun g e => y2.same g (own_lt hu g e) (hf g e)), fun j hj hk => ?_⟩, y2.below⟩
  · rw [List.take_add_one, hy]
    exact hc.turn hk
  · rcases y3 j hk with z | z
    · exact hf j hj z
    · have := own_lt hu j hj
      omega
end
end Go.Proofs.Ytjdcgndcljmieaa
