/- Edges in memory; named, rise. -/
import Derived.Test.YtffjmkngdjbjlaaK0
import Derived.Test.YtffjmkngdjbjlaaA0g
import Derived.Deep.QuietTactic
import Derived.BigQuiet
import Derived.LoopTactic
namespace Go.Proofs.Ytffjmkngdjbjlaa
open Go.RowKit

/-- Edges that are read: a child and its parent each. -/
def EdMem (n₀ : Nat) (w : World) (ao : Option Addr) (l : List Pr) : Prop :=
  l.length ≤ 1000000 ∧ ∀ k x, l[k]? = some x → ∃ b off, ao = some ⟨b, off, none⟩ ∧ b < n₀ ∧ w.cell? ⟨b, off + k * 2, none⟩ = some (.string x.1) ∧ w.cell? ⟨b, off + k * 2 + 1, none⟩ = some (.string x.2)
theorem EdMem.below {n₀ : Nat} {w w' : World} {ao : Option Addr} {l : List Pr} (h : EdMem n₀ w ao l) (hb : Below n₀ w w') : EdMem n₀ w' ao l := by
  refine ⟨h.1, fun k x hk => ?_⟩
  obtain ⟨b, off, e1, e2, c0, c1⟩ := h.2 k x hk
  exact ⟨b, off, e1, e2, (hb.cell (p := ⟨b, _, none⟩) e2).trans c0, (hb.cell (p := ⟨b, _, none⟩) e2).trans c1⟩
theorem EdMem.more {n₀ n₁ : Nat} {w : World} {ao : Option Addr} {l : List Pr} (h : EdMem n₀ w ao l) (hn : n₀ ≤ n₁) : EdMem n₁ w ao l :=
  ⟨h.1, fun k x hk => let ⟨b, off, e1, e2, c⟩ := h.2 k x hk; ⟨b, off, e1, Nat.lt_of_lt_of_le e2 hn, c⟩⟩
theorem txt_eq {a b : ByteArray} (h : a = b) : (a.toList == b.toList) = true := by rw [h]; simp
theorem txt_ne {a b : ByteArray} (h : a ≠ b) : (a.toList == b.toList) = false := by
  cases hq : (a.toList == b.toList) with
  | false => rfl
  | true => exact absurd (ba_ext (by simpa using hq)) h
theorem less_yes {a b : Str} (h : a < b) : Op.bytesLess a b = true := by rw [bytesLess_eq]; exact decide_eq_true h
theorem less_no {a b : Str} (h : ¬ a < b) : Op.bytesLess a b = false := by rw [bytesLess_eq]; exact decide_eq_false h
def em : ByteArray := ⟨#[]⟩
def Named (l : List Pr) : Prop := ∀ x ∈ l, x.1.toList.isEmpty = false ∧ x.2.toList.isEmpty = false
theorem ed_box (w : World) (x : Pr) : ∃ W, w.alloc (.cells #[.string x.1, .string x.2] 71) = W ∧ W.heap[w.heap.size]? = some (.cells #[.string x.1, .string x.2] 71) ∧ W.heap.size = w.heap.size + 1 ∧ Below w.heap.size w W :=
  ⟨_, rfl, heap_alloc_new w _, by simp, (Below.refl _ w).alloc (Nat.le_refl _) _⟩
theorem two_at {w : World} {g : Nat} {u v : Value} {T : TypeId} (h : w.heap[g]? = some (.cells #[u, v] T)) : w.cell? ⟨g, 0, none⟩ = some u ∧ w.cell? ⟨g, 1, none⟩ = some v := by simp [World.cell?, h]
set_option maxRecDepth 100000 in
set_option maxHeartbeats 2000000 in
theorem named_any (ao : Option Addr) (cap : Nat) (l : List Pr) (w : World) (hm : EdMem w.heap.size w ao l) :
    Calls Try.prog 29 #[.slice ao l.length cap] w fun e w' => ((Named l ∧ e = .returned (.bool true)) ∨ (¬ Named l ∧ e = .returned (.bool false))) ∧ Below w.heap.size w w' := by
  have hlen := hm.1
  obtain ⟨m, hml⟩ : ∃ m, l.length = m := ⟨_, rfl⟩
  have HM := hide (And.intro hm hml)
  rw [hml] at hlen ⊢
  clear hm hml
  go_enter Try.func29, Try.ntmps29
  go_wp2_with fail
  go_loopw [7] (fun j wr => ∃ k : Nat, k ≤ m ∧ j = .int .i64 k ∧ Named (l.take k) ∧ Below w.heap.size w wr) (fun j _ => m - (intOf j).toNat)
  case atStart => exact ⟨0, Nat.zero_le _, rfl, fun x hx => by simp at hx, Below.refl _ _⟩
  case round =>
    obtain ⟨k, hk, rfl, hno, hbw⟩ := hrel
    have hw1 : IntKind.i64.wrap ((k : Int) + 1) = k + 1 := by rw [IntKind.wrap_i64]; omega
    have hwz := hbw.size
    by_cases hlt : k < m
    · have hlti : (k : Int) < m := by omega
      obtain ⟨x, hx⟩ : ∃ x, l[k]? = some x := ⟨l[k]'(by have := HM.out.2; omega), by simp⟩
      obtain ⟨b, off, rfl, hbl, c0, c1⟩ := (HM.out.1.below hbw).2 k x hx
      obtain ⟨W, hW, f1, z1, hB1⟩ := ed_box wr x
      obtain ⟨x0, x1⟩ := two_at f1
      have HI := hide (And.intro hno (And.intro (hbw.trans (hB1.mono hwz)) hx))
      clear hno hbw hx f1 hB1
      cases hc : x.1.toList.isEmpty with
      | true =>
        go_wp2_with fail
        go_ret
        exact ⟨.inr ⟨fun h => (by have := (h x (List.mem_of_getElem? HI.out.2.2)).1; rw [hc] at this; cases this), rfl⟩, HI.out.2.1⟩
      | false =>
        cases hp : x.2.toList.isEmpty with
        | true =>
          go_wp2_with fail
          go_ret
          exact ⟨.inr ⟨fun h => (by have := (h x (List.mem_of_getElem? HI.out.2.2)).2; rw [hp] at this; cases this), rfl⟩, HI.out.2.1⟩
        | false =>
          go_wp2_with fail
          go_roundw
          case rel =>
            refine ⟨k + 1, by omega, by simp, ?_, HI.out.2.1⟩
            rw [List.take_add_one, HI.out.2.2]
            intro y hy
            rcases List.mem_append.1 hy with hy | hy
            · exact HI.out.1 y hy
            · simp at hy
              rw [hy]
              exact ⟨hc, hp⟩
          case measure => simp [intOf]; omega
    · obtain rfl : k = m := by omega
      have hlti : ¬ ((k : Int) < k) := by omega
      have HI := hide (And.intro hno hbw)
      clear hno hbw
      go_wp2_with fail
      go_ret
      refine ⟨.inl ⟨?_, rfl⟩, HI.out.2⟩
      have h := HI.out.1
      rwa [← HM.out.2, List.take_length] at h
theorem rising_take {l : List Pr} {k : Nat} {x y : Pr} (h : Rising (l.take (k + 1))) (hx : l[k]? = some x) (hy : l[k + 1]? = some y) (hlt : kb x < kb y) : Rising (l.take (k + 2)) := by
  have ht : l.take (k + 1) = l.take k ++ [x] := by rw [List.take_add_one, hx]; rfl
  have ht2 : l.take (k + 2) = l.take (k + 1) ++ [y] := by rw [List.take_add_one, hy]; rfl
  rw [ht2]
  refine List.pairwise_append.2 ⟨h, List.pairwise_singleton _ _, fun a ha b hb => ?_⟩
  simp at hb
  subst hb
  rw [ht] at ha h
  rcases List.mem_append.1 ha with ha | ha
  · exact str_trans ((List.pairwise_append.1 h).2.2 a ha x (by simp)) hlt
  · simp at ha
    rw [ha]
    exact hlt
theorem below_drewN {B : Nat} {a w : World} (h : Below B a w) (n : Nat) : Below B a (w.drewN n) := ⟨h.os, h.tape, h.output, h.size, h.block⟩
set_option maxRecDepth 100000 in
set_option maxHeartbeats 2000000 in
theorem rise_any (ao : Option Addr) (cap : Nat) (l : List Pr) (w : World) (hm : EdMem w.heap.size w ao l) :
    Calls Try.prog 30 #[.slice ao l.length cap] w fun e w' => ((Rising l ∧ e = .returned (.bool true)) ∨ (¬ Rising l ∧ e = .returned (.bool false))) ∧ Below w.heap.size w w' := by
  have hlen := hm.1
  obtain ⟨m, hml⟩ : ∃ m, l.length = m := ⟨_, rfl⟩
  have HM := hide (And.intro hm hml)
  rw [hml] at hlen ⊢
  clear hm hml
  go_enter Try.func30, Try.ntmps30
  go_wp2_with fail
  go_loopw [3] (fun j wr => ∃ k : Nat, k ≤ m ∧ j = .int .i64 ((k : Int) + 1) ∧ Rising (l.take (k + 1)) ∧ Below w.heap.size w wr) (fun j _ => m + 1 - (intOf j).toNat)
  case atStart =>
    refine ⟨0, Nat.zero_le _, rfl, ?_, Below.refl _ _⟩
    cases l with
    | nil => exact List.Pairwise.nil
    | cons x l => exact List.pairwise_singleton _ _
  case round =>
    obtain ⟨k, hk, rfl, hR, hbw⟩ := hrel
    have hw1 : IntKind.i64.wrap ((k : Int) + 1 + 1) = k + 1 + 1 := by rw [IntKind.wrap_i64]; omega
    by_cases hlt : k + 1 < m
    · have hlti : ((k : Int) + 1) < m := by omega
      obtain ⟨x, hx⟩ : ∃ x, l[k]? = some x := ⟨l[k]'(by have := HM.out.2; omega), by simp⟩
      obtain ⟨y, hy⟩ : ∃ y, l[k + 1]? = some y := ⟨l[k + 1]'(by have := HM.out.2; omega), by simp⟩
      obtain ⟨b, off, rfl, hbl, c0, c1⟩ := (HM.out.1.below hbw).2 k x hx
      obtain ⟨b', off', e', hbl', d0, d1⟩ := (HM.out.1.below hbw).2 (k + 1) y hy
      cases e'
      have HI := hide (And.intro hR (And.intro hbw (And.intro hx hy)))
      clear hR hbw hx hy
      by_cases hlt2 : x.1.toList < y.1.toList
      · have hq := less_yes hlt2
        go_wp2_with fail
        go_quiet (fail)
        go_wp2_with fail
        exact ⟨⟨k + 1, by omega, by simp, rising_take HI.out.1 HI.out.2.2.1 HI.out.2.2.2 hlt2, below_drewN HI.out.2.1 _⟩, by simp [intOf]; omega⟩
      · have hq := less_no hlt2
        have hne : ¬ Rising l := fun h => hlt2 (by
          have h1 := List.getElem?_eq_some_iff.1 HI.out.2.2.1
          have h2 := List.getElem?_eq_some_iff.1 HI.out.2.2.2
          have := List.pairwise_iff_getElem.1 h k (k + 1) h1.1 h2.1 (by omega)
          rw [h1.2, h2.2] at this
          exact this)
        have HN := hide hne
        clear hne
        go_wp2_with fail
        go_quiet (fail)
        go_wp2_with fail
        go_ret
        exact ⟨.inr ⟨HN.out, rfl⟩, below_drewN HI.out.2.1 _⟩
    · have hlti : ¬ (((k : Int) + 1) < m) := by omega
      have hR' : Rising l := by rwa [List.take_of_length_le (by have := HM.out.2; omega)] at hR
      have HI := hide (And.intro hR' hbw)
      clear hR hR' hbw
      go_wp2_with fail
      go_ret
      exact ⟨.inl ⟨HI.out.1, rfl⟩, HI.out.2⟩
end Go.Proofs.Ytffjmkngdjbjlaa
