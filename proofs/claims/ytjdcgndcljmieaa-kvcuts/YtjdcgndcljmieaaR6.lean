/- The document's map: Len, Get; Same. -/
import Derived.Test.YtjdcgndcljmieaaR3
namespace Go.Proofs.Ytjdcgndcljmieaa
open Go.RowKit

set_option maxRecDepth 100000 in
theorem rlen_any (base p : Nat) (v : Value) (L : List Pr) (w : World) (h : IsR base p v L w) :
    Calls Try.prog 27 #[.pointer (some ⟨p, 0, none⟩)] w fun e w' => e = .returned (.int .i64 (L.length : Nat)) ∧ w' = w := by
  have hc := h.cell
  obtain ⟨ga, gc, rfl⟩ := own_shape h.row
  clear h
  go_enter Try.func27, Try.ntmps27
  go_wp2_with fail
  go_ret
  exact ⟨rfl, rfl⟩
set_option maxRecDepth 100000 in
theorem rget_any (base p : Nat) (v : Value) (L : List Pr) (k : ByteArray) (w : World) (h : IsR base p v L w) :
    Calls Try.prog 26 #[.pointer (some ⟨p, 0, none⟩), .string k] w fun e w' => e = .returned (.tuple #[.string ((getM L k).getD ⟨#[]⟩), .bool (getM L k).isSome]) ∧ w' = w := by
  have HH := hide h
  have hc := h.cell
  cases hg : getM L k with
  | none =>
    have HA := hide (at_none base p v L k w h hg)
    clear hg h
    simp only [Option.getD_none, Option.isSome_none]
    go_enter Try.func26, Try.ntmps26
    go_wp2_with (first
      | (go_at_call 40; refine HA.out.mono ?_; rintro e w1 ⟨rfl, rfl⟩))
    go_ret2
    exact ⟨rfl, rfl⟩
  | some y =>
    have HA := hide (at_some base p v L k y w h hg)
    clear hg h
    simp only [Option.getD_some, Option.isSome_some]
    obtain ⟨m, hm⟩ : ∃ m, L.length = m := ⟨_, rfl⟩
    have hrow : w.ownsRow base 55 2 v m (pairC L) := by rw [← hm]; exact HH.out.row
    have hfew := HH.out.few
    rw [hm] at hfew
    obtain ⟨ga, gc, rfl⟩ := own_shape hrow
    have HR := hide (And.intro hm hrow)
    clear hm hrow
    go_enter Try.func26, Try.ntmps26
    go_wp2_with (first
      | (go_at_call 40; refine HA.out.mono ?_; rintro e w1 ⟨⟨n, x, rfl, hx, hy⟩, rfl⟩; refine stopHere ?_))
    unfold Hid
    have hlt : n < m := by have h1 := (List.getElem?_eq_some_iff.1 hx).1; have := HR.out.1; omega
    have hlti : (n : Int) < m := by omega
    have hn0 : ¬ ((n : Int) < 0) := by omega
    obtain ⟨b, rfl, hbl, c0, c1⟩ := pr_cells HR.out.2 HR.out.1.symm hx
    subst hy
    clear hx
    go_wp2_with fail
    go_ret2
    exact ⟨rfl, rfl⟩
theorem below_drewN' {B : Nat} {a w : World} (h : Below B a w) (n : Nat) : Below B a (w.drewN n) := ⟨h.os, h.tape, h.output, h.size, h.block⟩
set_option maxRecDepth 100000 in
set_option maxHeartbeats 2000000 in
/-- The same pairs in two rows. -/
theorem rsame_any (b1 b2 : Nat) (v1 v2 : Value) (S : List Pr) (w : World) (h1 : Prs w b1 v1 S) (h2 : Prs w b2 v2 S) (hl : S.length ≤ 128) :
    Calls Try.prog 30 #[v1, v2] w fun e w' => e = .returned (.bool true) ∧ Below w.heap.size w w' := by
  obtain ⟨m, hm⟩ : ∃ m, S.length = m := ⟨_, rfl⟩
  unfold Prs at h1 h2
  rw [hm] at h1 h2 hl
  obtain ⟨a1, c1, rfl⟩ := own_shape h1
  obtain ⟨a2, c2, rfl⟩ := own_shape h2
  have HT := hide (And.intro hm (And.intro h1 h2))
  clear h1 h2 hm
  have e1 : ((m : Int) == m) = true := by simp
  go_enter Try.func30, Try.ntmps30
  go_wp2_with fail
  go_loopw [5] (fun i wr => ∃ k : Nat, k ≤ m ∧ i = .int .i64 k ∧ Below w.heap.size w wr) (fun i _ => m - (intOf i).toNat)
  case atStart => exact ⟨0, Nat.zero_le _, rfl, Below.refl _ _⟩
  case round =>
    obtain ⟨k, hk, rfl, hbw⟩ := hrel
    have hw1 : IntKind.i64.wrap ((k : Int) + 1) = k + 1 := by rw [IntKind.wrap_i64]; omega
    have HB := hide hbw
    clear hbw
    by_cases hlt : k < m
    · have hlti : (k : Int) < m := by omega
      obtain ⟨x, hx⟩ : ∃ x, S[k]? = some x := ⟨S[k]'(by have := HT.out.1; omega), by simp⟩
      obtain ⟨g1, rfl, _, p0, p1⟩ := pr_cells (own_same HT.out.2.1 (fun g e => HB.out.block g (own_lt HT.out.2.1 g e))) HT.out.1.symm hx
      obtain ⟨g2, rfl, _, q0, q1⟩ := pr_cells (own_same HT.out.2.2 (fun g e => HB.out.block g (own_lt HT.out.2.2 g e))) HT.out.1.symm hx
      clear hx
      have z1 : (x.1.toList == x.1.toList) = true := by simp
      have z2 : (x.2.toList == x.2.toList) = true := by simp
      go_wp2_with fail
      go_quiet (fail)
      go_wp2_with fail
      exact ⟨⟨k + 1, by omega, by simp, below_drewN' HB.out _⟩, by simp [intOf]; omega⟩
    · have hlti : ¬ ((k : Int) < m) := by omega
      go_wp2_with fail
      go_ret
      exact ⟨rfl, HB.out⟩
end Go.Proofs.Ytjdcgndcljmieaa
