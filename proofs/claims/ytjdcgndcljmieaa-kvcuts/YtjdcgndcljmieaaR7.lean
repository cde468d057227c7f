/- The document's map: Scan. -/
import Derived.Test.YtjdcgndcljmieaaR6
namespace Go.Proofs.Ytjdcgndcljmieaa
open Go.RowKit

theorem scan_snoc_yes {L : List Pr} {p : ByteArray} {x : Pr} (h : begB p x.1 = true) : scanM (L ++ [x]) p = scanM L p ++ [x] := by simp [scanM, h]
theorem scan_snoc_no {L : List Pr} {p : ByteArray} {x : Pr} (h : begB p x.1 = false) : scanM (L ++ [x]) p = scanM L p := by simp [scanM, h]
theorem scanM_le (L : List Pr) (p : ByteArray) : (scanM L p).length ≤ L.length := List.length_filter_le _ _
set_option maxRecDepth 100000 in
set_option maxHeartbeats 2000000 in
theorem rscan_any (base p : Nat) (v : Value) (L : List Pr) (pre : ByteArray) (w : World) (h : IsR base p v L w) :
    Calls Try.prog 31 #[.pointer (some ⟨p, 0, none⟩), .string pre] w fun e w' => ∃ u, e = .returned u ∧ Prs w' w.heap.size u (scanM L pre) ∧ Below w.heap.size w w' := by
  have hfew := h.few
  obtain ⟨m, hm⟩ : ∃ m, L.length = m := ⟨_, rfl⟩
  have hrow : w.ownsRow base 55 2 v m (pairC L) := by rw [← hm]; exact h.row
  rw [hm] at hfew
  obtain ⟨ga, gc, rfl⟩ := own_shape hrow
  have HM := hide (And.intro hm h)
  clear h hrow hm
  go_enter Try.func31, Try.ntmps31
  go_wp2_with fail
  go_loopw [5, 6] (fun s j wr => ∃ n : Nat, n ≤ m ∧ j = .int .i64 n ∧ Prs wr w.heap.size s (scanM (L.take n) pre) ∧ Below w.heap.size w wr) (fun _ j _ => m - (intOf j).toNat)
  case atStart => exact ⟨0, Nat.zero_le _, rfl, World.ownsRow_nil _ _ _ _, Below.refl _ _⟩
  case round =>
    obtain ⟨n, hn, rfl, hS, hbw⟩ := hrel
    have hwz := hbw.size
    have hw1 : IntKind.i64.wrap ((n : Int) + 1) = n + 1 := by rw [IntKind.wrap_i64]; omega
    have hR := HM.out.2.below hbw
    have hc := hR.cell
    have hrow : wr.ownsRow base 55 2 (.slice ga m gc) m (pairC L) := by have h := hR.row; unfold Prs at h; rwa [HM.out.1] at h
    have hlen := scanM_le (L.take n) pre
    have hln : (L.take n).length ≤ 128 := by rw [List.length_take]; omega
    by_cases hlt : n < m
    · have hlti : (n : Int) < m := by omega
      obtain ⟨x, hx⟩ : ∃ x, L[n]? = some x := ⟨L[n]'(by have := HM.out.1; omega), by simp⟩
      obtain ⟨b, rfl, hbl, c0, c1⟩ := pr_cells hrow HM.out.1.symm hx
      have ht : L.take (n + 1) = L.take n ++ [x] := by rw [List.take_add_one, hx]; rfl
      by_cases hsz : pre.size ≤ x.1.size
      · have hszi : (pre.size : Int) ≤ x.1.size := by omega
        cases hex : ((x.1.extract 0 pre.size).toList == pre.toList) with
        | true =>
          have hbg : begB pre x.1 = true := by unfold begB; rw [decide_eq_true hsz, hex]; rfl
          obtain ⟨W, hW⟩ : ∃ W, wr.alloc (.cells #[.string x.1, .string x.2] 55) = W := ⟨_, rfl⟩
          obtain ⟨s', w2, hap, y1, y2, y3⟩ := app_pair x hS hwz hW (by omega)
          rw [← scan_snoc_yes hbg, ← ht] at y1
          have HA := hide hap
          have HS := hide (And.intro y1 (hbw.trans y2.below))
          clear hS hbw ht hx hR hrow hlen hln hap y1 y2 y3 hbg
          go_wp2_with (first
            | (at_builtin; refine l_val rfl _ (ex_append2 (t := 52) (t' := 52) rfl rfl rfl HA.out) ?_))
          go_roundw
          case rel => exact ⟨n + 1, by omega, by simp, HS.out.1, HS.out.2⟩
          case measure => simp [intOf]; omega
        | false =>
          have hbg : begB pre x.1 = false := by unfold begB; rw [decide_eq_true hsz, hex]; rfl
          rw [← scan_snoc_no hbg, ← ht] at hS
          have HS := hide (And.intro hS hbw)
          clear hS hbw ht hx hR hrow hlen hln hbg
          go_wp2_with fail
          go_roundw
          case rel => exact ⟨n + 1, by omega, by simp, HS.out.1, HS.out.2⟩
          case measure => simp [intOf]; omega
      · have hszi : ¬ ((pre.size : Int) ≤ x.1.size) := by omega
        have hbg : begB pre x.1 = false := by unfold begB; rw [decide_eq_false hsz]; rfl
        rw [← scan_snoc_no hbg, ← ht] at hS
        have HS := hide (And.intro hS hbw)
        clear hS hbw ht hx hR hrow hlen hln hbg
        go_wp2_with fail
        go_roundw
        case rel => exact ⟨n + 1, by omega, by simp, HS.out.1, HS.out.2⟩
        case measure => simp [intOf]; omega
    · obtain rfl : n = m := by omega
      have hlti : ¬ ((n : Int) < n) := by omega
      have ht : L.take n = L := by rw [← HM.out.1, List.take_length]
      rw [ht] at hS
      have HS := hide (And.intro hS hbw)
      clear hS hbw ht hR hrow hlen hln
      go_wp2_with fail
      go_ret
      exact ⟨_, rfl, HS.out.1, HS.out.2⟩
end Go.Proofs.Ytjdcgndcljmieaa
