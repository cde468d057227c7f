/- The document's map: New, at, without. -/
import Derived.Test.YtjdcgndcljmieaaK9
namespace Go.Proofs.Ytjdcgndcljmieaa
open Go.RowKit

abbrev rowB (v : Value) : Blk := fun j => v.ownBlock = some j
/-- Pairs as a row of one's own. -/
abbrev Prs (w : World) (base : Nat) (v : Value) (L : List Pr) : Prop := w.ownsRow base 55 2 v L.length (pairC L)
/-- The document's map in memory, with the pairs L. -/
structure IsR (base p : Nat) (v : Value) (L : List Pr) (w : World) : Prop where
  low : base ≤ p
  here : w.heap[p]? = some (.cells #[v] 74)
  row : Prs w base v L
  rise : Rising L
  few : L.length ≤ 128
def footR (p : Nat) (v : Value) : Blk := fun j => j = p ∨ v.ownBlock = some j
section
variable {base p : Nat} {v v' : Value} {L L' : List Pr} {w w' : World}
theorem IsR.lt (h : IsR base p v L w) {j : Nat} (hj : footR p v j) : base ≤ j ∧ j < w.heap.size := by
  rcases hj with rfl | hj
  · exact ⟨h.low, hp_lt h.here⟩
  · exact ⟨own_base h.row j hj, own_lt h.row j hj⟩
theorem IsR.same (h : IsR base p v L w) (hs : ∀ j, footR p v j → w'.heap[j]? = w.heap[j]?) : IsR base p v L w' :=
  ⟨h.low, (hs p (.inl rfl)).trans h.here, own_same h.row (fun g e => hs g (.inr e)), h.rise, h.few⟩
theorem IsR.below (h : IsR base p v L w) (hb : Below w.heap.size w w') : IsR base p v L w' := h.same fun _ hj => hb.block _ (h.lt hj).2
theorem IsR.apart (h : IsR base p v L w) {M : Blk} {n₀ : Nat} (hf : Frees n₀ M w w') (hm : ∀ j, footR p v j → ¬ M j) : IsR base p v L w' := h.same fun j hj => hf.same j (h.lt hj).2 (hm j hj)
theorem IsR.cell (h : IsR base p v L w) : w.cell? ⟨p, 0, none⟩ = some v := one_cell h.here
end
theorem pairC_at : ∀ {S : List Pr} {j : Nat} {x : Pr}, S[j]? = some x → (pairC S)[j * 2]? = some (.string x.1) ∧ (pairC S)[j * 2 + 1]? = some (.string x.2)
  | y :: S, 0, x, h => by
    simp at h
    subst h
    simp [pairC, pairC1]
  | y :: S, j + 1, x, h => by
    have ih := pairC_at (S := S) (j := j) (x := x) (by simpa using h)
    have e : pairC (y :: S) = .string y.1 :: .string y.2 :: pairC S := by simp [pairC, pairC1]
    rw [e, show (j + 1) * 2 = j * 2 + 1 + 1 by omega]
    simpa using ih
/-- A pair's cells. -/
theorem pr_cells {w : World} {base n gc j : Nat} {ga : Option Addr} {S : List Pr} {x : Pr} (h : w.ownsRow base 55 2 (.slice ga n gc) n (pairC S)) (hn : n = S.length) (hj : S[j]? = some x) : ∃ b, ga = some ⟨b, 0, none⟩ ∧ b < w.heap.size ∧ w.cell? ⟨b, j * 2, none⟩ = some (.string x.1) ∧ w.cell? ⟨b, j * 2 + 1, none⟩ = some (.string x.2) := by
  have hjl : j < S.length := (List.getElem?_eq_some_iff.1 hj).1
  have hc := pairC_at hj
  obtain ⟨h1, ⟨_, h2⟩ | ⟨g, cap, cur, hv, x1, x2, x3, x4, x5, x6⟩⟩ := h
  · omega
  · cases hv
    have hp := hp_lt x2
    refine ⟨g, rfl, hp, ?_, ?_⟩
    · have hy := hc.1
      rw [← x6, List.getElem?_take_of_lt (by omega)] at hy
      simp [World.cell?, x2]
      simpa using hy
    · have hy := hc.2
      rw [← x6, List.getElem?_take_of_lt (by omega)] at hy
      simp [World.cell?, x2]
      simpa using hy
/-- A pair behind pairs. -/
theorem app_pair {w W : World} {base : Nat} {v : Value} {S : List Pr} (x : Pr) (h : Prs w base v S) (hb : base ≤ w.heap.size) (hW : w.alloc (.cells #[.string x.1, .string x.2] 55) = W) (hl : S.length ≤ 300) :
    ∃ v' w', (Builtin.append_ #[52, 52] 52 #[v, .slice (some ⟨w.heap.size, 0, none⟩) 1 1]).run Try.prog W = .ok v' w' ∧ Prs w' base v' (S ++ [x]) ∧ Frees base (rowB v) w w' ∧ ∀ j, rowB v' j → rowB v j ∨ w.heap.size ≤ j := by
  have hB : Below w.heap.size w W := by rw [← hW]; exact (Below.refl _ w).alloc (Nat.le_refl _) _
  have f3 : W.heap[w.heap.size]? = some (.cells #[.string x.1, .string x.2] 55) := by rw [← hW]; exact heap_alloc_new w _
  have hs := hB.size
  obtain ⟨ti, t1, t2, t3, t4⟩ := info_parts infoPair
  obtain ⟨v', w4, hap, y1, y2, _, y4⟩ := run_append_own_at (P := Try.prog) W base 52 52 55 ti _ 2 32 Try.underlying52 t1 t2 t3 t4 rfl (by omega) v S.length (pairC S) (own_same h (fun g e => hB.block g (own_lt h g e))) ⟨w.heap.size, 0, none⟩ 1 1 (pairC1 x) rfl (fun j u hj => by
    rw [Addr.add_mid, cell_of_row W w.heap.size (0 + j) _ _ _ f3]
    simpa [pairC1] using hj) (by simp [pairC1, Value.oneCell']) (by unfold maxLen; omega) (by omega) (by omega)
  have he : pairC (S ++ [x]) = pairC S ++ pairC1 x := by simp [pairC]
  refine ⟨v', w4, hap, by show World.ownsRow _ _ _ _ _ _ _; rw [he, List.length_append]; exact y1, ⟨(hB.mono hb).grown y2 (by omega) (fun k e => own_base h k e), fun j hj hn => (y2.block j (by omega) (fun e => hn e.symm)).trans (hB.block j hj)⟩, fun j e => ?_⟩
  rcases y4 with z | z
  · exact .inl (by show v.ownBlock = some j; rw [← z]; exact e)
  · have e : v'.ownBlock = some j := e
    rw [z] at e
    cases e
    exact .inr hs
theorem rNew_any (base : Nat) (w : World) (hb : base ≤ w.heap.size) :
    Calls Try.prog 24 #[] w fun e w' => ∃ p, e = .returned (.pointer (some ⟨p, 0, none⟩)) ∧ IsR base p (.slice none 0 0) [] w' ∧ Below w.heap.size w w' ∧ w.heap.size ≤ p := by
  have f1 := hide (heap_alloc_new w (.cells #[.slice none 0 0] 74))
  go_enter Try.func24, Try.ntmps24
  go_wp2_with fail
  go_ret
  exact ⟨_, rfl, ⟨hb, f1.out, World.ownsRow_nil _ _ _ _, List.Pairwise.nil, by simp⟩, (Below.refl _ w).alloc (Nat.le_refl _) _, Nat.le_refl _⟩
theorem getM_not {L : List Pr} {k : ByteArray} (h : ∀ x ∈ L, x.1 ≠ k) : getM L k = none := by
  cases hg : getM L k with
  | none => rfl
  | some v => exact absurd rfl (h _ (getM_some hg))
/-- A key's place. -/
def AtI (L : List Pr) (k : ByteArray) (i : Int) : Prop := (getM L k = none ∧ i = -1) ∨ ∃ (n : Nat) (x : Pr), L[n]? = some x ∧ x.1 = k ∧ i = n ∧ getM L k = some x.2
theorem txt_eq {a b : ByteArray} (h : a = b) : (a.toList == b.toList) = true := by rw [h]; simp
theorem txt_ne {a b : ByteArray} (h : a ≠ b) : (a.toList == b.toList) = false := by
  cases hq : (a.toList == b.toList) with
  | false => rfl
  | true => exact absurd (ba_ext (by simpa using hq)) h
set_option maxRecDepth 100000 in
set_option maxHeartbeats 2000000 in
theorem at_any (base p : Nat) (v : Value) (L : List Pr) (k : ByteArray) (w : World) (h : IsR base p v L w) :
    Calls Try.prog 40 #[.pointer (some ⟨p, 0, none⟩), .string k] w fun e w' => (∃ i : Int, e = .returned (.int .i64 i) ∧ AtI L k i) ∧ w' = w := by
  have hc := h.cell
  have hfew := h.few
  obtain ⟨m, hm⟩ : ∃ m, L.length = m := ⟨_, rfl⟩
  have hrow : w.ownsRow base 55 2 v m (pairC L) := by rw [← hm]; exact h.row
  have hrise := hide h.rise
  rw [hm] at hfew
  obtain ⟨ga, gc, rfl⟩ := own_shape hrow
  have HM := hide (And.intro hm hrow)
  clear h hrow hm
  go_enter Try.func40, Try.ntmps40
  go_wp2_with fail
  go_loopw [5] (fun j wr => ∃ n : Nat, n ≤ m ∧ j = .int .i64 n ∧ (∀ x ∈ L.take n, x.1 ≠ k) ∧ wr = w) (fun j _ => m - (intOf j).toNat)
  case atStart => exact ⟨0, Nat.zero_le _, rfl, by simp, rfl⟩
  case round =>
    obtain ⟨n, hn, rfl, hno, rfl⟩ := hrel
    have HN := hide hno
    clear hno
    have hw1 : IntKind.i64.wrap ((n : Int) + 1) = n + 1 := by rw [IntKind.wrap_i64]; omega
    by_cases hlt : n < m
    · have hlti : (n : Int) < m := by omega
      obtain ⟨x, hx⟩ : ∃ x, L[n]? = some x := ⟨L[n]'(by have := HM.out.1; omega), by simp⟩
      obtain ⟨b, rfl, hbl, c0, c1⟩ := pr_cells HM.out.2 HM.out.1.symm hx
      have HX := hide hx
      clear hx
      by_cases hk : x.1 = k
      · have hq := txt_eq hk
        go_wp2_with fail
        go_ret
        refine ⟨⟨_, rfl, .inr ⟨n, x, HX.out, hk, rfl, getM_mem hrise.out ?_⟩⟩, rfl⟩
        rw [← hk]
        exact List.mem_of_getElem? HX.out
      · have hq := txt_ne hk
        go_wp2_with fail
        go_roundw
        case rel =>
          refine ⟨n + 1, by omega, by simp, ?_, by simp⟩
          rw [List.take_add_one, HX.out]
          intro y hy
          rcases List.mem_append.1 hy with z | z
          · exact HN.out y z
          · simp at z
            rw [z]
            exact hk
        case measure => simp [intOf]; omega
    · obtain rfl : n = m := by omega
      have hlti : ¬ ((n : Int) < n) := by omega
      go_wp2_with fail
      go_ret
      refine ⟨⟨_, rfl, .inl ⟨getM_not ?_, rfl⟩⟩, rfl⟩
      have := HN.out
      rw [← HM.out.1, List.take_length] at this
      exact this
theorem delM_snoc_ne {L : List Pr} {k : ByteArray} {x : Pr} (h : x.1 ≠ k) : delM (L ++ [x]) k = delM L k ++ [x] := by simp [delM, h]
theorem delM_snoc_eq {L : List Pr} {k : ByteArray} {x : Pr} (h : x.1 = k) : delM (L ++ [x]) k = delM L k := by simp [delM, h]
theorem delM_le (L : List Pr) (k : ByteArray) : (delM L k).length ≤ L.length := List.length_filter_le _ _
set_option maxRecDepth 100000 in
set_option maxHeartbeats 2000000 in
theorem without_any (base p : Nat) (v : Value) (L : List Pr) (k : ByteArray) (w : World) (h : IsR base p v L w) :
    Calls Try.prog 42 #[.pointer (some ⟨p, 0, none⟩), .string k] w fun e w' => ∃ u, e = .returned u ∧ Prs w' w.heap.size u (delM L k) ∧ Below w.heap.size w w' := by
  have hfew := h.few
  obtain ⟨m, hm⟩ : ∃ m, L.length = m := ⟨_, rfl⟩
  have hrow : w.ownsRow base 55 2 v m (pairC L) := by rw [← hm]; exact h.row
  rw [hm] at hfew
  obtain ⟨ga, gc, rfl⟩ := own_shape hrow
  have HM := hide (And.intro hm h)
  clear h hrow hm
  go_enter Try.func42, Try.ntmps42
  go_wp2_with fail
  go_loopw [5, 6] (fun s j wr => ∃ n : Nat, n ≤ m ∧ j = .int .i64 n ∧ Prs wr w.heap.size s (delM (L.take n) k) ∧ Below w.heap.size w wr) (fun _ j _ => m - (intOf j).toNat)
  case atStart => exact ⟨0, Nat.zero_le _, rfl, World.ownsRow_nil _ _ _ _, Below.refl _ _⟩
  case round =>
    obtain ⟨n, hn, rfl, hS, hbw⟩ := hrel
    have hwz := hbw.size
    have hw1 : IntKind.i64.wrap ((n : Int) + 1) = n + 1 := by rw [IntKind.wrap_i64]; omega
    have hR := HM.out.2.below hbw
    have hc := hR.cell
    have hrow : wr.ownsRow base 55 2 (.slice ga m gc) m (pairC L) := by have h := hR.row; unfold Prs at h; rwa [HM.out.1] at h
    have hlen := delM_le (L.take n) k
    have hln : (L.take n).length ≤ 128 := by rw [List.length_take]; omega
    by_cases hlt : n < m
    · have hlti : (n : Int) < m := by omega
      obtain ⟨x, hx⟩ : ∃ x, L[n]? = some x := ⟨L[n]'(by have := HM.out.1; omega), by simp⟩
      obtain ⟨b, rfl, hbl, c0, c1⟩ := pr_cells hrow HM.out.1.symm hx
      have ht : L.take (n + 1) = L.take n ++ [x] := by rw [List.take_add_one, hx]; rfl
      by_cases hk : x.1 = k
      · have hq := txt_eq hk
        have HS := hide (And.intro hS (And.intro hbw ht))
        clear hS hbw ht hx hR hrow hlen hln
        go_wp2_with fail
        go_roundw
        case rel =>
          refine ⟨n + 1, by omega, by simp, ?_, HS.out.2.1⟩
          rw [HS.out.2.2, delM_snoc_eq hk]
          exact HS.out.1
        case measure => simp [intOf]; omega
      · have hq := txt_ne hk
        obtain ⟨W, hW⟩ : ∃ W, wr.alloc (.cells #[.string x.1, .string x.2] 55) = W := ⟨_, rfl⟩
        obtain ⟨s', w2, hap, y1, y2, y3⟩ := app_pair x hS hwz hW (by omega)
        rw [← delM_snoc_ne hk, ← ht] at y1
        have HA := hide hap
        have HS := hide (And.intro y1 (hbw.trans y2.below))
        clear hS hbw ht hx hR hrow hlen hln hap y1 y2 y3
        go_wp2_with (first
          | (at_builtin; refine l_val rfl _ (ex_append2 (t := 52) (t' := 52) rfl rfl rfl HA.out) ?_))
        go_roundw
        case rel => exact ⟨n + 1, by omega, by simp, HS.out.1, HS.out.2⟩
        case measure => simp [intOf]; omega
    · obtain rfl : n = m := by omega
      have hlti : ¬ ((n : Int) < n) := by omega
      have ht : L.take n = L := by rw [← HM.out.1, List.take_length]
      rw [ht] at hS
      have HS := hide (And.intro hS hbw)
      clear hS hbw ht hR hrow hlen hln
      go_wp2_with fail
      go_ret
      exact ⟨_, rfl, HS.out.1, HS.out.2⟩
end Go.Proofs.Ytjdcgndcljmieaa
