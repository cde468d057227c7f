/- slices.Concat of edges. -/
import Derived.Test.YtffjmkngdjbjlaaC7
namespace Go.Proofs.Ytffjmkngdjbjlaa
open Go.RowKit Go.Shelf

theorem edC_at : ∀ (l : List Pr) (j : Nat) (u : Value), (edC l)[j]? = some u → ∃ x, l[j / 2]? = some x ∧ ((j % 2 = 0 ∧ u = .string x.1) ∨ (j % 2 = 1 ∧ u = .string x.2))
  | [], j, u, h => by simp [edC] at h
  | x :: l, 0, u, h => ⟨x, rfl, .inl ⟨rfl, by
      have h' : (edC1 x ++ edC l)[0]? = some u := h
      simpa [edC1] using h'.symm⟩⟩
  | x :: l, 1, u, h => ⟨x, rfl, .inr ⟨rfl, by
      have h' : (edC1 x ++ edC l)[1]? = some u := h
      simpa [edC1] using h'.symm⟩⟩
  | x :: l, j + 2, u, h => by
    have h' : (edC1 x ++ edC l)[j + 2]? = some u := h
    rw [List.getElem?_append_right (by simp [edC1])] at h'
    obtain ⟨y, hy, hu⟩ := edC_at l j u (by simpa [edC1] using h')
    refine ⟨y, ?_, ?_⟩
    · rw [show (j + 2) / 2 = j / 2 + 1 by omega]
      simpa using hy
    · rw [show (j + 2) % 2 = j % 2 by omega]
      exact hu
theorem undE : Try.prog.underlying 50 = some (.slice 71) := Try.underlying50
set_option maxRecDepth 100000 in
/-- Edges are put behind a row of one's own. -/
theorem append_ed {W : World} {k n₀ : Nat} {v : Value} {xs l : List Pr} {ao : Option Addr} {cap : Nat} {T : TypeId} (hv : W.ownsRow k 71 2 v xs.length (edC xs)) (hr : EdMem n₀ W ao l) (hk : k ≤ W.heap.size) (hs : xs.length + l.length ≤ 4000000) :
    ∃ v' w', (Builtin.append_ #[50, 50] T #[v, .slice ao l.length cap]).run Try.prog W = .ok v' w' ∧ w'.ownsRow k 71 2 v' (xs ++ l).length (edC (xs ++ l)) ∧ W.grownBy w' v.ownBlock := by
  obtain ⟨ti, t1, t2, t3, t4⟩ := info_parts infoEd
  cases ao with
  | none =>
    have hl : l = [] := by
      cases l with
      | nil => rfl
      | cons s l => obtain ⟨b, off, h, _⟩ := hr.2 0 s rfl; cases h
    subst hl
    refine ⟨v, W, ?_, by simpa using hv, World.grownBy.refl _ _⟩
    obtain ⟨_, ⟨rfl, h2⟩ | ⟨g, c, cur, rfl, _, _, hnc, _⟩⟩ := hv
    · simp [Builtin.append_, run_underlying undE, sizeOf, typeInfo, t1, Builtin.lenOf, Builtin.firstCells]
    · simp [Builtin.append_, run_underlying undE, sizeOf, typeInfo, t1, Builtin.lenOf, Builtin.firstCells, hnc, storeCells]
  | some a =>
    obtain ⟨v', w', hap, y1, y2, _, _⟩ := run_append_own_at (P := Try.prog) W k 50 T 71 ti _ 2 32 undE t1 t2 t3 t4 rfl (by omega) v xs.length (edC xs) hv a l.length cap (edC l) (edC_len l) (fun j u hj => by
      obtain ⟨x, hx, hu⟩ := edC_at l j u hj
      obtain ⟨b, off, e, _, c0, c1⟩ := hr.2 _ x hx
      cases e
      rw [Addr.add_mid]
      rcases hu with ⟨h, rfl⟩ | ⟨h, rfl⟩
      · rw [← c0]
        congr 2
        omega
      · rw [← c1]
        congr 2
        omega) (edC_one l) (by unfold maxLen; omega) (by omega) hk
    exact ⟨v', w', hap, by rw [List.length_append, edC_app]; exact y1, y2⟩
/-- A part: where it lies, its room, its edges. -/
abbrev Part := Option Addr × Nat × List Pr
def partV (p : Part) : Value := .slice p.1 p.2.2.length p.2.1
def partsL (Ps : List Part) : List Pr := Ps.flatMap (·.2.2)
theorem parts_take {Ps : List Part} {k : Nat} {p : Part} (h : Ps[k]? = some p) : partsL (Ps.take (k + 1)) = partsL (Ps.take k) ++ p.2.2 := by
  rw [List.take_add_one, h]
  simp [partsL]
theorem parts_len (Ps : List Part) (k : Nat) : (partsL (Ps.take k)).length ≤ (partsL Ps).length := by
  have h : partsL (Ps.take k ++ Ps.drop k) = partsL (Ps.take k) ++ partsL (Ps.drop k) := by simp only [partsL, List.flatMap_append]
  rw [List.take_append_drop] at h
  rw [h, List.length_append]
  omega
set_option maxRecDepth 100000 in
set_option maxHeartbeats 4000000 in
theorem concat_any (Ps : List Part) (S : Nat) (w : World) (hS : w.heap[S]? = some (.cells (Ps.map partV).toArray 50)) (hp : ∀ p ∈ Ps, EdMem w.heap.size w p.1 p.2.2) (hl : (partsL Ps).length ≤ 4000000) (hn : Ps.length ≤ 3) :
    Calls Try.prog 28 #[.slice (some ⟨S, 0, none⟩) Ps.length Ps.length] w fun e w' => ∃ v, e = .returned v ∧ w'.ownsRow w.heap.size 71 2 v (partsL Ps).length (edC (partsL Ps)) ∧ Below w.heap.size w w' := by
  obtain ⟨n, hnn⟩ : ∃ n, Ps.length = n := ⟨_, rfl⟩
  obtain ⟨tot, htot⟩ : ∃ tot, (partsL Ps).length = tot := ⟨_, rfl⟩
  have hSl := hp_lt hS
  have hcS : ∀ k p, Ps[k]? = some p → w.cell? ⟨S, k, none⟩ = some (partV p) := fun k p hk => by
    rw [cell_of_row w S k _ _ _ hS]
    simp [hk]
  have HP := hide (And.intro hp (And.intro hnn (And.intro htot hcS)))
  rw [hnn] at hn ⊢
  rw [htot] at hl
  clear hp hnn htot hcS hS
  have HG := hide fun w1 => grow_any tot hl w1
  go_enter Try.func28, Try.ntmps28
  go_wp2_with fail
  go_loopw [3, 11] (fun sz i wr => ∃ k : Nat, k ≤ n ∧ i = .int .i64 k ∧ sz = .int .i64 (partsL (Ps.take k)).length ∧ Below w.heap.size w wr) (fun _ i _ => n - (intOf i).toNat)
  case atStart => exact ⟨0, Nat.zero_le _, rfl, rfl, Below.refl _ _⟩
  case round =>
    obtain ⟨k, hk, rfl, rfl, hbw⟩ := hrel
    have hw1 : IntKind.i64.wrap ((k : Int) + 1) = k + 1 := by rw [IntKind.wrap_i64]; omega
    by_cases hlt : k < n
    · have hlti : (k : Int) < n := by omega
      obtain ⟨p, hpk⟩ : ∃ p, Ps[k]? = some p := ⟨Ps[k]'(by have := HP.out.2.1; omega), by simp⟩
      have c0 := (hbw.cell (p := ⟨S, k, none⟩) hSl).trans (HP.out.2.2.2 k p hpk)
      have hpt := parts_take hpk
      have hln := parts_len Ps (k + 1)
      rw [HP.out.2.2.1] at hln
      obtain ⟨sz, hsz⟩ : ∃ sz, (partsL (Ps.take k)).length = sz := ⟨_, rfl⟩
      obtain ⟨pl, hpl⟩ : ∃ pl, p.2.2.length = pl := ⟨_, rfl⟩
      rw [hpt, List.length_append, hsz, hpl] at hln
      unfold partV at c0
      rw [hpl] at c0
      rw [hsz]
      have hw2 : IntKind.i64.wrap ((sz : Int) + pl) = sz + pl := by rw [IntKind.wrap_i64]; omega
      have hw3 : ¬ ((sz : Int) + pl < 0) := by omega
      have HX := hide (And.intro hbw (And.intro hpt (And.intro hsz hpl)))
      clear hbw hpt hsz hpl
      go_wp2_with fail
      refine ⟨⟨k + 1, by omega, by simp, ?_, HX.out.1⟩, by simp [intOf]; omega⟩
      rw [HX.out.2.1, List.length_append, HX.out.2.2.1, HX.out.2.2.2]
      simp
    · obtain rfl : k = n := by omega
      have hlti : ¬ ((k : Int) < k) := by omega
      have htk : (partsL (Ps.take k)).length = tot := by rw [List.take_of_length_le (by have := HP.out.2.1; omega)]; exact HP.out.2.2.1
      rw [htk]
      have hwz := hbw.size
      have HB := hide hbw
      clear hbw htk
      go_wp2_with (go_at_call 52; refine (HG.out wr).mono ?_; rintro e w1 ⟨v, rfl, y1, y2⟩; have HY := hide (And.intro (own_less y1 hwz) (HB.out.trans (y2.mono hwz))); clear y1 y2)
      go_loopw [6, 27] (fun v i wx => ∃ j : Nat, j ≤ k ∧ i = .int .i64 j ∧ wx.ownsRow w.heap.size 71 2 v (partsL (Ps.take j)).length (edC (partsL (Ps.take j))) ∧ Below w.heap.size w wx) (fun _ i _ => k - (intOf i).toNat)
      case atStart => exact ⟨0, Nat.zero_le _, rfl, HY.out.1, HY.out.2⟩
      case round =>
        obtain ⟨j, hj, rfl, hrow, hbx⟩ := hrel
        have hw1 : IntKind.i64.wrap ((j : Int) + 1) = j + 1 := by rw [IntKind.wrap_i64]; omega
        by_cases hlt : j < k
        · have hjti : (j : Int) < k := by omega
          obtain ⟨p, hpj⟩ : ∃ p, Ps[j]? = some p := ⟨Ps[j]'(by have := HP.out.2.1; omega), by simp⟩
          have c0 := (hbx.cell (p := ⟨S, j, none⟩) hSl).trans (HP.out.2.2.2 j p hpj)
          have hpt := parts_take hpj
          have hln := parts_len Ps (j + 1)
          rw [HP.out.2.2.1, hpt, List.length_append] at hln
          obtain ⟨v', w', hap, z1, z2⟩ := append_ed (T := 50) (cap := p.2.1) hrow ((HP.out.1 p (List.mem_of_getElem? hpj)).below hbx) hbx.size (by omega)
          have hB2 : Below w.heap.size w w' := hbx.grown z2 hbx.size (fun r e => own_base hrow r e)
          rw [← hpt] at z1
          have hs5 := own_shape z1
          obtain ⟨n5, hn5⟩ : ∃ n5, (partsL (Ps.take (j + 1))).length = n5 := ⟨_, rfl⟩
          rw [hn5] at hs5
          obtain ⟨ga5, gc5, rfl⟩ := hs5
          have hs4 := own_shape hrow
          obtain ⟨n4, hn4⟩ : ∃ n4, (partsL (Ps.take j)).length = n4 := ⟨_, rfl⟩
          rw [hn4] at hs4
          obtain ⟨ga4, gc4, rfl⟩ := hs4
          have HX := hide (And.intro z1 hB2)
          have HA := hide hap
          unfold partV at c0
          clear z1 z2 hB2 hap hrow hbx hpt hln hn4 hn5
          go_wp2_with (at_builtin; refine l_val rfl _ (ex_append2 (t := 50) (t' := 50) rfl rfl rfl HA.out) ?_)
          exact ⟨⟨j + 1, by omega, by simp, HX.out.1, HX.out.2⟩, by simp [intOf]; omega⟩
        · obtain rfl : j = k := by omega
          have hjti : ¬ ((j : Int) < j) := by omega
          rw [List.take_of_length_le (by have := HP.out.2.1; omega)] at hrow
          have hs4 := own_shape hrow
          rw [HP.out.2.2.1] at hs4
          obtain ⟨ga4, gc4, rfl⟩ := hs4
          have HX := hide (And.intro hrow hbx)
          clear hrow hbx
          go_wp2_with fail
          go_ret
          exact ⟨_, rfl, HX.out.1, HX.out.2⟩
end Go.Proofs.Ytffjmkngdjbjlaa
