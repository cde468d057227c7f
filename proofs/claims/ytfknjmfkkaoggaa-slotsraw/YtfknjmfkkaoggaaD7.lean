/- Fork: another device with the same. -/
import Derived.Test.YtfknjmfkkaoggaaD6
namespace Go.Proofs.Ytfknjmfkkaoggaa
open Go.RowKit Go.Shelf

theorem own_less {W : World} {base base' e size n : Nat} {v : Value} {xs : List Value} (h : W.ownsRow base e size v n xs) (hb : base' ≤ base) : W.ownsRow base' e size v n xs := by
  obtain ⟨h1, h2 | ⟨g', c, cur, hv, hb', r⟩⟩ := h
  · exact ⟨h1, .inl h2⟩
  · exact ⟨h1, .inr ⟨g', c, cur, hv, Nat.le_trans hb hb', r⟩⟩
/-- A token is put behind tokens that the call itself holds. -/
theorem own_empty (w : World) (base e m : Nat) (hb : base ≤ w.heap.size) : (w.alloc (.cells #[] e)).ownsRow base e m (.slice (some ⟨w.heap.size, 0, none⟩) 0 0) 0 [] :=
  ⟨by simp, .inr ⟨w.heap.size, 0, #[], rfl, hb, World.alloc_heap_new w _, Nat.le_refl _, by unfold maxLen; omega, by simp, by simp⟩⟩
theorem own_cells {w : World} {base e m n g c : Nat} {xs : List Value} (h : w.ownsRow base e m (.slice (some ⟨g, 0, none⟩) n c) n xs) : ∀ j u, xs[j]? = some u → w.cell? ((⟨g, 0, none⟩ : Addr).add j) = some u := h.cells rfl
/-- An empty row, and all of another one behind it. -/
theorem copied {T t e : TypeId} {z : Value} {m b : Nat} (hu : Try.prog.underlying t = some (.slice e)) (hi : (Try.prog.info? e).map (fun i => (i.zero, i.size, i.bytes)) = some (some z, m, b)) (hz : z.cells.size = m) (hm : 0 < m) (hb : b ≤ 1000) {base n : Nat} {ga : Option Addr} {c : Nat} {xs : List Value} {w W : World} (h : W.ownsRow base e m (.slice ga n c) n xs) (hn : n ≤ 1000000) (h1 : ∀ u ∈ xs, u.oneCell' = true) (k : Nat) (hk : k ≤ W.heap.size) (hv : W.ownsRow k e m (.slice (some ⟨w.heap.size, 0, none⟩) 0 0) 0 []) (_hw : w.heap.size < W.heap.size) (hB : Below w.heap.size w W) (_hkw : w.heap.size = k) :
    ∃ v' w', (Builtin.append_ #[t, t] T #[.slice (some ⟨w.heap.size, 0, none⟩) 0 0, .slice ga n c]).run Try.prog W = .ok v' w' ∧ w'.ownsRow k e m v' n xs ∧ Below w.heap.size w w' := by
  obtain ⟨ti, t1, t2, t3, t4⟩ := infos hi
  obtain ⟨hl, ⟨h2, h3⟩ | ⟨g, cap, cur, h2, _⟩⟩ := id h
  · subst h3
    cases h2
    have hx : xs = [] := by simpa using hl
    subst hx
    refine ⟨_, _, run_append_owned_none (P := Try.prog) W k t T e ti m hu t1 _ 0 [] hv, hv, hB⟩
  · cases h2
    obtain ⟨v', w', hap, y1, y2, _, y4⟩ := run_append_own_at (P := Try.prog) W k t T e ti z m b hu t1 t2 t3 t4 hz hm (.slice (some ⟨w.heap.size, 0, none⟩) 0 0) 0 [] hv ⟨g, 0, none⟩ n c xs hl (own_cells h) h1 (by unfold maxLen; omega) (by have : (0 + n) * b ≤ 1000000 * 1000 := Nat.mul_le_mul (by omega) hb; omega) hk
    refine ⟨v', w', hap, by simpa using y1, hB.grown y2 hB.size (fun r e => by cases e; exact Nat.le_refl _)⟩
set_option maxRecDepth 100000 in
theorem clone_sec (base : Nat) (ga : Option Addr) (n c : Nat) (xs : List Value) (w : World) (h : w.ownsRow base 59 64 (.slice ga n c) n xs) (hn : n ≤ 1000000) (h1 : ∀ u ∈ xs, u.oneCell' = true) :
    Calls Try.prog 68 #[.slice ga n c] w fun e w' => ∃ v', e = .returned v' ∧ w'.ownsRow w.heap.size 59 64 v' n xs ∧ Below w.heap.size w w' := by
  obtain ⟨W, hW⟩ : ∃ W, w.alloc (.cells #[] 59) = W := ⟨_, rfl⟩
  have hB : Below w.heap.size w W := by rw [← hW]; exact (Below.refl _ w).alloc (Nat.le_refl _) _
  have hz : W.heap.size = w.heap.size + 1 := by rw [← hW]; simp
  have hv := own_empty w w.heap.size 59 64 (Nat.le_refl _)
  rw [hW] at hv
  obtain ⟨v', w', hap, y1, y2⟩ := copied (T := 88) (t := 88) (w := w) Try.underlying88 infoSecD (by simp [Value.cells, byteCells_len, sec0]) (by omega) (by omega) (own_same (B := W) h (fun g e => hB.block g (own_lt h g e))) hn h1 w.heap.size hB.size hv (by omega) hB rfl
  have q22 : ∀ (w : World) (a : Option Addr) (n c n' c' : Nat), (binOp .eql 88 (.slice a n c) (.slice none n' c')).run Try.prog w = .ok (.bool a.isNone) w := fun w a n c n' c' => Lib.run_eql_slice_nil w _ _ a n c n' c' Try.underlying88
  rcases Option.eq_none_or_eq_some ga with rfl | ⟨g, rfl⟩
  · obtain ⟨hl, ⟨h2, h3⟩ | ⟨g, cap, cur, h2, _⟩⟩ := id h
    · cases h2
      have hx : xs = [] := by simpa using hl
      subst hx
      clear h hap y1 y2 hv hB h1
      go_enter Try.func68, Try.ntmps68
      go_wp2_with fail
      go_ret
      exact ⟨_, rfl, World.ownsRow_nil _ _ _ _, Below.refl _ _⟩
    · cases h2
  · have HA := hide hap
    have HY := hide (And.intro y1 y2)
    clear h hap y1 y2 hv hB h1
    go_enter Try.func68, Try.ntmps68
    go_wp2_with (first | (refine l_val rfl _ (ex_slice (us := #[]) rfl rfl (run_none Try.underlying88 infoSecD w)) ?_; rw [hW]) | (refine l_val rfl _ (ex_append (t := 88) rfl rfl rfl HA.out) ?_))
    go_ret
    exact ⟨_, rfl, HY.out.1, HY.out.2⟩
set_option maxRecDepth 100000 in
theorem clone_wr (base : Nat) (ga : Option Addr) (n c : Nat) (xs : List Value) (w : World) (h : w.ownsRow base 98 65 (.slice ga n c) n xs) (hn : n ≤ 1000000) (h1 : ∀ u ∈ xs, u.oneCell' = true) :
    Calls Try.prog 69 #[.slice ga n c] w fun e w' => ∃ v', e = .returned v' ∧ w'.ownsRow w.heap.size 98 65 v' n xs ∧ Below w.heap.size w w' := by
  obtain ⟨W, hW⟩ : ∃ W, w.alloc (.cells #[] 98) = W := ⟨_, rfl⟩
  have hB : Below w.heap.size w W := by rw [← hW]; exact (Below.refl _ w).alloc (Nat.le_refl _) _
  have hz : W.heap.size = w.heap.size + 1 := by rw [← hW]; simp
  have hv := own_empty w w.heap.size 98 65 (Nat.le_refl _)
  rw [hW] at hv
  obtain ⟨v', w', hap, y1, y2⟩ := copied (T := 89) (t := 89) (w := w) Try.underlying89 infoWrD (by simp [Value.cells, wrC1, byteCells_len, sec0]) (by omega) (by omega) (own_same (B := W) h (fun g e => hB.block g (own_lt h g e))) hn h1 w.heap.size hB.size hv (by omega) hB rfl
  have q22 : ∀ (w : World) (a : Option Addr) (n c n' c' : Nat), (binOp .eql 89 (.slice a n c) (.slice none n' c')).run Try.prog w = .ok (.bool a.isNone) w := fun w a n c n' c' => Lib.run_eql_slice_nil w _ _ a n c n' c' Try.underlying89
  rcases Option.eq_none_or_eq_some ga with rfl | ⟨g, rfl⟩
  · obtain ⟨hl, ⟨h2, h3⟩ | ⟨g, cap, cur, h2, _⟩⟩ := id h
    · cases h2
      have hx : xs = [] := by simpa using hl
      subst hx
      clear h hap y1 y2 hv hB h1
      go_enter Try.func69, Try.ntmps69
      go_wp2_with fail
      go_ret
      exact ⟨_, rfl, World.ownsRow_nil _ _ _ _, Below.refl _ _⟩
    · cases h2
  · have HA := hide hap
    have HY := hide (And.intro y1 y2)
    clear h hap y1 y2 hv hB h1
    go_enter Try.func69, Try.ntmps69
    go_wp2_with (first | (refine l_val rfl _ (ex_slice (us := #[]) rfl rfl (run_none Try.underlying89 infoWrD w)) ?_; rw [hW]) | (refine l_val rfl _ (ex_append (t := 89) rfl rfl rfl HA.out) ?_))
    go_ret
    exact ⟨_, rfl, HY.out.1, HY.out.2⟩
theorem las_one (l : List Sec) : ∀ u ∈ lasC l, u.oneCell' = true := fun u hu => by
  simp only [lasC, List.mem_flatMap] at hu
  obtain ⟨s, _, hs⟩ := hu
  exact one_bytes s u hs
theorem wrs_one (l : List (Nat × Sec)) : ∀ u ∈ wrC l, u.oneCell' = true := fun u hu => by
  simp only [wrC, List.mem_flatMap] at hu
  obtain ⟨x, _, hx⟩ := hu
  exact wr_mem1 x u hx
theorem keepB {w w1 : World} {a : Addr} {v : Value} {n : Nat} (hb : Below n w w1) (h : w.cell? a = some v) (hn : w.heap.size ≤ n) : w1.cell? a = some v := (hb.cell (Nat.lt_of_lt_of_le (World.block_lt_of_cell? w _ h) hn)).trans h
set_option maxHeartbeats 1000000 in
set_option maxRecDepth 100000 in
theorem fork_any (base p : Nat) (d : Dv) (vl vw : Value) (w : World) (h : IsD base p d vl vw w) (hd : DvOk d) (hb : base ≤ w.heap.size) :
    Calls Try.prog 50 #[.pointer (some ⟨p, 0, none⟩)] w fun e w' => ∃ p' vl' vw', e = .returned (.pointer (some ⟨p', 0, none⟩)) ∧ IsD base p' d vl' vw' w' ∧ Below w.heap.size w w' ∧ ∀ j, foot p' vl' vw' j → w.heap.size ≤ j := by
  obtain ⟨q0, q1, _⟩ := h.cells
  obtain ⟨ga, gc, rfl⟩ := own_shape h.las
  obtain ⟨ga2, gc2, rfl⟩ := own_shape h.wr
  have hfew := hd.few
  have hmost := hd.most
  have HH := hide (And.intro h hd)
  clear h hd
  go_enter Try.func50, Try.ntmps50
  go_wp2_with fail
  go_region_held3 (fun w' => w'.cell? ⟨p, 0, none⟩ = some (.slice ga d.las.length gc) ∧ w'.cell? ⟨p, 1, none⟩ = some (.slice ga2 d.wr.length gc2)) ((go_split_ands; refine ⟨?_, ?_⟩ <;> first | assumption | exact kc_alloc (by assumption) | exact keepB (by assumption) (by assumption) (Nat.le_refl _)))
    (first
      | (go_at_call 68; refine (clone_sec base ga d.las.length gc _ w.drew HH.out.1.las.drew (by omega) (las_one d.las)).mono ?_; rintro e w1 ⟨v1, rfl, y1, y2⟩; obtain ⟨g1, k1, rfl⟩ := own_shape y1)
      | (go_at_call 69; refine (clone_wr base ga2 d.wr.length gc2 _ w1 (own_same HH.out.1.wr (fun g e => y2.block g (own_lt HH.out.1.wr g e))) (by omega) (wrs_one d.wr)).mono ?_; rintro e w2 ⟨v2, rfl, y3, y4⟩; obtain ⟨g2, k2, rfl⟩ := own_shape y3))
  have hs1 : w.heap.size ≤ w1.heap.size := y2.size
  have hs2 : w1.heap.size ≤ w2.heap.size := y4.size
  have hB2 : Below w.heap.size w w2 := (show Below w.heap.size w w1 from (Below.refl _ w).drew.trans y2).trans (y4.mono hs1)
  have hdev : IsD base w2.heap.size d (.slice g1 d.las.length k1) (.slice g2 d.wr.length k2) (w2.alloc (.cells #[.slice g1 d.las.length k1, .slice g2 d.wr.length k2] 91)) :=
    ⟨by omega, World.alloc_heap_new w2 _, (own_less (own_same (B := w2) y1 (fun g e => y4.block g (own_lt y1 g e))) hb).alloc _, (own_less y3 (show base ≤ w1.heap.size by omega)).alloc _⟩
  have hft : ∀ j, foot w2.heap.size (.slice g1 d.las.length k1) (.slice g2 d.wr.length k2) j → w.heap.size ≤ j := by
    rintro j (h | h | h)
    · omega
    · exact own_base y1 j h
    · have := own_base y3 j h
      omega
  have HF := hide (And.intro hdev (And.intro (hB2.alloc hB2.size (.cells #[.slice g1 d.las.length k1, .slice g2 d.wr.length k2] 91)) hft))
  clear hdev hft hB2 y1 y2 y3 y4
  go_wp2_with fail
  go_ret
  exact ⟨_, _, _, rfl, HF.out.1, HF.out.2.1, HF.out.2.2⟩
theorem fork_nil (w : World) : Calls Try.prog 50 #[.pointer none] w fun e w' => e = .returned (.pointer none) ∧ w' = w := by
  go_enter Try.func50, Try.ntmps50
  go_wp2_with fail
  go_ret
  exact ⟨rfl, rfl⟩
end Go.Proofs.Ytfknjmfkkaoggaa
