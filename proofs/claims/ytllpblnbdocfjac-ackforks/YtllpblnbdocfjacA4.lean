/- The document's queue. -/
import Derived.Test.YtllpblnbdocfjacA3
namespace Go.Proofs.Ytllpblnbdocfjac
open Go.RowKit

theorem rnew_any (base : Nat) (w : World) (hb : base ≤ w.heap.size) :
    Calls Try.prog 35 #[] w fun e w' => ∃ p v, e = .returned (.pointer (some ⟨p, 0, none⟩)) ∧ IsR base p q0 v w' ∧ Below w.heap.size w w' ∧ ∀ j, foot p v j → w.heap.size ≤ j := by
  go_enter Try.func35, Try.ntmps35
  go_wp2_with fail
  go_ret
  refine ⟨w.heap.size, .slice none 0 0, rfl, ⟨hb, heap_alloc_new w _, World.ownsRow_nil _ _ _ _⟩, (Below.refl _ w).alloc (Nat.le_refl _) _, ?_⟩
  rintro j (rfl | h)
  · exact Nat.le_refl _
  · cases h
theorem rhandled_any (base p : Nat) (q : Qs) (v : Value) (w : World) (h : IsR base p q v w) :
    Calls Try.prog 38 #[.pointer (some ⟨p, 0, none⟩)] w fun e w' => e = .returned (.int .u32 q.g) ∧ w' = w := by
  obtain ⟨c0, c1, c2, _⟩ := cellsR h
  clear h
  go_enter Try.func38, Try.ntmps38
  go_wp2_with fail
  go_ret
  exact ⟨rfl, rfl⟩
set_option maxHeartbeats 1000000 in
theorem rsent_any (base p : Nat) (q : Qs) (v : Value) (w : World) (h : IsR base p q v w) (hq : QOk q) :
    Calls Try.prog 39 #[.pointer (some ⟨p, 0, none⟩)] w fun e w' => e = .returned (.int .u32 (sentQ q)) ∧ Below w.heap.size w w' := by
  obtain ⟨c0, c1, c2, _⟩ := cellsR h
  obtain ⟨ga, gc, rfl⟩ := own_shape h.row
  have hl : IntKind.u32.wrap (q.l.length : Int) = q.l.length := by rw [IntKind.wrap_u32]; have := hq.few; omega
  have hs : ((q.a : Int) + q.l.length) % 4294967296 = (sentQ q : Nat) := by unfold sentQ; omega
  clear h hq
  go_enter Try.func39, Try.ntmps39
  go_wp2_with fail
  go_region
  all_goals
    go_wp2_with fail
    go_ret
    rw [← hs]
    exact ⟨rfl, (Below.refl _ w).drew⟩
theorem rgot_any (base p : Nat) (q : Qs) (v : Value) (w : World) (h : IsR base p q v w) :
    Calls Try.prog 44 #[.pointer (some ⟨p, 0, none⟩)] w fun e w' => e = .returned (.tuple #[]) ∧ ToR base p v (gotQ q) v w w' := by
  obtain ⟨c0, c1, c2, f0, f1, f2⟩ := cellsR h
  have HH := hide h
  clear h
  go_enter Try.func44, Try.ntmps44
  go_wp2_with fail
  exact bodyPost_end (results_none rfl _ _ _) rfl ⟨rfl, HH.out.set (by decide) (by simp [cR, gotQ]) rfl⟩
set_option maxRecDepth 100000 in
theorem rwaiting_any (base p : Nat) (q : Qs) (v : Value) (w : World) (h : IsR base p q v w) (hq : QOk q) :
    Calls Try.prog 40 #[.pointer (some ⟨p, 0, none⟩)] w fun e w' => ∃ r, e = .returned r ∧ w'.ownsRow w.heap.size 9 1 r q.l.length (strC q.l) ∧ Below w.heap.size w w' := by
  obtain ⟨c0, c1, c2, _⟩ := cellsR h
  obtain ⟨ga, gc, rfl⟩ := own_shape h.row
  obtain ⟨v', w', h1, h2, h3⟩ := copied (T := 29) (M := fun _ => False) (own_lst h.row (fun _ _ x => x)) (by have := hq.few; omega)
  obtain ⟨W, hW⟩ : ∃ W, w.alloc (.cells #[] 9) = W := ⟨_, rfl⟩
  have c0' : W.cell? ⟨p, 0, none⟩ = some (.slice ga q.l.length gc) := by rw [← hW]; exact kc_alloc c0
  rw [hW] at h1
  have HA := hide h1
  have HY := hide (And.intro h2 h3)
  clear h hq h1 h2 h3
  go_enter Try.func40, Try.ntmps40
  go_wp2_with (first | (refine l_val rfl _ (ex_slice (us := #[]) rfl rfl (run_none9 w)) ?_; rw [hW]) | (at_builtin; refine l_val rfl _ (ex_append (t := 29) rfl rfl rfl HA.out) ?_))
  go_ret
  exact ⟨_, rfl, HY.out.1, HY.out.2⟩
set_option maxRecDepth 100000 in
set_option maxHeartbeats 1000000 in
theorem rsend_any (base p : Nat) (q : Qs) (v : Value) (s : ByteArray) (w : World) (h : IsR base p q v w) (hq : QOk q) (hb : base ≤ w.heap.size) :
    Calls Try.prog 41 #[.pointer (some ⟨p, 0, none⟩), .string s] w fun e w' => e = .returned (.int .i64 (sendE q)) ∧ ∃ v', ToR base p v (sendQ q s) v' w w' := by
  obtain ⟨c0, c1, c2, f0, f1, f2⟩ := cellsR h
  have hfew := hq.few
  obtain ⟨ga, gc, rfl⟩ := own_shape h.row
  obtain ⟨v1, w1, h1, h2, h3⟩ := copied (T := 29) (M := fun _ => False) (own_lst h.row (fun _ _ x => x)) (by omega)
  obtain ⟨W0, hW0⟩ : ∃ W, w.alloc (.cells #[] 9) = W := ⟨_, rfl⟩
  have c0' : W0.cell? ⟨p, 0, none⟩ = some (.slice ga q.l.length gc) := by rw [← hW0]; exact kc_alloc c0
  rw [hW0] at h1
  obtain ⟨W, hW⟩ : ∃ W, w1.alloc (.cells #[.string s] 9) = W := ⟨_, rfl⟩
  have hB1 : Below w1.heap.size w1 W := by rw [← hW]; exact (Below.refl _ w1).alloc (Nat.le_refl _) _
  have hB : Below w.heap.size w W := h3.trans (hB1.mono h3.size)
  have hone := one_lst w1 s (fun _ => False) (fun x => x)
  rw [hW] at hone
  obtain ⟨v', w', hap, y1, y2, y4⟩ := append_lst (T := 29) (own_same (B := W) h2 (fun g e => hB1.block g (own_lt h2 g e))) hone hB.size (by simp; omega)
  have hnew : ∀ g, v1.ownBlock = some g → (Value.slice ga q.l.length gc).ownBlock = some g ∨ w.heap.size ≤ g := fun g e => .inr (own_base h2 g e)
  have hp' := here_of h (by decide) hB y2 hnew
  have d2 : w'.cell? ⟨p, 0, none⟩ = some (.slice ga q.l.length gc) := by unfold cR at hp'; simp [World.cell?, hp']
  have g2 : w'.frozen? ⟨p, 0, none⟩ = false := by simp [World.frozen?, hp']
  have hput := h.put (q' := ⟨q.l ++ [s], q.a, q.g⟩) (k := 0) (u := v') (by decide) (grown_frees h hb hB y2 hnew) hp' (own_less y1 hb) (fun g e => .inr (own_base y1 g e)) (by simp [cR])
  obtain ⟨m, hm⟩ : ∃ m, (q.l ++ [s]).length = m := ⟨_, rfl⟩
  rw [hm] at y1
  obtain ⟨ga', gc', rfl⟩ := own_shape y1
  obtain ⟨ga1, gc1, rfl⟩ := own_shape h2
  clear hm
  by_cases h16 : 16 ≤ q.l.length
  · have hge : (16 : Int) ≤ q.l.length := by omega
    have HS := hide (QTo.stay h (Below.refl _ w) hb)
    unfold sendE sendQ
    rw [if_pos h16, if_pos h16]
    clear h hap y1 y2 y4 hput hone hB hB1 hW hW0 hp' h1 h2 h3 hnew
    go_enter Try.func41, Try.ntmps41
    go_wp2_with fail
    go_ret
    exact ⟨rfl, _, HS.out⟩
  · have hge : ¬ (16 : Int) ≤ q.l.length := by omega
    have HS := hide hput
    have HA := hide hap
    have HA1 := hide h1
    unfold sendE sendQ
    rw [if_neg h16, if_neg h16]
    clear h hap y1 y2 y4 hput hone hB hB1 hp' h1 h2 h3 hnew
    go_enter Try.func41, Try.ntmps41
    go_wp2_with (first | (refine l_val rfl _ (ex_slice (us := #[]) rfl rfl (run_none9 w)) ?_; rw [hW0]) | (at_builtin; refine l_val rfl _ (ex_append (t := 29) rfl rfl rfl HA1.out) ?_) | (at_builtin; refine l_val rfl _ (ex_append (t := 29) rfl rfl rfl HA.out) ?_))
    go_ret
    exact ⟨rfl, _, HS.out⟩
set_option maxRecDepth 100000 in
set_option maxHeartbeats 2000000 in
theorem rack_any (base p : Nat) (q : Qs) (v : Value) (h : Nat) (w : World) (hI : IsR base p q v w) (hq : QOk q) (hb : base ≤ w.heap.size) (hh : h < 4294967296) :
    Calls Try.prog 42 #[.pointer (some ⟨p, 0, none⟩), .int .u32 h] w fun e w' => ∃ r v', e = .returned (.tuple #[r, .int .i64 (ackE q h)]) ∧ Lst w' (fun j => j < w.heap.size ∨ foot p v' j) r (ackL q h) ∧ ToR base p v (ackQ q h) v' w w' := by
  obtain ⟨n, hn⟩ : ∃ n, sinceQ q h = n := ⟨_, rfl⟩
  have hni : ((h : Int) - q.a) % 4294967296 = n := by rw [← hn]; unfold sinceQ; have := hq.a; omega
  have hn32 : n < 4294967296 := by rw [← hn]; exact Nat.mod_lt _ (by omega)
  obtain ⟨c0, c1, c2, f0, f1, f2⟩ := cellsR hI
  obtain ⟨ga, gc, rfl⟩ := own_shape hI.row
  have hfew := hq.few
  have hl : IntKind.i64.wrap (n : Int) = n := by rw [IntKind.wrap_i64]; omega
  unfold ackE ackL ackQ
  rw [hn]
  by_cases hle : n ≤ q.l.length
  · rw [if_pos hle, if_pos hle, if_pos hle]
    have hgt : ¬ ((q.l.length : Int) < n) := by omega
    have hcap : q.l.length ≤ gc := by
      obtain ⟨_, ⟨e, h0⟩ | ⟨g, cap, cur, e, _, _, x, _⟩⟩ := hI.row
      · rw [h0]
        exact Nat.zero_le _
      · cases e
        exact x
    have es1 : ∀ w, (Instr.slice 29 (.slice ga q.l.length gc) none (some (.int .i64 n)) none).run Try.prog w = .ok (sliced ga 0 n gc 1) w := fun w => by
      rw [run_slice_h (P := Try.prog) w _ ga q.l.length gc (by kernel_rfl) .i64 n (by omega) (by omega)]
      kernel_rfl
    have es2 : ∀ w, (Instr.slice 29 (.slice ga q.l.length gc) (some (.int .i64 n)) none none).run Try.prog w = .ok (sliced ga n q.l.length gc 1) w := fun w => by
      rw [run_slice_l (P := Try.prog) w _ ga q.l.length gc (by kernel_rfl) .i64 n (by omega) (by omega)]
      kernel_rfl
    have hM : Lst w (fun _ => False) (.slice ga q.l.length gc) q.l := own_lst hI.row (fun _ _ x => x)
    have hr1 := lst_cut (lo := 0) (hi := n) (mx := gc) hM (Nat.zero_le _) hle (by omega)
    rw [List.drop_zero] at hr1
    have hr2 := lst_cut (lo := n) (hi := q.l.length) (mx := gc) hM hle (Nat.le_refl _) hcap
    rw [List.take_length] at hr2
    obtain ⟨rv1, hv1⟩ : ∃ x, sliced ga 0 n gc 1 = x := ⟨_, rfl⟩
    obtain ⟨rv2, hv2⟩ : ∃ x, sliced ga n q.l.length gc 1 = x := ⟨_, rfl⟩
    rw [hv1] at hr1 es1
    rw [hv2] at hr2 es2
    clear hv1 hv2
    obtain ⟨o1, w1, a1, a2, a3⟩ := copied (T := 29) hr1 (by simp; omega)
    obtain ⟨W0, hW0⟩ : ∃ W, w.alloc (.cells #[] 9) = W := ⟨_, rfl⟩
    have k0 : W0.cell? ⟨p, 0, none⟩ = some (.slice ga q.l.length gc) := by rw [← hW0]; exact kc_alloc c0
    rw [hW0] at a1
    obtain ⟨v', w2, b1, b2, b3⟩ := copied (T := 29) (hr2.below a3) (by simp; omega)
    obtain ⟨W1, hW1⟩ : ∃ W, w1.alloc (.cells #[] 9) = W := ⟨_, rfl⟩
    have k1 : W1.cell? ⟨p, 0, none⟩ = some (.slice ga q.l.length gc) := by rw [← hW1]; exact kc_alloc (keepB a3 c0 (Nat.le_refl _))
    rw [hW1] at b1
    have hB : Below w.heap.size w w2 := a3.trans (b3.mono a3.size)
    have hg : w2.grownBy w2 none := World.grownBy.refl _ _
    have hp' := here_of (w' := w2) hI (by decide) hB hg (fun g e => by cases e)
    have d2 : w2.cell? ⟨p, 0, none⟩ = some (.slice ga q.l.length gc) := by unfold cR at hp'; simp [World.cell?, hp']
    have g2 : w2.frozen? ⟨p, 0, none⟩ = false := by simp [World.frozen?, hp']
    have hput := hI.put (q' := ⟨q.l.drop n, q.a, q.g⟩) (k := 0) (u := v') (by decide) (grown_frees hI hb hB hg (fun g e => by cases e)) hp' (own_less b2 (Nat.le_trans hb a3.size)) (fun g e => .inr (Nat.le_trans a3.size (own_base b2 g e))) (by simp [cR])
    have hset := hput.1.set (q' := ⟨q.l.drop n, h, q.g⟩) (k := 1) (u := .int .u32 h) (by decide) (by simp [cR]) rfl
    have e0 := (cellsR hput.1).2.1
    have e1 := (cellsR hput.1).2.2.2.2.1
    have hpl := hp_lt hI.here
    have hl0 : Lst w1 (fun j => j < w.heap.size ∨ w1.heap.size ≤ j) o1 (q.l.take n) := own_lst a2 (fun g e => by
      have := own_base a2 g e
      have := own_lt a2 g e
      omega)
    have hl1 := (hl0.below b3).frees (n := 0) (N := fun j => j = p) (frees_set w2 p 0 v') (fun j hj => .inl (.inl (by omega)))
    have hl2 := hl1.frees (n := 0) (N := fun j => j = p) (frees_set _ p 1 (.int .u32 h)) (fun j hj => .inl (.inl (by omega)))
    have hl3 := hl2.off (N := fun j => j < w.heap.size ∨ foot p v' j) (fun j _ hj => by
      rcases hj with hj | hj | hj
      · exact .inl hj
      · exact .inl (by omega)
      · exact .inr (own_base b2 j hj))
    have HF := hide (And.intro hl3 (hput.trans hset))
    have HA := hide a1
    have HB := hide b1
    obtain ⟨m, hm⟩ : ∃ m, (q.l.drop n).length = m := ⟨_, rfl⟩
    rw [hm] at b2
    obtain ⟨ga', gc', rfl⟩ := own_shape b2
    clear hI hr1 hr2 hM a1 a2 a3 b1 b2 b3 hp' hput hset hl0 hl1 hl2 hl3 hm hg hB
    go_enter Try.func42, Try.ntmps42
    go_wp2_with (first | (refine l_val rfl _ (ex_slice (us := #[]) rfl rfl (run_none9 w)) ?_; rw [hW0]) | (refine l_val rfl _ (ex_slice (us := #[]) rfl rfl (run_none9 w1)) ?_; rw [hW1]) | (at_builtin; refine l_val rfl _ (ex_append (t := 29) rfl rfl rfl HA.out) ?_) | (at_builtin; refine l_val rfl _ (ex_append (t := 29) rfl rfl rfl HB.out) ?_))
    go_ret2
    first | exact ⟨_, rfl, _, HF.out.1, HF.out.2⟩ | exact ⟨_, _, rfl, HF.out.1, HF.out.2⟩
  · rw [if_neg hle, if_neg hle, if_neg hle]
    have hgt : ((q.l.length : Int) < n) := by omega
    have HI := hide hI
    clear hI
    go_enter Try.func42, Try.ntmps42
    go_wp2_with fail
    go_ret2
    first | exact ⟨_, rfl, _, Lst.nil _ _, QTo.stay HI.out (Below.refl _ _) hb⟩ | exact ⟨_, _, rfl, Lst.nil _ _, QTo.stay HI.out (Below.refl _ _) hb⟩
set_option maxRecDepth 100000 in
set_option maxHeartbeats 2000000 in
theorem rresume_any (base p : Nat) (q : Qs) (v : Value) (h : Nat) (w : World) (hI : IsR base p q v w) (hq : QOk q) (hb : base ≤ w.heap.size) (hh : h < 4294967296) :
    Calls Try.prog 43 #[.pointer (some ⟨p, 0, none⟩), .int .u32 h] w fun e w' => ∃ r v', e = .returned (.tuple #[r, .int .i64 (ackE q h)]) ∧ Lst w' (fun j => j < w.heap.size ∨ foot p v' j) r (resL q h) ∧ ToR base p v (ackQ q h) v' w w' := by
  have HA := hide (rack_any base p q v h w hI hq hb hh)
  have HO := hide (ackQ_ok hq hh)
  unfold resL
  obtain ⟨A, hA⟩ : ∃ A, ackQ q h = A := ⟨_, rfl⟩
  obtain ⟨L, hL⟩ : ∃ L, ackL q h = L := ⟨_, rfl⟩
  obtain ⟨E, hE⟩ : ∃ E, ackE q h = E := ⟨_, rfl⟩
  rw [hA, hL, hE] at HA
  rw [hA] at HO
  rw [hA, hE]
  clear hI hq
  by_cases hle : sinceQ q h ≤ q.l.length
  · rw [if_pos hle]
    have hE0 : E = 0 := by rw [← hE]; unfold ackE; rw [if_pos hle]
    have hAl : A.l = q.l.drop (sinceQ q h) := by rw [← hA]; unfold ackQ; rw [if_pos hle]
    rw [← hAl]
    subst hE0
    clear hE hL hA hAl
    go_enter Try.func43, Try.ntmps43
    go_wp2_with (first
      | (go_at_call 42; refine HA.out.mono ?_; rintro e w1 ⟨r, v', rfl, l1, t1⟩; have H1 := hide t1; have HW := hide (rwaiting_any base p A v' w1 t1.1 HO.out); clear l1 t1)
      | (go_at_call 40; refine HW.out.mono ?_; rintro e w2 ⟨r2, rfl, y1, b2⟩; have H2 := hide (And.intro y1 b2); clear y1 b2))
    go_ret2
    have hs1 := H1.out.fit
    have hlst : Lst w2 (fun j => j < w.heap.size ∨ foot p v' j) r2 A.l := own_lst H2.out.1 (fun g e => by
      have h1 := own_base H2.out.1 g e
      have h2 := fun (x : foot p v' g) => (H1.out.1.lt x).2
      intro h
      rcases h with h | h
      · omega
      · have := h2 h
        omega)
    first | exact ⟨_, rfl, _, hlst, H1.out.behind H2.out.2 (Nat.le_trans hb hs1)⟩ | exact ⟨_, _, rfl, hlst, H1.out.behind H2.out.2 (Nat.le_trans hb hs1)⟩
  · rw [if_neg hle]
    have hE0 : E = 2 := by rw [← hE]; unfold ackE; rw [if_neg hle]
    subst hE0
    clear hE hL hA
    go_enter Try.func43, Try.ntmps43
    go_wp2_with (go_at_call 42; refine HA.out.mono ?_; rintro e w1 ⟨r, v', rfl, l1, t1⟩; have H1 := hide t1; clear l1 t1)
    go_ret2
    first | exact ⟨_, rfl, _, Lst.nil _ _, H1.out⟩ | exact ⟨_, _, rfl, Lst.nil _ _, H1.out⟩
set_option maxHeartbeats 1000000 in
theorem rfork_any (base p : Nat) (q : Qs) (v : Value) (w : World) (h : IsR base p q v w) (hq : QOk q) (hb : base ≤ w.heap.size) :
    Calls Try.prog 22 #[.pointer (some ⟨p, 0, none⟩)] w fun e w' => ∃ p' v', e = .returned (.pointer (some ⟨p', 0, none⟩)) ∧ IsR base p' q v' w' ∧ Below w.heap.size w w' ∧ ∀ j, foot p' v' j → w.heap.size ≤ j := by
  obtain ⟨c0, c1, c2, _⟩ := cellsR h
  have HC := hide (fun w1 (b : Below w.heap.size w w1) => rwaiting_any base p q v w1 (h.below b) hq)
  clear h hq
  go_enter Try.func22, Try.ntmps22
  go_wp2_with fail
  go_region_held3 (fun w' => w'.cell? ⟨p, 1, none⟩ = some (.int .u32 q.a) ∧ w'.cell? ⟨p, 2, none⟩ = some (.int .u32 q.g)) ((go_split_ands; refine ⟨?_, ?_⟩ <;> first | assumption | exact kc_alloc (by assumption) | exact keepB (by assumption) (by assumption) (Nat.le_refl _)))
    (first | (go_at_call 40; refine (HC.out w.drew (Below.refl _ w).drew).mono ?_; rintro e w1 ⟨v1, rfl, y1, y2⟩; obtain ⟨g1, k1, rfl⟩ := own_shape y1))
  have hs1 : w.heap.size ≤ w1.heap.size := y2.size
  have hB : Below w.heap.size w w1 := (Below.refl _ w).drew.trans y2
  have hdev : IsR base w1.heap.size q (.slice g1 q.l.length k1) (w1.alloc (.cells #[.slice g1 q.l.length k1, .int .u32 q.a, .int .u32 q.g] 73)) :=
    ⟨by omega, heap_alloc_new w1 _, (own_less y1 hb).alloc _⟩
  have hft : ∀ j, foot w1.heap.size (.slice g1 q.l.length k1) j → w.heap.size ≤ j := by
    rintro j (h | h)
    · omega
    · exact own_base y1 j h
  have HF := hide (And.intro hdev (And.intro (hB.alloc hB.size (.cells #[.slice g1 q.l.length k1, .int .u32 q.a, .int .u32 q.g] 73)) hft))
  clear hdev hft hB y1 y2
  go_wp2_with fail
  go_ret
  exact ⟨_, _, rfl, HF.out.1, HF.out.2.1, HF.out.2.2⟩
end Go.Proofs.Ytllpblnbdocfjac
