/- The program's queue: Send, Ack, Resume, Fork; a nil one. -/
import Derived.Test.YtllpblnbdocfjadA2
namespace Go.Proofs.Ytllpblnbdocfjad
open Go.RowKit

theorem grown_frees {T : TypeId} {c : Qs → Value → Array Value} {base p : Nat} {q : Qs} {v : Value} {w W w' : World} {row : Option Nat} (h : IsQu T c base p q v w) (hb : base ≤ w.heap.size) (hB : Below w.heap.size w W) (hg : W.grownBy w' row) (hr : ∀ g, row = some g → v.ownBlock = some g ∨ w.heap.size ≤ g) : Frees base (foot p v) w w' := by
  refine ⟨(hB.mono hb).grown hg (Nat.le_trans hb hB.size) (fun k e => ?_), fun j hj hn => (hg.block j (Nat.lt_of_lt_of_le hj hB.size) (fun e => ?_)).trans (hB.block j hj)⟩
  · rcases hr k e with x | x
    · exact own_base h.row k x
    · omega
  · rcases hr j e.symm with x | x
    · exact hn (.inr x)
    · omega
theorem here_of {T : TypeId} {c : Qs → Value → Array Value} {base p : Nat} {q : Qs} {v : Value} {w W w' : World} {row : Option Nat} (h : IsQu T c base p q v w) (hT : T ≠ 9) (hB : Below w.heap.size w W) (hg : W.grownBy w' row) (hr : ∀ g, row = some g → v.ownBlock = some g ∨ w.heap.size ≤ g) : w'.heap[p]? = some (.cells (c q v) T) := by
  have hp := hp_lt h.here
  refine ((hg.block p (Nat.lt_of_lt_of_le hp hB.size) (fun e => ?_)).trans (hB.block p hp)).trans h.here
  rcases hr p e.symm with x | x
  · exact own_ne0 h.row h.here hT p x rfl
  · omega
theorem cells_P {w : World} {p : Nat} {q : Qs} {v : Value} {T : TypeId} (h : w.heap[p]? = some (.cells (cP q v) T)) : w.cell? ⟨p, 0, none⟩ = some (.int .u32 q.a) ∧ w.cell? ⟨p, 2, none⟩ = some v ∧ w.frozen? ⟨p, 0, none⟩ = false ∧ w.frozen? ⟨p, 2, none⟩ = false := by
  unfold cP at h
  simp [World.cell?, World.frozen?, h]
theorem one_lst (w : World) (s : ByteArray) (M : Blk) (hM : ¬ M w.heap.size) : Lst (w.alloc (.cells #[.string s] 9)) M (.slice (some ⟨w.heap.size, 0, none⟩) 1 1) [s] := by
  refine ⟨_, 1, rfl, fun j t hj => ⟨w.heap.size, 0, rfl, hM, by simp, ?_⟩⟩
  match j, hj with
  | 0, hj =>
    simp at hj
    subst hj
    simp
theorem frees_set (w : World) (p k : Nat) (u : Value) : Frees 0 (fun j => j = p) w (w.setCell ⟨p, k, none⟩ u) := Frees.setCell (M := fun j => j = p) ⟨Below.refl 0 w, fun _ _ _ => rfl⟩ (Nat.zero_le _) (.inl rfl) u
def sendQ (q : Qs) (s : ByteArray) : Qs := if 16 ≤ q.l.length then q else ⟨q.l ++ [s], q.a, q.g⟩
def sendE (q : Qs) : Nat := if 16 ≤ q.l.length then 4 else 0
theorem sendQ_ok {q : Qs} (hq : QOk q) (s : ByteArray) : QOk (sendQ q s) := by
  unfold sendQ
  split
  · exact hq
  · exact ⟨by simp; omega, hq.a, hq.g⟩
theorem gotQ_ok {q : Qs} (hq : QOk q) : QOk (gotQ q) := ⟨hq.few, hq.a, Nat.mod_lt _ (by omega)⟩
set_option maxRecDepth 100000 in
set_option maxHeartbeats 1000000 in
theorem send_any (base p : Nat) (q : Qs) (v : Value) (s : ByteArray) (w : World) (h : IsP base p q v w) (hq : QOk q) (hb : base ≤ w.heap.size) :
    Calls Try.prog 7 #[.pointer (some ⟨p, 0, none⟩), .string s] w fun e w' => e = .returned (.int .i64 (sendE q)) ∧ ∃ v', ToP base p v (sendQ q s) v' w w' := by
  obtain ⟨c0, c1, c2, f0, f1, f2⟩ := cellsP h
  have hfew := hq.few
  obtain ⟨W, hW⟩ : ∃ W, w.alloc (.cells #[.string s] 9) = W := ⟨_, rfl⟩
  have hB : Below w.heap.size w W := by rw [← hW]; exact (Below.refl _ w).alloc (Nat.le_refl _) _
  have hone := one_lst w s (fun _ => False) (fun x => x)
  rw [hW] at hone
  obtain ⟨v', w', hap, y1, y2, y4⟩ := append_lst (T := 25) (h.below hB).row hone (Nat.le_trans hb hB.size) (by simp; omega)
  have hp' := here_of h (by decide) hB y2 (fun g e => .inl e)
  obtain ⟨d0, d2, _, g2⟩ := cells_P hp'
  have hput := h.put (q' := ⟨q.l ++ [s], q.a, q.g⟩) (k := 2) (u := v') (by decide) (grown_frees h hb hB y2 (fun g e => .inl e)) hp' y1 (fun g e => by
    rcases y4 with x | x
    · exact .inl (.inr (x ▸ e))
    · rw [x] at e
      cases e
      exact .inr hB.size) (by simp [cP])
  obtain ⟨ga, gc, rfl⟩ := own_shape h.row
  obtain ⟨m, hm⟩ : ∃ m, (q.l ++ [s]).length = m := ⟨_, rfl⟩
  rw [hm] at y1
  obtain ⟨ga', gc', rfl⟩ := own_shape y1
  clear hm
  by_cases h16 : 16 ≤ q.l.length
  · have hge : (16 : Int) ≤ q.l.length := by omega
    have HS := hide (QTo.stay h (Below.refl _ w) hb)
    unfold sendE sendQ
    rw [if_pos h16, if_pos h16]
    clear h hap y1 y2 y4 hput hone hB hW hp'
    go_enter Try.func7, Try.ntmps7
    go_wp2_with fail
    go_ret
    exact ⟨rfl, _, HS.out⟩
  · have hge : ¬ (16 : Int) ≤ q.l.length := by omega
    have HS := hide hput
    have HA := hide hap
    unfold sendE sendQ
    rw [if_neg h16, if_neg h16]
    clear h hap y1 y2 y4 hput hone hB hp'
    go_enter Try.func7, Try.ntmps7
    go_wp2_with (at_builtin; refine l_val rfl _ (ex_append (t := 25) rfl rfl rfl HA.out) ?_)
    go_ret
    exact ⟨rfl, _, HS.out⟩
/-- How many more h acknowledges. -/
def sinceQ (q : Qs) (h : Nat) : Nat := (h + 4294967296 - q.a) % 4294967296
def ackQ (q : Qs) (h : Nat) : Qs := if sinceQ q h ≤ q.l.length then ⟨q.l.drop (sinceQ q h), h, q.g⟩ else q
def ackE (q : Qs) (h : Nat) : Nat := if sinceQ q h ≤ q.l.length then 0 else 2
def ackL (q : Qs) (h : Nat) : List ByteArray := if sinceQ q h ≤ q.l.length then q.l.take (sinceQ q h) else []
theorem ackQ_ok {q : Qs} (hq : QOk q) {h : Nat} (hh : h < 4294967296) : QOk (ackQ q h) := by
  unfold ackQ
  split
  · exact ⟨by have := hq.few; simp; omega, hh, hq.g⟩
  · exact hq
theorem ackL_len {q : Qs} (hq : QOk q) (h : Nat) : (ackL q h).length ≤ 16 := by
  unfold ackL
  split
  · have := hq.few; simp; omega
  · simp
set_option maxRecDepth 100000 in
set_option maxHeartbeats 2000000 in
theorem ack_any (base p : Nat) (q : Qs) (v : Value) (h : Nat) (w : World) (hI : IsP base p q v w) (hq : QOk q) (hb : base ≤ w.heap.size) (hh : h < 4294967296) :
    Calls Try.prog 10 #[.pointer (some ⟨p, 0, none⟩), .int .u32 h] w fun e w' => ∃ r v', e = .returned (.tuple #[r, .int .i64 (ackE q h)]) ∧ Lst w' (fun j => ¬ foot p v j ∨ foot p v' j) r (ackL q h) ∧ ToP base p v (ackQ q h) v' w w' := by
  obtain ⟨n, hn⟩ : ∃ n, sinceQ q h = n := ⟨_, rfl⟩
  have hni : ((h : Int) - q.a) % 4294967296 = n := by rw [← hn]; unfold sinceQ; have := hq.a; omega
  have hn32 : n < 4294967296 := by rw [← hn]; exact Nat.mod_lt _ (by omega)
  obtain ⟨c0, c1, c2, f0, f1, f2⟩ := cellsP hI
  obtain ⟨ga, gc, rfl⟩ := own_shape hI.row
  have hfew := hq.few
  have hl : IntKind.u32.wrap (q.l.length : Int) = q.l.length := by rw [IntKind.wrap_u32]; omega
  have HS := hide (since_any q.a q.g h w)
  rw [hni] at HS
  unfold ackE ackL ackQ
  rw [hn]
  by_cases hle : n ≤ q.l.length
  · rw [if_pos hle, if_pos hle, if_pos hle]
    have hgt : ¬ ((q.l.length : Int) < n) := by omega
    have hcap : q.l.length ≤ gc := by
      obtain ⟨_, ⟨e, h0⟩ | ⟨g, cap, cur, e, _, _, x, _⟩⟩ := hI.row
      · rw [h0]
        exact Nat.zero_le _
      · cases e
        exact x
    have es1 : ∀ w, (Instr.slice 25 (.slice ga q.l.length gc) none (some (.int .u32 n)) (some (.int .u32 n))).run Try.prog w = .ok (sliced ga 0 n n 1) w := fun w => by
      rw [run_slice_hm (P := Try.prog) w _ ga q.l.length gc (by kernel_rfl) .u32 .u32 n n (by omega) (by omega) (by omega)]
      kernel_rfl
    have es2 : ∀ w, (Instr.slice 25 (.slice ga q.l.length gc) (some (.int .u32 n)) none none).run Try.prog w = .ok (sliced ga n q.l.length gc 1) w := fun w => by
      rw [run_slice_l (P := Try.prog) w _ ga q.l.length gc (by kernel_rfl) .u32 n (by omega) (by omega)]
      kernel_rfl
    have hM : Lst w (fun j => ¬ foot p (.slice ga q.l.length gc) j ∨ j = p ∨ w.heap.size ≤ j) (.slice ga q.l.length gc) q.l := own_lst hI.row (fun g e => by
      have h1 := own_lt hI.row g e
      have h2 := own_ne0 hI.row hI.here (by decide) g e
      rintro (h | h | h)
      · exact h (.inr e)
      · exact h2 h
      · omega)
    have hr1 : Lst w (fun j => ¬ foot p (.slice ga q.l.length gc) j ∨ j = p ∨ w.heap.size ≤ j) (sliced ga 0 n n 1) (q.l.take n) := lst_cut hM (Nat.zero_le _) hle (Nat.le_refl _)
    have hr2 : Lst w (fun j => ¬ foot p (.slice ga q.l.length gc) j ∨ j = p ∨ w.heap.size ≤ j) (sliced ga n q.l.length gc 1) (q.l.drop n) := by
      have := lst_cut (lo := n) (hi := q.l.length) (mx := gc) hM hle (Nat.le_refl _) hcap
      rwa [List.take_length] at this
    have HI := hide (And.intro hI (And.intro hr1 hr2))
    clear hI hM hr1 hr2
    obtain ⟨rv1, hv1⟩ : ∃ x, sliced ga 0 n n 1 = x := ⟨_, rfl⟩
    obtain ⟨rv2, hv2⟩ : ∃ x, sliced ga n q.l.length gc 1 = x := ⟨_, rfl⟩
    rw [hv1] at HI es1
    rw [hv2] at HI es2
    clear hv1 hv2
    go_enter Try.func10, Try.ntmps10
    go_wp2_with (go_at_call 12; refine HS.out.mono ?_; rintro e w1 ⟨rfl, b1⟩; refine stopHere ?_)
    unfold Hid
    obtain ⟨hI, hr1, hr2⟩ := HI.out
    have c2' := (b1.cell (World.block_lt_of_cell? w _ c2)).trans c2
    have s1 := b1.size
    obtain ⟨v', w2, hap, y1, y2, y4⟩ := append_lst (T := 25) (xs := []) (World.ownsRow_nil w1 w1.heap.size 9 1) (hr2.below b1) (Nat.le_refl _) (by simp; omega)
    rw [List.nil_append] at y1
    have hp' := here_of (w' := w2) hI (by decide) b1 y2 (fun g e => by cases e)
    obtain ⟨d0, d2, g0, g2⟩ := cells_P hp'
    have hput := hI.put (q' := ⟨q.l.drop n, q.a, q.g⟩) (k := 2) (u := v') (by decide) (grown_frees hI hb b1 y2 (fun g e => by cases e)) hp' (own_less y1 (Nat.le_trans hb s1)) (fun g e => .inr (Nat.le_trans s1 (own_base y1 g e))) (by simp [cP])
    have hset := hput.1.set (q' := ⟨q.l.drop n, h, q.g⟩) (k := 0) (u := .int .u32 h) (by decide) (by simp [cP]) rfl
    have e0 := (cellsP hput.1).1
    have e1 := (cellsP hput.1).2.2.2.1
    have b2 : Below w1.heap.size w1 w2 := (Below.refl _ _).grown y2 (Nat.le_refl _) (fun k e => by cases e)
    have hl1 := ((hr1.below b1).below b2).frees (n := 0) (N := fun j => j = p) (frees_set w2 p 2 v') (fun j hj => .inl (.inr (.inl hj)))
    have hl2 := hl1.frees (n := 0) (N := fun j => j = p) (frees_set _ p 0 (.int .u32 h)) (fun j hj => .inl (.inr (.inl hj)))
    have hl3 := hl2.off (N := fun j => ¬ foot p (.slice ga q.l.length gc) j ∨ foot p v' j) (fun j _ hj => by
      rcases hj with hj | hj | hj
      · exact .inl hj
      · exact .inr (.inl hj)
      · exact .inr (.inr (Nat.le_trans s1 (own_base y1 j hj))))
    have HF := hide (And.intro hl3 (hput.trans hset))
    have HA := hide hap
    obtain ⟨m, hm⟩ : ∃ m, (q.l.drop n).length = m := ⟨_, rfl⟩
    rw [hm] at y1
    obtain ⟨ga', gc', rfl⟩ := own_shape y1
    clear hI hr1 hr2 hap y1 y2 y4 hp' hput hset hl1 hl2 hl3 b2 hm
    go_wp2_with (at_builtin; refine l_val rfl _ (ex_append (t := 25) rfl rfl rfl HA.out) ?_)
    go_ret2
    exact ⟨_, rfl, _, HF.out.1, HF.out.2⟩
  · rw [if_neg hle, if_neg hle, if_neg hle]
    have hgt : ((q.l.length : Int) < n) := by omega
    have HI := hide hI
    clear hI
    go_enter Try.func10, Try.ntmps10
    go_wp2_with (go_at_call 12; refine HS.out.mono ?_; rintro e w1 ⟨rfl, b1⟩; have c2' := (b1.cell (World.block_lt_of_cell? w _ c2)).trans c2)
    go_ret2
    exact ⟨_, _, rfl, Lst.nil _ _, QTo.stay HI.out b1 hb⟩
def resL (q : Qs) (h : Nat) : List ByteArray := if sinceQ q h ≤ q.l.length then q.l.drop (sinceQ q h) else []
set_option maxRecDepth 100000 in
set_option maxHeartbeats 2000000 in
theorem resume_any (base p : Nat) (q : Qs) (v : Value) (h : Nat) (w : World) (hI : IsP base p q v w) (hq : QOk q) (hb : base ≤ w.heap.size) (hh : h < 4294967296) :
    Calls Try.prog 5 #[.pointer (some ⟨p, 0, none⟩), .int .u32 h] w fun e w' => ∃ r v', e = .returned (.tuple #[r, .int .i64 (ackE q h)]) ∧ Lst w' (fun j => j < w.heap.size ∨ foot p v' j) r (resL q h) ∧ ToP base p v (ackQ q h) v' w w' := by
  have HA := hide (ack_any base p q v h w hI hq hb hh)
  have HO := hide (ackQ_ok hq hh)
  unfold resL
  obtain ⟨A, hA⟩ : ∃ A, ackQ q h = A := ⟨_, rfl⟩
  obtain ⟨L, hL⟩ : ∃ L, ackL q h = L := ⟨_, rfl⟩
  obtain ⟨E, hE⟩ : ∃ E, ackE q h = E := ⟨_, rfl⟩
  rw [hA, hL, hE] at HA
  rw [hA] at HO
  rw [hA, hE]
  clear hI hq
  by_cases hle : sinceQ q h ≤ q.l.length
  · rw [if_pos hle]
    have hE0 : E = 0 := by rw [← hE]; unfold ackE; rw [if_pos hle]
    have hAl : A.l = q.l.drop (sinceQ q h) := by rw [← hA]; unfold ackQ; rw [if_pos hle]
    rw [← hAl]
    subst hE0
    clear hE hL hA hAl
    go_enter Try.func5, Try.ntmps5
    go_wp2_with (first
      | (go_at_call 10; refine HA.out.mono ?_; rintro e w1 ⟨r, v', rfl, l1, t1⟩; have H1 := hide t1; have HW := hide (waiting_any base p A v' w1 t1.1 HO.out); clear l1 t1)
      | (go_at_call 11; refine HW.out.mono ?_; rintro e w2 ⟨r2, rfl, y1, b2⟩; have H2 := hide (And.intro y1 b2); clear y1 b2))
    go_ret2
    have hs1 := H1.out.fit
    have hlst : Lst w2 (fun j => j < w.heap.size ∨ foot p v' j) r2 A.l := own_lst H2.out.1 (fun g e => by
      have h1 := own_base H2.out.1 g e
      have h2 := fun (x : foot p v' g) => (H1.out.1.lt x).2
      intro h
      rcases h with h | h
      · omega
      · have := h2 h
        omega)
    first | exact ⟨_, rfl, _, hlst, H1.out.behind H2.out.2 (Nat.le_trans hb hs1)⟩ | exact ⟨_, _, rfl, hlst, H1.out.behind H2.out.2 (Nat.le_trans hb hs1)⟩
  · rw [if_neg hle]
    have hE0 : E = 2 := by rw [← hE]; unfold ackE; rw [if_neg hle]
    subst hE0
    clear hE hL hA
    go_enter Try.func5, Try.ntmps5
    go_wp2_with (go_at_call 10; refine HA.out.mono ?_; rintro e w1 ⟨r, v', rfl, l1, t1⟩; have H1 := hide t1; clear l1 t1)
    go_ret2
    first | exact ⟨_, rfl, _, Lst.nil _ _, H1.out⟩ | exact ⟨_, _, rfl, Lst.nil _ _, H1.out⟩
set_option maxRecDepth 100000 in
set_option maxHeartbeats 2000000 in
/-- Resume of a count that may be: a row of its own. -/
theorem resume_own (base p : Nat) (q : Qs) (v : Value) (h : Nat) (w : World) (hI : IsP base p q v w) (hq : QOk q) (hb : base ≤ w.heap.size) (hh : h < 4294967296) (hle : sinceQ q h ≤ q.l.length) :
    Calls Try.prog 5 #[.pointer (some ⟨p, 0, none⟩), .int .u32 h] w fun e w' => ∃ r v', e = .returned (.tuple #[r, .int .i64 0]) ∧ w'.ownsRow w.heap.size 9 1 r (ackQ q h).l.length (strC (ackQ q h).l) ∧ (∀ g, r.ownBlock = some g → ¬ foot p v' g) ∧ ToP base p v (ackQ q h) v' w w' := by
  have HA := hide (ack_any base p q v h w hI hq hb hh)
  have HO := hide (ackQ_ok hq hh)
  obtain ⟨A, hA⟩ : ∃ A, ackQ q h = A := ⟨_, rfl⟩
  obtain ⟨L, hL⟩ : ∃ L, ackL q h = L := ⟨_, rfl⟩
  have hE0 : ackE q h = 0 := by unfold ackE; rw [if_pos hle]
  rw [hA, hL, hE0] at HA
  rw [hA] at HO
  rw [hA]
  clear hI hq hL hA hle hE0
  go_enter Try.func5, Try.ntmps5
  go_wp2_with (first
    | (go_at_call 10; refine HA.out.mono ?_; rintro e w1 ⟨r, v', rfl, l1, t1⟩; have H1 := hide t1; have HW := hide (waiting_any base p A v' w1 t1.1 HO.out); clear l1 t1)
    | (go_at_call 11; refine HW.out.mono ?_; rintro e w2 ⟨r2, rfl, y1, b2⟩; have H2 := hide (And.intro y1 b2); clear y1 b2))
  go_ret2
  have hs1 := H1.out.fit
  have hap : ∀ g, r2.ownBlock = some g → ¬ foot p v' g := fun g e x => by
    have h1 := own_base H2.out.1 g e
    have h2 := (H1.out.1.lt x).2
    omega
  first | exact ⟨_, rfl, own_less H2.out.1 hs1, _, hap, H1.out.behind H2.out.2 (Nat.le_trans hb hs1)⟩ | exact ⟨_, _, rfl, own_less H2.out.1 hs1, hap, H1.out.behind H2.out.2 (Nat.le_trans hb hs1)⟩
theorem kc_alloc {w : World} {a : Addr} {v : Value} {o : Obj} (h : w.cell? a = some v) : (w.alloc o).cell? a = some v := by
  rw [World.cell?_alloc_lt _ _ _ (World.block_lt_of_cell? w _ h)]
  exact h
theorem keepB {w w1 : World} {a : Addr} {v : Value} {n : Nat} (hb : Below n w w1) (h : w.cell? a = some v) (hn : w.heap.size ≤ n) : w1.cell? a = some v := (hb.cell (Nat.lt_of_lt_of_le (World.block_lt_of_cell? w _ h) hn)).trans h
theorem send_nil (s : ByteArray) (w : World) : Calls Try.prog 7 #[.pointer none, .string s] w fun e w' => e = .returned (.int .i64 1) ∧ w' = w := by
  go_enter Try.func7, Try.ntmps7
  go_wp2_with fail
  go_ret
  exact ⟨rfl, rfl⟩
theorem ack_nil (h : Nat) (w : World) : Calls Try.prog 10 #[.pointer none, .int .u32 h] w fun e w' => e = .returned (.tuple #[.slice none 0 0, .int .i64 1]) ∧ w' = w := by
  go_enter Try.func10, Try.ntmps10
  go_wp2_with fail
  go_ret2
  exact ⟨rfl, rfl⟩
theorem resume_nil (h : Nat) (w : World) : Calls Try.prog 5 #[.pointer none, .int .u32 h] w fun e w' => e = .returned (.tuple #[.slice none 0 0, .int .i64 1]) ∧ w' = w := by
  go_enter Try.func5, Try.ntmps5
  go_wp2_with (go_at_call 10; refine (ack_nil h w).mono ?_; rintro e w1 ⟨rfl, rfl⟩)
  go_ret2
  exact ⟨rfl, rfl⟩
theorem waiting_nil (w : World) : Calls Try.prog 11 #[.pointer none] w fun e w' => e = .returned (.slice none 0 0) ∧ w' = w := by
  go_enter Try.func11, Try.ntmps11
  go_wp2_with fail
  go_ret
  exact ⟨rfl, rfl⟩
theorem sent_nil (w : World) : Calls Try.prog 9 #[.pointer none] w fun e w' => e = .returned (.int .u32 0) ∧ w' = w := by
  go_enter Try.func9, Try.ntmps9
  go_wp2_with fail
  go_ret
  exact ⟨rfl, rfl⟩
theorem handled_nil (w : World) : Calls Try.prog 6 #[.pointer none] w fun e w' => e = .returned (.int .u32 0) ∧ w' = w := by
  go_enter Try.func6, Try.ntmps6
  go_wp2_with fail
  go_ret
  exact ⟨rfl, rfl⟩
theorem got_nil (w : World) : Calls Try.prog 8 #[.pointer none] w fun e w' => e = .returned (.tuple #[]) ∧ w' = w := by
  go_enter Try.func8, Try.ntmps8
  go_wp2_with fail
  exact bodyPost_end (results_none rfl _ _ _) rfl ⟨rfl, rfl⟩
end Go.Proofs.Ytllpblnbdocfjad
