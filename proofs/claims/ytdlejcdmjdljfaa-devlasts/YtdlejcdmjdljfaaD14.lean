/- A deed on both. -/
import Derived.Test.YtdlejcdmjdljfaaD13
namespace Go.Proofs.Ytdlejcdmjdljfaa
open Go.RowKit Go.Shelf

/-- A deed in a box of its own; nothing else turns. -/
theorem boxed (w : World) (x : Dd) : ∃ W, w.alloc (.cells #[.int .i64 x.kind, .int .i64 x.i, .int .u8 x.c.toNat, .slice x.sa x.bs.length x.sc] 37) = W ∧ W.heap[w.heap.size]? = some (.cells #[.int .i64 x.kind, .int .i64 x.i, .int .u8 x.c.toNat, .slice x.sa x.bs.length x.sc] 37) ∧ W.heap.size = w.heap.size + 1 ∧ Below w.heap.size w W :=
  ⟨_, rfl, World.alloc_heap_new w _, by simp, (Below.refl _ w).alloc (Nat.le_refl _) _⟩
theorem frees_box {base : Nat} {M : Blk} {A B : World} (h : Frees base M A B) {b : Nat} {o : Obj} (hb : A.heap[b]? = some o) (hm : ¬ M b) : B.heap[b]? = some o := (h.same b (hp_lt hb) hm).trans hb

theorem toD_frees {base p : Nat} {vl vw : Value} {d' : Dv} {w w' : World} (h : ToD base p vl vw d' w w') : Frees base (foot p vl vw) w w' := by
  obtain ⟨_, _, _, f, _⟩ := h
  exact f
theorem toR_frees {base p : Nat} {vl vw : Value} {d' : Dv} {w w' : World} (h : ToR base p vl vw d' w w') : Frees base (foot p vl vw) w w' := by
  obtain ⟨_, _, _, f, _⟩ := h
  exact f
theorem toD_size {base p : Nat} {vl vw : Value} {d' : Dv} {w w' : World} (h : ToD base p vl vw d' w w') : w.heap.size ≤ w'.heap.size := (toD_frees h).below.size
theorem refOf {base p q : Nat} {d d' : Dv} {vl vw ul uw : Value} {w w1 : World} (h : Two base p q d vl vw ul uw w) (h1 : ToD base p vl vw d' w w1) : IsR base q d ul uw w1 := by
  obtain ⟨a, b, t1, f1, g1⟩ := h1
  exact (TwoTo.first h t1 f1 g1).1
set_option maxRecDepth 100000 in
set_option maxHeartbeats 2000000 in
theorem do_write (base p q : Nat) (d : Dv) (vl vw ul uw : Value) (x : Dd) (w : World) (h : Two base p q d vl vw ul uw w) (hd : DvOk d) (hb : base ≤ w.heap.size) (hf : d.wr.length < 1000000) (h0 : x.kind = 0) (_hw : wrongI d.las.length x.i = 0) (hi : 0 ≤ x.i) (hn : x.i.toNat < d.las.length) :
    Calls Try.prog 22 #[.pointer (some ⟨p, 0, none⟩), .pointer (some ⟨q, 0, none⟩), ddV x] w fun e w' => e = .returned (.bool true) ∧ TwoTo base p q vl vw ul uw (dvWrite d x.i.toNat (allC x.c)) w w' := by
  obtain ⟨W, hW, f1, z1, hB1⟩ := boxed w x
  have hT1 := h.below hB1
  obtain ⟨k0, _⟩ : W.cell? ⟨w.heap.size, 0, none⟩ = some (.int .i64 x.kind) ∧ True := ⟨by simp [World.cell?, f1], trivial⟩
  obtain ⟨k1, k2, k3⟩ := keepX f1
  have hs64 : (allC x.c).length = 64 := fillS_len _ _ (Nat.le_refl _)
  obtain ⟨i, hi'⟩ : ∃ i : Nat, x.i = i := ⟨x.i.toNat, by omega⟩
  have hit : x.i.toNat = i := by omega
  rw [hit] at hn ⊢
  have hbxp : ∀ vl vw, (∀ j, foot p vl vw j → base ≤ j ∧ j < w.heap.size) → ¬ foot p vl vw w.heap.size := fun _ _ hh hj => by have := (hh _ hj).2; omega
  have HH := hide (And.intro h (And.intro hd (And.intro hB1 (And.intro hT1 f1))))
  have HB := hide hbxp
  rw [h0] at k0
  unfold ddV
  rw [h0, hi']
  rw [h0, hi'] at hW
  rw [hi'] at k1
  clear h hd hB1 hT1 f1 hbxp hit
  go_enter Try.func22, Try.ntmps22
  go_wp2_with fail
  go_region_held3 (fun w' => w'.cell? ⟨w.heap.size, 1, none⟩ = some (.int .i64 i) ∧ w'.cell? ⟨w.heap.size, 2, none⟩ = some (.int .u8 x.c.toNat) ∧ w'.cell? ⟨w.heap.size, 3, none⟩ = some (.slice x.sa x.bs.length x.sc)) ((first | exact ⟨k1, k2, k3⟩ | exact keepX (by assumption)))
    (first
      | (go_at_call 15; refine (sector_any x.c W.drew).mono ?_; rintro e w1 ⟨rfl, b1'⟩; have b1 : Below W.heap.size W w1 := (Below.refl _ W).drew.trans b1'; have g1 := (b1.block w.heap.size (by show w.heap.size < W.heap.size; omega)).trans HH.out.2.2.2.2; rw [hi'] at g1)
      | (go_at_call 14; refine (write_any base p d vl vw i (allC x.c) w1 (HH.out.2.2.2.1.below b1).dev HH.out.2.1 (by have : W.heap.size ≤ w1.heap.size := b1.size; omega) hn hs64 hf).mono ?_; rintro e w2 ⟨rfl, t2⟩; have g2 := frees_box (toD_frees t2) g1 (HB.out _ _ (fun j hj => HH.out.1.dev.lt hj)))
      | (go_at_call 15; refine (sector_any x.c w2).mono ?_; rintro e w3 ⟨rfl, b3⟩; have g3 := (b3.block w.heap.size (hp_lt g2)).trans g2)
      | (go_at_call 37; refine (rwrite_any base q d ul uw i (allC x.c) w3 ((refOf (HH.out.2.2.2.1.below b1) t2).below b3) HH.out.2.1 (by have : W.heap.size ≤ w1.heap.size := b1.size; have := toD_size t2; have := b3.size; omega) hn hs64 hf).mono ?_; rintro e w4 ⟨rfl, t4⟩; have g4 := frees_box (toR_frees t4) g3 (fun hj => by have := (HH.out.1.ref.lt hj).2; omega)))
  have hfin : TwoTo base p q vl vw ul uw (dvWrite d i (allC x.c)) w w4 := TwoTo.ahead (HH.out.2.2.1.trans (b1.mono (by omega))) hb (TwoTo.both (HH.out.2.2.2.1.below b1) t2 b3 (by have := b1.size; omega) t4)
  have HF := hide hfin
  clear hfin t2 t4 b1 b3 g1 g2 g3 g4
  go_wp2_with fail
  go_ret
  exact ⟨rfl, HF.out⟩

set_option maxRecDepth 100000 in
set_option maxHeartbeats 2000000 in
theorem do_refused (base p q : Nat) (d : Dv) (vl vw ul uw : Value) (x : Dd) (w : World) (h : Two base p q d vl vw ul uw w) (hb : base ≤ w.heap.size) (h0 : x.kind = 0) (hw : wrongI d.las.length x.i = 2) :
    Calls Try.prog 22 #[.pointer (some ⟨p, 0, none⟩), .pointer (some ⟨q, 0, none⟩), ddV x] w fun e w' => e = .returned (.bool true) ∧ TwoTo base p q vl vw ul uw d w w' := by
  obtain ⟨W, hW, f1, z1, hB1⟩ := boxed w x
  have hT1 := h.below hB1
  obtain ⟨k0, _⟩ : W.cell? ⟨w.heap.size, 0, none⟩ = some (.int .i64 x.kind) ∧ True := ⟨by simp [World.cell?, f1], trivial⟩
  obtain ⟨k1, k2, k3⟩ := keepX f1
  have HH := hide (And.intro h (And.intro hB1 (And.intro hT1 f1)))
  rw [h0] at k0
  unfold ddV
  rw [h0]
  rw [h0] at hW
  clear h hB1 hT1 f1
  go_enter Try.func22, Try.ntmps22
  go_wp2_with fail
  go_region_held3 (fun w' => w'.cell? ⟨w.heap.size, 1, none⟩ = some (.int .i64 x.i) ∧ w'.cell? ⟨w.heap.size, 2, none⟩ = some (.int .u8 x.c.toNat) ∧ w'.cell? ⟨w.heap.size, 3, none⟩ = some (.slice x.sa x.bs.length x.sc)) ((first | exact ⟨k1, k2, k3⟩ | exact keepX (by assumption)))
    (first
      | (go_at_call 15; refine (sector_any x.c W.drew).mono ?_; rintro e w1 ⟨rfl, b1'⟩; have b1 : Below W.heap.size W w1 := (Below.refl _ W).drew.trans b1'; have g1 := (b1.block w.heap.size (by omega)).trans HH.out.2.2.2)
      | (go_at_call 14; refine (write_bad base p d vl vw x.i (allC x.c) w1 (HH.out.2.2.1.below b1).dev hw).mono ?_; rintro e w2 ⟨rfl, b2⟩; have g2 := (b2.block w.heap.size (hp_lt g1)).trans g1)
      | (go_at_call 15; refine (sector_any x.c w2).mono ?_; rintro e w3 ⟨rfl, b3⟩; have g3 := (b3.block w.heap.size (hp_lt g2)).trans g2)
      | (go_at_call 37; refine (rwrite_bad base q d ul uw x.i (allC x.c) w3 (((HH.out.2.2.1.below b1).below b2).below b3).ref hw).mono ?_; rintro e w4 ⟨rfl, b4⟩; have g4 := (b4.block w.heap.size (hp_lt g3)).trans g3))
  have hs1 := b1.size
  have hs2 := b2.size
  have hs3 := b3.size
  have hB4 : Below w.heap.size w w4 := HH.out.2.1.trans ((b1.mono (by omega)).trans ((b2.mono (by omega)).trans ((b3.mono (by omega)).trans (b4.mono (by omega)))))
  have HF := hide (TwoTo.stay HH.out.1 hB4 hb)
  clear hB4 b1 b2 b3 b4 g1 g2 g3 g4
  go_wp2_with fail
  go_ret
  exact ⟨rfl, HF.out⟩

set_option maxHeartbeats 2000000 in
theorem do_sync (base p q : Nat) (d : Dv) (vl vw ul uw : Value) (x : Dd) (w : World) (h : Two base p q d vl vw ul uw w) (hd : DvOk d) (hb : base ≤ w.heap.size) (h0 : x.kind = 1) :
    Calls Try.prog 22 #[.pointer (some ⟨p, 0, none⟩), .pointer (some ⟨q, 0, none⟩), ddV x] w fun e w' => e = .returned (.bool true) ∧ TwoTo base p q vl vw ul uw (settled d fun _ => true) w w' := by
  obtain ⟨W, hW, f1, z1, hB1⟩ := boxed w x
  have hT1 := h.below hB1
  obtain ⟨k0, _⟩ : W.cell? ⟨w.heap.size, 0, none⟩ = some (.int .i64 x.kind) ∧ True := ⟨by simp [World.cell?, f1], trivial⟩
  have HH := hide (And.intro h (And.intro hB1 (And.intro hT1 hd)))
  rw [h0] at k0
  unfold ddV
  rw [h0]
  rw [h0] at hW
  clear h hB1 hT1 f1 hd
  go_enter Try.func22, Try.ntmps22
  go_wp2_with (first
      | (go_at_call 12; refine (sync_any base p d vl vw W HH.out.2.2.1.dev HH.out.2.2.2 (by omega)).mono ?_; rintro e w1 ⟨rfl, t1⟩; have T1 := hide t1; clear t1)
      | (go_at_call 19; refine (rsync_any base q d ul uw w1 (refOf HH.out.2.2.1 T1.out) HH.out.2.2.2 (by have := toD_size T1.out; omega)).mono ?_; rintro e w2 ⟨rfl, t2⟩; have T2 := hide t2; clear t2))
  go_ret
  exact ⟨rfl, TwoTo.ahead HH.out.2.1 hb (TwoTo.both HH.out.2.2.1 T1.out (Below.refl _ _) (by omega) T2.out)⟩

set_option maxRecDepth 100000 in
set_option maxHeartbeats 2000000 in
theorem do_crash (base p q : Nat) (d : Dv) (vl vw ul uw : Value) (x : Dd) (w : World) (h : Two base p q d vl vw ul uw w) (hd : DvOk d) (hb : base ≤ w.heap.size) (hm : BoolMem base w x.sa x.bs) (h0 : x.kind = 2) :
    Calls Try.prog 22 #[.pointer (some ⟨p, 0, none⟩), .pointer (some ⟨q, 0, none⟩), ddV x] w fun e w' => e = .returned (.bool true) ∧ TwoTo base p q vl vw ul uw (settled d (svOf x.bs)) w w' := by
  obtain ⟨W, hW, f1, z1, hB1⟩ := boxed w x
  have hT1 := h.below hB1
  obtain ⟨k0, _⟩ : W.cell? ⟨w.heap.size, 0, none⟩ = some (.int .i64 x.kind) ∧ True := ⟨by simp [World.cell?, f1], trivial⟩
  obtain ⟨k1, k2, k3⟩ := keepX f1
  have hmW := hm.below (hB1.mono hb)
  have HH := hide (And.intro h (And.intro hB1 (And.intro hT1 (And.intro hd (And.intro f1 hmW)))))
  rw [h0] at k0
  unfold ddV
  rw [h0]
  rw [h0] at hW
  clear h hB1 hT1 f1 hd hm hmW
  go_enter Try.func22, Try.ntmps22
  go_wp2_with fail
  go_region_held3 (fun w' => w'.cell? ⟨w.heap.size, 1, none⟩ = some (.int .i64 x.i) ∧ w'.cell? ⟨w.heap.size, 2, none⟩ = some (.int .u8 x.c.toNat) ∧ w'.cell? ⟨w.heap.size, 3, none⟩ = some (.slice x.sa x.bs.length x.sc)) ((first | exact ⟨k1, k2, k3⟩ | exact keepX (by assumption)))
    (first
      | (go_at_call 17; refine (crash_any base p d vl vw x.sa x.bs x.sc W.drew ((HH.out.2.2.1.below (Below.refl _ W).drew).dev) HH.out.2.2.2.1 (by show base ≤ W.heap.size; omega) (HH.out.2.2.2.2.2.below (Below.refl _ W).drew)).mono ?_; rintro e w1 ⟨rfl, t1⟩; have g1 := frees_box (toD_frees t1) (show W.drew.heap[w.heap.size]? = _ from HH.out.2.2.2.2.1) (fun hj => by have := (HH.out.1.dev.lt hj).2; omega))
      | (go_at_call 21; refine (rcrash_any base q d ul uw x.sa x.bs x.sc w1 (refOf (HH.out.2.2.1.below (Below.refl _ W).drew) t1) HH.out.2.2.2.1 (by have h9 := toD_size t1; have : W.heap.size ≤ w1.heap.size := h9; omega) ((HH.out.2.2.2.2.2.below (Below.refl _ W).drew).below (toD_frees t1).below)).mono ?_; rintro e w2 ⟨rfl, t2⟩; have g2 := frees_box (toR_frees t2) g1 (fun hj => by have := (HH.out.1.ref.lt hj).2; omega)))
  have hfin : TwoTo base p q vl vw ul uw (settled d (svOf x.bs)) w w2 := TwoTo.ahead (HH.out.2.1.trans (Below.refl _ W).drew) hb (TwoTo.both (HH.out.2.2.1.below (Below.refl _ W).drew) t1 (Below.refl _ _) (by show base ≤ W.heap.size; omega) t2)
  have HF := hide hfin
  clear hfin t1 t2 g1 g2
  go_wp2_with fail
  go_ret
  exact ⟨rfl, HF.out⟩
theorem do_else (base p q : Nat) (d : Dv) (vl vw ul uw : Value) (x : Dd) (w : World) (h : Two base p q d vl vw ul uw w) (hb : base ≤ w.heap.size) (h0 : x.kind ≠ 0) (h1 : x.kind ≠ 1) (h2 : x.kind ≠ 2) :
    Calls Try.prog 22 #[.pointer (some ⟨p, 0, none⟩), .pointer (some ⟨q, 0, none⟩), ddV x] w fun e w' => e = .returned (.bool true) ∧ TwoTo base p q vl vw ul uw d w w' := by
  obtain ⟨W, hW, f1, z1, hB1⟩ := boxed w x
  obtain ⟨k0, _⟩ : W.cell? ⟨w.heap.size, 0, none⟩ = some (.int .i64 x.kind) ∧ True := ⟨by simp [World.cell?, f1], trivial⟩
  have HH := hide (And.intro h hB1)
  have e0 : (x.kind == 0) = false := by rw [beq_eq_false_iff_ne]; exact h0
  have e1 : (x.kind == 1) = false := by rw [beq_eq_false_iff_ne]; exact h1
  have e2 : (x.kind == 2) = false := by rw [beq_eq_false_iff_ne]; exact h2
  unfold ddV
  clear h hB1 f1 h0 h1 h2
  go_enter Try.func22, Try.ntmps22
  go_wp2_with fail
  go_ret
  exact ⟨rfl, TwoTo.stay HH.out.1 HH.out.2 hb⟩
/-- A deed on both, and they stay the same. -/
theorem do_any (base p q : Nat) (d : Dv) (vl vw ul uw : Value) (x : Dd) (w : World) (h : Two base p q d vl vw ul uw w) (hd : DvOk d) (hb : base ≤ w.heap.size) (hf : d.wr.length < 1000000) (hm : BoolMem base w x.sa x.bs) :
    Calls Try.prog 22 #[.pointer (some ⟨p, 0, none⟩), .pointer (some ⟨q, 0, none⟩), ddV x] w fun e w' => e = .returned (.bool true) ∧ TwoTo base p q vl vw ul uw (deedOf d x) w w' := by
  unfold deedOf
  by_cases h0 : x.kind = 0
  · rw [if_pos h0]
    rcases wrongI_or d.las.length x.i with ⟨h1, h2, h3⟩ | h1
    · rw [if_pos h1]
      exact do_write base p q d vl vw ul uw x w h hd hb hf h0 h1 h2 h3
    · rw [if_neg (by omega)]
      exact do_refused base p q d vl vw ul uw x w h hb h0 h1
  · rw [if_neg h0]
    by_cases h1 : x.kind = 1
    · rw [if_pos h1]
      exact do_sync base p q d vl vw ul uw x w h hd hb h1
    · rw [if_neg h1]
      by_cases h2 : x.kind = 2
      · rw [if_pos h2]
        exact do_crash base p q d vl vw ul uw x w h hd hb hm h2
      · rw [if_neg h2]
        exact do_else base p q d vl vw ul uw x w h hb h0 h1 h2
end Go.Proofs.Ytdlejcdmjdljfaa
