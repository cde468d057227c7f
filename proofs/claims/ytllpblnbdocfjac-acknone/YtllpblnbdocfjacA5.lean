/- Two queues, the program's and the document's, that are the same; a deed on both. -/
import Derived.Test.YtllpblnbdocfjacA4
namespace Go.Proofs.Ytllpblnbdocfjac
open Go.RowKit

structure Two (base p q : Nat) (Q : Qs) (v u : Value) (w : World) : Prop where
  dev : IsP base p Q v w
  ref : IsR base q Q u w
  apart : ∀ j, foot p v j → ¬ foot q u j
def foot2 (p : Nat) (v : Value) (q : Nat) (u : Value) : Blk := fun j => foot p v j ∨ foot q u j
def TwoTo (base p q : Nat) (v u : Value) (Q' : Qs) (w w' : World) : Prop :=
  ∃ v' u', Two base p q Q' v' u' w' ∧ Frees base (foot2 p v q u) w w' ∧ ∀ j, foot2 p v' q u' j → foot2 p v q u j ∨ w.heap.size ≤ j
section
variable {base p q : Nat} {Q Q' Q'' : Qs} {v u v' u' : Value} {w w1 w2 : World}
theorem Two.below (h : Two base p q Q v u w) (hb : Below w.heap.size w w1) : Two base p q Q v u w1 := ⟨h.dev.below hb, h.ref.below hb, h.apart⟩
theorem Two.step (h : Two base p q Q v u w) (t : ToP base p v Q' v' w w1) : IsR base q Q u w1 ∧ ∀ j, foot p v' j → ¬ foot q u j := by
  refine ⟨h.ref.apart t.2.1 (fun j hq hp => h.apart j hp hq), fun j hj hq => ?_⟩
  rcases t.2.2 j hj with x | x
  · exact h.apart j x hq
  · have := (h.ref.lt hq).2
    omega
theorem Two.both (h : Two base p q Q v u w) (t : ToP base p v Q' v' w w1) (r : ToR base q u Q' u' w1 w2) : TwoTo base p q v u Q' w w2 := by
  have hap := (h.step t).2
  have hs := t.fit
  refine ⟨v', u', ⟨t.1.apart r.2.1 hap, r.1, fun j hj hq => ?_⟩, ⟨t.2.1.below.trans r.2.1.below, fun j hj hn => (r.2.1.same j (by omega) (fun x => hn (.inr x))).trans (t.2.1.same j hj (fun x => hn (.inl x)))⟩, fun j hj => ?_⟩
  · rcases r.2.2 j hq with x | x
    · exact hap j hj x
    · have := (t.1.lt hj).2
      omega
  · rcases hj with hj | hj
    · exact (t.2.2 j hj).imp .inl id
    · exact (r.2.2 j hj).imp .inr (fun x => by omega)
theorem TwoTo.stay (h : Two base p q Q v u w) (hb : Below w.heap.size w w1) (hn : base ≤ w.heap.size) : TwoTo base p q v u Q w w1 := ⟨v, u, h.below hb, Frees.of_below hb hn, fun _ hj => .inl hj⟩
theorem TwoTo.ahead (hB : Below w.heap.size w w1) (hn : base ≤ w.heap.size) (h : TwoTo base p q v u Q' w1 w2) : TwoTo base p q v u Q' w w2 := by
  obtain ⟨a, b, t, f, g⟩ := h
  have hs := hB.size
  exact ⟨a, b, t, ⟨(hB.mono hn).trans f.below, fun j hj hm => (f.same j (by omega) hm).trans (hB.block j hj)⟩, fun j hj => (g j hj).imp id (fun x => by omega)⟩
theorem TwoTo.behind (h : TwoTo base p q v u Q' w w1) (hB : Below w1.heap.size w1 w2) (hn : base ≤ w.heap.size) : TwoTo base p q v u Q' w w2 := by
  obtain ⟨a, b, t, f, g⟩ := h
  have hs := f.below.size
  exact ⟨a, b, t.below hB, f.trans' (Frees.of_below (M := fun _ => False) hB (by omega)) (fun _ x => x.elim), g⟩
end
/-- A deed. -/
structure Dd where
  kind : Int
  s : ByteArray
  h : Nat
  on : Bool
def ddC (x : Dd) : Array Value := #[.int .i64 x.kind, .string x.s, .int .u32 x.h, .bool x.on]
def hOf (Q : Qs) (x : Dd) : Nat := if x.on then (x.h + Q.a) % 4294967296 else x.h
def deedOf (Q : Qs) (x : Dd) : Qs := if x.kind = 0 then sendQ Q x.s else if x.kind = 1 then ackQ Q (hOf Q x) else if x.kind = 2 then ackQ Q (hOf Q x) else if x.kind = 3 then gotQ Q else Q
theorem hOf_lt (Q : Qs) {x : Dd} (hx : x.h < 4294967296) : hOf Q x < 4294967296 := by
  unfold hOf
  split
  · exact Nat.mod_lt _ (by omega)
  · exact hx
theorem deedOf_ok {Q : Qs} (hq : QOk Q) {x : Dd} (hx : x.h < 4294967296) : QOk (deedOf Q x) := by
  unfold deedOf
  split
  · exact sendQ_ok hq _
  · split
    · exact ackQ_ok hq (hOf_lt Q hx)
    · split
      · exact ackQ_ok hq (hOf_lt Q hx)
      · split
        · exact gotQ_ok hq
        · exact hq
theorem boxed (w : World) (cs : Array Value) : ∃ W, w.alloc (.cells cs 45) = W ∧ W.heap[w.heap.size]? = some (.cells cs 45) ∧ W.heap.size = w.heap.size + 1 ∧ Below w.heap.size w W :=
  ⟨_, rfl, heap_alloc_new w _, by simp, (Below.refl _ w).alloc (Nat.le_refl _) _⟩
theorem keepX {w : World} {bx : Nat} {a b c e : Value} {T : TypeId} (h : w.heap[bx]? = some (.cells #[a, b, c, e] T)) : w.cell? ⟨bx, 0, none⟩ = some a ∧ w.cell? ⟨bx, 1, none⟩ = some b ∧ w.cell? ⟨bx, 2, none⟩ = some c ∧ w.cell? ⟨bx, 3, none⟩ = some e := by
  simp [World.cell?, h]
theorem frees_box {base : Nat} {M : Blk} {A B : World} (h : Frees base M A B) {b : Nat} {o : Obj} (hb : A.heap[b]? = some o) (hm : ¬ M b) : B.heap[b]? = some o := (h.same b (hp_lt hb) hm).trans hb
theorem ackE_le (Q : Qs) (h : Nat) : (ackE Q h : Int) < 10 := by unfold ackE; split <;> simp
theorem resL_len {Q : Qs} (hq : QOk Q) (h : Nat) : (resL Q h).length ≤ 16 := by
  unfold resL
  split
  · have := hq.few; simp; omega
  · simp
set_option maxRecDepth 100000 in
set_option maxHeartbeats 2000000 in
theorem do_0n (base p q : Nat) (Q : Qs) (v u : Value) (s : ByteArray) (h H : Nat) (w : World) (hT : Two base p q Q v u w) (hq : QOk Q) (hb : base ≤ w.heap.size) (_hH : H < 4294967296) (hh : H = (h + Q.a) % 4294967296) :
    Calls Try.prog 23 #[.pointer (some ⟨p, 0, none⟩), .pointer (some ⟨q, 0, none⟩), .agg #[.int .i64 0, .string s, .int .u32 h, .bool true]] w fun e w' => e = .returned (.bool true) ∧ TwoTo base p q v u (sendQ Q s) w w' := by
  obtain ⟨W, hW, f1, z1, hB1⟩ := boxed w #[.int .i64 0, .string s, .int .u32 h, .bool true]
  obtain ⟨x0, x1, x2, x3⟩ := keepX f1
  have hT1 := hT.below hB1
  have HO := hide hq
  have hlw : IntKind.u32.wrap (Q.l.length : Int) = Q.l.length := by rw [IntKind.wrap_u32]; have := hq.few; omega
  have hs1 : ((sentQ Q : Int) - Q.l.length) % 4294967296 = Q.a := by unfold sentQ; have := hq.few; have := hq.a; omega
  have hs2 : ((h : Int) + Q.a) % 4294967296 = H := by omega
  clear hh
  have HH := hide (And.intro hT (And.intro hT1 (And.intro hB1 f1)))
  clear hT hq hT1 hB1 f1
  go_enter Try.func23, Try.ntmps23
  go_wp2_with (first
    | (go_at_call 39; refine (rsent_any base q Q u W HH.out.2.1.ref HO.out).mono ?_; rintro e w1 ⟨rfl, b1⟩; have HB1 := hide b1; clear b1)
    | (go_at_call 40; refine (rwaiting_any base q Q u w1 (HH.out.2.1.below HB1.out).ref HO.out).mono ?_; rintro e wc ⟨r2, rfl, y2, b2⟩; obtain ⟨ga2, gc2, rfl⟩ := own_shape y2; have HB2 := hide b2; clear b2 y2; refine stopHere ?_))
  unfold Hid
  have HC := hide (show Two base p q Q v u wc ∧ Below W.heap.size W wc from ⟨(HH.out.2.1.below HB1.out).below HB2.out, HB1.out.trans (HB2.out.mono HB1.out.size)⟩)
  have zc := HC.out.2.size
  have fc := (HC.out.2.block w.heap.size (by omega)).trans HH.out.2.2.2
  obtain ⟨y0, y1, y2, y3⟩ := keepX fc
  have HX := hide fc
  clear fc HB1 HB2
  go_wp2_with fail
  have HC0 := hide (HC.out.1.below (Below.refl _ wc).drew)
  go_region_held3 (fun w' => w'.cell? ⟨w.heap.size, 1, none⟩ = some (.string s)) ((first | exact y1 | exact (keepX (by assumption)).2.1))
    (first
      | (go_at_call 19; refine (send_any base p Q v s wc.drew HC0.out.dev HO.out (by show base ≤ wc.heap.size; omega)).mono ?_; rintro e w3 ⟨rfl, v3, t3⟩; have g3 := frees_box t3.2.1 (show wc.drew.heap[w.heap.size]? = _ from HX.out) (fun hj => by have := (HH.out.1.dev.lt hj).2; omega))
      | (go_at_call 41; refine (rsend_any base q Q u s w3 (HC0.out.step t3).1 HO.out (by have h9 := t3.fit; have : wc.heap.size ≤ w3.heap.size := h9; omega)).mono ?_; rintro e w4 ⟨rfl, u4, t4⟩; have g4 := frees_box t4.2.1 g3 (fun hj => by have := (HH.out.1.ref.lt hj).2; omega)))
  have hfin : TwoTo base p q v u (sendQ Q s) w w4 := TwoTo.ahead (HH.out.2.2.1.trans (HC.out.2.mono (by omega))) hb (TwoTo.ahead (Below.refl _ wc).drew (by omega) (HC0.out.both t3 t4))
  have HF := hide hfin
  clear hfin t3 t4 g3 g4
  go_wp2_with fail
  go_ret
  exact ⟨rfl, HF.out⟩
set_option maxRecDepth 100000 in
set_option maxHeartbeats 2000000 in
theorem do_0f (base p q : Nat) (Q : Qs) (v u : Value) (s : ByteArray) (h H : Nat) (w : World) (hT : Two base p q Q v u w) (hq : QOk Q) (hb : base ≤ w.heap.size) (_hH : H < 4294967296) (hh : H = h) :
    Calls Try.prog 23 #[.pointer (some ⟨p, 0, none⟩), .pointer (some ⟨q, 0, none⟩), .agg #[.int .i64 0, .string s, .int .u32 h, .bool false]] w fun e w' => e = .returned (.bool true) ∧ TwoTo base p q v u (sendQ Q s) w w' := by
  obtain ⟨W, hW, f1, z1, hB1⟩ := boxed w #[.int .i64 0, .string s, .int .u32 h, .bool false]
  obtain ⟨x0, x1, x2, x3⟩ := keepX f1
  have hT1 := hT.below hB1
  have HO := hide hq
  subst hh
  have HH := hide (And.intro hT (And.intro hT1 (And.intro hB1 f1)))
  clear hT hq hT1 hB1 f1
  go_enter Try.func23, Try.ntmps23
  have HC := hide (show Two base p q Q v u W ∧ Below W.heap.size W W from ⟨HH.out.2.1, Below.refl _ _⟩)
  have zc := HC.out.2.size
  have HX := hide HH.out.2.2.2
  go_wp2_with fail
  have HC0 := hide (HC.out.1.below (Below.refl _ W).drew)
  go_region_held3 (fun w' => w'.cell? ⟨w.heap.size, 1, none⟩ = some (.string s)) ((first | exact x1 | exact (keepX (by assumption)).2.1))
    (first
      | (go_at_call 19; refine (send_any base p Q v s W.drew HC0.out.dev HO.out (by show base ≤ W.heap.size; omega)).mono ?_; rintro e w3 ⟨rfl, v3, t3⟩; have g3 := frees_box t3.2.1 (show W.drew.heap[w.heap.size]? = _ from HX.out) (fun hj => by have := (HH.out.1.dev.lt hj).2; omega))
      | (go_at_call 41; refine (rsend_any base q Q u s w3 (HC0.out.step t3).1 HO.out (by have h9 := t3.fit; have : W.heap.size ≤ w3.heap.size := h9; omega)).mono ?_; rintro e w4 ⟨rfl, u4, t4⟩; have g4 := frees_box t4.2.1 g3 (fun hj => by have := (HH.out.1.ref.lt hj).2; omega)))
  have hfin : TwoTo base p q v u (sendQ Q s) w w4 := TwoTo.ahead (HH.out.2.2.1.trans (HC.out.2.mono (by omega))) hb (TwoTo.ahead (Below.refl _ W).drew (by omega) (HC0.out.both t3 t4))
  have HF := hide hfin
  clear hfin t3 t4 g3 g4
  go_wp2_with fail
  go_ret
  exact ⟨rfl, HF.out⟩
set_option maxRecDepth 100000 in
set_option maxHeartbeats 2000000 in
theorem do_1n (base p q : Nat) (Q : Qs) (v u : Value) (s : ByteArray) (h H : Nat) (w : World) (hT : Two base p q Q v u w) (hq : QOk Q) (hb : base ≤ w.heap.size) (hH : H < 4294967296) (hh : H = (h + Q.a) % 4294967296) :
    Calls Try.prog 23 #[.pointer (some ⟨p, 0, none⟩), .pointer (some ⟨q, 0, none⟩), .agg #[.int .i64 1, .string s, .int .u32 h, .bool true]] w fun e w' => e = .returned (.bool true) ∧ TwoTo base p q v u (ackQ Q H) w w' := by
  obtain ⟨W, hW, f1, z1, hB1⟩ := boxed w #[.int .i64 1, .string s, .int .u32 h, .bool true]
  obtain ⟨x0, x1, x2, x3⟩ := keepX f1
  have hT1 := hT.below hB1
  have HO := hide hq
  have hlw : IntKind.u32.wrap (Q.l.length : Int) = Q.l.length := by rw [IntKind.wrap_u32]; have := hq.few; omega
  have hs1 : ((sentQ Q : Int) - Q.l.length) % 4294967296 = Q.a := by unfold sentQ; have := hq.few; have := hq.a; omega
  have hs2 : ((h : Int) + Q.a) % 4294967296 = H := by omega
  clear hh
  have HH := hide (And.intro hT (And.intro hT1 (And.intro hB1 f1)))
  clear hT hq hT1 hB1 f1
  go_enter Try.func23, Try.ntmps23
  go_wp2_with (first
    | (go_at_call 39; refine (rsent_any base q Q u W HH.out.2.1.ref HO.out).mono ?_; rintro e w1 ⟨rfl, b1⟩; have HB1 := hide b1; clear b1)
    | (go_at_call 40; refine (rwaiting_any base q Q u w1 (HH.out.2.1.below HB1.out).ref HO.out).mono ?_; rintro e wc ⟨r2, rfl, y2, b2⟩; obtain ⟨ga2, gc2, rfl⟩ := own_shape y2; have HB2 := hide b2; clear b2 y2; refine stopHere ?_))
  unfold Hid
  have HC := hide (show Two base p q Q v u wc ∧ Below W.heap.size W wc from ⟨(HH.out.2.1.below HB1.out).below HB2.out, HB1.out.trans (HB2.out.mono HB1.out.size)⟩)
  have zc := HC.out.2.size
  have fc := (HC.out.2.block w.heap.size (by omega)).trans HH.out.2.2.2
  obtain ⟨y0, y1, y2, y3⟩ := keepX fc
  have HX := hide fc
  clear fc HB1 HB2
  go_wp2_with (first
    | (go_at_call 14; refine (ack_any base p Q v H wc HC.out.1.dev HO.out (by omega) hH).mono ?_; rintro e w3 ⟨r3, v3, rfl, l3, t3⟩; have T3 := hide (And.intro l3 t3); clear l3 t3)
    | (go_at_call 42; refine (rack_any base q Q u H w3 (HC.out.1.step T3.out.2).1 HO.out (by have := T3.out.2.fit; omega) hH).mono ?_; rintro e w4 ⟨r4, u4, rfl, l4, t4⟩; have T4 := hide (And.intro l4 t4); clear l4 t4)
    | (go_at_call 17; refine (rsame_any _ _ r3 r4 (ackL Q H) (ackL Q H) w4 (T3.out.1.frees T4.out.2.2.1 (fun j hj => .inl (.inl (fun x => HC.out.1.apart j x hj)))) T4.out.1 (by have := ackL_len HO.out H; omega)).mono ?_; rintro e w5 ⟨rfl, b5⟩; have B5 := hide b5; clear b5))
  go_ret
  exact ⟨rfl, TwoTo.ahead (HH.out.2.2.1.trans (HC.out.2.mono (by omega))) hb ((HC.out.1.both T3.out.2 T4.out.2).behind B5.out (by omega))⟩
set_option maxRecDepth 100000 in
set_option maxHeartbeats 2000000 in
theorem do_1f (base p q : Nat) (Q : Qs) (v u : Value) (s : ByteArray) (h H : Nat) (w : World) (hT : Two base p q Q v u w) (hq : QOk Q) (hb : base ≤ w.heap.size) (hH : H < 4294967296) (hh : H = h) :
    Calls Try.prog 23 #[.pointer (some ⟨p, 0, none⟩), .pointer (some ⟨q, 0, none⟩), .agg #[.int .i64 1, .string s, .int .u32 h, .bool false]] w fun e w' => e = .returned (.bool true) ∧ TwoTo base p q v u (ackQ Q H) w w' := by
  obtain ⟨W, hW, f1, z1, hB1⟩ := boxed w #[.int .i64 1, .string s, .int .u32 h, .bool false]
  obtain ⟨x0, x1, x2, x3⟩ := keepX f1
  have hT1 := hT.below hB1
  have HO := hide hq
  subst hh
  have HH := hide (And.intro hT (And.intro hT1 (And.intro hB1 f1)))
  clear hT hq hT1 hB1 f1
  go_enter Try.func23, Try.ntmps23
  have HC := hide (show Two base p q Q v u W ∧ Below W.heap.size W W from ⟨HH.out.2.1, Below.refl _ _⟩)
  have zc := HC.out.2.size
  have HX := hide HH.out.2.2.2
  go_wp2_with (first
    | (go_at_call 14; refine (ack_any base p Q v H W HC.out.1.dev HO.out (by omega) hH).mono ?_; rintro e w3 ⟨r3, v3, rfl, l3, t3⟩; have T3 := hide (And.intro l3 t3); clear l3 t3)
    | (go_at_call 42; refine (rack_any base q Q u H w3 (HC.out.1.step T3.out.2).1 HO.out (by have := T3.out.2.fit; omega) hH).mono ?_; rintro e w4 ⟨r4, u4, rfl, l4, t4⟩; have T4 := hide (And.intro l4 t4); clear l4 t4)
    | (go_at_call 17; refine (rsame_any _ _ r3 r4 (ackL Q H) (ackL Q H) w4 (T3.out.1.frees T4.out.2.2.1 (fun j hj => .inl (.inl (fun x => HC.out.1.apart j x hj)))) T4.out.1 (by have := ackL_len HO.out H; omega)).mono ?_; rintro e w5 ⟨rfl, b5⟩; have B5 := hide b5; clear b5))
  go_ret
  exact ⟨rfl, TwoTo.ahead (HH.out.2.2.1.trans (HC.out.2.mono (by omega))) hb ((HC.out.1.both T3.out.2 T4.out.2).behind B5.out (by omega))⟩
set_option maxRecDepth 100000 in
set_option maxHeartbeats 2000000 in
theorem do_2n (base p q : Nat) (Q : Qs) (v u : Value) (s : ByteArray) (h H : Nat) (w : World) (hT : Two base p q Q v u w) (hq : QOk Q) (hb : base ≤ w.heap.size) (hH : H < 4294967296) (hh : H = (h + Q.a) % 4294967296) :
    Calls Try.prog 23 #[.pointer (some ⟨p, 0, none⟩), .pointer (some ⟨q, 0, none⟩), .agg #[.int .i64 2, .string s, .int .u32 h, .bool true]] w fun e w' => e = .returned (.bool true) ∧ TwoTo base p q v u (ackQ Q H) w w' := by
  obtain ⟨W, hW, f1, z1, hB1⟩ := boxed w #[.int .i64 2, .string s, .int .u32 h, .bool true]
  obtain ⟨x0, x1, x2, x3⟩ := keepX f1
  have hT1 := hT.below hB1
  have HO := hide hq
  have hlw : IntKind.u32.wrap (Q.l.length : Int) = Q.l.length := by rw [IntKind.wrap_u32]; have := hq.few; omega
  have hs1 : ((sentQ Q : Int) - Q.l.length) % 4294967296 = Q.a := by unfold sentQ; have := hq.few; have := hq.a; omega
  have hs2 : ((h : Int) + Q.a) % 4294967296 = H := by omega
  clear hh
  have HH := hide (And.intro hT (And.intro hT1 (And.intro hB1 f1)))
  clear hT hq hT1 hB1 f1
  go_enter Try.func23, Try.ntmps23
  go_wp2_with (first
    | (go_at_call 39; refine (rsent_any base q Q u W HH.out.2.1.ref HO.out).mono ?_; rintro e w1 ⟨rfl, b1⟩; have HB1 := hide b1; clear b1)
    | (go_at_call 40; refine (rwaiting_any base q Q u w1 (HH.out.2.1.below HB1.out).ref HO.out).mono ?_; rintro e wc ⟨r2, rfl, y2, b2⟩; obtain ⟨ga2, gc2, rfl⟩ := own_shape y2; have HB2 := hide b2; clear b2 y2; refine stopHere ?_))
  unfold Hid
  have HC := hide (show Two base p q Q v u wc ∧ Below W.heap.size W wc from ⟨(HH.out.2.1.below HB1.out).below HB2.out, HB1.out.trans (HB2.out.mono HB1.out.size)⟩)
  have zc := HC.out.2.size
  have fc := (HC.out.2.block w.heap.size (by omega)).trans HH.out.2.2.2
  obtain ⟨y0, y1, y2, y3⟩ := keepX fc
  have HX := hide fc
  clear fc HB1 HB2
  go_wp2_with (first
    | (go_at_call 15; refine (resume_any base p Q v H wc HC.out.1.dev HO.out (by omega) hH).mono ?_; rintro e w3 ⟨r3, v3, rfl, l3, t3⟩; have T3 := hide (And.intro l3 t3); clear l3 t3)
    | (go_at_call 43; refine (rresume_any base q Q u H w3 (HC.out.1.step T3.out.2).1 HO.out (by have := T3.out.2.fit; omega) hH).mono ?_; rintro e w4 ⟨r4, u4, rfl, l4, t4⟩; have T4 := hide (And.intro l4 t4); clear l4 t4)
    | (go_at_call 17; refine (rsame_any _ _ r3 r4 (resL Q H) (resL Q H) w4 (T3.out.1.frees T4.out.2.2.1 (fun j hj => .inl (.inl (HC.out.1.ref.lt hj).2))) T4.out.1 (by have := resL_len HO.out H; omega)).mono ?_; rintro e w5 ⟨rfl, b5⟩; have B5 := hide b5; clear b5))
  go_ret
  exact ⟨rfl, TwoTo.ahead (HH.out.2.2.1.trans (HC.out.2.mono (by omega))) hb ((HC.out.1.both T3.out.2 T4.out.2).behind B5.out (by omega))⟩
set_option maxRecDepth 100000 in
set_option maxHeartbeats 2000000 in
theorem do_2f (base p q : Nat) (Q : Qs) (v u : Value) (s : ByteArray) (h H : Nat) (w : World) (hT : Two base p q Q v u w) (hq : QOk Q) (hb : base ≤ w.heap.size) (hH : H < 4294967296) (hh : H = h) :
    Calls Try.prog 23 #[.pointer (some ⟨p, 0, none⟩), .pointer (some ⟨q, 0, none⟩), .agg #[.int .i64 2, .string s, .int .u32 h, .bool false]] w fun e w' => e = .returned (.bool true) ∧ TwoTo base p q v u (ackQ Q H) w w' := by
  obtain ⟨W, hW, f1, z1, hB1⟩ := boxed w #[.int .i64 2, .string s, .int .u32 h, .bool false]
  obtain ⟨x0, x1, x2, x3⟩ := keepX f1
  have hT1 := hT.below hB1
  have HO := hide hq
  subst hh
  have HH := hide (And.intro hT (And.intro hT1 (And.intro hB1 f1)))
  clear hT hq hT1 hB1 f1
  go_enter Try.func23, Try.ntmps23
  have HC := hide (show Two base p q Q v u W ∧ Below W.heap.size W W from ⟨HH.out.2.1, Below.refl _ _⟩)
  have zc := HC.out.2.size
  have HX := hide HH.out.2.2.2
  go_wp2_with (first
    | (go_at_call 15; refine (resume_any base p Q v H W HC.out.1.dev HO.out (by omega) hH).mono ?_; rintro e w3 ⟨r3, v3, rfl, l3, t3⟩; have T3 := hide (And.intro l3 t3); clear l3 t3)
    | (go_at_call 43; refine (rresume_any base q Q u H w3 (HC.out.1.step T3.out.2).1 HO.out (by have := T3.out.2.fit; omega) hH).mono ?_; rintro e w4 ⟨r4, u4, rfl, l4, t4⟩; have T4 := hide (And.intro l4 t4); clear l4 t4)
    | (go_at_call 17; refine (rsame_any _ _ r3 r4 (resL Q H) (resL Q H) w4 (T3.out.1.frees T4.out.2.2.1 (fun j hj => .inl (.inl (HC.out.1.ref.lt hj).2))) T4.out.1 (by have := resL_len HO.out H; omega)).mono ?_; rintro e w5 ⟨rfl, b5⟩; have B5 := hide b5; clear b5))
  go_ret
  exact ⟨rfl, TwoTo.ahead (HH.out.2.2.1.trans (HC.out.2.mono (by omega))) hb ((HC.out.1.both T3.out.2 T4.out.2).behind B5.out (by omega))⟩
set_option maxRecDepth 100000 in
set_option maxHeartbeats 2000000 in
theorem do_3n (base p q : Nat) (Q : Qs) (v u : Value) (s : ByteArray) (h H : Nat) (w : World) (hT : Two base p q Q v u w) (hq : QOk Q) (hb : base ≤ w.heap.size) (_hH : H < 4294967296) (hh : H = (h + Q.a) % 4294967296) :
    Calls Try.prog 23 #[.pointer (some ⟨p, 0, none⟩), .pointer (some ⟨q, 0, none⟩), .agg #[.int .i64 3, .string s, .int .u32 h, .bool true]] w fun e w' => e = .returned (.bool true) ∧ TwoTo base p q v u (gotQ Q) w w' := by
  obtain ⟨W, hW, f1, z1, hB1⟩ := boxed w #[.int .i64 3, .string s, .int .u32 h, .bool true]
  obtain ⟨x0, x1, x2, x3⟩ := keepX f1
  have hT1 := hT.below hB1
  have HO := hide hq
  have hlw : IntKind.u32.wrap (Q.l.length : Int) = Q.l.length := by rw [IntKind.wrap_u32]; have := hq.few; omega
  have hs1 : ((sentQ Q : Int) - Q.l.length) % 4294967296 = Q.a := by unfold sentQ; have := hq.few; have := hq.a; omega
  have hs2 : ((h : Int) + Q.a) % 4294967296 = H := by omega
  clear hh
  have HH := hide (And.intro hT (And.intro hT1 (And.intro hB1 f1)))
  clear hT hq hT1 hB1 f1
  go_enter Try.func23, Try.ntmps23
  go_wp2_with (first
    | (go_at_call 39; refine (rsent_any base q Q u W HH.out.2.1.ref HO.out).mono ?_; rintro e w1 ⟨rfl, b1⟩; have HB1 := hide b1; clear b1)
    | (go_at_call 40; refine (rwaiting_any base q Q u w1 (HH.out.2.1.below HB1.out).ref HO.out).mono ?_; rintro e wc ⟨r2, rfl, y2, b2⟩; obtain ⟨ga2, gc2, rfl⟩ := own_shape y2; have HB2 := hide b2; clear b2 y2; refine stopHere ?_))
  unfold Hid
  have HC := hide (show Two base p q Q v u wc ∧ Below W.heap.size W wc from ⟨(HH.out.2.1.below HB1.out).below HB2.out, HB1.out.trans (HB2.out.mono HB1.out.size)⟩)
  have zc := HC.out.2.size
  have fc := (HC.out.2.block w.heap.size (by omega)).trans HH.out.2.2.2
  obtain ⟨y0, y1, y2, y3⟩ := keepX fc
  have HX := hide fc
  clear fc HB1 HB2
  go_wp2_with (first
    | (go_at_call 20; refine (got_any base p Q v wc HC.out.1.dev (by omega)).mono ?_; rintro e w3 ⟨rfl, t3⟩; have T3 := hide t3; clear t3)
    | (go_at_call 44; refine (rgot_any base q Q u w3 (HC.out.1.step T3.out).1).mono ?_; rintro e w4 ⟨rfl, t4⟩; have T4 := hide t4; clear t4))
  go_ret
  exact ⟨rfl, TwoTo.ahead (HH.out.2.2.1.trans (HC.out.2.mono (by omega))) hb (HC.out.1.both T3.out T4.out)⟩
set_option maxRecDepth 100000 in
set_option maxHeartbeats 2000000 in
theorem do_3f (base p q : Nat) (Q : Qs) (v u : Value) (s : ByteArray) (h H : Nat) (w : World) (hT : Two base p q Q v u w) (hq : QOk Q) (hb : base ≤ w.heap.size) (_hH : H < 4294967296) (hh : H = h) :
    Calls Try.prog 23 #[.pointer (some ⟨p, 0, none⟩), .pointer (some ⟨q, 0, none⟩), .agg #[.int .i64 3, .string s, .int .u32 h, .bool false]] w fun e w' => e = .returned (.bool true) ∧ TwoTo base p q v u (gotQ Q) w w' := by
  obtain ⟨W, hW, f1, z1, hB1⟩ := boxed w #[.int .i64 3, .string s, .int .u32 h, .bool false]
  obtain ⟨x0, x1, x2, x3⟩ := keepX f1
  have hT1 := hT.below hB1
  have HO := hide hq
  subst hh
  have HH := hide (And.intro hT (And.intro hT1 (And.intro hB1 f1)))
  clear hT hq hT1 hB1 f1
  go_enter Try.func23, Try.ntmps23
  have HC := hide (show Two base p q Q v u W ∧ Below W.heap.size W W from ⟨HH.out.2.1, Below.refl _ _⟩)
  have zc := HC.out.2.size
  have HX := hide HH.out.2.2.2
  go_wp2_with (first
    | (go_at_call 20; refine (got_any base p Q v W HC.out.1.dev (by omega)).mono ?_; rintro e w3 ⟨rfl, t3⟩; have T3 := hide t3; clear t3)
    | (go_at_call 44; refine (rgot_any base q Q u w3 (HC.out.1.step T3.out).1).mono ?_; rintro e w4 ⟨rfl, t4⟩; have T4 := hide t4; clear t4))
  go_ret
  exact ⟨rfl, TwoTo.ahead (HH.out.2.2.1.trans (HC.out.2.mono (by omega))) hb (HC.out.1.both T3.out T4.out)⟩
set_option maxRecDepth 100000 in
set_option maxHeartbeats 2000000 in
theorem do_4n (base p q : Nat) (Q : Qs) (v u : Value) (K : Int) (s : ByteArray) (h H : Nat) (w : World) (hT : Two base p q Q v u w) (hq : QOk Q) (hb : base ≤ w.heap.size) (_hH : H < 4294967296) (hh : H = (h + Q.a) % 4294967296) (k0 : K ≠ 0) (k1 : K ≠ 1) (k2 : K ≠ 2) (k3 : K ≠ 3) :
    Calls Try.prog 23 #[.pointer (some ⟨p, 0, none⟩), .pointer (some ⟨q, 0, none⟩), .agg #[.int .i64 K, .string s, .int .u32 h, .bool true]] w fun e w' => e = .returned (.bool true) ∧ TwoTo base p q v u Q w w' := by
  obtain ⟨W, hW, f1, z1, hB1⟩ := boxed w #[.int .i64 K, .string s, .int .u32 h, .bool true]
  obtain ⟨x0, x1, x2, x3⟩ := keepX f1
  have hT1 := hT.below hB1
  have HO := hide hq
  have e0 : (K == 0) = false := by rw [beq_eq_false_iff_ne]; exact k0
  have e1 : (K == 1) = false := by rw [beq_eq_false_iff_ne]; exact k1
  have e2 : (K == 2) = false := by rw [beq_eq_false_iff_ne]; exact k2
  have e3 : (K == 3) = false := by rw [beq_eq_false_iff_ne]; exact k3
  have hlw : IntKind.u32.wrap (Q.l.length : Int) = Q.l.length := by rw [IntKind.wrap_u32]; have := hq.few; omega
  have hs1 : ((sentQ Q : Int) - Q.l.length) % 4294967296 = Q.a := by unfold sentQ; have := hq.few; have := hq.a; omega
  have hs2 : ((h : Int) + Q.a) % 4294967296 = H := by omega
  clear hh
  have HH := hide (And.intro hT (And.intro hT1 (And.intro hB1 f1)))
  clear hT hq hT1 hB1 f1
  go_enter Try.func23, Try.ntmps23
  go_wp2_with (first
    | (go_at_call 39; refine (rsent_any base q Q u W HH.out.2.1.ref HO.out).mono ?_; rintro e w1 ⟨rfl, b1⟩; have HB1 := hide b1; clear b1)
    | (go_at_call 40; refine (rwaiting_any base q Q u w1 (HH.out.2.1.below HB1.out).ref HO.out).mono ?_; rintro e wc ⟨r2, rfl, y2, b2⟩; obtain ⟨ga2, gc2, rfl⟩ := own_shape y2; have HB2 := hide b2; clear b2 y2; refine stopHere ?_))
  unfold Hid
  have HC := hide (show Two base p q Q v u wc ∧ Below W.heap.size W wc from ⟨(HH.out.2.1.below HB1.out).below HB2.out, HB1.out.trans (HB2.out.mono HB1.out.size)⟩)
  have zc := HC.out.2.size
  have fc := (HC.out.2.block w.heap.size (by omega)).trans HH.out.2.2.2
  obtain ⟨y0, y1, y2, y3⟩ := keepX fc
  have HX := hide fc
  clear fc HB1 HB2
  go_wp2_with fail
  go_ret
  exact ⟨rfl, TwoTo.ahead (HH.out.2.2.1.trans (HC.out.2.mono (by omega))) hb (TwoTo.stay HC.out.1 (Below.refl _ _) (by omega))⟩
set_option maxRecDepth 100000 in
set_option maxHeartbeats 2000000 in
theorem do_4f (base p q : Nat) (Q : Qs) (v u : Value) (K : Int) (s : ByteArray) (h H : Nat) (w : World) (hT : Two base p q Q v u w) (hq : QOk Q) (hb : base ≤ w.heap.size) (_hH : H < 4294967296) (hh : H = h) (k0 : K ≠ 0) (k1 : K ≠ 1) (k2 : K ≠ 2) (k3 : K ≠ 3) :
    Calls Try.prog 23 #[.pointer (some ⟨p, 0, none⟩), .pointer (some ⟨q, 0, none⟩), .agg #[.int .i64 K, .string s, .int .u32 h, .bool false]] w fun e w' => e = .returned (.bool true) ∧ TwoTo base p q v u Q w w' := by
  obtain ⟨W, hW, f1, z1, hB1⟩ := boxed w #[.int .i64 K, .string s, .int .u32 h, .bool false]
  obtain ⟨x0, x1, x2, x3⟩ := keepX f1
  have hT1 := hT.below hB1
  have HO := hide hq
  have e0 : (K == 0) = false := by rw [beq_eq_false_iff_ne]; exact k0
  have e1 : (K == 1) = false := by rw [beq_eq_false_iff_ne]; exact k1
  have e2 : (K == 2) = false := by rw [beq_eq_false_iff_ne]; exact k2
  have e3 : (K == 3) = false := by rw [beq_eq_false_iff_ne]; exact k3
  subst hh
  have HH := hide (And.intro hT (And.intro hT1 (And.intro hB1 f1)))
  clear hT hq hT1 hB1 f1
  go_enter Try.func23, Try.ntmps23
  have HC := hide (show Two base p q Q v u W ∧ Below W.heap.size W W from ⟨HH.out.2.1, Below.refl _ _⟩)
  have zc := HC.out.2.size
  have HX := hide HH.out.2.2.2
  go_wp2_with fail
  go_ret
  exact ⟨rfl, TwoTo.ahead (HH.out.2.2.1.trans (HC.out.2.mono (by omega))) hb (TwoTo.stay HC.out.1 (Below.refl _ _) (by omega))⟩
theorem do_any (base p q : Nat) (Q : Qs) (v u : Value) (x : Dd) (w : World) (hT : Two base p q Q v u w) (hq : QOk Q) (hb : base ≤ w.heap.size) (hx : x.h < 4294967296) :
    Calls Try.prog 23 #[.pointer (some ⟨p, 0, none⟩), .pointer (some ⟨q, 0, none⟩), .agg (ddC x)] w fun e w' => e = .returned (.bool true) ∧ TwoTo base p q v u (deedOf Q x) w w' := by
  have hH := hOf_lt Q hx
  obtain ⟨K, s, h, on⟩ := x
  unfold ddC
  cases on with
  | true =>
    have hh : hOf Q ⟨K, s, h, true⟩ = (h + Q.a) % 4294967296 := by simp [hOf]
    by_cases k0 : K = 0
    · subst k0; rw [show deedOf Q ⟨0, s, h, true⟩ = sendQ Q s by simp [deedOf]]; exact do_0n base p q Q v u s h _ w hT hq hb hH hh
    by_cases k1 : K = 1
    · subst k1; rw [show deedOf Q ⟨1, s, h, true⟩ = ackQ Q (hOf Q ⟨1, s, h, true⟩) by simp [deedOf]]; exact do_1n base p q Q v u s h _ w hT hq hb hH hh
    by_cases k2 : K = 2
    · subst k2; rw [show deedOf Q ⟨2, s, h, true⟩ = ackQ Q (hOf Q ⟨2, s, h, true⟩) by simp [deedOf]]; exact do_2n base p q Q v u s h _ w hT hq hb hH hh
    by_cases k3 : K = 3
    · subst k3; rw [show deedOf Q ⟨3, s, h, true⟩ = gotQ Q by simp [deedOf]]; exact do_3n base p q Q v u s h _ w hT hq hb hH hh
    rw [show deedOf Q ⟨K, s, h, true⟩ = Q by simp [deedOf, k0, k1, k2, k3]]; exact do_4n base p q Q v u K s h _ w hT hq hb hH hh k0 k1 k2 k3
  | false =>
    have hh : hOf Q ⟨K, s, h, false⟩ = h := by simp [hOf]
    by_cases k0 : K = 0
    · subst k0; rw [show deedOf Q ⟨0, s, h, false⟩ = sendQ Q s by simp [deedOf]]; exact do_0f base p q Q v u s h _ w hT hq hb hH hh
    by_cases k1 : K = 1
    · subst k1; rw [show deedOf Q ⟨1, s, h, false⟩ = ackQ Q (hOf Q ⟨1, s, h, false⟩) by simp [deedOf]]; exact do_1f base p q Q v u s h _ w hT hq hb hH hh
    by_cases k2 : K = 2
    · subst k2; rw [show deedOf Q ⟨2, s, h, false⟩ = ackQ Q (hOf Q ⟨2, s, h, false⟩) by simp [deedOf]]; exact do_2f base p q Q v u s h _ w hT hq hb hH hh
    by_cases k3 : K = 3
    · subst k3; rw [show deedOf Q ⟨3, s, h, false⟩ = gotQ Q by simp [deedOf]]; exact do_3f base p q Q v u s h _ w hT hq hb hH hh
    rw [show deedOf Q ⟨K, s, h, false⟩ = Q by simp [deedOf, k0, k1, k2, k3]]; exact do_4f base p q Q v u K s h _ w hT hq hb hH hh k0 k1 k2 k3
end Go.Proofs.Ytllpblnbdocfjac
