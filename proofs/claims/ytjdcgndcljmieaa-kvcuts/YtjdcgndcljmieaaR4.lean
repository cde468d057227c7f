/- Two maps, the program's and the document's, that are the same; a deed on both; deeds. -/
import Derived.Test.YtjdcgndcljmieaaR3
import Derived.Test.YtjdcgndcljmieaaKArg
namespace Go.Proofs.Ytjdcgndcljmieaa
open Go.RowKit

structure Two (base p b q : Nat) (L : List Pr) (u : Value) (w : World) : Prop where
  dev : IsM base p b L w
  ref : IsR base q u L w
  apart : ∀ j, footM p b j → ¬ footR q u j
def foot2 (p b q : Nat) (u : Value) : Blk := fun j => footM p b j ∨ footR q u j
def TwoTo (base p b q : Nat) (u : Value) (L' : List Pr) (w w' : World) : Prop :=
  ∃ u', Two base p b q L' u' w' ∧ Frees base (foot2 p b q u) w w' ∧ ∀ j, foot2 p b q u' j → foot2 p b q u j ∨ w.heap.size ≤ j
section
variable {base p b q : Nat} {L L' : List Pr} {u u' : Value} {w w1 w2 : World}
theorem MTo.fit (h : MTo base p b L' w w1) : w.heap.size ≤ w1.heap.size := h.2.below.size
theorem Two.below (h : Two base p b q L u w) (hb : Below w.heap.size w w1) : Two base p b q L u w1 := ⟨h.dev.below hb, h.ref.below hb, h.apart⟩
theorem Two.step (h : Two base p b q L u w) (t : MTo base p b L' w w1) : IsR base q u L w1 := h.ref.apart t.2 (fun j hq hp => h.apart j hp hq)
theorem Two.both (h : Two base p b q L u w) (t : MTo base p b L' w w1) (r : RTo base q u L' u' w1 w2) : TwoTo base p b q u L' w w2 := by
  have hs := t.fit
  refine ⟨u', ⟨t.1.apart r.2.1 h.apart, r.1, fun j hj hq => ?_⟩, ⟨t.2.below.trans r.2.1.below, fun j hj hn => (r.2.1.same j (by omega) (fun x => hn (.inr x))).trans (t.2.same j hj (fun x => hn (.inl x)))⟩, fun j hj => ?_⟩
  · rcases r.2.2 j hq with x | x
    · exact h.apart j hj x
    · have := (t.1.lt hj).2
      omega
  · rcases hj with hj | hj
    · exact .inl (.inl hj)
    · exact (r.2.2 j hj).imp .inr (fun x => by omega)
theorem TwoTo.stay (h : Two base p b q L u w) (hb : Below w.heap.size w w1) (hn : base ≤ w.heap.size) : TwoTo base p b q u L w w1 := ⟨u, h.below hb, Frees.of_below hb hn, fun _ hj => .inl hj⟩
theorem TwoTo.ahead (hB : Below w.heap.size w w1) (hn : base ≤ w.heap.size) (h : TwoTo base p b q u L' w1 w2) : TwoTo base p b q u L' w w2 := by
  obtain ⟨a, t, f, g⟩ := h
  have hs := hB.size
  exact ⟨a, t, ⟨(hB.mono hn).trans f.below, fun j hj hm => (f.same j (by omega) hm).trans (hB.block j hj)⟩, fun j hj => (g j hj).imp id (fun x => by omega)⟩
theorem two_new {v : Value} (d1 : IsM base p b [] w1) (b2 : Below w1.heap.size w1 w2) (d2 : IsR base q v [] w2) (h2 : ∀ j, footR q v j → w1.heap.size ≤ j) : Two base p b q [] v w2 :=
  ⟨d1.below b2, d2, fun j hj hk => by have := (d1.lt hj).2; have := h2 j hk; omega⟩
end
theorem boxed (w : World) (cs : Array Value) : ∃ W, w.alloc (.cells cs 48) = W ∧ W.heap[w.heap.size]? = some (.cells cs 48) ∧ W.heap.size = w.heap.size + 1 ∧ Below w.heap.size w W :=
  ⟨_, rfl, heap_alloc_new w _, by simp, (Below.refl _ w).alloc (Nat.le_refl _) _⟩
theorem keepX {w : World} {bx : Nat} {a b c : Value} {T : TypeId} (h : w.heap[bx]? = some (.cells #[a, b, c] T)) : w.cell? ⟨bx, 0, none⟩ = some a ∧ w.cell? ⟨bx, 1, none⟩ = some b ∧ w.cell? ⟨bx, 2, none⟩ = some c := by
  simp [World.cell?, h]
theorem frees_box {base : Nat} {M : Blk} {A B : World} (h : Frees base M A B) {b : Nat} {o : Obj} (hb : A.heap[b]? = some o) (hm : ¬ M b) : B.heap[b]? = some o := (h.same b (hp_lt hb) hm).trans hb
set_option maxRecDepth 100000 in
set_option maxHeartbeats 2000000 in
theorem do_put (base p b q : Nat) (L : List Pr) (u : Value) (s t : ByteArray) (w : World) (hT : Two base p b q L u w) (hb : base ≤ w.heap.size) :
    Calls Try.prog 20 #[.pointer (some ⟨p, 0, none⟩), .pointer (some ⟨q, 0, none⟩), .agg #[.int .i64 0, .string s, .string t]] w fun e w' => e = .returned (.bool true) ∧ TwoTo base p b q u (putL L s t) w w' := by
  obtain ⟨W, hW, f1, z1, hB1⟩ := boxed w #[.int .i64 0, .string s, .string t]
  obtain ⟨x0, x1, x2⟩ := keepX f1
  have hT1 := hT.below hB1
  have HH := hide (And.intro hT (And.intro hT1 (And.intro hB1 f1)))
  clear hT hT1 hB1 f1
  go_enter Try.func20, Try.ntmps20
  go_wp2_with fail
  have HC0 := hide (HH.out.2.1.below (Below.refl _ W).drew)
  go_region_held3 (fun w' => w'.cell? ⟨w.heap.size, 1, none⟩ = some (.string s) ∧ w'.cell? ⟨w.heap.size, 2, none⟩ = some (.string t)) ((first | exact ⟨x1, x2⟩ | exact ⟨(keepX (by assumption)).2.1, (keepX (by assumption)).2.2⟩))
    (first
      | (go_at_call 16; refine (put_any base p b L s t W.drew HC0.out.dev (by show base ≤ W.heap.size; omega)).mono ?_; rintro e w3 ⟨rfl, t3⟩; have g3 := frees_box t3.2 (show W.drew.heap[w.heap.size]? = _ from HH.out.2.2.2) (fun hj => by have := (HH.out.1.dev.lt hj).2; omega))
      | (go_at_call 33; refine (rput_any base q u L s t w3 (HC0.out.step t3) (by have h9 := t3.fit; have : W.heap.size ≤ w3.heap.size := h9; omega)).mono ?_; rintro e w4 ⟨rfl, u4, t4⟩; have g4 := frees_box t4.2.1 g3 (fun hj => by have := (HH.out.1.ref.lt hj).2; omega)))
  have hfin : TwoTo base p b q u (putL L s t) w w4 := TwoTo.ahead HH.out.2.2.1 hb (TwoTo.ahead (Below.refl _ W).drew (by omega) (HC0.out.both t3 t4))
  have HF := hide hfin
  clear hfin t3 t4 g3 g4
  go_wp2_with fail
  go_ret
  exact ⟨rfl, HF.out⟩
set_option maxRecDepth 100000 in
set_option maxHeartbeats 2000000 in
theorem do_delete (base p b q : Nat) (L : List Pr) (u : Value) (s t : ByteArray) (w : World) (hT : Two base p b q L u w) (hb : base ≤ w.heap.size) :
    Calls Try.prog 20 #[.pointer (some ⟨p, 0, none⟩), .pointer (some ⟨q, 0, none⟩), .agg #[.int .i64 1, .string s, .string t]] w fun e w' => e = .returned (.bool true) ∧ TwoTo base p b q u (delM L s) w w' := by
  obtain ⟨W, hW, f1, z1, hB1⟩ := boxed w #[.int .i64 1, .string s, .string t]
  obtain ⟨x0, x1, x2⟩ := keepX f1
  have hT1 := hT.below hB1
  have HH := hide (And.intro hT (And.intro hT1 (And.intro hB1 f1)))
  clear hT hT1 hB1 f1
  go_enter Try.func20, Try.ntmps20
  go_wp2_with fail
  have HC0 := hide (HH.out.2.1.below (Below.refl _ W).drew)
  go_region_held3 (fun w' => w'.cell? ⟨w.heap.size, 1, none⟩ = some (.string s)) ((first | exact x1 | exact (keepX (by assumption)).2.1))
    (first
      | (go_at_call 17; refine (delete_any base p b L s W.drew HC0.out.dev (by show base ≤ W.heap.size; omega)).mono ?_; rintro e w3 ⟨rfl, t3⟩; have g3 := frees_box t3.2 (show W.drew.heap[w.heap.size]? = _ from HH.out.2.2.2) (fun hj => by have := (HH.out.1.dev.lt hj).2; omega))
      | (go_at_call 38; refine (rdelete_any base q u L s w3 (HC0.out.step t3) (by have h9 := t3.fit; have : W.heap.size ≤ w3.heap.size := h9; omega)).mono ?_; rintro e w4 ⟨rfl, u4, t4⟩; have g4 := frees_box t4.2.1 g3 (fun hj => by have := (HH.out.1.ref.lt hj).2; omega)))
  have hfin : TwoTo base p b q u (delM L s) w w4 := TwoTo.ahead HH.out.2.2.1 hb (TwoTo.ahead (Below.refl _ W).drew (by omega) (HC0.out.both t3 t4))
  have HF := hide hfin
  clear hfin t3 t4 g3 g4
  go_wp2_with fail
  go_ret
  exact ⟨rfl, HF.out⟩
set_option maxRecDepth 100000 in
theorem do_none (base p b q : Nat) (L : List Pr) (u : Value) (i : Int) (s t : ByteArray) (w : World) (hT : Two base p b q L u w) (hb : base ≤ w.heap.size) (h0 : i ≠ 0) (h1 : i ≠ 1) :
    Calls Try.prog 20 #[.pointer (some ⟨p, 0, none⟩), .pointer (some ⟨q, 0, none⟩), .agg #[.int .i64 i, .string s, .string t]] w fun e w' => e = .returned (.bool true) ∧ TwoTo base p b q u L w w' := by
  obtain ⟨W, hW, f1, z1, hB1⟩ := boxed w #[.int .i64 i, .string s, .string t]
  obtain ⟨x0, x1, x2⟩ := keepX f1
  have HF := hide (TwoTo.stay hT hB1 hb)
  clear hT hB1 f1
  go_enter Try.func20, Try.ntmps20
  go_wp2_with fail
  go_ret
  exact ⟨rfl, HF.out⟩
def deedOf (L : List Pr) (x : Dk) : List Pr := if x.kind = 0 then putL L x.key x.val else if x.kind = 1 then delM L x.key else L
theorem do_any (base p b q : Nat) (L : List Pr) (u : Value) (x : Dk) (w : World) (hT : Two base p b q L u w) (hb : base ≤ w.heap.size) :
    Calls Try.prog 20 #[.pointer (some ⟨p, 0, none⟩), .pointer (some ⟨q, 0, none⟩), .agg (dkC x)] w fun e w' => e = .returned (.bool true) ∧ TwoTo base p b q u (deedOf L x) w w' := by
  obtain ⟨i, s, t⟩ := x
  unfold deedOf dkC
  by_cases h0 : i = 0
  · subst h0
    exact do_put base p b q L u s t w hT hb
  · by_cases h1 : i = 1
    · subst h1
      exact do_delete base p b q L u s t w hT hb
    · simp only [if_neg h0, if_neg h1]
      exact do_none base p b q L u i s t w hT hb h0 h1
end Go.Proofs.Ytjdcgndcljmieaa
