/- Two devices, the program's and the document's, that are the same; a deed on both. -/
import Derived.Test.YtdlejcdmjdljfaaD12
namespace Go.Proofs.Ytdlejcdmjdljfaa
open Go.RowKit Go.Shelf

/-- The two. -/
structure Two (base p q : Nat) (d : Dv) (vl vw ul uw : Value) (w : World) : Prop where
  dev : IsD base p d vl vw w
  ref : IsR base q d ul uw w
def foot2 (p : Nat) (vl vw : Value) (q : Nat) (ul uw : Value) : Blk := fun j => foot p vl vw j ∨ foot q ul uw j
def TwoTo (base p q : Nat) (vl vw ul uw : Value) (d' : Dv) (w w' : World) : Prop :=
  ∃ vl' vw' ul' uw', Two base p q d' vl' vw' ul' uw' w' ∧ Frees base (foot2 p vl vw q ul uw) w w' ∧ ∀ j, foot2 p vl' vw' q ul' uw' j → foot2 p vl vw q ul uw j ∨ w.heap.size ≤ j
section
variable {base p q : Nat} {d d' d'' : Dv} {vl vw ul uw : Value} {w w1 w2 : World}
theorem Two.apart (h : Two base p q d vl vw ul uw w) : ∀ j, foot p vl vw j → ¬ foot q ul uw j := foot_apart h.dev h.ref (by decide) (by decide) (by decide) (by decide) (by decide) (by decide) (by decide) (by decide) (by decide)
theorem Two.below (h : Two base p q d vl vw ul uw w) (hb : Below w.heap.size w w1) : Two base p q d vl vw ul uw w1 := ⟨h.dev.below hb, h.ref.below hb⟩
theorem Frees.of_below {n₀ : Nat} {M : Blk} (hb : Below w.heap.size w w1) (hn : n₀ ≤ w.heap.size) : Frees n₀ M w w1 := ⟨hb.mono hn, fun j hj _ => hb.block j hj⟩
theorem TwoTo.stay (h : Two base p q d vl vw ul uw w) (hb : Below w.heap.size w w1) (hn : base ≤ w.heap.size) : TwoTo base p q vl vw ul uw d w w1 :=
  ⟨vl, vw, ul, uw, h.below hb, Frees.of_below hb hn, fun _ hj => .inl hj⟩
theorem TwoTo.trans (h1 : TwoTo base p q vl vw ul uw d' w w1) (h2 : ∀ vl' vw' ul' uw', Two base p q d' vl' vw' ul' uw' w1 → TwoTo base p q vl' vw' ul' uw' d'' w1 w2) : TwoTo base p q vl vw ul uw d'' w w2 := by
  obtain ⟨a, b, c, e, t1, f1, g1⟩ := h1
  obtain ⟨a', b', c', e', t2, f2, g2⟩ := h2 a b c e t1
  refine ⟨a', b', c', e', t2, ⟨f1.below.trans f2.below, fun j hj hn => (f2.same j (Nat.lt_of_lt_of_le hj f1.below.size) (fun hf => ?_)).trans (f1.same j hj hn)⟩, fun j hj => ?_⟩
  · rcases g1 j hf with h | h
    · exact hn h
    · omega
  · rcases g2 j hj with h | h
    · exact g1 j h
    · exact .inr (Nat.le_trans f1.below.size h)
/-- One of the two turns, and then the other one. -/
theorem TwoTo.first {vl' vw' : Value} (h : Two base p q d vl vw ul uw w) (_hd : IsD base p d' vl' vw' w1) (hf : Frees base (foot p vl vw) w w1) (hg : ∀ j, foot p vl' vw' j → foot p vl vw j ∨ w.heap.size ≤ j) : IsR base q d ul uw w1 ∧ ∀ j, foot p vl' vw' j → ¬ foot q ul uw j := by
  refine ⟨h.ref.apart hf (fun j hq hp => h.apart j hp hq), fun j hj hq => ?_⟩
  rcases hg j hj with h1 | h1
  · exact h.apart j h1 hq
  · have := (h.ref.lt hq).2
    omega
theorem TwoTo.both (h : Two base p q d vl vw ul uw w) (h1 : ToD base p vl vw d' w w1) (hB : Below w1.heap.size w1 w2) (hn : base ≤ w.heap.size) {w3 : World} (h2 : ToR base q ul uw d' w2 w3) : TwoTo base p q vl vw ul uw d' w w3 := by
  obtain ⟨a, b, t1, f1, g1⟩ := h1
  obtain ⟨c, e, t2, f2, g2⟩ := h2
  obtain ⟨k1, k2⟩ := TwoTo.first h t1 f1 g1
  have t1' := (t1.below hB).apart f2 k2
  have hs1 := f1.below.size
  have hs2 := hB.size
  refine ⟨a, b, c, e, ⟨t1', t2⟩, ⟨f1.below.trans ((hB.mono (by omega)).trans f2.below), fun j hj hn => ?_⟩, fun j hj => ?_⟩
  · exact (f2.same j (by omega) (fun x => hn (.inr x))).trans ((hB.block j (by omega)).trans (f1.same j hj (fun x => hn (.inl x))))
  · rcases hj with hj | hj
    · rcases g1 j hj with h | h
      · exact .inl (.inl h)
      · exact .inr h
    · rcases g2 j hj with h | h
      · exact .inl (.inr h)
      · exact .inr (by omega)
theorem TwoTo.ahead (hB : Below w.heap.size w w1) (hn : base ≤ w.heap.size) (h : TwoTo base p q vl vw ul uw d' w1 w2) : TwoTo base p q vl vw ul uw d' w w2 := by
  obtain ⟨a, b, c, e, t, f, g⟩ := h
  have hs := hB.size
  exact ⟨a, b, c, e, t, ⟨(hB.mono hn).trans f.below, fun j hj hn => (f.same j (by omega) hn).trans (hB.block j hj)⟩, fun j hj => (g j hj).imp id (fun h => by omega)⟩
theorem TwoTo.behind (h : TwoTo base p q vl vw ul uw d' w w1) (hB : Below w1.heap.size w1 w2) (hn : base ≤ w.heap.size) : TwoTo base p q vl vw ul uw d' w w2 := h.trans fun _ _ _ _ t => TwoTo.stay t hB (Nat.le_trans hn (by obtain ⟨_, _, _, _, _, f, _⟩ := h; exact f.below.size))
end
/-- A deed: what is done, where, with what; which writes survive, and where that lies. -/
structure Dd where
  kind : Int
  i : Int
  c : UInt8
  bs : List Bool
  sa : Option Addr
  sc : Nat
def ddV (x : Dd) : Value := .agg #[.int .i64 x.kind, .int .i64 x.i, .int .u8 x.c.toNat, .slice x.sa x.bs.length x.sc]
/-- The device behind a deed. -/
def deedOf (d : Dv) (x : Dd) : Dv := if x.kind = 0 then (if wrongI d.las.length x.i = 0 then dvWrite d x.i.toNat (allC x.c) else d) else if x.kind = 1 then settled d fun _ => true else if x.kind = 2 then settled d (svOf x.bs) else d
theorem wrongI_or (n : Nat) (i : Int) : (wrongI n i = 0 ∧ 0 ≤ i ∧ i.toNat < n) ∨ wrongI n i = 2 := by
  unfold wrongI
  split
  · exact .inr rfl
  · exact .inl ⟨rfl, by omega, by omega⟩
theorem deedOf_ok {d : Dv} (hd : DvOk d) (x : Dd) (hf : d.wr.length < 1000000) : DvOk (deedOf d x) := by
  unfold deedOf
  split
  · rcases wrongI_or d.las.length x.i with ⟨h1, h2, h3⟩ | h
    · rw [if_pos h1]
      exact dvWrite_ok hd h3 (fillS_len _ _ (Nat.le_refl _)) hf
    · rw [if_neg (by omega)]
      exact hd
  · split
    · exact settled_ok hd _
    · split
      · exact settled_ok hd _
      · exact hd
theorem deedOf_len (d : Dv) (x : Dd) : (deedOf d x).wr.length ≤ d.wr.length + 1 ∧ (deedOf d x).las.length = d.las.length := by
  unfold deedOf
  split
  · split
    · simp [dvWrite]
    · simp
  · split
    · exact ⟨by simp [settled], landAt_len d _ _⟩
    · split
      · exact ⟨by simp [settled], landAt_len d _ _⟩
      · simp
theorem keepX {w : World} {bx : Nat} {a b c e : Value} {T : TypeId} (h : w.heap[bx]? = some (.cells #[a, b, c, e] T)) : w.cell? ⟨bx, 1, none⟩ = some b ∧ w.cell? ⟨bx, 2, none⟩ = some c ∧ w.cell? ⟨bx, 3, none⟩ = some e := by
  simp [World.cell?, h]
end Go.Proofs.Ytdlejcdmjdljfaa
