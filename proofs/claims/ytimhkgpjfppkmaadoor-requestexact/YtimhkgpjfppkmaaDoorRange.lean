/- A loop over a function that keeps memory of its own: which blocks are the function's, and what each side leaves alone. -/
import Derived.RangeFuncNested
import Derived.RangeFuncBound
import Derived.RangeFuncCalls
import Derived.RangeFuncLeaves
import Derived.Shelf.Abstract
import Derived.Shelf.RegionOpen
import Derived.WalkKit
import Derived.OwnWalkIn
import Derived.TacticsInMore
import Derived.LoopNIn
import Derived.LoopIn
namespace Go.Proofs.YtimhkgpjfppkmaaDoor
open Go Go.RowKit

/-- A set of blocks. -/
abbrev Blk := Nat → Prop

/-- J goes on where nothing turns but blocks of M; new ones may be M's. -/
def Holding (n₀ : Nat) (J : Blk → Nat → World → Prop) : Prop :=
  ∀ M M' k A B, J M k A → Below n₀ A B → (∀ j, j < A.heap.size → ¬ M j → B.heap[j]? = A.heap[j]?) → (∀ j, j < A.heap.size → M' j → M j) → J M' k B

def Kept (M : Blk) (A B : World) : Prop := ∀ j, M j → B.heap[j]? = A.heap[j]?

/-- What the function that is ranged over owes: N rounds, the k-th with encs k; its own blocks (M) are its own. -/
def SeqOwn (F : Fence) (n : Nat) (P : Program) (it : Nat) (held : Array Value) (encs : Nat → Array Value) (n₀ N : Nat) (M₀ : Blk) (G : Obj → Prop) (w : World) : Prop :=
  ∀ (l : Nat) (J : Blk → Nat → World → Prop) (Jx : Nat → World → Prop) (W : World), Below w.heap.size w W → n₀ ≤ w.heap.size → Holding n₀ J →
    (∀ M k W1, J M k W1 → k < N → (∀ b, M b → n₀ ≤ b ∧ ∃ o, W1.heap[b]? = some o ∧ G o) → YieldAt F (n - 1) P l (encs k) W1 fun e W' =>
      (e = .returned (.bool true) ∧ J M (k + 1) W' ∧ Kept M W1 W' ∧ Below n₀ W1 W') ∨ (e = .returned (.bool false) ∧ Jx (k + 1) W')) →
    J M₀ 0 W →
    CallsIn F n P it (#[.func (.yield l) #[] #[]] ++ held) W fun e W' => (∃ v, e = .returned v) ∧ ((∃ M, J M N W') ∨ (∃ k, k ≤ N ∧ Jx k W'))

/-- From A to B nothing has turned but blocks of M and new ones; nothing below n₀. -/
structure Frees (n₀ : Nat) (M : Blk) (A B : World) : Prop where
  below : Below n₀ A B
  same : ∀ j, j < A.heap.size → ¬ M j → B.heap[j]? = A.heap[j]?
theorem Frees.refl (n₀ : Nat) (M : Blk) (A : World) : Frees n₀ M A A := ⟨Below.refl _ _, fun _ _ _ => rfl⟩
theorem Frees.alloc {n₀ : Nat} {M : Blk} {A B : World} (h : Frees n₀ M A B) (hn : n₀ ≤ A.heap.size) (o : Obj) : Frees n₀ M A (B.alloc o) :=
  ⟨h.below.alloc (Nat.le_trans hn h.below.size) o, fun j hj hm => (Below.heap_alloc B o j (Nat.lt_of_lt_of_le hj h.below.size)).trans (h.same j hj hm)⟩
theorem Frees.setCell {n₀ : Nat} {M : Blk} {A B : World} (h : Frees n₀ M A B) {p : Addr} (hp : n₀ ≤ p.block) (hm : M p.block ∨ A.heap.size ≤ p.block) (v : Value) : Frees n₀ M A (B.setCell p v) :=
  ⟨h.below.setCell hp v, fun j hj hn => (Below.heap_setCell _ _ _ _ (fun e => by
    rcases hm with hm | hm
    · exact hn (e ▸ hm)
    · omega)).trans (h.same j hj hn)⟩
theorem Frees.drew {n₀ : Nat} {M : Blk} {A B : World} (h : Frees n₀ M A B) : Frees n₀ M A B.drew := ⟨h.below.drew, h.same⟩
theorem Frees.grown {n₀ : Nat} {M : Blk} {A B C : World} {row : Option Nat} (h : Frees n₀ M A B) (hn : n₀ ≤ A.heap.size) (hg : B.grownBy C row) (hr : ∀ r, row = some r → n₀ ≤ r ∧ (M r ∨ A.heap.size ≤ r)) : Frees n₀ M A C :=
  ⟨h.below.grown hg (Nat.le_trans hn h.below.size) (fun k e => (hr k e).1), fun j hj hm => (hg.block j (Nat.lt_of_lt_of_le hj h.below.size) (fun e => by
    rcases (hr j e.symm).2 with h' | h'
    · exact hm h'
    · omega)).trans (h.same j hj hm)⟩
theorem Frees.kept {n₀ : Nat} {M : Blk} {A B C : World} (h : Frees n₀ M A B) (hb : Below B.heap.size B C) (hn : n₀ ≤ A.heap.size) : Frees n₀ M A C :=
  ⟨h.below.trans (hb.mono (Nat.le_trans hn h.below.size)), fun j hj hm => (hb.block j (Nat.lt_of_lt_of_le hj h.below.size)).trans (h.same j hj hm)⟩

/-- I speaks of cells that are not M's alone. -/
def Steady (n₀ : Nat) (I : Blk → Nat → World → Prop) : Prop :=
  ∀ M M' k A B, I M k A → Below n₀ A B → (∀ (j : Nat) (o : Obj), A.heap[j]? = some o → o.isCells = true → ¬ M j → B.heap[j]? = some o) → (∀ j, j < A.heap.size → M' j → M j) → I M' k B
def Steady1 (n₀ : Nat) (I : Nat → World → Prop) : Prop :=
  ∀ k A B, I k A → Below n₀ A B → (∀ (j : Nat) (o : Obj), A.heap[j]? = some o → o.isCells = true → B.heap[j]? = some o) → I k B

theorem heap_put_cells {W : World} {l : Nat} {o' : Obj} (hl : ∀ o, W.heap[l]? = some o → o.isCells = false) (j : Nat) (o : Obj) (h : W.heap[j]? = some o) (hc : o.isCells = true) : (W.putObj l o').heap[j]? = some o := by
  by_cases e : l = j
  · subst e
    rw [hl o h] at hc
    cases hc
  · exact (World.putObj_heap_other (fun h' => e h'.symm)).trans h
theorem below_put {n₀ : Nat} (W : World) {l : Nat} (o' : Obj) (hl : n₀ ≤ l) : Below n₀ W (W.putObj l o') :=
  ⟨rfl, rfl, rfl, by simp [World.putObj], fun k hk => World.putObj_heap_other (by omega)⟩

variable {F : Fence} {n : Nat} {P : Program}

/-- How a round's body may be left: off its end, or by a return. -/
def roundEnds (B n₀ : Nat) (M : Blk) (I : Blk → Nat → World → Prop) (Ix : Nat → World → Prop) (k : Nat) (W : World) : Exit → Act → World → Prop
  | .normal, _, W' => KeepsFrom B W W' ∧ Kept M W W' ∧ Below n₀ W W' ∧ I M k W'
  | .ret, _, W' => KeepsFrom B W W' ∧ Ix k W'
  | _, _, _ => False

set_option maxHeartbeats 1000000 in
/-- The statement: what the caller owes is one round of its body. -/
theorem range_own {w w0 : World} {n₀ N : Nat} {M₀ : Blk} {G : Obj → Prop} {encs : Nat → Array Value} {held : Array Value} {it : Nat} {a : Act} {Q : Exit → Act → World → Prop} {body assign : Code} {ps : Array Tmp} {g : Operand}
    (hn : 1 ≤ n) (hro : F.round = none) (hit : F.fn it) (hval : a.eval g = .func (.func it) #[] held) (hgo : ∀ xs V, (callFunc it xs).run P V = .ok (.enter it xs) V)
    (hn0 : n₀ ≤ w0.heap.size) (hb0 : Below w0.heap.size w0 w) (hM0 : ∀ b, M₀ b → b < w.heap.size) (hseq : SeqOwn F (n - 1) P it held encs n₀ N M₀ G w0) (hps : ∀ k, (encs k).size = ps.size)
    (I : Blk → Nat → World → Prop) (Ix : Nat → World → Prop) (hI : Steady n₀ I) (hIx : Steady1 n₀ Ix) (h0 : I M₀ 0 w) (ob : Nat → Obj) (a₁ : Nat → Nat → Act)
    (hassign : ∀ (r k : Nat) (V : World) (K : Act → World → Prop), k < N → K (a₁ k V.heap.size) (V.alloc (ob k)) →
      assign.wpIn (F.inRound r) (n - 1 - 1) P (Exit.then K (fun _ _ _ => False)) { defers := [], tmps := (ps.zip (encs k)).foldl (fun old (at_, v) => old.setIfInBounds at_ v) a.tmps } V)
    (hbody : ∀ (r : Nat) (M : Blk) (k bs : Nat) (V : World), I M k V → k < N → (∀ b, M b → n₀ ≤ b ∧ b ≠ bs ∧ ∃ o, V.heap[b]? = some o ∧ G o) → V.heap[bs]? = some (ob k) → w.heap.size ≤ bs →
      body.wpIn (F.inRound r) (n - 1 - 1) P (roundEnds w.heap.size n₀ M I Ix (k + 1) V) (a₁ k bs) V)
    (hdone : ∀ (D : Nat) (M : Blk) (V : World), w.heap.size ≤ D → I M N V → V.heap[D]? = some (.deferred (some [])) → Q .normal { tmps := a.tmps, defers := { target := .collected D, args := #[] } :: a.defers } V)
    (hstop : ∀ (D k : Nat) (V : World), w.heap.size ≤ D → k ≤ N → Ix k V → V.heap[D]? = some (.deferred (some [])) → Code.ret.wpIn F n P Q { tmps := a.tmps, defers := { target := .collected D, args := #[] } :: a.defers } V) :
    (Code.rangeFunc g ps assign body).wpIn F n P Q a w := by
  have hnw : n₀ ≤ w.heap.size := Nat.le_trans hn0 hb0.size
  refine wpIn_rangeFunc fun fn hfn => ?_
  rw [hro]
  -- the loop's record, by its state and what is pending
  let rc : LoopState → Option Code → Loop := fun st pe => { state := st, pending := pe, fn := fn, tmps := a.tmps, params := ps, assign := assign, body := body, defers := w.heap.size }
  have rcp : ∀ st pe, (rc st pe).params = ps := fun _ _ => rfl
  let D := w.heap.size
  let l := w.heap.size + 1
  let W1 := (w.alloc (.deferred (some []))).alloc (.loop (rc .ready none))
  have hD1 : W1.heap[D]? = some (.deferred (some [])) := (Below.heap_alloc _ _ _ (by simp [D])).trans (World.alloc_heap_new w _)
  have hL1 : W1.heap[l]? = some (.loop (rc .ready none)) := by
    have := World.alloc_heap_new (w.alloc (.deferred (some []))) (.loop (rc .ready none))
    rwa [World.size_alloc] at this
  have hbW : Below w.heap.size w W1 := ((Below.refl _ w).alloc (Nat.le_refl _) _).alloc (by simp) _
  have hI1 : I M₀ 0 W1 := hI _ _ _ _ _ h0 (hbW.mono hnw) (fun j o hj _ _ => (hbW.block j (Array.getElem?_eq_some_iff.1 hj).1).trans hj) (fun _ _ h => h)
  refine ⟨l, [{ target := .collected D, args := #[] }], W1, { target := .fn (.func it) held, args := #[.func (.yield l) #[] #[]] }, W1, it, #[.func (.yield l) #[] #[]] ++ held, W1, run_enterLoop_outer _ _ _ _ _, ?_, ?_, ?_, fun _ => hn, ?_⟩
  · simp only [resolve, hval]
    simp [go_sem]
  · intro f' hf'
    simp [Target.leads] at hf'
    subst hf'
    exact hit
  · simp [invoke, go_sem, hgo]
  · -- the function's contract, at the caller's I and the two facts on the record and the block behind it
    have hput : ∀ {M : Blk} {k : Nat} {W : World} {o' : Obj} {r : Loop}, I M k W → W.heap[l]? = some (.loop r) → I M k (W.putObj l o') := fun {M k W o' r} hi hl =>
      hI _ _ _ _ _ hi (below_put W o' (by omega)) (fun j o hj hc _ => heap_put_cells (fun o ho => by rw [hl] at ho; cases ho; rfl) j o hj hc) (fun _ _ h => h)
    have hputx : ∀ {k : Nat} {W : World} {o' : Obj} {r : Loop}, Ix k W → W.heap[l]? = some (.loop r) → Ix k (W.putObj l o') := fun {k W o' r} hi hl =>
      hIx _ _ _ hi (below_put W o' (by omega)) (fun j o hj hc => heap_put_cells (fun o ho => by rw [hl] at ho; cases ho; rfl) j o hj hc)
    refine (hseq l (fun M k W => I M k W ∧ W.heap[l]? = some (.loop (rc .ready none)) ∧ W.heap[D]? = some (.deferred (some [])) ∧ ¬ M l ∧ ¬ M D)
      (fun k W => Ix k W ∧ W.heap[l]? = some (.loop (rc .done (some .ret))) ∧ W.heap[D]? = some (.deferred (some []))) W1 (hb0.trans (hbW.mono hb0.size)) hn0 ?_ ?_ ⟨hI1, hL1, hD1, fun h => by have := hM0 _ h; omega, fun h => by have := hM0 _ h; omega⟩).mono ?_
    · -- it holds
      rintro M M' k A B ⟨hi, hl, hd, nl, nd⟩ hb hs hm
      have sl := (Array.getElem?_eq_some_iff.1 hl).1
      have sd := (Array.getElem?_eq_some_iff.1 hd).1
      exact ⟨hI _ _ _ _ _ hi hb (fun j o hj _ hm => (hs j (Array.getElem?_eq_some_iff.1 hj).1 hm).trans hj) hm, (hs _ sl nl).trans hl, (hs _ sd nd).trans hd, fun h => nl (hm _ sl h), fun h => nd (hm _ sd h)⟩
    · -- one round
      rintro M k W ⟨hi, hl, hd, nl, nd⟩ hk hM
      have sl : l < W.heap.size := (Array.getElem?_eq_some_iff.1 hl).1
      have hy := run_yield (P := P) (args := encs k) hl (by rw [rcp]; exact hps k)
      refine ⟨fn, _, assign, body, hy, roundIn_of_wpIn hfn (hassign l k W _ hk ?_)⟩
      have hlA : (W.alloc (ob k)).heap[l]? = some (.loop (rc .ready none)) := (Below.heap_alloc W _ _ sl).trans hl
      refine ⟨_, run_beginRound hlA rfl, ?_⟩
      obtain ⟨W2, hW2⟩ : ∃ W2, (W.alloc (ob k)).putObj l (.loop { rc .ready none with state := .busy }) = W2 := ⟨_, rfl⟩
      rw [hW2]
      have hAW : Below W.heap.size W (W.alloc (ob k)) := (Below.refl _ W).alloc (Nat.le_refl _) _
      have hl2 : W2.heap[l]? = some (.loop { rc .ready none with state := .busy }) := by rw [← hW2]; exact World.putObj_heap_same (by simp; omega)
      have hd2 : W2.heap[D]? = some (.deferred (some [])) := by
        rw [← hW2]; exact (World.putObj_heap_other (by omega)).trans ((Below.heap_alloc W _ _ (Array.getElem?_eq_some_iff.1 hd).1).trans hd)
      have hi2 : I M k W2 := by
        rw [← hW2]
        exact hput (hI _ _ _ _ _ hi (hAW.mono (Nat.le_trans hnw (by omega))) (fun j o hj _ _ => (hAW.block j (Array.getElem?_eq_some_iff.1 hj).1).trans hj) (fun _ _ h => h)) hlA
      have hbs2 : W2.heap[W.heap.size]? = some (ob k) := by
        rw [← hW2]; exact (World.putObj_heap_other (by omega)).trans (World.alloc_heap_new W _)
      have hother : ∀ j, j < W.heap.size → j ≠ l → W2.heap[j]? = W.heap[j]? := fun j hj hn => by
        rw [← hW2]; exact (World.putObj_heap_other hn).trans (Below.heap_alloc W _ _ hj)
      have hM2 : ∀ b, M b → n₀ ≤ b ∧ b ≠ W.heap.size ∧ ∃ o, W2.heap[b]? = some o ∧ G o := fun b hb => by
        obtain ⟨x1, o, x2, x3⟩ := hM b hb
        have hlt := (Array.getElem?_eq_some_iff.1 x2).1
        exact ⟨x1, by omega, o, (hother b hlt (fun e => nl (e ▸ hb))).trans x2, x3⟩
      have hbW2 : Below n₀ W W2 := by
        rw [← hW2]; exact (hAW.mono (Nat.le_trans hnw (by omega))).trans (below_put _ _ (by omega))
      refine wpIn_mono (hbody l M k W.heap.size W2 hi2 hk hM2 hbs2 (by omega)) ?_
      rintro e a3 W3 hp
      cases e with
      | normal =>
        obtain ⟨kf, km, kb, ki⟩ := hp
        have hl3 := kf.same l _ (by omega) hl2 rfl
        have hd3 := kf.same D _ (Nat.le_refl _) hd2 rfl
        refine ⟨_, _, run_endRound none hl3, .inl ⟨rfl, ⟨hput ki hl3, World.putObj_heap_same (Array.getElem?_eq_some_iff.1 hl3).1, (World.putObj_heap_other (by omega)).trans hd3, nl, nd⟩, fun j hj => ?_, (hbW2.trans kb).trans (below_put _ _ (by omega))⟩⟩
        obtain ⟨_, o, x2, _⟩ := hM j hj
        have hlt := (Array.getElem?_eq_some_iff.1 x2).1
        have hjl : j ≠ l := fun e => nl (e ▸ hj)
        exact (World.putObj_heap_other hjl).trans ((km j hj).trans (hother j hlt hjl))
      | ret =>
        obtain ⟨kf, ki⟩ := hp
        have hl3 := kf.same l _ (by omega) hl2 rfl
        have hd3 := kf.same D _ (Nat.le_refl _) hd2 rfl
        exact ⟨_, _, run_endRound (some .ret) hl3, .inr ⟨rfl, hputx ki hl3, World.putObj_heap_same (Array.getElem?_eq_some_iff.1 hl3).1, (World.putObj_heap_other (by omega)).trans hd3⟩⟩
      | exit id => exact hp.elim
      | goto t => exact hp.elim
      | panic ch => exact hp.elim
      | outgrown => exact hp.elim
    · -- behind it
      rintro e W2 ⟨⟨v, rfl⟩, ⟨M, hi, hl, hd, _⟩ | ⟨k, hk, hi, hl, hd⟩⟩
      · exact ⟨none, _, run_endLoop hl (by simp [rc]), hdone D M _ (Nat.le_refl _) (hput hi hl) ((World.putObj_heap_other (by omega)).trans hd)⟩
      · exact ⟨some .ret, _, run_endLoop hl (by simp [rc]), hstop D k _ (Nat.le_refl _) hk (hputx hi hl) ((World.putObj_heap_other (by omega)).trans hd)⟩
end Go.Proofs.YtimhkgpjfppkmaaDoor
