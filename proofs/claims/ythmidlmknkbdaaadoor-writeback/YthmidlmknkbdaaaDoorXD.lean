/- The kind of a token at a place. A loop over a function that keeps memory of its own: which blocks are the function's, and what each side leaves alone. The walk over tokens: what it yields, token by token. -/
import Derived.Test.YthmidlmknkbdaaaDoorWS
import Derived.RangeFuncNested
import Derived.RangeFuncBound
import Derived.RangeFuncCalls
import Derived.RangeFuncLeaves
import Derived.Shelf.Abstract
import Derived.Shelf.RegionOpen
import Derived.WalkKit
import Derived.OwnWalkIn
import Derived.TacticsInMore
import Derived.LoopNIn
import Derived.LoopIn
import Derived.Deep.RegionHeld3
import Derived.Maps.AppendAt
import Derived.Laws.Rows
namespace Go.Proofs.YthmidlmknkbdaaaDoor
open Go.RowKit

theorem kindAt_any (n₀ : Nat) (ao : Option Addr) (cap : Nat) (ts : List Tok) (av : Nat → Option Addr × Nat) (i : Int) (w : World) (hT : TokMem n₀ w ao ts av) (hi : -1 ≤ i ∧ i ≤ ts.length) :
    Calls Tryd.prog 37 #[.slice ao ts.length cap, .int .i64 i] w fun e w' => e = .returned (.int .u8 (kindOf ts i)) ∧ w' = w := by
  obtain ⟨hlen, hc⟩ := hT
  by_cases h0 : 0 ≤ i
  · obtain ⟨k, rfl⟩ : ∃ k : Nat, i = k := ⟨i.toNat, by omega⟩
    by_cases hk : k < ts.length
    · obtain ⟨t, ht⟩ : ∃ t, ts[k]? = some t := ⟨ts[k], by simp [hk]⟩
      obtain ⟨hkd, _, _, _, _, b, off, rfl, hb, c1, _⟩ := hc k t ht
      have hko : kindOf ts (k : Int) = t.kind := by simp [kindOf, ht]
      rw [hko]
      have h1 : ¬ ((k : Int) < 0) := by omega
      have h2 : ¬ ((ts.length : Int) ≤ k) := by omega
      go_enter Tryd.func37, Tryd.ntmps37
      go_wp2
      go_ret
      exact ⟨rfl, rfl⟩
    · have hn : ts[k]? = none := by simp; omega
      have hko : kindOf ts (k : Int) = 0 := by simp [kindOf, hn]
      rw [hko]
      have h1 : ¬ ((k : Int) < 0) := by omega
      have h2 : (ts.length : Int) ≤ k := by omega
      go_enter Tryd.func37, Tryd.ntmps37
      go_wp2
      go_ret
      exact ⟨rfl, rfl⟩
  · have hko : kindOf ts i = 0 := by simp [kindOf, h0]
    rw [hko]
    have h1 : i < 0 := by omega
    go_enter Tryd.func37, Tryd.ntmps37
    go_wp2
    go_ret
    exact ⟨rfl, rfl⟩
end Go.Proofs.YthmidlmknkbdaaaDoor
namespace Go.Proofs.YthmidlmknkbdaaaDoor
open Go Go.RowKit

/-- A set of blocks. -/
abbrev Blk := Nat → Prop

/-- J goes on where nothing turns but blocks of M; new ones may be M's. -/
def Holding (n₀ : Nat) (J : Blk → Nat → World → Prop) : Prop :=
  ∀ M M' k A B, J M k A → Below n₀ A B → (∀ j, j < A.heap.size → ¬ M j → B.heap[j]? = A.heap[j]?) → (∀ j, j < A.heap.size → M' j → M j) → J M' k B

def Kept (M : Blk) (A B : World) : Prop := ∀ j, M j → B.heap[j]? = A.heap[j]?

/-- What the function that is ranged over owes: N rounds, the k-th with encs k; its own blocks (M) are its own. -/
def SeqOwn (F : Fence) (n : Nat) (P : Program) (it : Nat) (held : Array Value) (encs : Nat → Array Value) (n₀ N : Nat) (M₀ : Blk) (G : Obj → Prop) (w : World) : Prop :=
  ∀ (l : Nat) (J : Blk → Nat → World → Prop) (Jx : Nat → World → Prop) (W : World), Below w.heap.size w W → n₀ ≤ w.heap.size → Holding n₀ J →
    (∀ M k W1, J M k W1 → k < N → (∀ b, M b → n₀ ≤ b ∧ ∃ o, W1.heap[b]? = some o ∧ G o) → YieldAt F (n - 1) P l (encs k) W1 fun e W' =>
      (e = .returned (.bool true) ∧ J M (k + 1) W' ∧ Kept M W1 W' ∧ Below n₀ W1 W') ∨ (e = .returned (.bool false) ∧ Jx (k + 1) W')) →
    J M₀ 0 W →
    CallsIn F n P it (#[.func (.yield l) #[] #[]] ++ held) W fun e W' => (∃ v, e = .returned v) ∧ ((∃ M, J M N W') ∨ (∃ k, k ≤ N ∧ Jx k W'))

/-- From A to B nothing has turned but blocks of M and new ones; nothing below n₀. -/
structure Frees (n₀ : Nat) (M : Blk) (A B : World) : Prop where
  below : Below n₀ A B
  same : ∀ j, j < A.heap.size → ¬ M j → B.heap[j]? = A.heap[j]?
theorem Frees.refl (n₀ : Nat) (M : Blk) (A : World) : Frees n₀ M A A := ⟨Below.refl _ _, fun _ _ _ => rfl⟩
theorem Frees.alloc {n₀ : Nat} {M : Blk} {A B : World} (h : Frees n₀ M A B) (hn : n₀ ≤ A.heap.size) (o : Obj) : Frees n₀ M A (B.alloc o) :=
  ⟨h.below.alloc (Nat.le_trans hn h.below.size) o, fun j hj hm => (Below.heap_alloc B o j (Nat.lt_of_lt_of_le hj h.below.size)).trans (h.same j hj hm)⟩
theorem Frees.setCell {n₀ : Nat} {M : Blk} {A B : World} (h : Frees n₀ M A B) {p : Addr} (hp : n₀ ≤ p.block) (hm : M p.block ∨ A.heap.size ≤ p.block) (v : Value) : Frees n₀ M A (B.setCell p v) :=
  ⟨h.below.setCell hp v, fun j hj hn => (Below.heap_setCell _ _ _ _ (fun e => by
    rcases hm with hm | hm
    · exact hn (e ▸ hm)
    · omega)).trans (h.same j hj hn)⟩
theorem Frees.drew {n₀ : Nat} {M : Blk} {A B : World} (h : Frees n₀ M A B) : Frees n₀ M A B.drew := ⟨h.below.drew, h.same⟩
theorem Frees.grown {n₀ : Nat} {M : Blk} {A B C : World} {row : Option Nat} (h : Frees n₀ M A B) (hn : n₀ ≤ A.heap.size) (hg : B.grownBy C row) (hr : ∀ r, row = some r → n₀ ≤ r ∧ (M r ∨ A.heap.size ≤ r)) : Frees n₀ M A C :=
  ⟨h.below.grown hg (Nat.le_trans hn h.below.size) (fun k e => (hr k e).1), fun j hj hm => (hg.block j (Nat.lt_of_lt_of_le hj h.below.size) (fun e => by
    rcases (hr j e.symm).2 with h' | h'
    · exact hm h'
    · omega)).trans (h.same j hj hm)⟩
theorem Frees.kept {n₀ : Nat} {M : Blk} {A B C : World} (h : Frees n₀ M A B) (hb : Below B.heap.size B C) (hn : n₀ ≤ A.heap.size) : Frees n₀ M A C :=
  ⟨h.below.trans (hb.mono (Nat.le_trans hn h.below.size)), fun j hj hm => (hb.block j (Nat.lt_of_lt_of_le hj h.below.size)).trans (h.same j hj hm)⟩

/-- I speaks of cells that are not M's alone. -/
def Steady (n₀ : Nat) (I : Blk → Nat → World → Prop) : Prop :=
  ∀ M M' k A B, I M k A → Below n₀ A B → (∀ (j : Nat) (o : Obj), A.heap[j]? = some o → o.isCells = true → ¬ M j → B.heap[j]? = some o) → (∀ j, j < A.heap.size → M' j → M j) → I M' k B
def Steady1 (n₀ : Nat) (I : Nat → World → Prop) : Prop :=
  ∀ k A B, I k A → Below n₀ A B → (∀ (j : Nat) (o : Obj), A.heap[j]? = some o → o.isCells = true → B.heap[j]? = some o) → I k B

theorem heap_put_cells {W : World} {l : Nat} {o' : Obj} (hl : ∀ o, W.heap[l]? = some o → o.isCells = false) (j : Nat) (o : Obj) (h : W.heap[j]? = some o) (hc : o.isCells = true) : (W.putObj l o').heap[j]? = some o := by
  by_cases e : l = j
  · subst e
    rw [hl o h] at hc
    cases hc
  · exact (World.putObj_heap_other (fun h' => e h'.symm)).trans h
theorem below_put {n₀ : Nat} (W : World) {l : Nat} (o' : Obj) (hl : n₀ ≤ l) : Below n₀ W (W.putObj l o') :=
  ⟨rfl, rfl, rfl, by simp [World.putObj], fun k hk => World.putObj_heap_other (by omega)⟩

variable {F : Fence} {n : Nat} {P : Program}

/-- How a round's body may be left: off its end, or by a return. -/
def roundEnds (B n₀ : Nat) (M : Blk) (I : Blk → Nat → World → Prop) (Ix : Nat → World → Prop) (k : Nat) (W : World) : Exit → Act → World → Prop
  | .normal, _, W' => KeepsFrom B W W' ∧ Kept M W W' ∧ Below n₀ W W' ∧ I M k W'
  | .ret, _, W' => KeepsFrom B W W' ∧ Ix k W'
  | _, _, _ => False

set_option maxHeartbeats 1000000 in
/-- The statement: what the caller owes is one round of its body. -/
theorem range_own {w w0 : World} {n₀ N : Nat} {M₀ : Blk} {G : Obj → Prop} {encs : Nat → Array Value} {held : Array Value} {it : Nat} {a : Act} {Q : Exit → Act → World → Prop} {body assign : Code} {ps : Array Tmp} {g : Operand}
    (hn : 1 ≤ n) (hro : F.round = none) (hit : F.fn it) (hval : a.eval g = .func (.func it) #[] held) (hgo : ∀ xs V, (callFunc it xs).run P V = .ok (.enter it xs) V)
    (hn0 : n₀ ≤ w0.heap.size) (hb0 : Below w0.heap.size w0 w) (hM0 : ∀ b, M₀ b → b < w.heap.size) (hseq : SeqOwn F (n - 1) P it held encs n₀ N M₀ G w0) (hps : ∀ k, (encs k).size = ps.size)
    (I : Blk → Nat → World → Prop) (Ix : Nat → World → Prop) (hI : Steady n₀ I) (hIx : Steady1 n₀ Ix) (h0 : I M₀ 0 w) (ob : Nat → Obj) (a₁ : Nat → Nat → Act)
    (hassign : ∀ (r k : Nat) (V : World) (K : Act → World → Prop), k < N → K (a₁ k V.heap.size) (V.alloc (ob k)) →
      assign.wpIn (F.inRound r) (n - 1 - 1) P (Exit.then K (fun _ _ _ => False)) { defers := [], tmps := (ps.zip (encs k)).foldl (fun old (at_, v) => old.setIfInBounds at_ v) a.tmps } V)
    (hbody : ∀ (r : Nat) (M : Blk) (k bs : Nat) (V : World), I M k V → k < N → (∀ b, M b → n₀ ≤ b ∧ b ≠ bs ∧ ∃ o, V.heap[b]? = some o ∧ G o) → V.heap[bs]? = some (ob k) → w.heap.size ≤ bs →
      body.wpIn (F.inRound r) (n - 1 - 1) P (roundEnds w.heap.size n₀ M I Ix (k + 1) V) (a₁ k bs) V)
    (hdone : ∀ (D : Nat) (M : Blk) (V : World), w.heap.size ≤ D → I M N V → V.heap[D]? = some (.deferred (some [])) → Q .normal { tmps := a.tmps, defers := { target := .collected D, args := #[] } :: a.defers } V)
    (hstop : ∀ (D k : Nat) (V : World), w.heap.size ≤ D → k ≤ N → Ix k V → V.heap[D]? = some (.deferred (some [])) → Code.ret.wpIn F n P Q { tmps := a.tmps, defers := { target := .collected D, args := #[] } :: a.defers } V) :
    (Code.rangeFunc g ps assign body).wpIn F n P Q a w := by
  have hnw : n₀ ≤ w.heap.size := Nat.le_trans hn0 hb0.size
  refine wpIn_rangeFunc fun fn hfn => ?_
  rw [hro]
  -- the loop's record, by its state and what is pending
  let rc : LoopState → Option Code → Loop := fun st pe => { state := st, pending := pe, fn := fn, tmps := a.tmps, params := ps, assign := assign, body := body, defers := w.heap.size }
  have rcp : ∀ st pe, (rc st pe).params = ps := fun _ _ => rfl
  let D := w.heap.size
  let l := w.heap.size + 1
  let W1 := (w.alloc (.deferred (some []))).alloc (.loop (rc .ready none))
  have hD1 : W1.heap[D]? = some (.deferred (some [])) := (Below.heap_alloc _ _ _ (by simp [D])).trans (World.alloc_heap_new w _)
  have hL1 : W1.heap[l]? = some (.loop (rc .ready none)) := by
    have := World.alloc_heap_new (w.alloc (.deferred (some []))) (.loop (rc .ready none))
    rwa [World.size_alloc] at this
  have hbW : Below w.heap.size w W1 := ((Below.refl _ w).alloc (Nat.le_refl _) _).alloc (by simp) _
  have hI1 : I M₀ 0 W1 := hI _ _ _ _ _ h0 (hbW.mono hnw) (fun j o hj _ _ => (hbW.block j (Array.getElem?_eq_some_iff.1 hj).1).trans hj) (fun _ _ h => h)
  refine ⟨l, [{ target := .collected D, args := #[] }], W1, { target := .fn (.func it) held, args := #[.func (.yield l) #[] #[]] }, W1, it, #[.func (.yield l) #[] #[]] ++ held, W1, run_enterLoop_outer _ _ _ _ _, ?_, ?_, ?_, fun _ => hn, ?_⟩
  · simp only [resolve, hval]
    simp [go_sem]
  · intro f' hf'
    simp [Target.leads] at hf'
    subst hf'
    exact hit
  · simp [invoke, go_sem, hgo]
  · -- the function's contract, at the caller's I and the two facts on the record and the block behind it
    have hput : ∀ {M : Blk} {k : Nat} {W : World} {o' : Obj} {r : Loop}, I M k W → W.heap[l]? = some (.loop r) → I M k (W.putObj l o') := fun {M k W o' r} hi hl =>
      hI _ _ _ _ _ hi (below_put W o' (by omega)) (fun j o hj hc _ => heap_put_cells (fun o ho => by rw [hl] at ho; cases ho; rfl) j o hj hc) (fun _ _ h => h)
    have hputx : ∀ {k : Nat} {W : World} {o' : Obj} {r : Loop}, Ix k W → W.heap[l]? = some (.loop r) → Ix k (W.putObj l o') := fun {k W o' r} hi hl =>
      hIx _ _ _ hi (below_put W o' (by omega)) (fun j o hj hc => heap_put_cells (fun o ho => by rw [hl] at ho; cases ho; rfl) j o hj hc)
    refine (hseq l (fun M k W => I M k W ∧ W.heap[l]? = some (.loop (rc .ready none)) ∧ W.heap[D]? = some (.deferred (some [])) ∧ ¬ M l ∧ ¬ M D)
      (fun k W => Ix k W ∧ W.heap[l]? = some (.loop (rc .done (some .ret))) ∧ W.heap[D]? = some (.deferred (some []))) W1 (hb0.trans (hbW.mono hb0.size)) hn0 ?_ ?_ ⟨hI1, hL1, hD1, fun h => by have := hM0 _ h; omega, fun h => by have := hM0 _ h; omega⟩).mono ?_
    · -- it holds
      rintro M M' k A B ⟨hi, hl, hd, nl, nd⟩ hb hs hm
      have sl := (Array.getElem?_eq_some_iff.1 hl).1
      have sd := (Array.getElem?_eq_some_iff.1 hd).1
      exact ⟨hI _ _ _ _ _ hi hb (fun j o hj _ hm => (hs j (Array.getElem?_eq_some_iff.1 hj).1 hm).trans hj) hm, (hs _ sl nl).trans hl, (hs _ sd nd).trans hd, fun h => nl (hm _ sl h), fun h => nd (hm _ sd h)⟩
    · -- one round
      rintro M k W ⟨hi, hl, hd, nl, nd⟩ hk hM
      have sl : l < W.heap.size := (Array.getElem?_eq_some_iff.1 hl).1
      have hy := run_yield (P := P) (args := encs k) hl (by rw [rcp]; exact hps k)
      refine ⟨fn, _, assign, body, hy, roundIn_of_wpIn hfn (hassign l k W _ hk ?_)⟩
      have hlA : (W.alloc (ob k)).heap[l]? = some (.loop (rc .ready none)) := (Below.heap_alloc W _ _ sl).trans hl
      refine ⟨_, run_beginRound hlA rfl, ?_⟩
      obtain ⟨W2, hW2⟩ : ∃ W2, (W.alloc (ob k)).putObj l (.loop { rc .ready none with state := .busy }) = W2 := ⟨_, rfl⟩
      rw [hW2]
      have hAW : Below W.heap.size W (W.alloc (ob k)) := (Below.refl _ W).alloc (Nat.le_refl _) _
      have hl2 : W2.heap[l]? = some (.loop { rc .ready none with state := .busy }) := by rw [← hW2]; exact World.putObj_heap_same (by simp; omega)
      have hd2 : W2.heap[D]? = some (.deferred (some [])) := by
        rw [← hW2]; exact (World.putObj_heap_other (by omega)).trans ((Below.heap_alloc W _ _ (Array.getElem?_eq_some_iff.1 hd).1).trans hd)
      have hi2 : I M k W2 := by
        rw [← hW2]
        exact hput (hI _ _ _ _ _ hi (hAW.mono (Nat.le_trans hnw (by omega))) (fun j o hj _ _ => (hAW.block j (Array.getElem?_eq_some_iff.1 hj).1).trans hj) (fun _ _ h => h)) hlA
      have hbs2 : W2.heap[W.heap.size]? = some (ob k) := by
        rw [← hW2]; exact (World.putObj_heap_other (by omega)).trans (World.alloc_heap_new W _)
      have hother : ∀ j, j < W.heap.size → j ≠ l → W2.heap[j]? = W.heap[j]? := fun j hj hn => by
        rw [← hW2]; exact (World.putObj_heap_other hn).trans (Below.heap_alloc W _ _ hj)
      have hM2 : ∀ b, M b → n₀ ≤ b ∧ b ≠ W.heap.size ∧ ∃ o, W2.heap[b]? = some o ∧ G o := fun b hb => by
        obtain ⟨x1, o, x2, x3⟩ := hM b hb
        have hlt := (Array.getElem?_eq_some_iff.1 x2).1
        exact ⟨x1, by omega, o, (hother b hlt (fun e => nl (e ▸ hb))).trans x2, x3⟩
      have hbW2 : Below n₀ W W2 := by
        rw [← hW2]; exact (hAW.mono (Nat.le_trans hnw (by omega))).trans (below_put _ _ (by omega))
      refine wpIn_mono (hbody l M k W.heap.size W2 hi2 hk hM2 hbs2 (by omega)) ?_
      rintro e a3 W3 hp
      cases e with
      | normal =>
        obtain ⟨kf, km, kb, ki⟩ := hp
        have hl3 := kf.same l _ (by omega) hl2 rfl
        have hd3 := kf.same D _ (Nat.le_refl _) hd2 rfl
        refine ⟨_, _, run_endRound none hl3, .inl ⟨rfl, ⟨hput ki hl3, World.putObj_heap_same (Array.getElem?_eq_some_iff.1 hl3).1, (World.putObj_heap_other (by omega)).trans hd3, nl, nd⟩, fun j hj => ?_, (hbW2.trans kb).trans (below_put _ _ (by omega))⟩⟩
        obtain ⟨_, o, x2, _⟩ := hM j hj
        have hlt := (Array.getElem?_eq_some_iff.1 x2).1
        have hjl : j ≠ l := fun e => nl (e ▸ hj)
        exact (World.putObj_heap_other hjl).trans ((km j hj).trans (hother j hlt hjl))
      | ret =>
        obtain ⟨kf, ki⟩ := hp
        have hl3 := kf.same l _ (by omega) hl2 rfl
        have hd3 := kf.same D _ (Nat.le_refl _) hd2 rfl
        exact ⟨_, _, run_endRound (some .ret) hl3, .inr ⟨rfl, hputx ki hl3, World.putObj_heap_same (Array.getElem?_eq_some_iff.1 hl3).1, (World.putObj_heap_other (by omega)).trans hd3⟩⟩
      | exit id => exact hp.elim
      | goto t => exact hp.elim
      | panic ch => exact hp.elim
      | outgrown => exact hp.elim
    · -- behind it
      rintro e W2 ⟨⟨v, rfl⟩, ⟨M, hi, hl, hd, _⟩ | ⟨k, hk, hi, hl, hd⟩⟩
      · exact ⟨none, _, run_endLoop hl (by simp [rc]), hdone D M _ (Nat.le_refl _) (hput hi hl) ((World.putObj_heap_other (by omega)).trans hd)⟩
      · exact ⟨some .ret, _, run_endLoop hl (by simp [rc]), hstop D k _ (Nat.le_refl _) hk (hputx hi hl) ((World.putObj_heap_other (by omega)).trans hd)⟩
end Go.Proofs.YthmidlmknkbdaaaDoor
namespace Go.Proofs.YthmidlmknkbdaaaDoor
open Go.RowKit Go.Shelf
attribute [local go_sem] Oper.semAt_some

/-- A step's value. -/
def stepV (ts : List Tok) (av : Nat → Option Addr × Nat) (k : Nat) : Value :=
  match ts[k]? with
  | none => undef
  | some t => .agg #[.int .u8 t.kind, .string t.name, .slice (av k).1 t.attrs.length (av k).2, .string t.text, .int .u8 (kindOf ts (k - 1 : Int)), .int .u8 (kindOf ts (k + 1 : Int)), .string ((openAt ts k).getLast?.getD ⟨#[]⟩), .int .i64 (openAt ts k).length, .int .i64 (openAt ts (k + 1)).length]
theorem own_shape {w : World} {base : Nat} {e : TypeId} {size : Nat} {v : Value} {n : Nat} {xs : List Value} (h : w.ownsRow base e size v n xs) : ∃ ga gc, v = .slice ga n gc := by
  obtain ⟨_, ⟨rfl, rfl⟩ | ⟨g, cap, _, rfl, _⟩⟩ := h
  · exact ⟨none, 0, rfl⟩
  · exact ⟨_, _, rfl⟩
theorem wrap_id (x : Int) (h1 : -9223372036854775808 ≤ x) (h2 : x ≤ 9223372036854775807) : IntKind.i64.wrap x = x := by
  rw [IntKind.wrap_i64]
  omega
/-- A piece of code that ends in one way alone, walked as everywhere. -/
theorem region_cut {P : Program} {n : Nat} {c : Code} {Q : Exit → Act → World → Prop} {a : Act} {w : World} (A : Act) (W0 : World) (h : c.wp P (fun e a w' => e = .normal ∧ a = A ∧ w' = W0) a w) (hq : Q .normal A W0) : c.wpIn Fence.wide n P Q a w :=
  wpIn_mono (wpIn_wide.2 h) (by rintro e a w ⟨rfl, rfl, rfl⟩; exact hq)
theorem stopHere {p : Prop} (h : Hid p) : p := h
def NoRow (o : Obj) : Prop := ∀ c fz, o ≠ .cells c 5 fz

theorem infoString : (Tryd.prog.info? 9).map (fun i => (i.zero, i.size, i.bytes)) = some (some (.string ⟨#[]⟩), 1, 16) := by kernel_rfl
/-- A name is put behind names that the call itself holds: where they lie then. -/
theorem append_name {n : Nat} (w : World) {ops : Array Oper} {rest : List Oper} {o : Oper} {a : Act} {Q : Exit → Act → World → Prop} (hg : o.guard = none) (s x : Operand)
    (hop : o.op = Op.call { callee := Callee.builtin Builtin.append, args := #[s, x], argTypes := #[66, 66] }) (base : Nat) (v : Value) (k : Nat) (xs : List Value) (hs : a.eval s = v) (hown : w.ownsRow base 9 1 v k xs) (ad : Addr) (u : ByteArray)
    (hx : a.eval x = .slice (some ad) 1 1) (hc : ∀ j z, [Value.string u][j]? = some z → w.cell? (ad.add j) = some z) (hk : k ≤ 2199023255488) (hb : base ≤ w.heap.size)
    (hK : ∀ v' w', w'.ownsRow base 9 1 v' (k + 1) (xs ++ [Value.string u]) → w.grownBy w' v.ownBlock → (v'.ownBlock = v.ownBlock ∨ v'.ownBlock = some w.heap.size) → wpListIn Fence.wide n Tryd.prog ops Q rest (a.put o.dst v') w') :
    wpListIn Fence.wide n Tryd.prog ops Q (o :: rest) a w := by
  obtain ⟨i, hi, hz0, hz1, hz2⟩ := info_parts infoString
  obtain ⟨v', w', hr, r1, r2, _, r4⟩ := run_append_own_at (P := Tryd.prog) w base 66 o.type 9 i _ 1 16 Tryd.underlying66 hi hz0 hz1 hz2 rfl (by decide) v k xs hown ad 1 1 [.string u] rfl hc (by simp [Value.oneCell']) (by unfold maxLen; omega) (by omega) hb
  refine wpListIn_plain hg fun K hK' => ?_
  unfold Oper.wpIn
  refine ⟨by simp [Oper.about, hop, resolve, Target.leads, Sem.run_pure], ?_⟩
  rw [Oper.semAt_plain Fence.wide _ _ (by rw [hop]; intro c hc'; cases hc')]
  simp [execOp, hop, resolve, invoke, builtin, hs, hx, hr, Result.andThen]
  exact hK' _ _ (hK v' w' r1 r2 r4)

theorem own_same {A B : World} {base : Nat} {e : TypeId} {size : Nat} {v : Value} {n : Nat} {xs : List Value} (h : A.ownsRow base e size v n xs) (hg : ∀ g, v.ownBlock = some g → B.heap[g]? = A.heap[g]?) : B.ownsRow base e size v n xs := by
  obtain ⟨h1, h2 | ⟨g, cap, cur, rfl, x1, x2, x3⟩⟩ := h
  · exact ⟨h1, .inl h2⟩
  · exact ⟨h1, .inr ⟨g, cap, cur, rfl, x1, (hg g rfl).trans x2, x3⟩⟩
/-- The last name is taken off. -/
theorem own_pop {w : World} {base : Nat} {e : TypeId} {ga : Option Addr} {gc m : Nat} {xs : List Value} {x : Value} (h : w.ownsRow base e 1 (.slice ga (m + 1) gc) (m + 1) (xs ++ [x])) : w.ownsRow base e 1 (.slice ga m gc) m xs := by
  obtain ⟨h1, ⟨h2, h3⟩ | ⟨g, cap, cur, hv, x1, x2, x3, x4, x5, x6⟩⟩ := h
  · omega
  · cases hv
    have hl : xs.length = m := by simpa using h1
    refine ⟨by omega, .inr ⟨g, gc, cur, rfl, x1, x2, by omega, x4, x5, ?_⟩⟩
    have := congrArg (List.take m) x6
    rw [List.take_take, Nat.min_eq_left (by omega)] at this
    rw [Nat.mul_one, this, ← hl]
    exact List.take_left
theorem own_last {w : World} {base : Nat} {e : TypeId} {ga : Option Addr} {gc m : Nat} {xs : List Value} {x : Value} (h : w.ownsRow base e 1 (.slice ga (m + 1) gc) (m + 1) (xs ++ [x])) : ∃ g, ga = some ⟨g, 0, none⟩ ∧ m < gc ∧ w.cell? ⟨g, m, none⟩ = some x := by
  obtain ⟨h1, ⟨h2, h3⟩ | ⟨g, cap, cur, hv, x1, x2, x3, x4, x5, x6⟩⟩ := h
  · omega
  · cases hv
    have hl : xs.length = m := by simpa using h1
    have h7 : (cur.toList.take ((m + 1) * 1))[m]? = some x := by rw [x6, ← hl]; simp
    rw [List.getElem?_take_of_lt (by omega)] at h7
    exact ⟨g, rfl, by omega, by simp [World.cell?, x2]; simpa using h7⟩

theorem own_lt {w : World} {base : Nat} {e : TypeId} {size : Nat} {v : Value} {n : Nat} {xs : List Value} (h : w.ownsRow base e size v n xs) (g : Nat) (hg : v.ownBlock = some g) : g < w.heap.size := by
  obtain ⟨_, ⟨rfl, _⟩ | ⟨g', cap, cur, rfl, x1, x2, x3⟩⟩ := h
  · cases hg
  · cases hg
    exact (Array.getElem?_eq_some_iff.1 x2).1
theorem cells9 {w : World} {b : Nat} {a0 a1 a2 a3 a4 a5 a6 a7 a8 : Value} {ty : TypeId} (h : w.heap[b]? = some (.cells #[a0, a1, a2, a3, a4, a5, a6, a7, a8] ty)) :
    w.cell? ⟨b, 0, none⟩ = some a0 ∧ w.cell? ⟨b, 1, none⟩ = some a1 ∧ w.cell? ⟨b, 2, none⟩ = some a2 ∧ w.cell? ⟨b, 3, none⟩ = some a3 ∧ w.cell? ⟨b, 4, none⟩ = some a4 ∧ w.cell? ⟨b, 5, none⟩ = some a5 ∧ w.cell? ⟨b, 6, none⟩ = some a6 ∧ w.cell? ⟨b, 7, none⟩ = some a7 ∧ w.cell? ⟨b, 8, none⟩ = some a8 ∧ ∀ i, w.frozen? ⟨b, i, none⟩ = false := by
  refine ⟨?_, ?_, ?_, ?_, ?_, ?_, ?_, ?_, ?_, fun i => ?_⟩ <;> simp [World.cell?, World.frozen?, h]

theorem heap_set9 {w : World} {b : Nat} {cs : Array Value} {ty : TypeId} (h : w.heap[b]? = some (.cells cs ty)) (i : Nat) (v : Value) : (w.setCell ⟨b, i, none⟩ v).heap[b]? = some (.cells (cs.setIfInBounds i v) ty) := by
  exact heap_setCell_same w b i cs ty v h
/-- The blocks of the walk: the box of its list, and its names' row. -/
def mine (Bs : Nat) (ov : Value) : Blk := fun j => j = Bs ∨ ov.ownBlock = some j

set_option maxRecDepth 100000 in
set_option maxHeartbeats 4000000 in
theorem walk_seq (n Bs n₀ : Nat) (ao : Option Addr) (cap : Nat) (ts : List Tok) (av : Nat → Option Addr × Nat) (w : World) (hBs : w.heap[Bs]? = some (.cells #[.slice ao ts.length cap] 22)) (hn : n₀ ≤ Bs) (hT : TokMem n₀ w ao ts av) :
    SeqOwn Fence.wide n Tryd.prog 36 #[.pointer (some ⟨Bs, 0, none⟩)] (fun k => #[stepV ts av k]) n₀ ts.length (mine Bs (.slice none 0 0)) NoRow w := fun l J Jx W hW hnw hJ hY h0 => by
  have hT' := hT.below (hW.mono hnw)
  have hBW : W.heap[Bs]? = some (.cells #[.slice ao ts.length cap] 22) := (hW.block Bs (Array.getElem?_eq_some_iff.1 hBs).1).trans hBs
  have hcB : W.cell? ⟨Bs, 0, none⟩ = some (.slice ao ts.length cap) := by simp [World.cell?, hBW]
  obtain ⟨hlen, hc⟩ := hT'
  have hro : Fence.wide.round = none := rfl
  refine callsIn_of_wp Tryd.func36 rfl trivial ?_ hro
  simp only [Tryd.ntmps36, List.size_toArray, List.length_cons, List.length_nil, Nat.reduceAdd, Nat.reduceSub, Array.replicate_succ, Array.replicate_zero, List.push_toArray, List.append_toArray, List.nil_append, List.cons_append]
  gi_wp2
  gi_loopw [3, 9] (fun ov i wr => ∃ k : Nat, k ≤ ts.length ∧ i = .int .i64 k ∧ J (mine Bs ov) k wr ∧ Below n₀ W wr ∧ wr.heap[Bs]? = W.heap[Bs]? ∧ wr.ownsRow n₀ 9 1 ov (openAt ts k).length ((openAt ts k).map Value.string)) (fun _ i _ => ts.length - (intOf i).toNat)
  case atStart => exact ⟨0, Nat.zero_le _, rfl, h0, Below.refl _ _, rfl, World.ownsRow_nil _ _ _ _⟩
  case round =>
    obtain ⟨k, hk, rfl, hJk, hbw, hsB, hrow⟩ := hrel
    by_cases hlt : k < ts.length
    · obtain ⟨t, ht⟩ : ∃ t, ts[k]? = some t := ⟨ts[k], by simp [hlt]⟩
      obtain ⟨hkd, hnm, htx, hat, _, b, off, rfl, hb, c1, c2, c3, c4⟩ := hc k t ht
      have d1 := (hbw.cell (p := ⟨b, _, none⟩) hb).trans c1
      have d2 := (hbw.cell (p := ⟨b, _, none⟩) hb).trans c2
      have d3 := (hbw.cell (p := ⟨b, _, none⟩) hb).trans c3
      have d4 := (hbw.cell (p := ⟨b, _, none⟩) hb).trans c4
      have dB : wr.cell? ⟨Bs, 0, none⟩ = some (.slice (some ⟨b, off, none⟩) ts.length cap) := by simp [World.cell?, hsB, hBW]
      obtain ⟨op, hop⟩ : ∃ op, openAt ts k = op := ⟨_, rfl⟩
      rw [hop] at hrow
      obtain ⟨ga, gc, rfl⟩ := own_shape hrow
      have hT1 : TokMem n₀ wr (some ⟨b, off, none⟩) ts av := hT.below ((hW.mono hnw).trans hbw)
      have HT := hide hT1
      have HC := hide hc
      have HY := hide hY
      have HR := hide hrow
      have HJ := hide (And.intro hJk (And.intro hbw hsB))
      have HX := hide hJ
      have hnr : n₀ ≤ wr.heap.size := Nat.le_trans (Nat.le_trans hnw hW.size) hbw.size
      -- the round, wherever the walk comes to it
      have fin : ∀ (W5 : World) (ov' : Value), Frees n₀ (fun j => (Value.slice ga op.length gc).ownBlock = some j) wr W5 → W5.ownsRow n₀ 9 1 ov' (openAt ts (k + 1)).length ((openAt ts (k + 1)).map Value.string) →
          (ov'.ownBlock = (Value.slice ga op.length gc).ownBlock ∨ ∃ g, ov'.ownBlock = some g ∧ wr.heap.size ≤ g) →
          YieldAt Fence.wide (n - 1) Tryd.prog l #[stepV ts av k] W5 fun e W6 => (e = .returned (.bool true) ∧ J (mine Bs ov') (k + 1) W6 ∧ Below n₀ W W6 ∧ W6.heap[Bs]? = W.heap[Bs]? ∧ W6.ownsRow n₀ 9 1 ov' (openAt ts (k + 1)).length ((openAt ts (k + 1)).map Value.string)) ∨ (e = .returned (.bool false) ∧ Jx (k + 1) W6) := by
        intro W5 ov' hF hr hat'
        have hbs5 : W5.heap[Bs]? = some (.cells #[.slice (some ⟨b, off, none⟩) ts.length cap] 22) := by
          rw [hF.same Bs (lt_of_cell dB) (fun e => ?_), hsB, hBW]
          obtain ⟨_, ⟨e1, _⟩ | ⟨g, _, cur, e1, _, hg, _⟩⟩ := hrow
          · rw [e1] at e; cases e
          · rw [e1] at e
            cases e
            rw [hsB, hBW] at hg
            cases hg
        refine (hY (mine Bs ov') k W5 (hJ _ _ _ _ _ hJk hF.below (fun j hj hm => hF.same j hj (fun e => hm (.inr e))) (fun j hj hm => ?_)) hlt (fun j hj => ?_)).mono ?_
        · rcases hm with rfl | hm
          · exact .inl rfl
          · rcases hat' with e | ⟨g, e, hg⟩
            · exact .inr (e ▸ hm)
            · rw [e] at hm
              cases hm
              omega
        · rcases hj with rfl | hj
          · exact ⟨hn, _, hbs5, fun c fz e => by cases e⟩
          · obtain ⟨_, ⟨e1, _⟩ | ⟨g, _, cur, e1, x1, x2, _⟩⟩ := hr
            · rw [e1] at hj; cases hj
            · rw [e1] at hj
              cases hj
              exact ⟨x1, _, x2, fun c fz e => by cases e⟩
        · rintro e W6 (⟨rfl, h1, h2, h3⟩ | h)
          · exact .inl ⟨rfl, h1, hbw.trans (hF.below.trans h3), (h2 Bs (.inl rfl)).trans (hbs5.trans hBW.symm), own_same hr (fun g hg => h2 g (.inr hg))⟩
          · exact .inr h
      have FIN := hide fin
      clear fin
      clear hT1 hc hY hrow hJk hbw hsB c1 c2 c3 c4 hT hJ
      gi_wp2_with fail
      obtain ⟨W1, hW1⟩ : ∃ W1, wr.alloc (.cells #[.int .u8 t.kind, .string t.name, .slice (av k).1 t.attrs.length (av k).2, .string t.text] 55) = W1 := ⟨_, rfl⟩
      have z1 : W1.heap.size = wr.heap.size + 1 := by rw [← hW1]; simp
      have f1 : W1.heap[wr.heap.size]? = some (.cells #[.int .u8 t.kind, .string t.name, .slice (av k).1 t.attrs.length (av k).2, .string t.text] 55) := by rw [← hW1]; exact World.alloc_heap_new wr _
      have e0 : W1.cell? ⟨wr.heap.size, 0, none⟩ = some (.int .u8 t.kind) := by simp [World.cell?, f1]
      have e1 : W1.cell? ⟨wr.heap.size, 1, none⟩ = some (.string t.name) := by simp [World.cell?, f1]
      have e2 : W1.cell? ⟨wr.heap.size, 2, none⟩ = some (.slice (av k).1 t.attrs.length (av k).2) := by simp [World.cell?, f1]
      have e3 : W1.cell? ⟨wr.heap.size, 3, none⟩ = some (.string t.text) := by simp [World.cell?, f1]
      have hB1 : Below wr.heap.size wr W1 := by rw [← hW1]; exact (Below.refl _ wr).alloc (Nat.le_refl _) _
      have e4 : W1.cell? ⟨Bs, 0, none⟩ = some (.slice (some ⟨b, off, none⟩) ts.length cap) := (hB1.cell (p := ⟨Bs, 0, none⟩) (lt_of_cell dB)).trans dB
      have HT1 := hide (HT.out.below (hB1.mono hnr))
      rw [hW1]
      clear d1 d2 d3 d4 dB
      have HF := hide (And.intro f1 hW1)
      clear f1 hW1
      have wp1 : IntKind.i64.wrap ((k : Int) - 1) = k - 1 := wrap_id _ (by omega) (by omega)
      have wp2 : IntKind.i64.wrap ((k : Int) + 1) = k + 1 := wrap_id _ (by omega) (by omega)
      apply region_cut
      case h =>
       go_region_held3 (fun w' => w'.cell? ⟨wr.heap.size, 0, none⟩ = some (.int .u8 t.kind) ∧ w'.cell? ⟨wr.heap.size, 1, none⟩ = some (.string t.name) ∧ w'.cell? ⟨wr.heap.size, 2, none⟩ = some (.slice (av k).1 t.attrs.length (av k).2) ∧ w'.cell? ⟨wr.heap.size, 3, none⟩ = some (.string t.text) ∧ w'.cell? ⟨Bs, 0, none⟩ = some (.slice (some ⟨b, off, none⟩) ts.length cap)) (go_keep)
         (first | (go_at_call 37; refine (kindAt_any n₀ _ cap ts av _ _ (HT1.out.below ?_) ?_).mono ?_; (first | exact (Below.refl _ _).drew | exact ((Below.refl _ _).alloc (by omega) _).drew); omega; rintro e w' ⟨rfl, rfl⟩))
       all_goals exact ⟨rfl, rfl, rfl⟩
      case hq =>
       obtain ⟨W2, hW2⟩ : ∃ W2, (W1.alloc (.cells #[.int .u8 t.kind, .string t.name, .slice (av k).1 t.attrs.length (av k).2, .string t.text, .int .u8 (kindOf ts (k - 1 : Int)), .int .u8 (kindOf ts (k + 1 : Int)), .string ⟨#[]⟩, .int .i64 op.length, .int .i64 0] 57)).drew = W2 := ⟨_, rfl⟩
       rw [hW2]
       have HW2 := hide hW2
       have z2 : W2.heap.size = wr.heap.size + 2 := by rw [← hW2]; simp; omega
       have hB2 : Below W1.heap.size W1 W2 := by rw [← hW2]; exact ((Below.refl _ W1).alloc (Nat.le_refl _) _).drew
       have f2 : W2.heap[wr.heap.size + 1]? = some (.cells #[.int .u8 t.kind, .string t.name, .slice (av k).1 t.attrs.length (av k).2, .string t.text, .int .u8 (kindOf ts (k - 1 : Int)), .int .u8 (kindOf ts (k + 1 : Int)), .string ⟨#[]⟩, .int .i64 op.length, .int .i64 0] 57) := by rw [← hW2, ← z1]; exact World.alloc_heap_new W1 _
       have t0 : W2.cell? ⟨wr.heap.size, 0, none⟩ = some (.int .u8 t.kind) := (hB2.cell (p := ⟨wr.heap.size, 0, none⟩) (by simp; omega)).trans e0
       have t1 : W2.cell? ⟨wr.heap.size, 1, none⟩ = some (.string t.name) := (hB2.cell (p := ⟨wr.heap.size, 1, none⟩) (by simp; omega)).trans e1
       obtain ⟨s0, s1, s2, s3, s4, s5, s6, s7, s8, zf⟩ := cells9 f2
       have hrow2 := own_same (B := W2) HR.out (fun g hg => ((hB2.block g (by have := own_lt HR.out g hg; omega)).trans (hB1.block g (own_lt HR.out g hg))))
       have HR2 := hide hrow2
       have hfr : Frees n₀ (fun j => (Value.slice ga op.length gc).ownBlock = some j) wr W2 := (((Frees.refl _ _ wr).kept hB1 hnr).kept hB2 hnr)
       have HFR := hide hfr
       clear hrow2 hfr
       have HF2 := hide f2
       clear e0 e1 e2 e3 e4 hW2 f2
       have hol : op.length ≤ 2199023255488 := by rw [← hop]; exact Nat.le_trans (openAt_le ts k) (by omega)
       by_cases hop0 : op = []
       · subst hop0
         simp only [List.length_nil, List.map_nil] at *
         by_cases hk1 : t.kind = 1
         · have hs1 : openAt ts (k + 1) = [t.name] := by rw [openAt_succ ht, hop]; simp [opens, hk1]
           have hst : stepV ts av k = .agg #[.int .u8 1, .string t.name, .slice (av k).1 t.attrs.length (av k).2, .string t.text, .int .u8 (kindOf ts (k - 1 : Int)), .int .u8 (kindOf ts (k + 1 : Int)), .string ⟨#[]⟩, .int .i64 0, .int .i64 1] := by simp [stepV, ht, hop, hs1, hk1] <;> omega
           gi_wp2_with (gi_at_builtin; refine stopHere ?_)
           unfold Hid
           (refine append_name _ rfl _ _ rfl n₀ _ _ _ rfl (HR2.out.alloc _) _ t.name rfl (by have h := cell_one_new W2 (.string t.name) 9; rw [z2] at h; exact h) (by omega) (by simp; omega) ?_; intro v' w1 hown' hgrow hat'; obtain ⟨ga', gc', rfl⟩ := own_shape hown'; have HO := hide (And.intro hown' (And.intro hgrow hat')); clear hown' hat'; have f3 : w1.heap[wr.heap.size + 1]? = _ := (hgrow.block (wr.heap.size + 1) (by first | omega | (simp; omega)) (fun e => by have := own_lt HR.out _ (show _ = _ from e.symm); omega)).trans ((Below.heap_alloc _ _ _ (by first | omega | (simp; omega))).trans HF2.out); obtain ⟨p0, p1, p2, p3, p4, p5, p6, p7, p8, pf⟩ := cells9 f3; clear f3 hgrow)
           obtain ⟨fn, tmps, assign, body, hy, hR⟩ := FIN.out (w1.setCell ⟨wr.heap.size + 1, 8, none⟩ (.int .i64 1)) (.slice ga' 1 gc') (((HFR.out).alloc hnr _).grown hnr HO.out.2.1 (fun r hr => ⟨by
               obtain ⟨_, ⟨e1, _⟩ | ⟨g, _, cur, e1, x1, _⟩⟩ := HR.out
               · rw [e1] at hr; cases hr
               · rw [e1] at hr; cases hr; exact x1, .inl hr⟩) |>.setCell (p := ⟨wr.heap.size + 1, 8, none⟩) (by simp; omega) (.inr (by simp)) _) (by
               rw [hs1]
               refine own_same (A := w1) (by simpa using HO.out.1) (fun g hg => ?_)
               rw [Below.heap_setCell _ _ _ _ (fun e => ?_)]
               rcases HO.out.2.2 with h | h
               · have := own_lt HR.out g (h ▸ hg); simp at e; omega
               · rw [h] at hg; simp at hg e; omega) (by
               rcases HO.out.2.2 with h | h
               · exact .inl h
               · exact .inr ⟨_, h, by simp; omega⟩)
           rw [hst] at hy
           try dsimp only
           gi_wp2
           refine ⟨fun h => by simp [Fence.wide] at h, hR.mono ?_⟩
           rintro e W6 (⟨rfl, j1, j2, j3, j4⟩ | ⟨rfl, j1⟩)
           · gi_wp2_with fail
             go_roundw
             case rel => exact ⟨k + 1, by omega, by simp, j1, j2, j3, j4⟩
             case measure => simp [intOf]; omega
           · gi_wp2_with fail
             refine bodyPost_ret (results_none rfl _ _ _) rfl ?_
             exact ⟨⟨_, rfl⟩, .inr ⟨_, by omega, j1⟩⟩
         · have hs1 : openAt ts (k + 1) = [] := by rw [openAt_succ ht, hop]; simp [opens, hk1]
           have hk1' : (↑t.kind == (1 : Int)) = false := by simp; omega
           by_cases hk2 : t.kind = 2
           · have hst : stepV ts av k = .agg #[.int .u8 2, .string t.name, .slice (av k).1 t.attrs.length (av k).2, .string t.text, .int .u8 (kindOf ts (k - 1 : Int)), .int .u8 (kindOf ts (k + 1 : Int)), .string ⟨#[]⟩, .int .i64 0, .int .i64 0] := by simp [stepV, ht, hop, hs1, hk2] <;> omega
             gi_wp2_with fail
             obtain ⟨fn, tmps, assign, body, hy, hR⟩ := FIN.out (W2.setCell ⟨wr.heap.size + 1, 8, none⟩ (.int .i64 0)) (.slice ga 0 gc) (HFR.out.setCell (p := ⟨wr.heap.size + 1, 8, none⟩) (by simp; omega) (.inr (by simp)) _) (by rw [hs1]; exact own_same (HR2.out) (fun g hg => by
                 have hg' := own_lt HR.out g (by simpa [Value.ownBlock] using hg)
                 rw [Below.heap_setCell _ _ _ _ (show g ≠ wr.heap.size + 1 by omega)])) (.inl rfl)
             rw [hst] at hy
             simp only [hy]
             gi_wp2
             refine ⟨fun h => by simp [Fence.wide] at h, hR.mono ?_⟩
             rintro e W6 (⟨rfl, j1, j2, j3, j4⟩ | ⟨rfl, j1⟩)
             · gi_wp2_with fail
               go_roundw
               case rel => exact ⟨k + 1, by omega, by simp, j1, j2, j3, j4⟩
               case measure => simp [intOf]; omega
             · gi_wp2_with fail
               refine bodyPost_ret (results_none rfl _ _ _) rfl ?_
               exact ⟨⟨_, rfl⟩, .inr ⟨_, by omega, j1⟩⟩
           · have hk2' : (↑t.kind == (2 : Int)) = false := by simp; omega
             have hst : stepV ts av k = .agg #[.int .u8 t.kind, .string t.name, .slice (av k).1 t.attrs.length (av k).2, .string t.text, .int .u8 (kindOf ts (k - 1 : Int)), .int .u8 (kindOf ts (k + 1 : Int)), .string ⟨#[]⟩, .int .i64 0, .int .i64 0] := by simp [stepV, ht, hop, hs1] <;> omega
             gi_wp2_with fail
             obtain ⟨fn, tmps, assign, body, hy, hR⟩ := FIN.out (W2.setCell ⟨wr.heap.size + 1, 8, none⟩ (.int .i64 0)) (.slice ga 0 gc) (HFR.out.setCell (p := ⟨wr.heap.size + 1, 8, none⟩) (by simp; omega) (.inr (by simp)) _) (by rw [hs1]; exact own_same (HR2.out) (fun g hg => by
                 have hg' := own_lt HR.out g (by simpa [Value.ownBlock] using hg)
                 rw [Below.heap_setCell _ _ _ _ (show g ≠ wr.heap.size + 1 by omega)])) (.inl rfl)
             rw [hst] at hy
             simp only [hy]
             gi_wp2
             refine ⟨fun h => by simp [Fence.wide] at h, hR.mono ?_⟩
             rintro e W6 (⟨rfl, j1, j2, j3, j4⟩ | ⟨rfl, j1⟩)
             · gi_wp2_with fail
               go_roundw
               case rel => exact ⟨k + 1, by omega, by simp, j1, j2, j3, j4⟩
               case measure => simp [intOf]; omega
             · gi_wp2_with fail
               refine bodyPost_ret (results_none rfl _ _ _) rfl ?_
               exact ⟨⟨_, rfl⟩, .inr ⟨_, by omega, j1⟩⟩
       · obtain ⟨init, lst, rfl⟩ : ∃ init lst, op = init ++ [lst] := ⟨op.dropLast, op.getLast hop0, (List.dropLast_concat_getLast hop0).symm⟩
         obtain ⟨m, hm⟩ : ∃ m, init.length = m := ⟨_, rfl⟩
         have hm1 : (init ++ [lst]).length = m + 1 := by simp [hm]
         simp only [hm1, List.map_append, List.map_cons, List.map_nil] at *
         obtain ⟨g, rfl, hgc, hgl⟩ := own_last HR2.out
         have hgw : g < wr.heap.size := own_lt HR.out g rfl
         have hgne : ¬ wr.heap.size + 1 = g := by omega
         have hm2 : (0 : Int) < ↑m + 1 := by omega
         have wp3 : IntKind.i64.wrap ((↑(m + 1) : Int) - 1) = m := by rw [wrap_id _ (by omega) (by omega)]; omega
         have hm3 : ¬ ((m : Int) < 0) := by omega
         have hfrb := HFR.out.setCell (p := ⟨wr.heap.size + 1, 6, none⟩) (by simp; omega) (.inr (by simp)) (.string lst)
         have HFB := hide hfrb
         have hrowb : (W2.setCell ⟨wr.heap.size + 1, 6, none⟩ (.string lst)).ownsRow n₀ 9 1 (.slice (some ⟨g, 0, none⟩) (m + 1) gc) (m + 1) (init.map Value.string ++ [.string lst]) := own_same HR2.out (fun g' hg => by
           have hg' := own_lt HR.out g' hg
           rw [Below.heap_setCell _ _ _ _ (show g' ≠ wr.heap.size + 1 by omega)])
         have HRB := hide hrowb
         have f2b := heap_set9 HF2.out 6 (.string lst)
         have HF2b := hide f2b
         have hnewb := cell_one_new (W2.setCell ⟨wr.heap.size + 1, 6, none⟩ (.string lst)) (.string t.name) 9
         rw [World.size_setCell, z2] at hnewb
         have HNB := hide hnewb
         clear hfrb hrowb f2b hnewb
         by_cases hk1 : t.kind = 1
         · have hs1 : openAt ts (k + 1) = init ++ [lst] ++ [t.name] := by rw [openAt_succ ht, hop]; simp [opens, hk1]
           have hst : stepV ts av k = .agg #[.int .u8 1, .string t.name, .slice (av k).1 t.attrs.length (av k).2, .string t.text, .int .u8 (kindOf ts (k - 1 : Int)), .int .u8 (kindOf ts (k + 1 : Int)), .string lst, .int .i64 (m + 1 : Int), .int .i64 (m + 1 + 1 : Int)] := by simp [stepV, ht, hop, hs1, hk1, hm] <;> omega
           gi_wp2_with (gi_at_builtin; refine stopHere ?_)
           unfold Hid
           (refine append_name _ rfl _ _ rfl n₀ _ _ _ rfl (HRB.out.alloc _) _ t.name rfl (HNB.out) (by omega) (by simp; omega) ?_; intro v' w1 hown' hgrow hat'; obtain ⟨ga', gc', rfl⟩ := own_shape hown'; have HO := hide (And.intro hown' (And.intro hgrow hat')); clear hown' hat'; have f3 : w1.heap[wr.heap.size + 1]? = _ := (hgrow.block (wr.heap.size + 1) (by first | omega | (simp; omega)) (fun e => by have := own_lt HR.out _ (show _ = _ from e.symm); omega)).trans ((Below.heap_alloc _ _ _ (by first | omega | (simp; omega))).trans HF2b.out); obtain ⟨p0, p1, p2, p3, p4, p5, p6, p7, p8, pf⟩ := cells9 f3; clear f3 hgrow)
           obtain ⟨fn, tmps, assign, body, hy, hR⟩ := FIN.out (w1.setCell ⟨wr.heap.size + 1, 8, none⟩ (.int .i64 (m + 1 + 1 : Int))) (.slice ga' (m + 1 + 1) gc') (((HFB.out).alloc hnr _).grown hnr HO.out.2.1 (fun r hr => ⟨by
               obtain ⟨_, ⟨e1, _⟩ | ⟨g, _, cur, e1, x1, _⟩⟩ := HR.out
               · rw [e1] at hr; cases hr
               · rw [e1] at hr; cases hr; exact x1, .inl hr⟩) |>.setCell (p := ⟨wr.heap.size + 1, 8, none⟩) (by simp; omega) (.inr (by simp)) _) (by
               rw [hs1]
               refine own_same (A := w1) (by simpa [hm] using HO.out.1) (fun g hg => ?_)
               rw [Below.heap_setCell _ _ _ _ (fun e => ?_)]
               rcases HO.out.2.2 with h | h
               · have := own_lt HR.out g (h ▸ hg); simp at e; omega
               · rw [h] at hg; simp at hg e; omega) (by
               rcases HO.out.2.2 with h | h
               · exact .inl h
               · exact .inr ⟨_, h, by simp; omega⟩)
           rw [hst] at hy
           try dsimp only
           gi_wp2
           refine ⟨fun h => by simp [Fence.wide] at h, hR.mono ?_⟩
           rintro e W6 (⟨rfl, j1, j2, j3, j4⟩ | ⟨rfl, j1⟩)
           · gi_wp2_with fail
             go_roundw
             case rel => exact ⟨k + 1, by omega, by simp, j1, j2, j3, j4⟩
             case measure => simp [intOf]; omega
           · gi_wp2_with fail
             refine bodyPost_ret (results_none rfl _ _ _) rfl ?_
             exact ⟨⟨_, rfl⟩, .inr ⟨_, by omega, j1⟩⟩
         · have hk1' : (↑t.kind == (1 : Int)) = false := by simp; omega
           by_cases hk2 : t.kind = 2
           · have hs1 : openAt ts (k + 1) = init := by rw [openAt_succ ht, hop]; simp [opens, hk2]
             have hst : stepV ts av k = .agg #[.int .u8 2, .string t.name, .slice (av k).1 t.attrs.length (av k).2, .string t.text, .int .u8 (kindOf ts (k - 1 : Int)), .int .u8 (kindOf ts (k + 1 : Int)), .string lst, .int .i64 (m + 1 : Int), .int .i64 m] := by simp [stepV, ht, hop, hs1, hk2, hm] <;> omega
             gi_wp2_with fail
             obtain ⟨fn, tmps, assign, body, hy, hR⟩ := FIN.out ((W2.setCell ⟨wr.heap.size + 1, 6, none⟩ (.string lst)).setCell ⟨wr.heap.size + 1, 8, none⟩ (.int .i64 m)) (.slice (some ⟨g, 0, none⟩) m gc) (HFB.out.setCell (p := ⟨wr.heap.size + 1, 8, none⟩) (by simp; omega) (.inr (by simp)) _) (by rw [hs1]; exact own_same (by have h := own_pop HR2.out; rw [hm]; exact h) (fun g hg => by
                 have hg' := own_lt HR.out g (by simpa [Value.ownBlock] using hg)
                 rw [Below.heap_setCell _ _ _ _ (show g ≠ wr.heap.size + 1 by omega), Below.heap_setCell _ _ _ _ (show g ≠ wr.heap.size + 1 by omega)])) (.inl rfl)
             rw [hst] at hy
             simp only [hy]
             gi_wp2
             refine ⟨fun h => by simp [Fence.wide] at h, hR.mono ?_⟩
             rintro e W6 (⟨rfl, j1, j2, j3, j4⟩ | ⟨rfl, j1⟩)
             · gi_wp2_with fail
               go_roundw
               case rel => exact ⟨k + 1, by omega, by simp, j1, j2, j3, j4⟩
               case measure => simp [intOf]; omega
             · gi_wp2_with fail
               refine bodyPost_ret (results_none rfl _ _ _) rfl ?_
               exact ⟨⟨_, rfl⟩, .inr ⟨_, by omega, j1⟩⟩
           · have hk2' : (↑t.kind == (2 : Int)) = false := by simp; omega
             have hs1 : openAt ts (k + 1) = init ++ [lst] := by rw [openAt_succ ht, hop]; simp [opens, hk1, hk2]
             have hst : stepV ts av k = .agg #[.int .u8 t.kind, .string t.name, .slice (av k).1 t.attrs.length (av k).2, .string t.text, .int .u8 (kindOf ts (k - 1 : Int)), .int .u8 (kindOf ts (k + 1 : Int)), .string lst, .int .i64 (m + 1 : Int), .int .i64 (m + 1 : Int)] := by simp [stepV, ht, hop, hs1, hm] <;> omega
             gi_wp2_with fail
             obtain ⟨fn, tmps, assign, body, hy, hR⟩ := FIN.out ((W2.setCell ⟨wr.heap.size + 1, 6, none⟩ (.string lst)).setCell ⟨wr.heap.size + 1, 8, none⟩ (.int .i64 (m + 1))) (.slice (some ⟨g, 0, none⟩) (m + 1) gc) (HFB.out.setCell (p := ⟨wr.heap.size + 1, 8, none⟩) (by simp; omega) (.inr (by simp)) _) (by rw [hs1]; exact own_same (by have h := HR2.out; simpa [hm] using h) (fun g hg => by
                 have hg' := own_lt HR.out g (by simpa [Value.ownBlock] using hg)
                 rw [Below.heap_setCell _ _ _ _ (show g ≠ wr.heap.size + 1 by omega), Below.heap_setCell _ _ _ _ (show g ≠ wr.heap.size + 1 by omega)])) (.inl rfl)
             rw [hst] at hy
             simp only [hy]
             gi_wp2
             refine ⟨fun h => by simp [Fence.wide] at h, hR.mono ?_⟩
             rintro e W6 (⟨rfl, j1, j2, j3, j4⟩ | ⟨rfl, j1⟩)
             · gi_wp2_with fail
               go_roundw
               case rel => exact ⟨k + 1, by omega, by simp, j1, j2, j3, j4⟩
               case measure => simp [intOf]; omega
             · gi_wp2_with fail
               refine bodyPost_ret (results_none rfl _ _ _) rfl ?_
               exact ⟨⟨_, rfl⟩, .inr ⟨_, by omega, j1⟩⟩
    · obtain rfl : k = ts.length := by omega
      gi_wp2
      go_end0
      exact ⟨⟨_, rfl⟩, .inl ⟨_, hJk⟩⟩
end Go.Proofs.YthmidlmknkbdaaaDoor
