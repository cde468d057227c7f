/- A tree of nodes in memory. -/
import Derived.Test.YtffjmkngdjbjlaaDoorNt0
import Derived.Test.YtffjmkngdjbjlaaDoorNr7
namespace Go.Proofs.YtffjmkngdjbjlaaDoor
open Go.RowKit

theorem conv_ltT {w : World} {b n : Nat} {c : Int} (hn : n < 100) (hc : c = 97 + n) (h : w.heap[b]? = some (.cells #[.int .u8 c] 5)) : (convert 45 9 (.slice (some ⟨b, 0, none⟩) 1 1)).run Tryd.prog w = .ok (.string (ltN n)) w := by
  have hx := run_convert_bytes_back (P := Tryd.prog) w 45 9 5 ⟨b, 0, none⟩ 1 [UInt8.ofNat (97 + n)] Tryd.underlying45 Tryd.underlying5 Tryd.underlying9 (fun j hj => by
    match j, hj with
    | 0, _ =>
      simp [Addr.add, World.cell?, h]
      omega)
  exact hx
/-- Nodes as a row of cells. -/
def rowN (f : Nat → Nd) (vs : Nat → NdW) (k : Nat) : List Value := (List.range k).flatMap fun i => ndC (f i) (vs i)
theorem append_nd (w : World) {ops : Array Oper} {rest : List Oper} {o : Oper} {a : Act} {Q : Exit → Act → World → Prop} (hg : o.guard = none) (s x : Operand)
    (hop : o.op = Op.call { callee := Callee.builtin Builtin.append, args := #[s, x], argTypes := #[58, 58] }) (base : Nat) (v : Value) (n : Nat) (xs : List Value) (hs : a.eval s = v) (hE : w.ownsRow base 28 8 v n xs) (y : Nd) (vv : NdW) (bx : Nat)
    (hx : a.eval x = .slice (some ⟨bx, 0, none⟩) 1 1) (hc : w.heap[bx]? = some (.cells (ndA y vv) 28)) (hl : n ≤ 1000) (hb : base ≤ w.heap.size)
    (hK : ∀ v' w', w'.ownsRow base 28 8 v' (n + 1) (xs ++ ndC y vv) → w.grownBy w' v.ownBlock → wpList Tryd.prog ops Q rest (a.put o.dst v') w') : wpList Tryd.prog ops Q (o :: rest) a w := by
  obtain ⟨i, hi, hz0, hz1, hz2⟩ := info_parts infoNd
  obtain ⟨v', w', hrun, r1, r2, _, r4⟩ := run_append_own_at (P := Tryd.prog) w base 58 o.type 28 i _ 8 120 Tryd.underlying58 hi hz0 hz1 hz2 rfl (by decide) v n xs hE ⟨bx, 0, none⟩ 1 1 (ndC y vv) rfl (fun j z hj => by
    rw [Addr.add_mid, cell_of_row w bx (0 + j) _ _ _ hc]
    simpa [ndA, ndC] using hj) (by simp [ndC, Value.oneCell']) (by unfold maxLen; omega) (by omega) hb
  refine wpList_plain hg fun K hK' => ?_
  unfold Oper.wp
  simp [execOp, hop, resolve, invoke, builtin, hs, hx, hrun, Result.andThen]
  exact hK' _ _ (hK v' w' r1 r2)
theorem rowN_more (f : Nat → Nd) (vs : Nat → NdW) (k : Nat) (vv : NdW) : rowN f (fun i => if i = k then vv else vs i) (k + 1) = rowN f vs k ++ ndC (f k) vv := by
  unfold rowN
  rw [List.range_succ, List.flatMap_append]
  have h1 : (List.range k).map (fun i => ndC (f i) (if i = k then vv else vs i)) = (List.range k).map (fun i => ndC (f i) (vs i)) := List.map_congr_left fun i hi => by
    have : i ≠ k := by have := List.mem_range.1 hi; omega
    simp [this]
  rw [List.flatMap_def, List.flatMap_def, h1]
  simp [List.flatMap_def]
theorem rowN_len (f : Nat → Nd) (vs : Nat → NdW) (n : Nat) : (rowN f vs n).length = n * 8 := by
  induction n with
  | zero => rfl
  | succ n ih =>
    unfold rowN at ih ⊢
    rw [List.range_succ, List.flatMap_append, List.length_append, ih]
    simp [ndC]
    omega
theorem rowN_get (f : Nat → Nd) (vs : Nat → NdW) (k j : Nat) (hj : j < 8) : ∀ n, k < n → (rowN f vs n)[k * 8 + j]? = (ndC (f k) (vs k))[j]?
  | 0, h => by omega
  | n + 1, h => by
    have e : rowN f vs (n + 1) = rowN f vs n ++ ndC (f n) (vs n) := by
      unfold rowN
      rw [List.range_succ, List.flatMap_append]
      simp
    have hl := rowN_len f vs n
    rw [e]
    by_cases hkn : k = n
    · subst hkn
      rw [List.getElem?_append_right (by omega), hl, show k * 8 + j - k * 8 = j by omega]
    · rw [List.getElem?_append_left (by omega)]
      exact rowN_get f vs k j hj n (by omega)
theorem own_cellN {f : Nat → Nd} {vs : Nat → NdW} {base n : Nat} {w : World} {v : Value} (h : w.ownsRow base 28 8 v n (rowN f vs n)) (hn : 0 < n) : ∃ g gc, v = .slice (some ⟨g, 0, none⟩) n gc ∧ base ≤ g ∧ g < w.heap.size ∧ n ≤ gc ∧ ∀ k j (_ : k < n) (hj : j < 8), w.cell? ⟨g, k * 8 + j, none⟩ = some ((ndC (f k) (vs k))[j]'hj) ∧ w.frozen? ⟨g, k * 8 + j, none⟩ = false := by
  obtain ⟨_, ⟨e1, e2⟩ | ⟨g, cap, cur, e1, x1, x2, x3, x4, x5, x6⟩⟩ := h
  · omega
  · refine ⟨g, cap, e1, x1, (Array.getElem?_eq_some_iff.1 x2).1, x3, fun k j hk hj => ⟨?_, by simp [World.frozen?, x2]⟩⟩
    have hc := rowN_get f vs k j hj n hk
    have hr : (ndC (f k) (vs k))[j]? = some ((ndC (f k) (vs k))[j]'hj) := List.getElem?_eq_getElem hj
    rw [hr, ← x6, List.getElem?_take_of_lt (by omega)] at hc
    simp only [World.cell?, x2]
    simpa using hc
/-- Where the lists of the node number i lie. -/
def LaidT (i : Nat) (w : World) (v : NdW) : Prop :=
  v.ia = none ∧ v.ic = 0 ∧ (∃ a, v.aa = some ⟨a, 0, none⟩ ∧ v.ac = 1 ∧ w.heap[a]? = some (.cells #[.string od, .int .u8 5] 55)) ∧
  ((i ≠ 0 ∧ v.sa = none ∧ v.sc = 0) ∨ (i = 0 ∧ ∃ b, v.sa = some ⟨b, 0, none⟩ ∧ v.sc = 1 ∧ w.heap[b]? = some (.cells #[.string rd, .bool false, .int .i64 0] 39)))
theorem LaidT.keep {i : Nat} {w w' : World} {v : NdW} (h : LaidT i w v) (hk : ∀ (j : Nat) (cs : Array Value) (T : TypeId), w.heap[j]? = some (.cells cs T) → T ≠ 28 → w'.heap[j]? = w.heap[j]?) : LaidT i w' v := by
  obtain ⟨h1, h2, ⟨a, h3, h4, h5⟩, h6⟩ := h
  refine ⟨h1, h2, ⟨a, h3, h4, (hk a _ _ h5 (by decide)).trans h5⟩, ?_⟩
  rcases h6 with h6 | ⟨h6, b, h7, h8, h9⟩
  · exact .inl h6
  · exact .inr ⟨h6, b, h7, h8, (hk b _ _ h9 (by decide)).trans h9⟩
/-- The one above the node number i. -/
def pT (par : List UInt8) (i : Nat) : Nat := if i = 0 then 0 else (par.getD (i - 1) 0).toNat % i
theorem pT_lt (par : List UInt8) (i : Nat) (h : 0 < i) : pT par i < i := by
  unfold pT
  rw [if_neg (by omega)]
  exact Nat.mod_lt _ h
theorem pT_at {par : List UInt8} {j : Nat} {c : UInt8} (h : par[j]? = some c) : pT par (j + 1) = c.toNat % (j + 1) := by
  unfold pT
  rw [if_neg (by omega)]
  simp [h]
theorem tmod_nat (a b : Nat) : ((a : Nat) : Int).tmod ((b : Int) + 1) = ((a % (b + 1) : Nat) : Int) := by
  rw [Int.tmod_eq_emod_of_nonneg (Int.natCast_nonneg a)]
  exact (Int.natCast_emod a (b + 1)).symm
theorem wrap64_small (n : Nat) (h : n < 256) : wrap64 (n : Int) = n := by
  unfold wrap64
  omega
/-- Bytes that are handed in. -/
def BytesIn (n₀ : Nat) (w : World) (ao : Option Addr) (l : List UInt8) : Prop := ∀ j c, l[j]? = some c → ∃ b off, ao = some ⟨b, off, none⟩ ∧ b < n₀ ∧ w.cell? ⟨b, off + j, none⟩ = some (.int .u8 c.toNat)
end Go.Proofs.YtffjmkngdjbjlaaDoor
