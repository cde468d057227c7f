/- A tree of nodes: who is told of each. A tree of nodes in memory. The tree of nodes, whole: what is read of it. -/
import Derived.Test.YtimhkgpjfppkmaaGreatDoorQI
import Derived.Test.YtimhkgpjfppkmaaGreatDoorQS
import Derived.Test.YtimhkgpjfppkmaaGreatDoorNc0
namespace Go.Proofs.YtimhkgpjfppkmaaGreatDoor
open Go.RowKit

def od : ByteArray := ⟨#[111, 64, 100]⟩
def sd : ByteArray := ⟨#[115, 64, 100]⟩
def rd : ByteArray := ⟨#[114, 64, 100]⟩
def ltN (i : Nat) : ByteArray := ⟨#[UInt8.ofNat (97 + i)]⟩
def tsub (k i : Nat) : List (ByteArray × Bool × Int) := (if i = 0 then [(rd, false, (0 : Int))] else []) ++ (if i = k then [(sd, false, (1 : Int))] else [])
/-- The node number i of the tree; p: the number of the one above. -/
def ndT (p : Nat → Nat) (k i : Nat) : Nd := ⟨ltN i, true, 0, 0, [(od, 5)], tsub k i, [], if i = 0 then ⟨#[]⟩ else ltN (p i)⟩
def nsT (p : Nat → Nat) (k m : Nat) : List Nd := (List.range m).map (ndT p k)
theorem nsT_len (p : Nat → Nat) (k m : Nat) : (nsT p k m).length = m := by simp [nsT]
theorem nsT_at (p : Nat → Nat) (k : Nat) {m i : Nat} (h : i < m) : (nsT p k m)[i]? = some (ndT p k i) := by simp [nsT, h]
theorem ltN_inj {i j : Nat} (hi : i < 100) (hj : j < 100) (h : ltN i = ltN j) : i = j := by
  have h1 : (ltN i).data = (ltN j).data := by rw [h]
  have h2 : UInt8.ofNat (97 + i) = UInt8.ofNat (97 + j) := by simpa [ltN] using h1
  have h3 := congrArg UInt8.toNat h2
  simp only [UInt8.toNat_ofNat'] at h3
  omega
theorem ltN_full (i : Nat) : (ltN i).size ≠ 0 := by
  show (1 : Nat) ≠ 0
  omega
theorem ltN_ne (i : Nat) : (⟨#[]⟩ : ByteArray) ≠ ltN i := fun h => by
  have := congrArg ByteArray.size h
  exact absurd this.symm (ltN_full i)
theorem plT (p : Nat → Nat) (k : Nat) {m : Nat} (hm : m ≤ 100) : ∀ j, j ≤ m → plTo (nsT p k m) j = (List.range j).map fun i => ⟨ltN i, i, i⟩
  | 0, _ => rfl
  | j + 1, h => by
    unfold plTo
    rw [nsT_at p k (show j < m by omega), plT p k hm j (by omega)]
    show plAdd _ _ _ = _
    unfold plAdd
    have h1 : getE ((List.range j).map fun i => (⟨ltN i, i, i⟩ : En)) (ndT p k j).name = none := getE_no fun x hx => by
      obtain ⟨i, hi, e⟩ := List.mem_map.1 hx
      subst e
      have := List.mem_range.1 hi
      intro he
      have := ltN_inj (show i < 100 by omega) (show j < 100 by omega) he
      omega
    rw [if_pos ⟨h1, ltN_full j⟩, List.range_succ, List.map_append]
    simp [ndT]
/-- The numbers above one, it first. -/
def up (p : Nat → Nat) : Nat → Nat → List Nat
  | 0, _ => []
  | f + 1, i => i :: (if i = 0 then [] else up p f (p i))
theorem ovGo_up {p : Nat → Nat} {k m : Nat} (hm : m ≤ 100) (hp : ∀ i, 0 < i → p i < i) : ∀ (f : Nat) (l : List En) (i : Nat), (∀ j, j ≤ i → ∃ x ∈ l, x.k = ltN j) → (∀ x ∈ l, ∃ j, j < m ∧ x.k = ltN j ∧ x.v = j) → i < m → ovGo (nsT p k m) f l (ltN i) = up p f i
  | 0, _, _, _, _, _ => rfl
  | f + 1, l, i, h1, h2, hi => by
    have hg : getE l (ltN i) = some i := by
      unfold getE
      cases hf : l.find? (fun x => decide (x.k = ltN i)) with
      | none =>
        obtain ⟨x, hx, e⟩ := h1 i (Nat.le_refl _)
        exact absurd (List.find?_eq_none.1 hf x hx) (by simp [e])
      | some y =>
        have e1 : y.k = ltN i := by simpa using List.find?_some hf
        obtain ⟨j, hj, e2, e3⟩ := h2 y (List.mem_of_find?_eq_some hf)
        have := ltN_inj (show i < 100 by omega) (show j < 100 by omega) (e1.symm.trans e2)
        simp [e3, this]
    rw [ovGo_some hg, nsT_at p k hi]
    show i :: ovGo _ f _ (if i = 0 then ⟨#[]⟩ else ltN (p i)) = i :: (if i = 0 then [] else up p f (p i))
    have h2' : ∀ x ∈ delL l (ltN i), ∃ j, j < m ∧ x.k = ltN j ∧ x.v = j := fun x hx => h2 x (List.mem_filter.1 hx).1
    split
    · rw [ovGo_none (getE_no fun x hx e => by
        obtain ⟨j, _, e2, _⟩ := h2' x hx
        exact ltN_ne j (e.symm.trans e2))]
    · rename_i hi0
      have hpi := hp i (by omega)
      rw [ovGo_up hm hp f _ (p i) (fun j hj => by
        obtain ⟨x, hx, e⟩ := h1 j (by omega)
        refine ⟨x, List.mem_filter.2 ⟨hx, ?_⟩, e⟩
        have : x.k ≠ ltN i := fun e2 => by
          have := ltN_inj (show j < 100 by omega) (show i < 100 by omega) (e.symm.trans e2)
          omega
        simp [this]) h2' (by omega)]
theorem ovT {p : Nat → Nat} {k m i : Nat} (hm : m ≤ 100) (hp : ∀ i, 0 < i → p i < i) (hi : i < m) : ovL (nsT p k m) (ndT p k i).parent = if i = 0 then [] else up p m (p i) := by
  unfold ovL
  rw [nsT_len, plT p k hm m (Nat.le_refl _)]
  have h2 : ∀ x ∈ ((List.range m).map fun i => (⟨ltN i, i, i⟩ : En)), ∃ j, j < m ∧ x.k = ltN j ∧ x.v = j := fun x hx => by
    obtain ⟨j, hj, e⟩ := List.mem_map.1 hx
    subst e
    exact ⟨j, List.mem_range.1 hj, rfl, rfl⟩
  show ovGo _ m _ (if i = 0 then ⟨#[]⟩ else ltN (p i)) = _
  split
  · rw [ovGo_none (getE_no fun x hx e => by
      obtain ⟨j, _, e2, _⟩ := h2 x hx
      exact ltN_ne j (e.symm.trans e2))]
  · have := hp i (by omega)
    exact ovGo_up hm hp m _ (p i) (fun j hj => ⟨⟨ltN j, j, j⟩, List.mem_map.2 ⟨j, List.mem_range.2 (by omega), rfl⟩, rfl⟩) h2 (by omega)
/-- Whom those above tell, from so many steps on. -/
def tgo (k : Nat) : List Nat → Nat → List ByteArray
  | [], _ => []
  | x :: S, s => reachL (s : Int) (tsub k x) ++ tgo k S (s + 1)
theorem tgo_snoc (k x : Nat) : ∀ (S : List Nat) (s : Nat), tgo k (S ++ [x]) s = tgo k S s ++ reachL ((s + S.length : Nat) : Int) (tsub k x)
  | [], s => by simp [tgo]
  | y :: S, s => by
    show reachL _ _ ++ tgo k (S ++ [x]) (s + 1) = (reachL _ _ ++ tgo k S (s + 1)) ++ _
    rw [tgo_snoc k x S (s + 1), List.append_assoc, show s + 1 + S.length = s + (y :: S).length by simp; omega]
theorem told_tgo (p : Nat → Nat) (k m : Nat) (nd : Nd) (S : List Nat) (hS : ∀ x ∈ S, x < m) : ∀ j, j ≤ S.length → toldTo (nsT p k m) S nd j = reachL 0 nd.subs ++ tgo k (S.take j) 1
  | 0, _ => by simp [toldTo, tgo]
  | j + 1, h => by
    have hj : j < S.length := by omega
    have e : ovS (nsT p k m) S j = tsub k S[j] := by
      unfold ovS
      rw [List.getElem?_eq_getElem hj]
      show (match (nsT p k m)[S[j]]? with | none => [] | some n => n.subs) = _
      rw [nsT_at p k (hS _ (List.getElem_mem hj))]
      rfl
    show toldTo (nsT p k m) S nd j ++ reachL ((j : Int) + 1) (ovS (nsT p k m) S j) = _
    rw [told_tgo p k m nd S hS j (by omega), e, List.take_succ_eq_append_getElem hj, tgo_snoc, List.append_assoc, List.length_take, Nat.min_eq_left (by omega), show ((1 + j : Nat) : Int) = (j : Int) + 1 by omega]
theorem up_lt {p : Nat → Nat} (hp : ∀ i, 0 < i → p i < i) : ∀ (f i : Nat), ∀ x ∈ up p f i, x ≤ i
  | 0, i, x, h => by simp [up] at h
  | f + 1, i, x, h => by
    unfold up at h
    rcases List.mem_cons.1 h with h | h
    · omega
    · split at h
      · simp at h
      · have := up_lt hp f (p i) x h
        have := hp i (by omega)
        omega
theorem far {p : Nat → Nat} (k : Nat) (hp : ∀ i, 0 < i → p i < i) : ∀ (f i s : Nat), i < f → 2 ≤ s → tgo k (up p f i) s = [rd]
  | 0, i, s, h, _ => by omega
  | f + 1, i, s, h, hs => by
    show reachL (s : Int) (tsub k i) ++ tgo k (if i = 0 then [] else up p f (p i)) (s + 1) = [rd]
    have e : reachL (s : Int) (tsub k i) = if i = 0 then [rd] else [] := by
      have h0 : ¬ ((s : Int) = 0) := by omega
      have h1 : ¬ ((s : Int) ≤ 1) := by omega
      have h0n : ¬ s = 0 := by omega
      have h1n : (1 : Int) < s := by omega
      unfold tsub
      split <;> split <;> simp [reachL, reachB, h0n, h1n]
    rw [e]
    split
    · rfl
    · have := hp i (by omega)
      rw [far k hp f (p i) (s + 1) (by omega) (by omega)]
      rfl
theorem close {p : Nat → Nat} (k : Nat) (hp : ∀ i, 0 < i → p i < i) (f i : Nat) (h : i < f) : tgo k (up p f i) 1 = if i = 0 then (if i = k then [rd, sd] else [rd]) else (if i = k then [sd, rd] else [rd]) := by
  obtain ⟨f, rfl⟩ : ∃ g, f = g + 1 := ⟨f - 1, by omega⟩
  show reachL ((1 : Nat) : Int) (tsub k i) ++ tgo k (if i = 0 then [] else up p f (p i)) 2 = _
  have e : reachL ((1 : Nat) : Int) (tsub k i) = (if i = 0 then [rd] else []) ++ (if i = k then [sd] else []) := by
    unfold tsub
    split <;> split <;> simp [reachL, reachB]
  rw [e]
  by_cases hi : i = 0
  · rw [if_pos hi, if_pos hi, if_pos hi]
    split <;> rfl
  · have := hp i (by omega)
    rw [if_neg hi, if_neg hi, if_neg hi, far k hp f (p i) 2 (by omega) (by omega)]
    split <;> rfl
/-- A node is told of to the one that asked for it, or for the one above. -/
def nearT (p : Nat → Nat) (k i : Nat) : Bool := decide (i = k) || (!decide (i = 0) && decide (p i = k))
def toldT (p : Nat → Nat) (k i : Nat) : List ByteArray := (if i = 0 then [rd] else []) ++ (if i = k then [sd] else []) ++ (if i = 0 then [] else (if p i = 0 then (if p i = k then [rd, sd] else [rd]) else (if p i = k then [sd, rd] else [rd])))
theorem told_tree {p : Nat → Nat} {k m i : Nat} (hm : m ≤ 100) (hp : ∀ i, 0 < i → p i < i) (hi : i < m) : toldTo (nsT p k m) (ovL (nsT p k m) (ndT p k i).parent) (ndT p k i) (ovL (nsT p k m) (ndT p k i).parent).length = toldT p k i := by
  rw [ovT hm hp hi]
  have e : reachL (0 : Int) (tsub k i) = (if i = 0 then [rd] else []) ++ (if i = k then [sd] else []) := by
    unfold tsub
    split <;> split <;> simp [reachL, reachB]
  by_cases h0 : i = 0
  · rw [if_pos h0]
    show reachL 0 (tsub k i) = _
    rw [e]
    unfold toldT
    simp only [h0, if_true, List.append_nil]
  · have hpi := hp i (by omega)
    rw [if_neg h0, told_tgo p k m _ _ (fun x hx => by have := up_lt hp m (p i) x hx; omega) _ (Nat.le_refl _), List.take_length]
    show reachL 0 (tsub k i) ++ _ = _
    rw [e, close k hp m (p i) (by omega)]
    unfold toldT
    simp only [h0, if_false]
theorem told_cases {p : Nat → Nat} (hp : ∀ i, 0 < i → p i < i) (k i : Nat) : (nearT p k i = false ∧ toldT p k i = [rd]) ∨ (nearT p k i = true ∧ (toldT p k i = [rd, sd] ∨ toldT p k i = [sd, rd])) := by
  unfold nearT toldT
  by_cases h0 : i = 0
  · subst h0
    by_cases hk : 0 = k <;> simp [hk]
  · have hpi := hp i (by omega)
    rw [if_neg h0, if_neg h0, decide_eq_false h0]
    by_cases hk : i = k
    · have h1 : ¬ p i = k := by omega
      rw [if_pos hk, decide_eq_true hk, if_neg h1, if_neg h1, ite_self]
      exact .inr ⟨rfl, .inr rfl⟩
    · rw [if_neg hk, decide_eq_false hk]
      by_cases h1 : p i = k
      · rw [if_pos h1, if_pos h1, decide_eq_true h1]
        by_cases h2 : p i = 0
        · rw [if_pos h2]
          exact .inr ⟨rfl, .inl rfl⟩
        · rw [if_neg h2]
          exact .inr ⟨rfl, .inr rfl⟩
      · rw [if_neg h1, if_neg h1, decide_eq_false h1, ite_self]
        exact .inl ⟨rfl, rfl⟩
theorem sort_two {a b : ByteArray} (h : a.toList ≤ b.toList) : sortS [a, b] = [a, b] := by
  unfold sortS
  simp [List.mergeSort, List.MergeSort.Internal.splitInTwo, h, ofS_toList]
theorem sort_two' {a b : ByteArray} (h : ¬ b.toList ≤ a.toList) : sortS [b, a] = [a, b] := by
  unfold sortS
  simp [List.mergeSort, List.MergeSort.Internal.splitInTwo, h, ofS_toList]
def tolS (p : Nat → Nat) (k i : Nat) : List ByteArray := if nearT p k i = true then [rd, sd] else [rd]
theorem sort_tree {p : Nat → Nat} (hp : ∀ i, 0 < i → p i < i) (k i : Nat) : sortS (toldT p k i) = tolS p k i := by
  have s1 : sortS [rd] = [rd] := by simp [sortS, ofS_toList]
  have s2 : sortS [rd, sd] = [rd, sd] := sort_two (by decide +kernel)
  have s3 : sortS [sd, rd] = [rd, sd] := sort_two' (by decide +kernel)
  unfold tolS
  rcases told_cases hp k i with ⟨h1, h2⟩ | ⟨h1, h2 | h2⟩ <;> rw [h1, h2]
  · rw [s1]; rfl
  · rw [s2]; rfl
  · rw [s3]; rfl
theorem role_tree {p : Nat → Nat} (hp : ∀ i, 0 < i → p i < i) (k i : Nat) : ∀ t ∈ sortS (toldT p k i), roleL (ndT p k i).affs t ≠ 1 := by
  intro t ht
  rw [sort_tree hp] at ht
  have h : t = rd ∨ t = sd := by
    unfold tolS at ht
    split at ht <;> simp at ht
    · exact ht
    · exact .inl ht
  rcases h with h | h <;> rw [h]
  · show roleL [(od, 5)] rd ≠ 1
    decide +kernel
  · show roleL [(od, 5)] sd ≠ 1
    decide +kernel
end Go.Proofs.YtimhkgpjfppkmaaGreatDoor
namespace Go.Proofs.YtimhkgpjfppkmaaGreatDoor
open Go.RowKit

theorem conv_ltT {w : World} {b n : Nat} {c : Int} (hn : n < 100) (hc : c = 97 + n) (h : w.heap[b]? = some (.cells #[.int .u8 c] 5)) : (convert 39 9 (.slice (some ⟨b, 0, none⟩) 1 1)).run Tryz.prog w = .ok (.string (ltN n)) w := by
  have hx := run_convert_bytes_back (P := Tryz.prog) w 39 9 5 ⟨b, 0, none⟩ 1 [UInt8.ofNat (97 + n)] Tryz.underlying39 Tryz.underlying5 Tryz.underlying9 (fun j hj => by
    match j, hj with
    | 0, _ =>
      simp [Addr.add, World.cell?, h]
      omega)
  exact hx
/-- Nodes as a row of cells. -/
def rowN (f : Nat → Nd) (vs : Nat → NdW) (k : Nat) : List Value := (List.range k).flatMap fun i => ndC (f i) (vs i)
theorem rowN_more (f : Nat → Nd) (vs : Nat → NdW) (k : Nat) (vv : NdW) : rowN f (fun i => if i = k then vv else vs i) (k + 1) = rowN f vs k ++ ndC (f k) vv := by
  unfold rowN
  rw [List.range_succ, List.flatMap_append]
  have h1 : (List.range k).map (fun i => ndC (f i) (if i = k then vv else vs i)) = (List.range k).map (fun i => ndC (f i) (vs i)) := List.map_congr_left fun i hi => by
    have : i ≠ k := by have := List.mem_range.1 hi; omega
    simp [this]
  rw [List.flatMap_def, List.flatMap_def, h1]
  simp [List.flatMap_def]
theorem rowN_len (f : Nat → Nd) (vs : Nat → NdW) (n : Nat) : (rowN f vs n).length = n * 8 := by
  induction n with
  | zero => rfl
  | succ n ih =>
    unfold rowN at ih ⊢
    rw [List.range_succ, List.flatMap_append, List.length_append, ih]
    simp [ndC]
    omega
theorem rowN_get (f : Nat → Nd) (vs : Nat → NdW) (k j : Nat) (hj : j < 8) : ∀ n, k < n → (rowN f vs n)[k * 8 + j]? = (ndC (f k) (vs k))[j]?
  | 0, h => by omega
  | n + 1, h => by
    have e : rowN f vs (n + 1) = rowN f vs n ++ ndC (f n) (vs n) := by
      unfold rowN
      rw [List.range_succ, List.flatMap_append]
      simp
    have hl := rowN_len f vs n
    rw [e]
    by_cases hkn : k = n
    · subst hkn
      rw [List.getElem?_append_right (by omega), hl, show k * 8 + j - k * 8 = j by omega]
    · rw [List.getElem?_append_left (by omega)]
      exact rowN_get f vs k j hj n (by omega)
theorem own_cellN {f : Nat → Nd} {vs : Nat → NdW} {base n : Nat} {w : World} {v : Value} (h : w.ownsRow base 27 8 v n (rowN f vs n)) (hn : 0 < n) : ∃ g gc, v = .slice (some ⟨g, 0, none⟩) n gc ∧ base ≤ g ∧ g < w.heap.size ∧ n ≤ gc ∧ ∀ k j (_ : k < n) (hj : j < 8), w.cell? ⟨g, k * 8 + j, none⟩ = some ((ndC (f k) (vs k))[j]'hj) ∧ w.frozen? ⟨g, k * 8 + j, none⟩ = false := by
  obtain ⟨_, ⟨e1, e2⟩ | ⟨g, cap, cur, e1, x1, x2, x3, x4, x5, x6⟩⟩ := h
  · omega
  · refine ⟨g, cap, e1, x1, (Array.getElem?_eq_some_iff.1 x2).1, x3, fun k j hk hj => ⟨?_, by simp [World.frozen?, x2]⟩⟩
    have hc := rowN_get f vs k j hj n hk
    have hr : (ndC (f k) (vs k))[j]? = some ((ndC (f k) (vs k))[j]'hj) := List.getElem?_eq_getElem hj
    rw [hr, ← x6, List.getElem?_take_of_lt (by omega)] at hc
    simp only [World.cell?, x2]
    simpa using hc
/-- Where the lists of the node number i lie. -/
def LaidT (i : Nat) (w : World) (v : NdW) : Prop :=
  v.ia = none ∧ v.ic = 0 ∧ (∃ a, v.aa = some ⟨a, 0, none⟩ ∧ v.ac = 1 ∧ w.heap[a]? = some (.cells #[.string od, .int .u8 5] 55)) ∧
  ((i ≠ 0 ∧ v.sa = none ∧ v.sc = 0) ∨ (i = 0 ∧ ∃ b, v.sa = some ⟨b, 0, none⟩ ∧ v.sc = 1 ∧ w.heap[b]? = some (.cells #[.string rd, .bool false, .int .i64 0] 58)))
theorem LaidT.keep {i : Nat} {w w' : World} {v : NdW} (h : LaidT i w v) (hk : ∀ (j : Nat) (cs : Array Value) (T : TypeId), w.heap[j]? = some (.cells cs T) → T ≠ 27 → w'.heap[j]? = w.heap[j]?) : LaidT i w' v := by
  obtain ⟨h1, h2, ⟨a, h3, h4, h5⟩, h6⟩ := h
  refine ⟨h1, h2, ⟨a, h3, h4, (hk a _ _ h5 (by decide)).trans h5⟩, ?_⟩
  rcases h6 with h6 | ⟨h6, b, h7, h8, h9⟩
  · exact .inl h6
  · exact .inr ⟨h6, b, h7, h8, (hk b _ _ h9 (by decide)).trans h9⟩
/-- The one above the node number i. -/
def pT (par : List UInt8) (i : Nat) : Nat := if i = 0 then 0 else (par.getD (i - 1) 0).toNat % i
theorem pT_lt (par : List UInt8) (i : Nat) (h : 0 < i) : pT par i < i := by
  unfold pT
  rw [if_neg (by omega)]
  exact Nat.mod_lt _ h
theorem pT_at {par : List UInt8} {j : Nat} {c : UInt8} (h : par[j]? = some c) : pT par (j + 1) = c.toNat % (j + 1) := by
  unfold pT
  rw [if_neg (by omega)]
  simp [h]
theorem tmod_nat (a b : Nat) : ((a : Nat) : Int).tmod ((b : Int) + 1) = ((a % (b + 1) : Nat) : Int) := by
  rw [Int.tmod_eq_emod_of_nonneg (Int.natCast_nonneg a)]
  exact (Int.natCast_emod a (b + 1)).symm
theorem wrap64_small (n : Nat) (h : n < 256) : wrap64 (n : Int) = n := by
  unfold wrap64
  omega
/-- Bytes that are handed in. -/
def BytesIn (n₀ : Nat) (w : World) (ao : Option Addr) (l : List UInt8) : Prop := ∀ j c, l[j]? = some c → ∃ b off, ao = some ⟨b, off, none⟩ ∧ b < n₀ ∧ w.cell? ⟨b, off + j, none⟩ = some (.int .u8 c.toNat)
end Go.Proofs.YtimhkgpjfppkmaaGreatDoor
namespace Go.Proofs.YtimhkgpjfppkmaaGreatDoor
open Go.RowKit

theorem region_one {P : Program} {id : Nat} {ops : Array Oper} {Q : Exit → Act → World → Prop} {S : World → Prop} {a : Act} {w : World} (A : Act) (W0 : World) (hm : P.follows .mixedOrders = true)
    (h : wpAnyH P .any ops (fun e a w' => e = .normal ∧ a = A ∧ w' = W0) S ops.size (Array.replicate ops.size false) a w.drew) (hq : Q .normal A W0) : (Code.region id ops true).wp P Q a w :=
  wp_mono (wp_region_held hm h) (by rintro e a w ⟨rfl, rfl, rfl⟩; exact hq)
theorem ex_eqI {o : Oper} {a : Act} {w : World} {x y : Operand} {s t : Int} {b : Bool} (ho : o.op = .binOp .eql 3 x y 3) (hx : a.eval x = .int .i64 s) (hy : a.eval y = .int .i64 t) (hb : (s == t) = b) : (execOp a.eval o).run Tryz.prog w = .ok (.value (.bool b)) w := by
  unfold execOp
  simp only [ho, hx, hy]
  go_simp
theorem ex_fldN7 {o : Oper} {a : Act} {w : World} {x : Operand} {b off : Nat} (ho : o.op = .fieldAddr 27 x 7) (hx : a.eval x = .pointer (some ⟨b, off, none⟩)) : (execOp a.eval o).run Tryz.prog w = .ok (.value (.pointer (some ⟨b, off + 7, none⟩))) w := by
  unfold execOp
  simp only [ho, hx]
  go_simp
theorem ex_fldN0 {o : Oper} {a : Act} {w : World} {x : Operand} {b off : Nat} (ho : o.op = .fieldAddr 27 x 0) (hx : a.eval x = .pointer (some ⟨b, off, none⟩)) : (execOp a.eval o).run Tryz.prog w = .ok (.value (.pointer (some ⟨b, off, none⟩))) w := by
  unfold execOp
  simp only [ho, hx]
  go_simp
theorem strs2 {w : World} {base c : Nat} {ga : Option Addr} {x y : ByteArray} (h : w.ownsRow base 9 1 (.slice ga 2 c) 2 (strC [x, y])) : ∃ g, ga = some ⟨g, 0, none⟩ ∧ w.cell? ⟨g, 0, none⟩ = some (.string x) ∧ w.cell? ⟨g, 1, none⟩ = some (.string y) := by
  obtain ⟨g', c', e, _, _, h0⟩ := own_str (j := 0) (u := x) h rfl
  obtain ⟨g2, c2, e2, _, _, h1⟩ := own_str (j := 1) (u := y) h rfl
  cases e
  cases e2
  exact ⟨_, rfl, h0, h1⟩
theorem strs1 {w : World} {base c : Nat} {ga : Option Addr} {x : ByteArray} (h : w.ownsRow base 9 1 (.slice ga 1 c) 1 (strC [x])) : ∃ g, ga = some ⟨g, 0, none⟩ ∧ w.cell? ⟨g, 0, none⟩ = some (.string x) := by
  obtain ⟨g', c', e, _, _, h0⟩ := own_str (j := 0) (u := x) h rfl
  cases e
  exact ⟨_, rfl, h0⟩
theorem set_far (w : World) (a b : Addr) (v : Value) (h : a ≠ b) : (w.setCell a v).cell? b = w.cell? b := by
  apply World.cell?_setCell_other
  exact h
theorem set_near (w : World) (a : Addr) (v : Value) {u : Value} (h : w.cell? a = some u) : (w.setCell a v).cell? a = some v := by
  apply World.cell?_setCell_same
  exact h
theorem set_blk (w : World) (a : Addr) (v : Value) (k : Nat) (h : k ≠ a.block) : (w.setCell a v).heap[k]? = w.heap[k]? := by
  simp only [World.setCell, Array.getElem?_modify]
  rw [if_neg (fun e => h e.symm)]
/-- Where the lists of the node number i lie when the one with s@d has its own. -/
def vsK (vs : Nat → NdW) (kk : Nat) (sa : Option Addr) (sc : Nat) (i : Nat) : NdW := if i = kk then ⟨(vs i).aa, (vs i).ac, sa, sc, (vs i).ia, (vs i).ic⟩ else vs i
theorem ndT_other (p : Nat → Nat) {kk i : Nat} (h : i ≠ kk) (h2 : i < 1000) : ndT p kk i = ndT p 1000 i := by
  unfold ndT tsub
  rw [if_neg h, if_neg (show ¬ i = 1000 by omega)]
theorem tree_mem {p : Nat → Nat} {kk n g : Nat} {vs : Nat → NdW} {sa : Option Addr} {sc : Nat} {w2 : World} (hn : n ≤ 100) (hkk : kk < n) (hgl : g < w2.heap.size)
    (hcells : ∀ i j (_ : i < n) (hj : j < 8), w2.cell? ⟨g, i * 8 + j, none⟩ = some ((ndC (ndT p 1000 i) (vs i))[j]'hj))
    (hlaid : ∀ i, i < n → LaidT i w2 (vs i)) (hs : SubMem w2.heap.size w2 sa (tsub kk kk)) (hsl : (tsub kk kk).length ≤ sc) (hsg : ∀ a, sa = some a → a.block ≠ g)
    (hT : ∀ j cs T, w2.heap[j]? = some (.cells cs T) → T ≠ 27 → j ≠ g) :
    NdsMem w2.heap.size (w2.setCell ⟨g, kk * 8 + 5, none⟩ (.slice sa (tsub kk kk).length sc)) (some ⟨g, 0, none⟩) (nsT p kk n) (vsK vs kk sa sc) := by
  obtain ⟨W, hW⟩ : ∃ W, w2.setCell ⟨g, kk * 8 + 5, none⟩ (.slice sa (tsub kk kk).length sc) = W := ⟨_, rfl⟩
  have hfar : ∀ b o, b ≠ g → W.cell? ⟨b, o, none⟩ = w2.cell? ⟨b, o, none⟩ := fun b o h => by
    rw [← hW]
    exact set_far _ _ _ _ (fun e => by cases e; exact h rfl)
  have hblk : ∀ b, b ≠ g → W.heap[b]? = w2.heap[b]? := fun b h => by rw [← hW]; exact set_blk _ _ _ _ h
  rw [hW]
  refine ⟨by rw [nsT_len]; omega, fun i nd hi => ?_⟩
  have hil : i < n := by have := (List.getElem?_eq_some_iff.1 hi).1; rw [nsT_len] at this; exact this
  rw [nsT_at p kk hil] at hi
  cases hi
  obtain ⟨h1, h2, ⟨a, h3, h4, h5⟩, h6⟩ := hlaid i hil
  have hag := hT a _ _ h5 (by decide)
  have h5' := (hblk a hag).trans h5
  have hal := (Array.getElem?_eq_some_iff.1 h5).1
  have eaa : (vsK vs kk sa sc i).aa = (vs i).aa := by unfold vsK; split <;> rfl
  have eac : (vsK vs kk sa sc i).ac = (vs i).ac := by unfold vsK; split <;> rfl
  refine ⟨⟨⟨by simp [ndT], fun j x hx => ?_⟩, ?_, by rw [eac, h4]; simp [ndT], ?_⟩, g, 0, rfl, hgl, fun j hj => ?_⟩
  · have hx' : [(od, 5)][j]? = some x := hx
    match j, hx' with
    | 0, hx' =>
      simp at hx'
      subst hx'
      exact ⟨a, 0, by rw [eaa, h3], hal, by simp [World.cell?, h5'], by simp [World.cell?, h5']⟩
  · show SubMem _ W _ (tsub kk i)
    by_cases hik : i = kk
    · subst hik
      have e : (vsK vs i sa sc i).sa = sa := by simp [vsK]
      rw [e]
      refine ⟨hs.1, fun j x hx => ?_⟩
      obtain ⟨b, off, hb, hbl, c0, c1, c2⟩ := hs.2 j x hx
      have hbg := hsg _ hb
      exact ⟨b, off, hb, hbl, (hfar b _ hbg).trans c0, (hfar b _ hbg).trans c1, (hfar b _ hbg).trans c2⟩
    · have e : (vsK vs kk sa sc i).sa = (vs i).sa := by simp [vsK, hik]
      rw [e]
      have e2 : tsub kk i = if i = 0 then [(rd, false, (0 : Int))] else [] := by unfold tsub; rw [if_neg hik, List.append_nil]
      rw [e2]
      rcases h6 with ⟨h6, h7, h8⟩ | ⟨h6, b, h7, h8, h9⟩
      · rw [if_neg h6]
        exact ⟨by simp, fun j x hx => by simp at hx⟩
      · rw [if_pos h6]
        have hbg := hT b _ _ h9 (by decide)
        have h9' := (hblk b hbg).trans h9
        refine ⟨by simp, fun j x hx => ?_⟩
        match j, hx with
        | 0, hx =>
          simp at hx
          subst hx
          exact ⟨b, 0, h7, (Array.getElem?_eq_some_iff.1 h9).1, by simp [World.cell?, h9'], by simp [World.cell?, h9'], by simp [World.cell?, h9']⟩
  · show (tsub kk i).length ≤ _
    by_cases hik : i = kk
    · subst hik
      simp only [vsK, if_true]
      exact hsl
    · have e : (vsK vs kk sa sc i).sc = (vs i).sc := by simp [vsK, hik]
      have e2 : tsub kk i = if i = 0 then [(rd, false, (0 : Int))] else [] := by unfold tsub; rw [if_neg hik, List.append_nil]
      rw [e, e2]
      rcases h6 with ⟨h6, h7, h8⟩ | ⟨h6, b, h7, h8, h9⟩
      · rw [if_neg h6]; simp
      · rw [if_pos h6, h8]; simp
  · have hc := hcells i j hil hj
    rw [Nat.zero_add, ← hW]
    by_cases hik : i = kk
    · subst hik
      by_cases hj5 : j = 5
      · subst hj5
        rw [set_near _ _ _ hc]
        simp [ndC, vsK, ndT]
      · rw [set_far _ _ _ _ (fun e => by injection e with _ e2 _; omega), hc]
        have hcase : j = 0 ∨ j = 1 ∨ j = 2 ∨ j = 3 ∨ j = 4 ∨ j = 6 ∨ j = 7 := by omega
        rcases hcase with rfl | rfl | rfl | rfl | rfl | rfl | rfl <;> simp [ndC, vsK, ndT]
    · rw [set_far _ _ _ _ (fun e => by injection e with _ e2 _; omega), hc]
      have e1 : ndT p kk i = ndT p 1000 i := ndT_other p hik (by omega)
      have e2 : vsK vs kk sa sc i = vs i := by simp [vsK, hik]
      simp only [e1, e2]
      try rfl
theorem size_set (w : World) (a : Addr) (v : Value) : (w.setCell a v).heap.size = w.heap.size := by simp [World.setCell]
set_option maxRecDepth 100000 in
theorem right_root (p : Nat → Nat) (kk : Nat) : RightN (ndT p kk 0) := by
  have hod : addrOk od = true := by decide +kernel
  have hsd : addrOk sd = true := by decide +kernel
  have hrd : addrOk rd = true := by decide +kernel
  have hn : nameOk (ltN 0) = true := by decide +kernel
  refine ⟨hn, by simp [ndT], by simp [ndT, maxOk], .inl rfl, ?_, ?_, ?_⟩
  · refine ⟨by simp [ndT], List.pairwise_singleton _ _, fun x hx => ?_, (od, 5), by simp [ndT], rfl⟩
    have hx' : x ∈ [(od, 5)] := hx
    simp at hx'
    subst hx'
    exact ⟨hod, by omega, by omega, by omega⟩
  · show SubsOk (tsub kk 0)
    have hlt : rd.toList < sd.toList := by decide +kernel
    unfold tsub
    rw [if_pos rfl]
    split
    · refine ⟨by simp, List.pairwise_cons.2 ⟨fun x hx => ?_, List.pairwise_singleton _ _⟩, fun x hx => ?_⟩
      · simp at hx
        rw [hx]
        exact hlt
      · simp at hx
        rcases hx with rfl | rfl
        · exact ⟨hrd, by decide, by decide⟩
        · exact ⟨hsd, by decide, by decide⟩
    · refine ⟨by simp, List.pairwise_singleton _ _, fun x hx => ?_⟩
      simp at hx
      rw [hx]
      exact ⟨hrd, by decide, by decide⟩
  · exact ⟨by simp [ndT], fun x hx => by simp [ndT] at hx, by simp [ndT]⟩
theorem fits_root (p : Nat → Nat) (kk : Nat) : NdFits (ndT p kk 0) := by
  have h1 : Fits (ltN 0) := by unfold Fits; decide +kernel
  have h2 : Fits od := by unfold Fits; decide +kernel
  have h3 : Fits rd := by unfold Fits; decide +kernel
  have h4 : Fits sd := by unfold Fits; decide +kernel
  refine ⟨h1, Nat.zero_le _, fun x hx => ?_, fun x hx => ?_, fun x hx => by simp [ndT] at hx⟩
  · have hx' : x ∈ [(od, 5)] := hx
    simp at hx'
    rw [hx']
    exact h2
  · have hx' : x ∈ tsub kk 0 := hx
    unfold tsub at hx'
    rw [if_pos rfl] at hx'
    rcases List.mem_append.1 hx' with h | h
    · simp at h
      rw [h]
      exact h3
    · split at h
      · simp at h
        rw [h]
        exact h4
      · simp at h
end Go.Proofs.YtimhkgpjfppkmaaGreatDoor
