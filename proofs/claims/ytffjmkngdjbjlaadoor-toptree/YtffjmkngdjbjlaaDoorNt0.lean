/- A tree of nodes: who is told of each. -/
import Derived.Test.YtffjmkngdjbjlaaDoorNd8
namespace Go.Proofs.YtffjmkngdjbjlaaDoor
open Go.RowKit

def od : ByteArray := ⟨#[111, 64, 100]⟩
def sd : ByteArray := ⟨#[115, 64, 100]⟩
def rd : ByteArray := ⟨#[114, 64, 100]⟩
def ltN (i : Nat) : ByteArray := ⟨#[UInt8.ofNat (97 + i)]⟩
def tsub (k i : Nat) : List (ByteArray × Bool × Int) := (if i = 0 then [(rd, false, (0 : Int))] else []) ++ (if i = k then [(sd, false, (1 : Int))] else [])
/-- The node number i of the tree; p: the number of the one above. -/
def ndT (p : Nat → Nat) (k i : Nat) : Nd := ⟨ltN i, true, 0, 0, [(od, 5)], tsub k i, [], if i = 0 then ⟨#[]⟩ else ltN (p i)⟩
def nsT (p : Nat → Nat) (k m : Nat) : List Nd := (List.range m).map (ndT p k)
theorem nsT_len (p : Nat → Nat) (k m : Nat) : (nsT p k m).length = m := by simp [nsT]
theorem nsT_at (p : Nat → Nat) (k : Nat) {m i : Nat} (h : i < m) : (nsT p k m)[i]? = some (ndT p k i) := by simp [nsT, h]
theorem ltN_inj {i j : Nat} (hi : i < 100) (hj : j < 100) (h : ltN i = ltN j) : i = j := by
  have h1 : (ltN i).data = (ltN j).data := by rw [h]
  have h2 : UInt8.ofNat (97 + i) = UInt8.ofNat (97 + j) := by simpa [ltN] using h1
  have h3 := congrArg UInt8.toNat h2
  simp only [UInt8.toNat_ofNat'] at h3
  omega
theorem ltN_full (i : Nat) : (ltN i).size ≠ 0 := by
  show (1 : Nat) ≠ 0
  omega
theorem ltN_ne (i : Nat) : (⟨#[]⟩ : ByteArray) ≠ ltN i := fun h => by
  have := congrArg ByteArray.size h
  exact absurd this.symm (ltN_full i)
theorem plT (p : Nat → Nat) (k : Nat) {m : Nat} (hm : m ≤ 100) : ∀ j, j ≤ m → plTo (nsT p k m) j = (List.range j).map fun i => ⟨ltN i, i, i⟩
  | 0, _ => rfl
  | j + 1, h => by
    unfold plTo
    rw [nsT_at p k (show j < m by omega), plT p k hm j (by omega)]
    show plAdd _ _ _ = _
    unfold plAdd
    have h1 : getE ((List.range j).map fun i => (⟨ltN i, i, i⟩ : En)) (ndT p k j).name = none := getE_no fun x hx => by
      obtain ⟨i, hi, e⟩ := List.mem_map.1 hx
      subst e
      have := List.mem_range.1 hi
      intro he
      have := ltN_inj (show i < 100 by omega) (show j < 100 by omega) he
      omega
    rw [if_pos ⟨h1, ltN_full j⟩, List.range_succ, List.map_append]
    simp [ndT]
/-- The numbers above one, it first. -/
def up (p : Nat → Nat) : Nat → Nat → List Nat
  | 0, _ => []
  | f + 1, i => i :: (if i = 0 then [] else up p f (p i))
theorem ovGo_up {p : Nat → Nat} {k m : Nat} (hm : m ≤ 100) (hp : ∀ i, 0 < i → p i < i) : ∀ (f : Nat) (l : List En) (i : Nat), (∀ j, j ≤ i → ∃ x ∈ l, x.k = ltN j) → (∀ x ∈ l, ∃ j, j < m ∧ x.k = ltN j ∧ x.v = j) → i < m → ovGo (nsT p k m) f l (ltN i) = up p f i
  | 0, _, _, _, _, _ => rfl
  | f + 1, l, i, h1, h2, hi => by
    have hg : getE l (ltN i) = some i := by
      unfold getE
      cases hf : l.find? (fun x => decide (x.k = ltN i)) with
      | none =>
        obtain ⟨x, hx, e⟩ := h1 i (Nat.le_refl _)
        exact absurd (List.find?_eq_none.1 hf x hx) (by simp [e])
      | some y =>
        have e1 : y.k = ltN i := by simpa using List.find?_some hf
        obtain ⟨j, hj, e2, e3⟩ := h2 y (List.mem_of_find?_eq_some hf)
        have := ltN_inj (show i < 100 by omega) (show j < 100 by omega) (e1.symm.trans e2)
        simp [e3, this]
    rw [ovGo_some hg, nsT_at p k hi]
    show i :: ovGo _ f _ (if i = 0 then ⟨#[]⟩ else ltN (p i)) = i :: (if i = 0 then [] else up p f (p i))
    have h2' : ∀ x ∈ delL l (ltN i), ∃ j, j < m ∧ x.k = ltN j ∧ x.v = j := fun x hx => h2 x (List.mem_filter.1 hx).1
    split
    · rw [ovGo_none (getE_no fun x hx e => by
        obtain ⟨j, _, e2, _⟩ := h2' x hx
        exact ltN_ne j (e.symm.trans e2))]
    · rename_i hi0
      have hpi := hp i (by omega)
      rw [ovGo_up hm hp f _ (p i) (fun j hj => by
        obtain ⟨x, hx, e⟩ := h1 j (by omega)
        refine ⟨x, List.mem_filter.2 ⟨hx, ?_⟩, e⟩
        have : x.k ≠ ltN i := fun e2 => by
          have := ltN_inj (show j < 100 by omega) (show i < 100 by omega) (e.symm.trans e2)
          omega
        simp [this]) h2' (by omega)]
theorem ovT {p : Nat → Nat} {k m i : Nat} (hm : m ≤ 100) (hp : ∀ i, 0 < i → p i < i) (hi : i < m) : ovL (nsT p k m) (ndT p k i).parent = if i = 0 then [] else up p m (p i) := by
  unfold ovL
  rw [nsT_len, plT p k hm m (Nat.le_refl _)]
  have h2 : ∀ x ∈ ((List.range m).map fun i => (⟨ltN i, i, i⟩ : En)), ∃ j, j < m ∧ x.k = ltN j ∧ x.v = j := fun x hx => by
    obtain ⟨j, hj, e⟩ := List.mem_map.1 hx
    subst e
    exact ⟨j, List.mem_range.1 hj, rfl, rfl⟩
  show ovGo _ m _ (if i = 0 then ⟨#[]⟩ else ltN (p i)) = _
  split
  · rw [ovGo_none (getE_no fun x hx e => by
      obtain ⟨j, _, e2, _⟩ := h2 x hx
      exact ltN_ne j (e.symm.trans e2))]
  · have := hp i (by omega)
    exact ovGo_up hm hp m _ (p i) (fun j hj => ⟨⟨ltN j, j, j⟩, List.mem_map.2 ⟨j, List.mem_range.2 (by omega), rfl⟩, rfl⟩) h2 (by omega)
/-- Whom those above tell, from so many steps on. -/
def tgo (k : Nat) : List Nat → Nat → List ByteArray
  | [], _ => []
  | x :: S, s => reachL (s : Int) (tsub k x) ++ tgo k S (s + 1)
theorem tgo_snoc (k x : Nat) : ∀ (S : List Nat) (s : Nat), tgo k (S ++ [x]) s = tgo k S s ++ reachL ((s + S.length : Nat) : Int) (tsub k x)
  | [], s => by simp [tgo]
  | y :: S, s => by
    show reachL _ _ ++ tgo k (S ++ [x]) (s + 1) = (reachL _ _ ++ tgo k S (s + 1)) ++ _
    rw [tgo_snoc k x S (s + 1), List.append_assoc, show s + 1 + S.length = s + (y :: S).length by simp; omega]
theorem told_tgo (p : Nat → Nat) (k m : Nat) (nd : Nd) (S : List Nat) (hS : ∀ x ∈ S, x < m) : ∀ j, j ≤ S.length → toldTo (nsT p k m) S nd j = reachL 0 nd.subs ++ tgo k (S.take j) 1
  | 0, _ => by simp [toldTo, tgo]
  | j + 1, h => by
    have hj : j < S.length := by omega
    have e : ovS (nsT p k m) S j = tsub k S[j] := by
      unfold ovS
      rw [List.getElem?_eq_getElem hj]
      show (match (nsT p k m)[S[j]]? with | none => [] | some n => n.subs) = _
      rw [nsT_at p k (hS _ (List.getElem_mem hj))]
      rfl
    show toldTo (nsT p k m) S nd j ++ reachL ((j : Int) + 1) (ovS (nsT p k m) S j) = _
    rw [told_tgo p k m nd S hS j (by omega), e, List.take_succ_eq_append_getElem hj, tgo_snoc, List.append_assoc, List.length_take, Nat.min_eq_left (by omega), show ((1 + j : Nat) : Int) = (j : Int) + 1 by omega]
theorem up_lt {p : Nat → Nat} (hp : ∀ i, 0 < i → p i < i) : ∀ (f i : Nat), ∀ x ∈ up p f i, x ≤ i
  | 0, i, x, h => by simp [up] at h
  | f + 1, i, x, h => by
    unfold up at h
    rcases List.mem_cons.1 h with h | h
    · omega
    · split at h
      · simp at h
      · have := up_lt hp f (p i) x h
        have := hp i (by omega)
        omega
theorem far {p : Nat → Nat} (k : Nat) (hp : ∀ i, 0 < i → p i < i) : ∀ (f i s : Nat), i < f → 2 ≤ s → tgo k (up p f i) s = [rd]
  | 0, i, s, h, _ => by omega
  | f + 1, i, s, h, hs => by
    show reachL (s : Int) (tsub k i) ++ tgo k (if i = 0 then [] else up p f (p i)) (s + 1) = [rd]
    have e : reachL (s : Int) (tsub k i) = if i = 0 then [rd] else [] := by
      have h0 : ¬ ((s : Int) = 0) := by omega
      have h1 : ¬ ((s : Int) ≤ 1) := by omega
      have h0n : ¬ s = 0 := by omega
      have h1n : (1 : Int) < s := by omega
      unfold tsub
      split <;> split <;> simp [reachL, reachB, h0n, h1n]
    rw [e]
    split
    · rfl
    · have := hp i (by omega)
      rw [far k hp f (p i) (s + 1) (by omega) (by omega)]
      rfl
theorem close {p : Nat → Nat} (k : Nat) (hp : ∀ i, 0 < i → p i < i) (f i : Nat) (h : i < f) : tgo k (up p f i) 1 = if i = 0 then (if i = k then [rd, sd] else [rd]) else (if i = k then [sd, rd] else [rd]) := by
  obtain ⟨f, rfl⟩ : ∃ g, f = g + 1 := ⟨f - 1, by omega⟩
  show reachL ((1 : Nat) : Int) (tsub k i) ++ tgo k (if i = 0 then [] else up p f (p i)) 2 = _
  have e : reachL ((1 : Nat) : Int) (tsub k i) = (if i = 0 then [rd] else []) ++ (if i = k then [sd] else []) := by
    unfold tsub
    split <;> split <;> simp [reachL, reachB]
  rw [e]
  by_cases hi : i = 0
  · rw [if_pos hi, if_pos hi, if_pos hi]
    split <;> rfl
  · have := hp i (by omega)
    rw [if_neg hi, if_neg hi, if_neg hi, far k hp f (p i) 2 (by omega) (by omega)]
    split <;> rfl
/-- A node is told of to the one that asked for it, or for the one above. -/
def nearT (p : Nat → Nat) (k i : Nat) : Bool := decide (i = k) || (!decide (i = 0) && decide (p i = k))
def toldT (p : Nat → Nat) (k i : Nat) : List ByteArray := (if i = 0 then [rd] else []) ++ (if i = k then [sd] else []) ++ (if i = 0 then [] else (if p i = 0 then (if p i = k then [rd, sd] else [rd]) else (if p i = k then [sd, rd] else [rd])))
theorem told_tree {p : Nat → Nat} {k m i : Nat} (hm : m ≤ 100) (hp : ∀ i, 0 < i → p i < i) (hi : i < m) : toldTo (nsT p k m) (ovL (nsT p k m) (ndT p k i).parent) (ndT p k i) (ovL (nsT p k m) (ndT p k i).parent).length = toldT p k i := by
  rw [ovT hm hp hi]
  have e : reachL (0 : Int) (tsub k i) = (if i = 0 then [rd] else []) ++ (if i = k then [sd] else []) := by
    unfold tsub
    split <;> split <;> simp [reachL, reachB]
  by_cases h0 : i = 0
  · rw [if_pos h0]
    show reachL 0 (tsub k i) = _
    rw [e]
    unfold toldT
    simp only [h0, if_true, List.append_nil]
  · have hpi := hp i (by omega)
    rw [if_neg h0, told_tgo p k m _ _ (fun x hx => by have := up_lt hp m (p i) x hx; omega) _ (Nat.le_refl _), List.take_length]
    show reachL 0 (tsub k i) ++ _ = _
    rw [e, close k hp m (p i) (by omega)]
    unfold toldT
    simp only [h0, if_false]
theorem told_cases {p : Nat → Nat} (hp : ∀ i, 0 < i → p i < i) (k i : Nat) : (nearT p k i = false ∧ toldT p k i = [rd]) ∨ (nearT p k i = true ∧ (toldT p k i = [rd, sd] ∨ toldT p k i = [sd, rd])) := by
  unfold nearT toldT
  by_cases h0 : i = 0
  · subst h0
    by_cases hk : 0 = k <;> simp [hk]
  · have hpi := hp i (by omega)
    rw [if_neg h0, if_neg h0, decide_eq_false h0]
    by_cases hk : i = k
    · have h1 : ¬ p i = k := by omega
      rw [if_pos hk, decide_eq_true hk, if_neg h1, if_neg h1, ite_self]
      exact .inr ⟨rfl, .inr rfl⟩
    · rw [if_neg hk, decide_eq_false hk]
      by_cases h1 : p i = k
      · rw [if_pos h1, if_pos h1, decide_eq_true h1]
        by_cases h2 : p i = 0
        · rw [if_pos h2]
          exact .inr ⟨rfl, .inl rfl⟩
        · rw [if_neg h2]
          exact .inr ⟨rfl, .inr rfl⟩
      · rw [if_neg h1, if_neg h1, decide_eq_false h1, ite_self]
        exact .inl ⟨rfl, rfl⟩
theorem sort_two {a b : ByteArray} (h : a.toList ≤ b.toList) : sortS [a, b] = [a, b] := by
  unfold sortS
  simp [List.mergeSort, List.MergeSort.Internal.splitInTwo, h, ofS_toList]
theorem sort_two' {a b : ByteArray} (h : ¬ b.toList ≤ a.toList) : sortS [b, a] = [a, b] := by
  unfold sortS
  simp [List.mergeSort, List.MergeSort.Internal.splitInTwo, h, ofS_toList]
def tolS (p : Nat → Nat) (k i : Nat) : List ByteArray := if nearT p k i = true then [rd, sd] else [rd]
theorem sort_tree {p : Nat → Nat} (hp : ∀ i, 0 < i → p i < i) (k i : Nat) : sortS (toldT p k i) = tolS p k i := by
  have s1 : sortS [rd] = [rd] := by simp [sortS, ofS_toList]
  have s2 : sortS [rd, sd] = [rd, sd] := sort_two (by decide +kernel)
  have s3 : sortS [sd, rd] = [rd, sd] := sort_two' (by decide +kernel)
  unfold tolS
  rcases told_cases hp k i with ⟨h1, h2⟩ | ⟨h1, h2 | h2⟩ <;> rw [h1, h2]
  · rw [s1]; rfl
  · rw [s2]; rfl
  · rw [s3]; rfl
theorem role_tree {p : Nat → Nat} (hp : ∀ i, 0 < i → p i < i) (k i : Nat) : ∀ t ∈ sortS (toldT p k i), roleL (ndT p k i).affs t ≠ 1 := by
  intro t ht
  rw [sort_tree hp] at ht
  have h : t = rd ∨ t = sd := by
    unfold tolS at ht
    split at ht <;> simp at ht
    · exact ht
    · exact .inl ht
  rcases h with h | h <;> rw [h]
  · show roleL [(od, 5)] rd ≠ 1
    decide +kernel
  · show roleL [(od, 5)] sd ≠ 1
    decide +kernel
theorem compact_tree {p : Nat → Nat} (hp : ∀ i, 0 < i → p i < i) (k i : Nat) : Lib.compact ((sortS (toldT p k i)).map ByteArray.toList) = (sortS (toldT p k i)).map ByteArray.toList := by
  rw [sort_tree hp]
  unfold tolS
  split
  · decide +kernel
  · rfl
end Go.Proofs.YtffjmkngdjbjlaaDoor
