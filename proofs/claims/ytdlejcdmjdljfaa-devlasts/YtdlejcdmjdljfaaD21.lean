/- Which sectors a write that survives goes to. -/
import Derived.Test.YtdlejcdmjdljfaaD20
namespace Go.Proofs.Ytdlejcdmjdljfaa
open Go.RowKit Go.Shelf

/-- A device behind a write that is tried. -/
def lstep (d : Dv) (x : Dd) : Dv := if wrongI d.las.length x.i = 0 then dvWrite d x.i.toNat (allC x.c) else d
def lastD (d : Dv) (es : List Dd) (k : Nat) : Dv := (es.take k).foldl lstep d
theorem lastD_succ {d : Dv} {es : List Dd} {k : Nat} {x : Dd} (h : es[k]? = some x) : lastD d es (k + 1) = lstep (lastD d es k) x := by
  unfold lastD
  rw [List.take_add_one, h]
  simp
theorem lstep_las (d : Dv) (x : Dd) : (lstep d x).las = d.las ∧ (lstep d x).wr.length ≤ d.wr.length + 1 := by
  unfold lstep
  split
  · simp [dvWrite]
  · simp
theorem lstep_ok {d : Dv} (hd : DvOk d) (x : Dd) (hf : d.wr.length < 1000000) : DvOk (lstep d x) := by
  unfold lstep
  rcases wrongI_or d.las.length x.i with ⟨h1, h2, h3⟩ | h
  · rw [if_pos h1]
    exact dvWrite_ok hd h3 (fillS_len _ _ (Nat.le_refl _)) hf
  · rw [if_neg (by omega)]
    exact hd
theorem lastD_all {d : Dv} {es : List Dd} (hd : DvOk d) : ∀ k, d.wr.length + k < 1000000 → DvOk (lastD d es k) ∧ (lastD d es k).wr.length ≤ d.wr.length + k ∧ (lastD d es k).las = d.las
  | 0, _ => by simp [lastD, hd]
  | k + 1, h => by
    obtain ⟨h1, h2, h3⟩ := lastD_all (es := es) hd k (by omega)
    cases hx : es[k]? with
    | none =>
      have e : lastD d es (k + 1) = lastD d es k := by
        unfold lastD
        rw [List.take_add_one, hx]
        simp
      rw [e]
      exact ⟨h1, by omega, h3⟩
    | some x =>
      rw [lastD_succ hx]
      have := lstep_las (lastD d es k) x
      exact ⟨lstep_ok h1 x (by omega), by omega, by rw [this.1, h3]⟩
/-- Which of eight sectors a write that survives goes to. -/
def touchAt (wr : List (Nat × Sec)) (sv : Nat → Bool) : Nat → List Bool
  | 0 => List.replicate 8 false
  | k + 1 => match wr[k]? with
    | some x => if sv k then (touchAt wr sv k).set x.1 true else touchAt wr sv k
    | none => touchAt wr sv k
theorem touchAt_len (wr : List (Nat × Sec)) (sv : Nat → Bool) : ∀ k, (touchAt wr sv k).length = 8
  | 0 => by simp [touchAt]
  | k + 1 => by
    have := touchAt_len wr sv k
    simp only [touchAt]
    split
    · split
      · simpa using this
      · exact this
    · exact this
theorem touchAt_ahead (wr : List (Nat × Sec)) (x : Nat × Sec) (sv : Nat → Bool) : ∀ k, k ≤ wr.length → touchAt (wr ++ [x]) sv k = touchAt wr sv k
  | 0, _ => rfl
  | k + 1, h => by
    have ih := touchAt_ahead wr x sv k (by omega)
    simp only [touchAt, ih, List.getElem?_append_left (show k < wr.length by omega)]
theorem touchAt_snoc (wr : List (Nat × Sec)) (x : Nat × Sec) (sv : Nat → Bool) : touchAt (wr ++ [x]) sv (wr.length + 1) = if sv wr.length then (touchAt wr sv wr.length).set x.1 true else touchAt wr sv wr.length := by
  simp only [touchAt, touchAt_ahead wr x sv wr.length (Nat.le_refl _), List.getElem?_concat_length]
theorem touch_keep (d : Dv) (sv : Nat → Bool) (b : Nat) : ∀ k, (touchAt d.wr sv k)[b]? = some false → (landAt d sv k)[b]? = d.las[b]?
  | 0, _ => rfl
  | k + 1, h => by
    simp only [touchAt] at h
    simp only [landAt]
    cases hx : d.wr[k]? with
    | none =>
      rw [hx] at h
      exact touch_keep d sv b k h
    | some x =>
      rw [hx] at h
      simp only at h ⊢
      cases hs : sv k with
      | false =>
        rw [hs] at h
        exact touch_keep d sv b k (by simpa using h)
      | true =>
        rw [hs] at h
        simp only [if_true] at h ⊢
        by_cases hb : x.1 = b
        · rw [hb, List.getElem?_set_self'] at h
          cases hq : (touchAt d.wr sv k)[b]? with
          | none => simp [hq] at h
          | some u => simp [hq] at h
        · rw [List.getElem?_set_ne hb] at h ⊢
          exact touch_keep d sv b k h
theorem readS_settled (d : Dv) (sv : Nat → Bool) (b : Nat) : readS (settled d sv) b = (landAt d sv d.wr.length).getD b sec0 := by
  simp [readS, readAt, settled]
/-- Eight bools in a block. -/
def boolA (l : List Bool) : Array Value := (l.map Value.bool).toArray
theorem boolA_cell {w : World} {b : Nat} {l : List Bool} {T : TypeId} {j : Nat} {v : Bool} (h : w.heap[b]? = some (.cells (boolA l) T)) (hj : l[j]? = some v) : w.cell? ⟨b, j, none⟩ = some (.bool v) ∧ w.frozen? ⟨b, j, none⟩ = false := by
  refine ⟨?_, by simp [World.frozen?, h]⟩
  rw [cell_of_row w b j _ _ _ h]
  simp [boolA, hj]
theorem boolA_set (l : List Bool) (j : Nat) (v : Bool) : (boolA l).setIfInBounds j (.bool v) = boolA (l.set j v) := by
  simp [boolA, List.map_set]
end Go.Proofs.Ytdlejcdmjdljfaa
