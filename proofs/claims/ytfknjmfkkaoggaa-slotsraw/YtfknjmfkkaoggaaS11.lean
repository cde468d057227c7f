/- Slots: put, what stands while it writes. -/
import Derived.Test.YtfknjmfkkaoggaaS10
import Derived.Test.YtfknjmfkkaoggaaDRc
namespace Go.Proofs.Ytfknjmfkkaoggaa
open Go.RowKit Go.Shelf

/-- The device with the first k sectors of bytes written to a half. -/
def putK (d : Dv) (n : Nat) (l : List UInt8) : Nat → Dv
  | 0 => d
  | k + 1 => dvWrite (putK d n l k) (2 + n * ((d.las.length - 2) / 2) + k) (secOf l k)
theorem putK_las (d : Dv) (n : Nat) (l : List UInt8) : ∀ k, (putK d n l k).las = d.las
  | 0 => rfl
  | k + 1 => putK_las d n l k
theorem putK_wr (d : Dv) (n : Nat) (l : List UInt8) : ∀ k, (putK d n l k).wr.length = d.wr.length + k
  | 0 => rfl
  | k + 1 => by
    show ((putK d n l k).wr ++ [_]).length = _
    rw [List.length_append, putK_wr d n l k]
    rfl
theorem putK_ok {d : Dv} (hd : DvOk d) {n : Nat} (hn : n ≤ 1) (l : List UInt8) (h2 : 4 ≤ d.las.length) : ∀ k, k ≤ (d.las.length - 2) / 2 → d.wr.length + k ≤ 1000000 → DvOk (putK d n l k)
  | 0, _, _ => hd
  | k + 1, hk, hf => by
    refine dvWrite_ok (putK_ok hd hn l h2 k (by omega) (by omega)) ?_ (secOf_len l k) (by rw [putK_wr]; omega)
    rw [putK_las]
    have : n * ((d.las.length - 2) / 2) ≤ (d.las.length - 2) / 2 := by
      rcases (show n = 0 ∨ n = 1 by omega) with rfl | rfl <;> omega
    omega
theorem five_new (w : World) (a b c d e : Obj) : ∃ W, ((((w.alloc a).alloc b).alloc c).alloc d).alloc e = W ∧ W.heap[w.heap.size]? = some a ∧ W.heap[w.heap.size + 1]? = some b ∧ W.heap[w.heap.size + 2]? = some c ∧ W.heap[w.heap.size + 3]? = some d ∧ W.heap[w.heap.size + 4]? = some e ∧ W.heap.size = w.heap.size + 5 ∧ Below w.heap.size w W := by
  obtain ⟨W3, h3, a0, a1, a2, z3, b3⟩ := three_new w a b c
  obtain ⟨W5, h5, c0, c1, z5, b5⟩ := two_new W3 d e
  rw [z3] at c0 c1 z5
  refine ⟨W5, by rw [h3]; exact h5, (b5.block _ (by omega)).trans a0, (b5.block _ (by omega)).trans a1, (b5.block _ (by omega)).trans a2, c0, c1, z5, b3.trans (b5.mono b3.size)⟩
theorem own_obj {w : World} {base : Nat} {e : TypeId} {size : Nat} {v : Value} {n : Nat} {xs : List Value} (h : w.ownsRow base e size v n xs) (g : Nat) (hg : v.ownBlock = some g) : ∃ cs, w.heap[g]? = some (.cells cs e) := by
  obtain ⟨_, ⟨rfl, _⟩ | ⟨g', cap, cur, rfl, x1, x2, x3⟩⟩ := h
  · cases hg
  · cases hg
    exact ⟨_, x2⟩
/-- What stands while sectors are written: the device, four boxes, all else. -/
structure PutI (base p : Nat) (vl vw : Value) (d' : Dv) (o0 o1 o2 o3 : Value) (T0 T1 T2 T3 : TypeId) (c1 : List Value) (w W : World) (vl' vw' : Value) : Prop where
  dev : IsD base p d' vl' vw' W
  far : ∀ j, foot p vl' vw' j → j < w.heap.size ∨ w.heap.size + 5 ≤ j
  b0 : W.heap[w.heap.size]? = some (.cells #[o0] T0)
  b1 : W.heap[w.heap.size + 1]? = some (.cells (o1 :: c1).toArray T1)
  b2 : W.heap[w.heap.size + 2]? = some (.cells #[o2] T2)
  b3 : W.heap[w.heap.size + 3]? = some (.cells #[o3] T3)
  fr : Frees base (foot p vl vw) w W
  new : ∀ j, foot p vl' vw' j → foot p vl vw j ∨ w.heap.size ≤ j
  big : w.heap.size + 5 ≤ W.heap.size
theorem PutI.steady {base p : Nat} {vl vw : Value} {d' : Dv} {o0 o1 o2 o3 : Value} {T0 T1 T2 T3 : TypeId} {c1 : List Value} {w A B : World} {vl' vw' : Value} (h : PutI base p vl vw d' o0 o1 o2 o3 T0 T1 T2 T3 c1 w A vl' vw') (hB : Below base A B) (M : Blk) (hM : ∀ j, M j → w.heap.size + 4 ≤ j) (hf : ∀ j, foot p vl' vw' j → ¬ M j)
    (hc : ∀ (j : Nat) (o : Obj), A.heap[j]? = some o → (o.isCells = true ∨ j < w.heap.size + 5) → ¬ M j → B.heap[j]? = some o) : PutI base p vl vw d' o0 o1 o2 o3 T0 T1 T2 T3 c1 w B vl' vw' := by
  obtain ⟨i0, i1, i2, i3, i4, i5, i6, i7, i8⟩ := h
  refine ⟨i0.same fun j hj => ?_, i1, hc _ _ i2 (.inl rfl) (fun h => by have := hM _ h; omega), hc _ _ i3 (.inl rfl) (fun h => by have := hM _ h; omega), hc _ _ i4 (.inl rfl) (fun h => by have := hM _ h; omega), hc _ _ i5 (.inl rfl) (fun h => by have := hM _ h; omega), ⟨i6.below.trans hB, fun j hj hn => ?_⟩, i7, by have := hB.size; omega⟩
  · have hnm := hf j hj
    rcases hj with rfl | hj | hj
    · rw [i0.here]
      exact hc _ _ i0.here (.inl rfl) hnm
    · obtain ⟨cs, hcs⟩ := own_obj i0.las j hj
      rw [hcs]
      exact hc _ _ hcs (.inl rfl) hnm
    · obtain ⟨cs, hcs⟩ := own_obj i0.wr j hj
      rw [hcs]
      exact hc _ _ hcs (.inl rfl) hnm
  · obtain ⟨o, ho⟩ : ∃ o, A.heap[j]? = some o := ⟨_, Array.getElem?_eq_getElem (Nat.lt_of_lt_of_le hj i6.below.size)⟩
    rw [← i6.same j hj hn, ho]
    exact hc j o ho (.inr (by omega)) (fun h => by have := hM _ h; omega)
/-- One write more. -/
theorem PutI.wrote {base p : Nat} {vl vw : Value} {d' d2 : Dv} {o0 o1 o2 o3 : Value} {T0 T1 T2 T3 : TypeId} {c1 : List Value} {w A A1 B : World} {vl' vw' : Value} (h : PutI base p vl vw d' o0 o1 o2 o3 T0 T1 T2 T3 c1 w A vl' vw') (hA : Below A.heap.size A A1) (hb : base ≤ A.heap.size) (ht : ToD base p vl' vw' d2 A1 B) : ∃ vl2 vw2, PutI base p vl vw d2 o0 o1 o2 o3 T0 T1 T2 T3 c1 w B vl2 vw2 ∧ (∀ j, foot p vl2 vw2 j → foot p vl' vw' j ∨ A.heap.size ≤ j) ∧ Below base A B ∧ (∀ j, j < A.heap.size → ¬ foot p vl' vw' j → B.heap[j]? = A.heap[j]?) := by
  obtain ⟨vl2, vw2, h1, h2, h3⟩ := ht
  obtain ⟨i0, i1, i2, i3, i4, i5, i6, i7, i8⟩ := h
  have hs3 : w.heap.size + 3 < A.heap.size := hp_lt i5
  have hsz := hA.size
  have hsame : ∀ j, j < A.heap.size → ¬ foot p vl' vw' j → B.heap[j]? = A.heap[j]? := fun j hj hn => (h2.same j (by omega) hn).trans (hA.block j hj)
  have hbx : ∀ j, w.heap.size ≤ j → j < w.heap.size + 4 → ¬ foot p vl' vw' j := fun j h1 h2 hf => by have := i1 j hf; omega
  refine ⟨vl2, vw2, ⟨h1, fun j hj => ?_, (hsame _ (by omega) (hbx _ (by omega) (by omega))).trans i2, (hsame _ (by omega) (hbx _ (by omega) (by omega))).trans i3, (hsame _ (by omega) (hbx _ (by omega) (by omega))).trans i4, (hsame _ (by omega) (hbx _ (by omega) (by omega))).trans i5, ⟨i6.below.trans ((hA.mono hb).trans h2.below), fun j hj hn => ?_⟩, fun j hj => ?_, by have := h2.below.size; omega⟩, fun j hj => (h3 j hj).imp id (fun h => by omega), (hA.mono hb).trans h2.below, hsame⟩
  · rcases h3 j hj with h | h
    · exact i1 j h
    · exact .inr (by omega)
  · refine (hsame j (Nat.lt_of_lt_of_le hj i6.below.size) (fun hf => ?_)).trans (i6.same j hj hn)
    rcases i7 j hf with h | h
    · exact hn h
    · omega
  · rcases h3 j hj with h | h
    · exact i7 j h
    · exact .inr (by have := i6.below.size; omega)
end Go.Proofs.Ytfknjmfkkaoggaa
