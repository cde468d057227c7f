/- settle: the writes that survive are let last. -/
import Derived.Test.YtfknjmfkkaoggaaD3
import Derived.Test.YtfknjmfkkaoggaaDR
namespace Go.Proofs.Ytfknjmfkkaoggaa
open Go.RowKit Go.Shelf
attribute [local go_sem] Oper.semAt_some

/-- What lasts behind the first k writes, of which some survive. -/
def landAt (d : Dv) (sv : Nat → Bool) : Nat → List Sec
  | 0 => d.las
  | k + 1 => match d.wr[k]? with
    | some x => if sv k then (landAt d sv k).set x.1 x.2 else landAt d sv k
    | none => landAt d sv k
def settled (d : Dv) (sv : Nat → Bool) : Dv := ⟨landAt d sv d.wr.length, []⟩
theorem landAt_succ {d : Dv} {sv : Nat → Bool} {k : Nat} {x : Nat × Sec} (h : d.wr[k]? = some x) : landAt d sv (k + 1) = if sv k then (landAt d sv k).set x.1 x.2 else landAt d sv k := by
  simp [landAt, h]
theorem landAt_len (d : Dv) (sv : Nat → Bool) : ∀ k, (landAt d sv k).length = d.las.length
  | 0 => rfl
  | k + 1 => by
    have := landAt_len d sv k
    simp only [landAt]
    split
    · split
      · simpa using this
      · exact this
    · exact this
theorem landAt_ok {d : Dv} (hd : DvOk d) (sv : Nat → Bool) : ∀ k, ∀ s ∈ landAt d sv k, s.length = 64
  | 0 => hd.las
  | k + 1 => by
    have := landAt_ok hd sv k
    simp only [landAt]
    split
    · rename_i x hx
      split
      · intro s hs
        rcases List.mem_or_eq_of_mem_set hs with h | h
        · exact this s h
        · rw [h]
          exact (hd.wr x (List.mem_of_getElem? hx)).2
      · exact this
    · exact this
theorem settled_ok {d : Dv} (hd : DvOk d) (sv : Nat → Bool) : DvOk (settled d sv) := by
  have h := landAt_len d sv d.wr.length
  exact ⟨landAt_ok hd sv _, by simp only [settled, h]; exact hd.pos, by simp only [settled, h]; exact hd.most, fun x hx => by simp [settled] at hx, by simp [settled]⟩

theorem put_take (c vs : List Value) (a m k : Nat) (h1 : a + k ≤ m) (h2 : m ≤ c.length) (h3 : vs.length = k) : (c.take a ++ vs ++ c.drop (a + k)).take m = (c.take m).take a ++ vs ++ (c.take m).drop (a + k) := by
  have hl : (c.take a ++ vs).length = a + k := by simp; omega
  rw [List.take_append, hl, List.take_of_length_le (by omega), List.drop_take, List.take_take, Nat.min_eq_left (by omega)]
theorem heap_setCells (g : Nat) (e : TypeId) : ∀ (vs : List Value) (o : Nat) (w : World) (cur : Array Value), w.heap[g]? = some (.cells cur e) → o + vs.length ≤ cur.size → ∃ cur' : Array Value, (w.setCells g o vs).heap[g]? = some (.cells cur' e) ∧ cur'.toList = cur.toList.take o ++ vs ++ cur.toList.drop (o + vs.length)
  | [], o, w, cur, h, _ => ⟨cur, h, by simp⟩
  | v :: r, o, w, cur, h, hl => by
    have h1 := heap_setCell_same w g o cur e v h
    simp only [List.length_cons] at hl
    obtain ⟨cur', h2, h3⟩ := heap_setCells g e r (o + 1) (w.setCell ⟨g, o, none⟩ v) (cur.setIfInBounds o v) h1 (by simp; omega)
    refine ⟨cur', h2, ?_⟩
    rw [h3]
    simp only [Array.toList_setIfInBounds, List.length_cons]
    rw [List.take_succ_eq_append_getElem (by simp; omega), List.getElem_set_self, List.take_set_of_le (Nat.le_refl _), List.drop_set_of_lt (by omega)]
    simp [List.append_assoc, Nat.add_assoc, Nat.add_comm 1]
theorem heap_setCells_other (g : Nat) : ∀ (vs : List Value) (o : Nat) (w : World) (j : Nat), j ≠ g → (w.setCells g o vs).heap[j]? = w.heap[j]?
  | [], _, _, _, _ => rfl
  | v :: r, o, w, j, h => (heap_setCells_other g r (o + 1) (w.setCell ⟨g, o, none⟩ v) j h).trans (Below.heap_setCell _ _ _ _ h)
theorem below_setC {B g : Nat} (hg : B ≤ g) : ∀ (vs : List Value) (o : Nat) (w : World), Below B w (w.setCells g o vs)
  | [], _, _ => Below.refl _ _
  | v :: r, o, w => ((Below.refl _ w).setCell (p := ⟨g, o, none⟩) hg v).trans (below_setC hg r (o + 1) _)
/-- A sector of a row is stored anew. -/
theorem own_setSec {w : World} {base e n g gc i : Nat} {l : List Sec} {s : Sec} (h : w.ownsRow base e 64 (.slice (some ⟨g, 0, none⟩) n gc) n (lasC l)) (hl : l.length = n) (hok : ∀ s ∈ l, s.length = 64) (hi : i < n) (hs : s.length = 64) : (w.setCells g (i * 64) (Lib.byteCells s)).ownsRow base e 64 (.slice (some ⟨g, 0, none⟩) n gc) n (lasC (l.set i s)) := by
  obtain ⟨h1, ⟨h2, _⟩ | ⟨g', cap, cur, hv, x1, x2, x3, x4, x5, x6⟩⟩ := h
  · cases h2
  · cases hv
    have hb := byteCells_len s
    obtain ⟨cur', y1, y2⟩ := heap_setCells g e (Lib.byteCells s) (i * 64) w cur x2 (by rw [hb, hs, x5]; have : (i + 1) * 64 ≤ gc * 64 := Nat.mul_le_mul_right _ (by omega); omega)
    have hfl := flat_set Lib.byteCells 64 l (fun s hs => (byteCells_len s).trans (hok s hs)) i s (by omega) (by omega)
    have hsz : cur'.size = gc * 64 := by
      have := congrArg List.length y2
      simp only [Array.length_toList, List.length_append, List.length_take, List.length_drop, hb, hs] at this
      have h4 : (i + 1) * 64 ≤ gc * 64 := Nat.mul_le_mul_right _ (by omega)
      omega
    refine ⟨?_, .inr ⟨g, gc, cur', rfl, x1, y1, x3, x4, hsz, ?_⟩⟩
    · unfold lasC
      rw [flat_len Lib.byteCells 64 _ (fun t ht => ?_)]
      · simp [hl]
      · rw [byteCells_len]
        rcases List.mem_or_eq_of_mem_set ht with h | h
        · exact hok t h
        · rw [h, hs]
    · have h4 : (i + 1) * 64 ≤ n * 64 := Nat.mul_le_mul_right _ (by omega)
      have h5 : n * 64 ≤ gc * 64 := Nat.mul_le_mul_right _ x3
      show cur'.toList.take (n * 64) = lasC (l.set i s)
      unfold lasC
      rw [hfl, y2]
      have e1 : List.flatMap Lib.byteCells l = cur.toList.take (n * 64) := x6.symm
      rw [e1, hb, hs]
      exact put_take _ _ _ _ 64 (by omega) (by simp; omega) (by omega)
end Go.Proofs.Ytfknjmfkkaoggaa
