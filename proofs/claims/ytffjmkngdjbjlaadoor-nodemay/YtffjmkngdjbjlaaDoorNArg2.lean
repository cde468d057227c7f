/- Nodes and edits that are handed in, as they are read. -/
import Derived.Test.YtffjmkngdjbjlaaDoorQP
import Derived.Test.YtffjmkngdjbjlaaDoorNe23
import Derived.Deep.Slices
import Derived.ChangeArms
namespace Go.Proofs.YtffjmkngdjbjlaaDoor
open Go.RowKit Go.Deep Go.ChangeShapes Go.WideShapes

instance : Inhabited Ed := ⟨⟨0, ⟨#[]⟩, ⟨#[]⟩, 0, 0, false, 0, 0, ⟨#[]⟩, ⟨#[]⟩⟩⟩
section
variable {H : Type} {enc : TypeId × Value → H} {W : World} {fuel : Nat}
theorem n_cells9 : Tryd.prog.cellsOf 9 = 1 := by kernel_rfl
theorem n_cells3 : Tryd.prog.cellsOf 3 = 1 := by kernel_rfl
theorem n_cells4 : Tryd.prog.cellsOf 4 = 1 := by kernel_rfl
theorem n_cellsRole : Tryd.prog.cellsOf 33 = 1 := by kernel_rfl
theorem n_cellsAcc : Tryd.prog.cellsOf 22 = 1 := by kernel_rfl
theorem u8_nat {z : Int} (w : (Lit.int .u8 z).wf = true) : ∃ k : Nat, z = k ∧ k < 256 := by
  have m0 : IntKind.u8.min = 0 := rfl
  have m1 : IntKind.u8.max = 255 := rfl
  simp [Lit.wf, m0, m1] at w
  exact ⟨z.toNat, by omega, by omega⟩
theorem n_cellsAff : Tryd.prog.cellsOf 55 = 2 := by kernel_rfl
theorem n_cellsSlAff : Tryd.prog.cellsOf 24 = 1 := by kernel_rfl
theorem n_cellsSub : Tryd.prog.cellsOf 39 = 3 := by kernel_rfl
theorem n_cellsSlSub : Tryd.prog.cellsOf 25 = 1 := by kernel_rfl
theorem n_cellsItem : Tryd.prog.cellsOf 50 = 3 := by kernel_rfl
theorem n_cellsSlItem : Tryd.prog.cellsOf 26 = 1 := by kernel_rfl
theorem n_cellsEdit : Tryd.prog.cellsOf 35 = 10 := by kernel_rfl
theorem read_Aff {cs : List Value} {x : DataW H × List MemPlace} (h : DataW.trod enc Tryd.prog W 0 (fun _ => true) true fuel 55 cs = some x) (hl : cs.length = 2) :
    ∃ y : ByteArray × Nat, cs = [.string y.1, .int .u8 y.2] ∧ Fits y.1 := by
  match cs, hl with
  | [c0, c1], _ =>
  obtain ⟨xs, m, _, rfl, _, hlen, hf⟩ := DataW.trod_struct Tryd.underlying55 h
  match xs, hlen with
  | [y0, y1], _ =>
  have h0 : DataW.trod enc Tryd.prog W 0 (fun _ => true) true m 9 _ = some y0 := hf 0 _ rfl
  obtain ⟨z0, e0, _, w0⟩ := DataW.trod_string Tryd.underlying9 h0
  have h1 : DataW.trod enc Tryd.prog W 0 (fun _ => true) true m 33 _ = some y1 := hf 1 _ rfl
  obtain ⟨v1, e1, _, w1⟩ := DataW.trod_int Tryd.underlying33 h1
  obtain ⟨z1, rfl, _⟩ := u8_nat w1
  simp [n_cells9, n_cellsRole] at e0 e1
  subst e0 e1
  unfold maxLen at w0
  exact ⟨(z0, z1), rfl, w0⟩
theorem read_Sub {cs : List Value} {x : DataW H × List MemPlace} (h : DataW.trod enc Tryd.prog W 0 (fun _ => true) true fuel 39 cs = some x) (hl : cs.length = 3) :
    ∃ y : ByteArray × Bool × Int, cs = [.string y.1, .bool y.2.1, .int .i64 y.2.2] ∧ Fits y.1 := by
  match cs, hl with
  | [c0, c1, c2], _ =>
  obtain ⟨xs, m, _, rfl, _, hlen, hf⟩ := DataW.trod_struct Tryd.underlying39 h
  match xs, hlen with
  | [y0, y1, y2], _ =>
  have h0 : DataW.trod enc Tryd.prog W 0 (fun _ => true) true m 9 _ = some y0 := hf 0 _ rfl
  obtain ⟨z0, e0, _, w0⟩ := DataW.trod_string Tryd.underlying9 h0
  have h1 : DataW.trod enc Tryd.prog W 0 (fun _ => true) true m 4 _ = some y1 := hf 1 _ rfl
  obtain ⟨z1, e1, _⟩ := DataW.trod_bool Tryd.underlying4 h1
  have h2 : DataW.trod enc Tryd.prog W 0 (fun _ => true) true m 3 _ = some y2 := hf 2 _ rfl
  obtain ⟨z2, e2, _, w2⟩ := DataW.trod_int Tryd.underlying3 h2
  simp [n_cells3, n_cells4, n_cells9] at e0 e1 e2
  subst e0 e1 e2
  unfold maxLen at w0
  exact ⟨(z0, z1, z2), rfl, w0⟩
theorem read_Item {cs : List Value} {x : DataW H × List MemPlace} (h : DataW.trod enc Tryd.prog W 0 (fun _ => true) true fuel 50 cs = some x) (hl : cs.length = 3) :
    ∃ y : ByteArray × ByteArray × ByteArray, cs = [.string y.1, .string y.2.1, .string y.2.2] ∧ Fits y.1 ∧ Fits y.2.1 ∧ Fits y.2.2 := by
  match cs, hl with
  | [c0, c1, c2], _ =>
  obtain ⟨xs, m, _, rfl, _, hlen, hf⟩ := DataW.trod_struct Tryd.underlying50 h
  match xs, hlen with
  | [y0, y1, y2], _ =>
  have h0 : DataW.trod enc Tryd.prog W 0 (fun _ => true) true m 9 _ = some y0 := hf 0 _ rfl
  obtain ⟨z0, e0, _, w0⟩ := DataW.trod_string Tryd.underlying9 h0
  have h1 : DataW.trod enc Tryd.prog W 0 (fun _ => true) true m 9 _ = some y1 := hf 1 _ rfl
  obtain ⟨z1, e1, _, w1⟩ := DataW.trod_string Tryd.underlying9 h1
  have h2 : DataW.trod enc Tryd.prog W 0 (fun _ => true) true m 9 _ = some y2 := hf 2 _ rfl
  obtain ⟨z2, e2, _, w2⟩ := DataW.trod_string Tryd.underlying9 h2
  simp [n_cells9] at e0 e1 e2
  subst e0 e1 e2
  unfold maxLen at w0 w1 w2
  exact ⟨(z0, z1, z2), rfl, ⟨w0, w1, w2⟩⟩
theorem read_Edit {cs : List Value} {x : DataW H × List MemPlace} (h : DataW.trod enc Tryd.prog W 0 (fun _ => true) true fuel 35 cs = some x) (hl : cs.length = 10) :
    ∃ y : Ed, cs = edC y ∧ EdFits y := by
  match cs, hl with
  | [c0, c1, c2, c3, c4, c5, c6, c7, c8, c9], _ =>
  obtain ⟨xs, m, _, rfl, _, hlen, hf⟩ := DataW.trod_struct Tryd.underlying35 h
  match xs, hlen with
  | [y0, y1, y2, y3, y4, y5, y6, y7, y8, y9], _ =>
  have h0 : DataW.trod enc Tryd.prog W 0 (fun _ => true) true m 3 _ = some y0 := hf 0 _ rfl
  obtain ⟨z0, e0, _, w0⟩ := DataW.trod_int Tryd.underlying3 h0
  have h1 : DataW.trod enc Tryd.prog W 0 (fun _ => true) true m 9 _ = some y1 := hf 1 _ rfl
  obtain ⟨z1, e1, _, w1⟩ := DataW.trod_string Tryd.underlying9 h1
  have h2 : DataW.trod enc Tryd.prog W 0 (fun _ => true) true m 9 _ = some y2 := hf 2 _ rfl
  obtain ⟨z2, e2, _, w2⟩ := DataW.trod_string Tryd.underlying9 h2
  have h3 : DataW.trod enc Tryd.prog W 0 (fun _ => true) true m 3 _ = some y3 := hf 3 _ rfl
  obtain ⟨z3, e3, _, w3⟩ := DataW.trod_int Tryd.underlying3 h3
  have h4 : DataW.trod enc Tryd.prog W 0 (fun _ => true) true m 3 _ = some y4 := hf 4 _ rfl
  obtain ⟨z4, e4, _, w4⟩ := DataW.trod_int Tryd.underlying3 h4
  have h5 : DataW.trod enc Tryd.prog W 0 (fun _ => true) true m 4 _ = some y5 := hf 5 _ rfl
  obtain ⟨z5, e5, _⟩ := DataW.trod_bool Tryd.underlying4 h5
  have h6 : DataW.trod enc Tryd.prog W 0 (fun _ => true) true m 33 _ = some y6 := hf 6 _ rfl
  obtain ⟨v6, e6, _, w6⟩ := DataW.trod_int Tryd.underlying33 h6
  obtain ⟨z6, rfl, _⟩ := u8_nat w6
  have h7 : DataW.trod enc Tryd.prog W 0 (fun _ => true) true m 22 _ = some y7 := hf 7 _ rfl
  obtain ⟨v7, e7, _, w7⟩ := DataW.trod_int Tryd.underlying22 h7
  obtain ⟨z7, rfl, _⟩ := u8_nat w7
  have h8 : DataW.trod enc Tryd.prog W 0 (fun _ => true) true m 9 _ = some y8 := hf 8 _ rfl
  obtain ⟨z8, e8, _, w8⟩ := DataW.trod_string Tryd.underlying9 h8
  have h9 : DataW.trod enc Tryd.prog W 0 (fun _ => true) true m 9 _ = some y9 := hf 9 _ rfl
  obtain ⟨z9, e9, _, w9⟩ := DataW.trod_string Tryd.underlying9 h9
  simp [n_cells3, n_cells4, n_cells9, n_cellsAcc, n_cellsRole] at e0 e1 e2 e3 e4 e5 e6 e7 e8 e9
  subst e0 e1 e2 e3 e4 e5 e6 e7 e8 e9
  unfold maxLen at w1 w2 w8 w9
  exact ⟨⟨z0, z1, z2, z3, z4, z5, z6, z7, z8, z9⟩, rfl, ⟨w1, w2, w8, w9⟩⟩
def cells_Aff (y : ByteArray × Nat) : List Value := [.string y.1, .int .u8 y.2]
theorem list_Aff {v : Value} {d : DataW H} {pl : List MemPlace} (h : DataW.trod enc Tryd.prog W 0 (fun _ => true) true fuel 24 [v] = some (d, pl)) :
    ∃ (ao : Option Addr) (l : List (ByteArray × Nat)) (cap : Nat), v = .slice ao l.length cap ∧ l.length ≤ cap ∧ ∀ (i : Nat) (x : ByteArray × Nat), l[i]? = some x → (Fits x.1) ∧ ∃ b off, ao = some ⟨b, off, none⟩ ∧ b < W.heap.size ∧ ∀ j (h : j < 2), W.cell? ⟨b, off + i * 2 + j, none⟩ = some ((cells_Aff x)[j]'h) := by
  rcases open_slice Tryd.underlying24 h with ⟨hcs, _⟩ | ⟨a, len, cap, m, n, D, Pl, hcs, _, hl, hcm, hm, hx, hc⟩
  · cases hcs
    exact ⟨none, [], 0, rfl, by simp, fun k x hk => by simp at hk⟩
  · cases hcs
    simp only [if_true] at hm
    subst hm
    rw [n_cellsAff] at hc
    obtain ⟨f, hf⟩ := choose_lt (n := len) (p := fun i (y : ByteArray × Nat) => (Fits y.1) ∧ ∀ j (h : j < 2), W.cell? ((a.add (i * 2)).add j) = some ((cells_Aff y)[j]'h)) (fun i hi => by
      obtain ⟨cs', h1, h2⟩ := hc i (by omega)
      obtain ⟨_, hl', hg⟩ := World.cells?_some h1
      obtain ⟨y, rfl, hy⟩ := read_Aff h2 hl'
      exact ⟨y, hy, fun j hj => (hg j hj).trans (List.getElem?_eq_getElem (l := cells_Aff y) hj)⟩)
    refine ⟨some a, (List.range len).map f, m, by simp, by simpa using hl, fun k x hk => ?_⟩
    have hkl : k < len := by have h := (List.getElem?_eq_some_iff.1 hk).1; simpa using h
    have hkx : f k = x := by simpa [hkl] using hk
    obtain ⟨b, off, spot⟩ := a
    have h0 := (hf 0 (by omega)).2 0 (by omega)
    have hs : spot = none := by simpa [Addr.add] using World.cell?_spot h0
    subst hs
    obtain ⟨hfit, q1⟩ := hf k hkl
    rw [hkx] at hfit
    have q2 : ∀ j (h : j < 2), W.cell? ⟨b, off + k * 2 + j, none⟩ = some ((cells_Aff x)[j]'h) := fun j hj => by
      have := q1 j hj
      simp only [hkx] at this
      rw [add_add, Go.WideShapes.add_plain, ← Nat.add_assoc] at this
      exact this
    exact ⟨hfit, b, off, rfl, World.block_lt_of_cell? W _ (q2 0 (by omega)), q2⟩
def cells_Sub (y : ByteArray × Bool × Int) : List Value := [.string y.1, .bool y.2.1, .int .i64 y.2.2]
theorem list_Sub {v : Value} {d : DataW H} {pl : List MemPlace} (h : DataW.trod enc Tryd.prog W 0 (fun _ => true) true fuel 25 [v] = some (d, pl)) :
    ∃ (ao : Option Addr) (l : List (ByteArray × Bool × Int)) (cap : Nat), v = .slice ao l.length cap ∧ l.length ≤ cap ∧ ∀ (i : Nat) (x : ByteArray × Bool × Int), l[i]? = some x → (Fits x.1) ∧ ∃ b off, ao = some ⟨b, off, none⟩ ∧ b < W.heap.size ∧ ∀ j (h : j < 3), W.cell? ⟨b, off + i * 3 + j, none⟩ = some ((cells_Sub x)[j]'h) := by
  rcases open_slice Tryd.underlying25 h with ⟨hcs, _⟩ | ⟨a, len, cap, m, n, D, Pl, hcs, _, hl, hcm, hm, hx, hc⟩
  · cases hcs
    exact ⟨none, [], 0, rfl, by simp, fun k x hk => by simp at hk⟩
  · cases hcs
    simp only [if_true] at hm
    subst hm
    rw [n_cellsSub] at hc
    obtain ⟨f, hf⟩ := choose_lt (n := len) (p := fun i (y : ByteArray × Bool × Int) => (Fits y.1) ∧ ∀ j (h : j < 3), W.cell? ((a.add (i * 3)).add j) = some ((cells_Sub y)[j]'h)) (fun i hi => by
      obtain ⟨cs', h1, h2⟩ := hc i (by omega)
      obtain ⟨_, hl', hg⟩ := World.cells?_some h1
      obtain ⟨y, rfl, hy⟩ := read_Sub h2 hl'
      exact ⟨y, hy, fun j hj => (hg j hj).trans (List.getElem?_eq_getElem (l := cells_Sub y) hj)⟩)
    refine ⟨some a, (List.range len).map f, m, by simp, by simpa using hl, fun k x hk => ?_⟩
    have hkl : k < len := by have h := (List.getElem?_eq_some_iff.1 hk).1; simpa using h
    have hkx : f k = x := by simpa [hkl] using hk
    obtain ⟨b, off, spot⟩ := a
    have h0 := (hf 0 (by omega)).2 0 (by omega)
    have hs : spot = none := by simpa [Addr.add] using World.cell?_spot h0
    subst hs
    obtain ⟨hfit, q1⟩ := hf k hkl
    rw [hkx] at hfit
    have q2 : ∀ j (h : j < 3), W.cell? ⟨b, off + k * 3 + j, none⟩ = some ((cells_Sub x)[j]'h) := fun j hj => by
      have := q1 j hj
      simp only [hkx] at this
      rw [add_add, Go.WideShapes.add_plain, ← Nat.add_assoc] at this
      exact this
    exact ⟨hfit, b, off, rfl, World.block_lt_of_cell? W _ (q2 0 (by omega)), q2⟩
def cells_Item (y : ByteArray × ByteArray × ByteArray) : List Value := [.string y.1, .string y.2.1, .string y.2.2]
theorem list_Item {v : Value} {d : DataW H} {pl : List MemPlace} (h : DataW.trod enc Tryd.prog W 0 (fun _ => true) true fuel 26 [v] = some (d, pl)) :
    ∃ (ao : Option Addr) (l : List (ByteArray × ByteArray × ByteArray)) (cap : Nat), v = .slice ao l.length cap ∧ l.length ≤ cap ∧ ∀ (i : Nat) (x : ByteArray × ByteArray × ByteArray), l[i]? = some x → (Fits x.1 ∧ Fits x.2.1 ∧ Fits x.2.2) ∧ ∃ b off, ao = some ⟨b, off, none⟩ ∧ b < W.heap.size ∧ ∀ j (h : j < 3), W.cell? ⟨b, off + i * 3 + j, none⟩ = some ((cells_Item x)[j]'h) := by
  rcases open_slice Tryd.underlying26 h with ⟨hcs, _⟩ | ⟨a, len, cap, m, n, D, Pl, hcs, _, hl, hcm, hm, hx, hc⟩
  · cases hcs
    exact ⟨none, [], 0, rfl, by simp, fun k x hk => by simp at hk⟩
  · cases hcs
    simp only [if_true] at hm
    subst hm
    rw [n_cellsItem] at hc
    obtain ⟨f, hf⟩ := choose_lt (n := len) (p := fun i (y : ByteArray × ByteArray × ByteArray) => (Fits y.1 ∧ Fits y.2.1 ∧ Fits y.2.2) ∧ ∀ j (h : j < 3), W.cell? ((a.add (i * 3)).add j) = some ((cells_Item y)[j]'h)) (fun i hi => by
      obtain ⟨cs', h1, h2⟩ := hc i (by omega)
      obtain ⟨_, hl', hg⟩ := World.cells?_some h1
      obtain ⟨y, rfl, hy⟩ := read_Item h2 hl'
      exact ⟨y, hy, fun j hj => (hg j hj).trans (List.getElem?_eq_getElem (l := cells_Item y) hj)⟩)
    refine ⟨some a, (List.range len).map f, m, by simp, by simpa using hl, fun k x hk => ?_⟩
    have hkl : k < len := by have h := (List.getElem?_eq_some_iff.1 hk).1; simpa using h
    have hkx : f k = x := by simpa [hkl] using hk
    obtain ⟨b, off, spot⟩ := a
    have h0 := (hf 0 (by omega)).2 0 (by omega)
    have hs : spot = none := by simpa [Addr.add] using World.cell?_spot h0
    subst hs
    obtain ⟨hfit, q1⟩ := hf k hkl
    rw [hkx] at hfit
    have q2 : ∀ j (h : j < 3), W.cell? ⟨b, off + k * 3 + j, none⟩ = some ((cells_Item x)[j]'h) := fun j hj => by
      have := q1 j hj
      simp only [hkx] at this
      rw [add_add, Go.WideShapes.add_plain, ← Nat.add_assoc] at this
      exact this
    exact ⟨hfit, b, off, rfl, World.block_lt_of_cell? W _ (q2 0 (by omega)), q2⟩
def cells_Edit (y : Ed) : List Value := edC y
theorem list_Edit {v : Value} {d : DataW H} {pl : List MemPlace} (h : DataW.trod enc Tryd.prog W 0 (fun _ => true) true fuel 23 [v] = some (d, pl)) :
    ∃ (ao : Option Addr) (l : List (Ed)) (cap : Nat), v = .slice ao l.length cap ∧ l.length ≤ cap ∧ ∀ (i : Nat) (x : Ed), l[i]? = some x → (EdFits x) ∧ ∃ b off, ao = some ⟨b, off, none⟩ ∧ b < W.heap.size ∧ ∀ j (h : j < 10), W.cell? ⟨b, off + i * 10 + j, none⟩ = some ((cells_Edit x)[j]'h) := by
  rcases open_slice Tryd.underlying23 h with ⟨hcs, _⟩ | ⟨a, len, cap, m, n, D, Pl, hcs, _, hl, hcm, hm, hx, hc⟩
  · cases hcs
    exact ⟨none, [], 0, rfl, by simp, fun k x hk => by simp at hk⟩
  · cases hcs
    simp only [if_true] at hm
    subst hm
    rw [n_cellsEdit] at hc
    obtain ⟨f, hf⟩ := choose_lt (n := len) (p := fun i (y : Ed) => (EdFits y) ∧ ∀ j (h : j < 10), W.cell? ((a.add (i * 10)).add j) = some ((cells_Edit y)[j]'h)) (fun i hi => by
      obtain ⟨cs', h1, h2⟩ := hc i (by omega)
      obtain ⟨_, hl', hg⟩ := World.cells?_some h1
      obtain ⟨y, rfl, hy⟩ := read_Edit h2 hl'
      exact ⟨y, hy, fun j hj => (hg j hj).trans (List.getElem?_eq_getElem (l := cells_Edit y) hj)⟩)
    refine ⟨some a, (List.range len).map f, m, by simp, by simpa using hl, fun k x hk => ?_⟩
    have hkl : k < len := by have h := (List.getElem?_eq_some_iff.1 hk).1; simpa using h
    have hkx : f k = x := by simpa [hkl] using hk
    obtain ⟨b, off, spot⟩ := a
    have h0 := (hf 0 (by omega)).2 0 (by omega)
    have hs : spot = none := by simpa [Addr.add] using World.cell?_spot h0
    subst hs
    obtain ⟨hfit, q1⟩ := hf k hkl
    rw [hkx] at hfit
    have q2 : ∀ j (h : j < 10), W.cell? ⟨b, off + k * 10 + j, none⟩ = some ((cells_Edit x)[j]'h) := fun j hj => by
      have := q1 j hj
      simp only [hkx] at this
      rw [add_add, Go.WideShapes.add_plain, ← Nat.add_assoc] at this
      exact this
    exact ⟨hfit, b, off, rfl, World.block_lt_of_cell? W _ (q2 0 (by omega)), q2⟩
/-- A node. -/
theorem node_read {cs : List Value} {d : DataW H} {pl : List MemPlace} (h : DataW.trod enc Tryd.prog W 0 (fun _ => true) true fuel 28 cs = some (d, pl)) (hl : cs.length = 8) :
    ∃ (n : Nd) (v : NdW), cs = ndC n v ∧ RawM W n v := by
  match cs, hl with
  | [c0, c1, c2, c3, c4, c5, c6, c7], _ =>
  obtain ⟨xs, m, _, _, _, hlen, hf⟩ := DataW.trod_struct Tryd.underlying28 h
  match xs, hlen with
  | [y0, y1, y2, y3, y4, y5, y6, y7], _ =>
  have h0 : DataW.trod enc Tryd.prog W 0 (fun _ => true) true m 9 _ = some y0 := hf 0 _ rfl
  have h1 : DataW.trod enc Tryd.prog W 0 (fun _ => true) true m 4 _ = some y1 := hf 1 _ rfl
  have h2 : DataW.trod enc Tryd.prog W 0 (fun _ => true) true m 22 _ = some y2 := hf 2 _ rfl
  have h3 : DataW.trod enc Tryd.prog W 0 (fun _ => true) true m 3 _ = some y3 := hf 3 _ rfl
  have h4 : DataW.trod enc Tryd.prog W 0 (fun _ => true) true m 24 _ = some y4 := hf 4 _ rfl
  have h5 : DataW.trod enc Tryd.prog W 0 (fun _ => true) true m 25 _ = some y5 := hf 5 _ rfl
  have h6 : DataW.trod enc Tryd.prog W 0 (fun _ => true) true m 26 _ = some y6 := hf 6 _ rfl
  have h7 : DataW.trod enc Tryd.prog W 0 (fun _ => true) true m 9 _ = some y7 := hf 7 _ rfl
  obtain ⟨z0, e0, _, w0⟩ := DataW.trod_string Tryd.underlying9 h0
  obtain ⟨z1, e1, _⟩ := DataW.trod_bool Tryd.underlying4 h1
  obtain ⟨v2, e2, _, w2⟩ := DataW.trod_int Tryd.underlying22 h2
  obtain ⟨z2, rfl, _⟩ := u8_nat w2
  obtain ⟨z3, e3, _, w3⟩ := DataW.trod_int Tryd.underlying3 h3
  obtain ⟨z7, e7, _, w7⟩ := DataW.trod_string Tryd.underlying9 h7
  simp [n_cells9, n_cells4, n_cells3, n_cellsAcc] at e0 e1 e2 e3 e7
  subst e0 e1 e2 e3 e7
  have h4' : DataW.trod enc Tryd.prog W 0 (fun _ => true) true m 24 [c4] = some y4 := by simpa [n_cellsSlAff] using h4
  have h5' : DataW.trod enc Tryd.prog W 0 (fun _ => true) true m 25 [c5] = some y5 := by simpa [n_cellsSlSub] using h5
  have h6' : DataW.trod enc Tryd.prog W 0 (fun _ => true) true m 26 [c6] = some y6 := by simpa [n_cellsSlItem] using h6
  clear h4 h5 h6
  obtain ⟨d4, p4⟩ := y4
  obtain ⟨d5, p5⟩ := y5
  obtain ⟨d6, p6⟩ := y6
  obtain ⟨aa, la, ac, rfl, hac, hA⟩ := list_Aff h4'
  obtain ⟨sa, ls, sc, rfl, hsc, hS⟩ := list_Sub h5'
  obtain ⟨ia, li, ic, rfl, hic, hI⟩ := list_Item h6'
  unfold maxLen at w0 w7
  have tk : ∀ {α : Type} {L : List α} {i : Nat} {x : α}, (L.take 20)[i]? = some x → L[i]? = some x := fun {α} {L} {i} {x} h => by
    rw [List.getElem?_take] at h
    split at h
    · exact h
    · cases h
  have tm : ∀ {α : Type} {L : List α} {x : α}, x ∈ L.take 20 → ∃ i, L[i]? = some x := fun {α} {L} {x} h => by
    obtain ⟨i, hi⟩ := List.mem_iff_getElem?.1 (List.mem_of_mem_take h)
    exact ⟨i, hi⟩
  refine ⟨⟨z0, z1, z2, z3, la, ls, li, z7⟩, ⟨aa, ac, sa, sc, ia, ic⟩, rfl, ⟨⟨⟨⟨by simp [fewN, List.length_take]; omega, fun i x hx => ?_⟩, ⟨by simp [fewN, List.length_take]; omega, fun i x hx => ?_⟩, by simp [fewN, List.length_take]; omega, by simp [fewN, List.length_take]; omega⟩, ⟨by simp [fewN, List.length_take]; omega, fun i x hx => ?_⟩, by simp [fewN, List.length_take]; omega, ⟨w0, w7, fun x hx => ?_, fun x hx => ?_, fun x hx => ?_⟩⟩, hac, hsc, hic⟩⟩
  · obtain ⟨_, b, off, e, hb, hc⟩ := hA i x (tk hx)
    exact ⟨b, off, e, hb, hc 0 (by omega), hc 1 (by omega)⟩
  · obtain ⟨_, b, off, e, hb, hc⟩ := hS i x (tk hx)
    exact ⟨b, off, e, hb, hc 0 (by omega), hc 1 (by omega), hc 2 (by omega)⟩
  · obtain ⟨_, b, off, e, hb, hc⟩ := hI i x (tk hx)
    exact ⟨b, off, e, hb, hc 0 (by omega), hc 1 (by omega), hc 2 (by omega)⟩
  · obtain ⟨i, hi⟩ := tm hx
    exact (hA i x hi).1
  · obtain ⟨i, hi⟩ := tm hx
    exact (hS i x hi).1
  · obtain ⟨i, hi⟩ := tm hx
    exact (hI i x hi).1
/-- Edits. -/
theorem edits_read {v : Value} {d : DataW H} {pl : List MemPlace} (h : DataW.trod enc Tryd.prog W 0 (fun _ => true) true fuel 23 [v] = some (d, pl)) :
    ∃ ao l cap, v = .slice ao l.length cap ∧ l.length ≤ cap ∧ EdsMem W.heap.size W ao l := by
  obtain ⟨ao, l, cap, e, hc, hl⟩ := list_Edit h
  exact ⟨ao, l, cap, e, hc, hl⟩
end
end Go.Proofs.YtffjmkngdjbjlaaDoor
