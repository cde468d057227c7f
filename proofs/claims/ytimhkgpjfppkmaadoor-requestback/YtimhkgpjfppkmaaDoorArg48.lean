/- Tokens that are handed in: what a reading of them says of memory, and how long their values are at most. -/
import Derived.Test.YtimhkgpjfppkmaaDoorToks
import Derived.Test.YtimhkgpjfppkmaaDoorMath
import Derived.Deep.Slices
import Derived.ChangeSame
import Derived.SizedLaws
namespace Go.Proofs.YtimhkgpjfppkmaaDoor
open Go.RowKit Go.Deep Go.ChangeShapes Go.WideShapes

section
variable {H : Type} {enc : TypeId × Value → H} {W : World} {fuel : Nat}

theorem weights_in {P : Program} {e : TypeId} : ∀ {l : List (DataW H)} {d : DataW H} {n : Nat}, d ∈ l → n ∈ d.weights P e → n ∈ DataW.weightsAll P e l
  | x :: l, d, n, hd, hn => by
    rw [DataW.weightsAll, List.mem_append]
    cases hd with
    | head => exact .inl hn
    | tail _ h => exact .inr (weights_in h hn)

theorem reach_num : reachBytes = 140737488351232 := rfl
theorem cellsAttr : Tryd.prog.cellsOf 49 = 2 := by kernel_rfl
theorem cellsTok : Tryd.prog.cellsOf 46 = 4 := by kernel_rfl
theorem cellsStr : Tryd.prog.cellsOf 9 = 1 := by kernel_rfl
theorem cellsAttrs : Tryd.prog.cellsOf 44 = 1 := by kernel_rfl
theorem cellsKind : Tryd.prog.cellsOf 43 = 1 := by kernel_rfl
theorem bytesAttr : Tryd.prog.bytesOf 49 = 32 := by kernel_rfl
theorem bytesTok : Tryd.prog.bytesOf 46 = 64 := by kernel_rfl

/-- One attribute. -/
theorem one_attr {a : Addr} {cs : List Value} {x : DataW H × List MemPlace} (hc : W.cells? 0 a 2 = some cs) (h : DataW.trod enc Tryd.prog W 0 (fun _ => true) true fuel 49 cs = some x) (hw : ∀ n ∈ x.1.weights Tryd.prog 49, n ≤ reachBytes) :
    ∃ y : ByteArray × ByteArray, a.spot = none ∧ a.block < W.heap.size ∧ W.cell? a = some (.string y.1) ∧ W.cell? (a.add 1) = some (.string y.2) ∧ y.1.size ≤ 9223372036854775807 ∧ y.2.size ≤ 9223372036854775807 ∧ y.2.size ≤ 281474976710656 := by
  obtain ⟨_, hl, hg⟩ := World.cells?_some hc
  match cs, hl with
  | [c0, c1], _ =>
  obtain ⟨y0, y1, m, hx, _, h0, h1⟩ := trod_struct2 Tryd.underlying49 h
  obtain ⟨s, e0, _, w0⟩ := DataW.trod_string Tryd.underlying9 h0
  obtain ⟨t, e1, hy1, w1⟩ := DataW.trod_string Tryd.underlying9 h1
  simp [cellsStr] at e0 e1
  subst e0 e1
  have g0 : W.cell? a = some (.string s) := by simpa [Addr.add] using hg 0 (by omega)
  exact ⟨(s, t), World.cell?_spot g0, World.block_lt_of_cell? W _ g0, g0, by simpa using hg 1 (by omega), by unfold maxLen at w0; omega, by unfold maxLen at w1; omega, by
    have hh := hw t.size (by
      subst hx hy1
      unfold DataW.weights
      rw [Tryd.underlying49]
      refine DataW.weights_mem_each (j := 1) rfl rfl t.size ?_
      rw [← size_list]
      unfold DataW.weights
      exact List.mem_singleton.2 rfl)
    rw [reach_num] at hh
    show t.size ≤ _
    omega⟩

/-- Attributes. -/
theorem attrs_read {v : Value} {d : DataW H} {pl : List MemPlace} (h : DataW.trod enc Tryd.prog W 0 (fun _ => true) true fuel 44 [v] = some (d, pl)) (hw : ∀ n ∈ d.weights Tryd.prog 44, n ≤ reachBytes) :
    ∃ ao al cap, v = .slice ao al.length cap ∧ al.length ≤ cap ∧ AttrMem W.heap.size W ao al ∧ (ao = none → cap = 0) ∧ ∀ x ∈ al, x.2.size ≤ 281474976710656 := by
  rcases open_slice Tryd.underlying44 h with ⟨hcs, _⟩ | ⟨a, len, cap, m, n, D, Pl, hcs, _, hl, _, hm, hx, hc⟩
  · cases hcs
    exact ⟨none, [], 0, rfl, Nat.le_refl _, ⟨by simp, by simp, by simp⟩, fun _ => rfl, by simp⟩
  · cases hcs
    simp only [if_true] at hm
    subst hm
    cases hx
    have hsz := hw (m * 32) (by simp [DataW.weights, Tryd.underlying44, bytesAttr]; omega)
    rw [reach_num] at hsz
    rw [cellsAttr] at hc
    obtain ⟨f, hf⟩ := choose_lt (n := len) (p := fun i (y : ByteArray × ByteArray) => (a.add (i * 2)).spot = none ∧ (a.add (i * 2)).block < W.heap.size ∧ W.cell? (a.add (i * 2)) = some (.string y.1) ∧ W.cell? ((a.add (i * 2)).add 1) = some (.string y.2) ∧ y.1.size ≤ 9223372036854775807 ∧ y.2.size ≤ 9223372036854775807 ∧ y.2.size ≤ 281474976710656) (fun i hi => by
      obtain ⟨cs', h1, h2⟩ := hc i (by omega)
      refine one_attr h1 h2 (fun n hn => hw n ?_)
      unfold DataW.weights
      rw [Tryd.underlying44]
      exact List.mem_cons_of_mem _ (List.mem_append_left _ (weights_in (List.mem_map_of_mem (List.mem_range.2 hi)) hn)))
    refine ⟨some a, (List.range len).map f, m, by simp, by simpa using hl, ⟨by simp; omega, fun x hx => ?_, fun j x hj => ?_⟩, (fun h => by cases h), fun x hx => ?_⟩
    · obtain ⟨i, hi, rfl⟩ := List.mem_map.1 hx
      have hi' := List.mem_range.1 hi
      exact ⟨(hf i (by omega)).2.2.2.2.1, (hf i (by omega)).2.2.2.2.2.1⟩
    · have hjl : j < len := by have h := (List.getElem?_eq_some_iff.1 hj).1; simpa using h
      have hjx : f j = x := by simpa [hjl] using hj
      obtain ⟨b, off, spot⟩ := a
      have hs : spot = none := by simpa [Addr.add] using (hf 0 (by omega)).1
      subst hs
      obtain ⟨_, q1, q2, q3, _, _⟩ := hf j (by omega)
      rw [add_add] at q3
      rw [Go.WideShapes.add_plain] at q1 q2 q3
      rw [hjx] at q2 q3
      exact ⟨b, off, rfl, q1, q2, by rw [Nat.add_assoc]; exact q3⟩
    · obtain ⟨i, hi, rfl⟩ := List.mem_map.1 hx
      have hi' := List.mem_range.1 hi
      exact (hf i (by omega)).2.2.2.2.2.2

set_option maxRecDepth 100000 in
/-- One token. -/
theorem one_tok {a : Addr} {cs : List Value} {x : DataW H × List MemPlace} (hc : W.cells? 0 a 4 = some cs) (h : DataW.trod enc Tryd.prog W 0 (fun _ => true) true fuel 46 cs = some x) (hw : ∀ n ∈ x.1.weights Tryd.prog 46, n ≤ reachBytes) :
    ∃ y : Tok × Option Addr × Nat, a.spot = none ∧ a.block < W.heap.size ∧ W.cell? a = some (.int .u8 y.1.kind) ∧ W.cell? (a.add 1) = some (.string y.1.name) ∧ W.cell? (a.add 2) = some (.slice y.2.1 y.1.attrs.length y.2.2) ∧ W.cell? (a.add 3) = some (.string y.1.text) ∧
      y.1.kind < 256 ∧ y.1.name.size ≤ 9223372036854775807 ∧ y.1.text.size ≤ 9223372036854775807 ∧ AttrMem W.heap.size W y.2.1 y.1.attrs ∧ y.1.attrs.length ≤ y.2.2 ∧ (y.2.1 = none → y.2.2 = 0) ∧ ∀ x ∈ y.1.attrs, x.2.size ≤ 281474976710656 := by
  obtain ⟨_, hl, hg⟩ := World.cells?_some hc
  match cs, hl with
  | [c0, c1, c2, c3], _ =>
  obtain ⟨xs, m, _, rfl, _, hlen, hf⟩ := DataW.trod_struct Tryd.underlying46 h
  match xs, hlen with
  | [y0, y1, y2, y3], _ =>
  have h0 : DataW.trod enc Tryd.prog W 0 (fun _ => true) true m 43 _ = some y0 := hf 0 _ rfl
  have h1 : DataW.trod enc Tryd.prog W 0 (fun _ => true) true m 9 _ = some y1 := hf 1 _ rfl
  have h2 : DataW.trod enc Tryd.prog W 0 (fun _ => true) true m 44 _ = some y2 := hf 2 _ rfl
  have h3 : DataW.trod enc Tryd.prog W 0 (fun _ => true) true m 9 _ = some y3 := hf 3 _ rfl
  obtain ⟨z, e0, _, w0⟩ := DataW.trod_int Tryd.underlying43 h0
  obtain ⟨s, e1, _, w1⟩ := DataW.trod_string Tryd.underlying9 h1
  obtain ⟨t, e3, _, w3⟩ := DataW.trod_string Tryd.underlying9 h3
  simp [cellsStr, cellsKind] at e0 e1 e3
  subst e0 e1 e3
  have h2' : DataW.trod enc Tryd.prog W 0 (fun _ => true) true m 44 [c2] = some y2 := by simpa [cellsAttrs] using h2
  clear h2
  obtain ⟨d2, p2⟩ := y2
  have hz : 0 ≤ z ∧ z < 256 := by
    have m0 : IntKind.u8.min = 0 := rfl
    have m1 : IntKind.u8.max = 255 := rfl
    simp [Lit.wf, m0, m1] at w0
    omega
  obtain ⟨k, rfl⟩ : ∃ k : Nat, z = k := ⟨z.toNat, by omega⟩
  obtain ⟨ao, al, cap, hv, hcap, hA, hnil, hS⟩ := attrs_read (v := c2) h2' (fun n hn => hw n (by
    rw [List.map_cons, List.map_cons, List.map_cons]
    unfold DataW.weights
    rw [Tryd.underlying46]
    exact DataW.weights_mem_each (j := 2) rfl rfl n hn))
  subst hv
  have g0 : W.cell? a = some (.int .u8 k) := by simpa [Addr.add] using hg 0 (by omega)
  exact ⟨(⟨k, s, al, t⟩, ao, cap), World.cell?_spot g0, World.block_lt_of_cell? W _ g0, g0, by simpa using hg 1 (by omega), by simpa using hg 2 (by omega), by simpa using hg 3 (by omega), by simp; omega, by unfold maxLen at w1; exact w1, by unfold maxLen at w3; exact w3, hA, hcap, hnil, hS⟩

/-- Tokens. -/
theorem toks_read {v : Value} {d : DataW H} {pl : List MemPlace} (h : DataW.trod enc Tryd.prog W 0 (fun _ => true) true fuel 27 [v] = some (d, pl)) (hw : ∀ n ∈ d.weights Tryd.prog 27, n ≤ reachBytes) :
    ∃ ao ts cap av, v = .slice ao ts.length cap ∧ ts.length ≤ cap ∧ TokMem W.heap.size W ao ts av ∧ (∀ k t, ts[k]? = some t → (av k).1 = none → (av k).2 = 0) ∧ ∀ t ∈ ts, ∀ a ∈ t.attrs, a.2.size ≤ 281474976710656 := by
  rcases open_slice Tryd.underlying27 h with ⟨hcs, _⟩ | ⟨a, len, cap, m, n, D, Pl, hcs, _, hl, _, hm, hx, hc⟩
  · cases hcs
    exact ⟨none, [], 0, fun _ => (none, 0), rfl, Nat.le_refl _, ⟨by simp, by simp⟩, by simp, by simp⟩
  · cases hcs
    simp only [if_true] at hm
    subst hm
    cases hx
    have hsz := hw (m * 64) (by simp [DataW.weights, Tryd.underlying27, bytesTok]; omega)
    rw [reach_num] at hsz
    rw [cellsTok] at hc
    obtain ⟨f, hf⟩ := choose_lt (n := len) (p := fun i (y : Tok × Option Addr × Nat) => (a.add (i * 4)).spot = none ∧ (a.add (i * 4)).block < W.heap.size ∧ W.cell? (a.add (i * 4)) = some (.int .u8 y.1.kind) ∧ W.cell? ((a.add (i * 4)).add 1) = some (.string y.1.name) ∧ W.cell? ((a.add (i * 4)).add 2) = some (.slice y.2.1 y.1.attrs.length y.2.2) ∧ W.cell? ((a.add (i * 4)).add 3) = some (.string y.1.text) ∧
      y.1.kind < 256 ∧ y.1.name.size ≤ 9223372036854775807 ∧ y.1.text.size ≤ 9223372036854775807 ∧ AttrMem W.heap.size W y.2.1 y.1.attrs ∧ y.1.attrs.length ≤ y.2.2 ∧ (y.2.1 = none → y.2.2 = 0) ∧ ∀ x ∈ y.1.attrs, x.2.size ≤ 281474976710656) (fun i hi => by
      obtain ⟨cs', h1, h2⟩ := hc i (by omega)
      refine one_tok h1 h2 (fun n hn => hw n ?_)
      unfold DataW.weights
      rw [Tryd.underlying27]
      exact List.mem_cons_of_mem _ (List.mem_append_left _ (weights_in (List.mem_map_of_mem (List.mem_range.2 hi)) hn)))
    refine ⟨some a, (List.range len).map fun i => (f i).1, m, fun i => (f i).2, by simp, by simpa using hl, ⟨by simp; omega, fun k x hk => ?_⟩, fun k x hk => ?_, fun t ht => ?_⟩
    case refine_2 =>
      have hkl : k < len := by have h := (List.getElem?_eq_some_iff.1 hk).1; simpa using h
      exact (hf k hkl).2.2.2.2.2.2.2.2.2.2.2.1
    case refine_3 =>
      obtain ⟨i, hi, rfl⟩ := List.mem_map.1 ht
      exact (hf i (List.mem_range.1 hi)).2.2.2.2.2.2.2.2.2.2.2.2
    have hkl : k < len := by have h := (List.getElem?_eq_some_iff.1 hk).1; simpa using h
    have hkx : (f k).1 = x := by simpa [hkl] using hk
    obtain ⟨b, off, spot⟩ := a
    have hs : spot = none := by simpa [Addr.add] using (hf 0 (by omega)).1
    subst hs
    obtain ⟨_, q1, q2, q3, q4, q5, q6, q7, q8, q9, q10, _⟩ := hf k hkl
    rw [add_add] at q3 q4 q5
    rw [Go.WideShapes.add_plain] at q1 q2 q3 q4 q5
    rw [hkx] at q2 q3 q4 q5 q6 q7 q8 q9 q10
    refine ⟨q6, q7, q8, q9, q10, b, off, rfl, q1, q2, ?_, ?_, ?_⟩
    · rw [Nat.add_assoc]; exact q3
    · rw [Nat.add_assoc]; exact q4
    · rw [Nat.add_assoc]; exact q5
end
end Go.Proofs.YtimhkgpjfppkmaaDoor
