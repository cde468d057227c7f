/- A device in memory: sectors that last, and writes that do not. -/
import Derived.Test.YtfknjmfkkaoggaaJBase
import Derived.Test.YtfknjmfkkaoggaaRangeD
import Derived.OwnWalk
import Derived.Deep.MidRow
import Derived.Deep.WholeRow
import Derived.Maps.AppendAt
import Derived.Laws.Rows
import Derived.Laws.OwnMore
import Derived.Laws.IdiomCopy
namespace Go.Proofs.Ytfknjmfkkaoggaa
open Go.RowKit

/-- What a sector holds. -/
abbrev Sec := List UInt8
/-- A device: the sectors that last, and the writes that do not, in their order. -/
structure Dv where
  las : List Sec
  wr : List (Nat × Sec)
def lasC (l : List Sec) : List Value := l.flatMap Lib.byteCells
def wrC1 (x : Nat × Sec) : List Value := .int .i64 x.1 :: Lib.byteCells x.2
def wrC (l : List (Nat × Sec)) : List Value := l.flatMap wrC1
structure DvOk (d : Dv) : Prop where
  las : ∀ s ∈ d.las, s.length = 64
  pos : 1 ≤ d.las.length
  most : d.las.length ≤ 4096
  wr : ∀ x ∈ d.wr, x.1 < d.las.length ∧ x.2.length = 64
  few : d.wr.length ≤ 1000000

theorem byteCells_len (s : List UInt8) : (Lib.byteCells s).length = s.length := by simp [Lib.byteCells]
/-- Lists of one length, one behind the other: their lengths, and where each lies. -/
theorem flat_len {α : Type} (f : α → List Value) (m : Nat) : ∀ (l : List α), (∀ x ∈ l, (f x).length = m) → (l.flatMap f).length = l.length * m
  | [], _ => by simp
  | x :: l, h => by
    have := flat_len f m l (fun y hy => h y (List.mem_cons_of_mem _ hy))
    simp only [List.flatMap_cons, List.length_append, List.length_cons, this, h x List.mem_cons_self]
    rw [Nat.add_mul]
    omega
theorem flat_at {α : Type} (f : α → List Value) (m : Nat) : ∀ (l : List α), (∀ x ∈ l, (f x).length = m) → ∀ i x, l[i]? = some x → ∀ j v, (f x)[j]? = some v → (l.flatMap f)[i * m + j]? = some v
  | [], _, i, x, hi, _, _, _ => by simp at hi
  | y :: l, h, 0, x, hi, j, v, hv => by
    simp at hi
    subst hi
    have hj := (List.getElem?_eq_some_iff.1 hv).1
    simp only [List.flatMap_cons, Nat.zero_mul, Nat.zero_add]
    rw [List.getElem?_append_left hj]
    exact hv
  | y :: l, h, i + 1, x, hi, j, v, hv => by
    simp at hi
    have := flat_at f m l (fun z hz => h z (List.mem_cons_of_mem _ hz)) i x hi j v hv
    have hy := h y List.mem_cons_self
    simp only [List.flatMap_cons]
    have e : (i + 1) * m + j = (f y).length + (i * m + j) := by rw [hy, Nat.add_mul]; omega
    rw [e, List.getElem?_append_right (by omega), Nat.add_sub_cancel_left]
    exact this
/-- One of them put in another's stead. -/
theorem flat_set {α : Type} (f : α → List Value) (m : Nat) : ∀ (l : List α), (∀ x ∈ l, (f x).length = m) → ∀ i x, i < l.length → (f x).length = m → (l.set i x).flatMap f = (l.flatMap f).take (i * m) ++ f x ++ (l.flatMap f).drop (i * m + m)
  | [], _, i, x, hi, _ => by simp at hi
  | y :: l, h, 0, x, hi, hx => by
    have hy := h y List.mem_cons_self
    simp only [List.set_cons_zero, List.flatMap_cons, Nat.zero_mul, List.take_zero, List.nil_append, Nat.zero_add]
    rw [List.drop_left' hy]
  | y :: l, h, i + 1, x, hi, hx => by
    have hy := h y List.mem_cons_self
    have := flat_set f m l (fun z hz => h z (List.mem_cons_of_mem _ hz)) i x (by simpa using hi) hx
    simp only [List.set_cons_succ, List.flatMap_cons, this]
    have e1 : (i + 1) * m = (f y).length + i * m := by rw [hy, Nat.add_mul]; omega
    rw [e1, List.take_length_add_append, Nat.add_assoc, List.drop_length_add_append]
    simp [List.append_assoc]

/-- A device in memory. -/
structure IsDev (T Ts Tw : TypeId) (base p : Nat) (d : Dv) (vl vw : Value) (w : World) : Prop where
  low : base ≤ p
  here : w.heap[p]? = some (.cells #[vl, vw] T)
  las : w.ownsRow base Ts 64 vl d.las.length (lasC d.las)
  wr : w.ownsRow base Tw 65 vw d.wr.length (wrC d.wr)
/-- Its blocks. -/
def foot (p : Nat) (vl vw : Value) : Blk := fun j => j = p ∨ vl.ownBlock = some j ∨ vw.ownBlock = some j
/-- It is d' now, and nothing has turned but its own blocks. -/
def DevTo (T Ts Tw : TypeId) (base p : Nat) (vl vw : Value) (d' : Dv) (w w' : World) : Prop :=
  ∃ vl' vw', IsDev T Ts Tw base p d' vl' vw' w' ∧ Frees base (foot p vl vw) w w' ∧ ∀ j, foot p vl' vw' j → foot p vl vw j ∨ w.heap.size ≤ j

theorem own_shape {w : World} {base : Nat} {e : TypeId} {size : Nat} {v : Value} {n : Nat} {xs : List Value} (h : w.ownsRow base e size v n xs) : ∃ ga gc, v = .slice ga n gc := by
  obtain ⟨_, ⟨rfl, rfl⟩ | ⟨g, cap, _, rfl, _⟩⟩ := h
  · exact ⟨none, 0, rfl⟩
  · exact ⟨_, _, rfl⟩
theorem own_same {A B : World} {base : Nat} {e : TypeId} {size : Nat} {v : Value} {n : Nat} {xs : List Value} (h : A.ownsRow base e size v n xs) (hg : ∀ g, v.ownBlock = some g → B.heap[g]? = A.heap[g]?) : B.ownsRow base e size v n xs := by
  obtain ⟨h1, h2 | ⟨g, cap, cur, rfl, x1, x2, x3⟩⟩ := h
  · exact ⟨h1, .inl h2⟩
  · exact ⟨h1, .inr ⟨g, cap, cur, rfl, x1, (hg g rfl).trans x2, x3⟩⟩
theorem own_lt {w : World} {base : Nat} {e : TypeId} {size : Nat} {v : Value} {n : Nat} {xs : List Value} (h : w.ownsRow base e size v n xs) (g : Nat) (hg : v.ownBlock = some g) : g < w.heap.size := by
  obtain ⟨_, ⟨rfl, _⟩ | ⟨g', cap, cur, rfl, x1, x2, x3⟩⟩ := h
  · cases hg
  · cases hg
    exact (Array.getElem?_eq_some_iff.1 x2).1
theorem own_base {W : World} {base e size n : Nat} {v : Value} {xs : List Value} (h : W.ownsRow base e size v n xs) (g : Nat) (hg : v.ownBlock = some g) : base ≤ g := by
  obtain ⟨_, ⟨rfl, _⟩ | ⟨g', cap, cur, rfl, x1, _⟩⟩ := h
  · cases hg
  · cases hg
    exact x1
theorem own_ne0 {W : World} {base e n b : Nat} {size : Nat} {v : Value} {xs : List Value} {cs : Array Value} {T : TypeId} (h : W.ownsRow base e size v n xs) (hb : W.heap[b]? = some (.cells cs T)) (hT : T ≠ e) (g : Nat) (hg : v.ownBlock = some g) : g ≠ b := by
  intro e1
  subst e1
  obtain ⟨_, ⟨rfl, _⟩ | ⟨g', cap, cur, rfl, _, hg', _⟩⟩ := h
  · cases hg
  · cases hg
    rw [hg'] at hb
    cases hb
    exact hT rfl
theorem own_types {W : World} {b1 b2 e1 e2 s1 s2 n1 n2 : Nat} {v1 v2 : Value} {x1 x2 : List Value} (h1 : W.ownsRow b1 e1 s1 v1 n1 x1) (h2 : W.ownsRow b2 e2 s2 v2 n2 x2) (hne : e1 ≠ e2) (g : Nat) (hg : v1.ownBlock = some g) : v2.ownBlock ≠ some g := by
  intro hg2
  obtain ⟨_, ⟨rfl, _⟩ | ⟨g1, c1, cur1, rfl, _, y1, _⟩⟩ := h1
  · cases hg
  · cases hg
    obtain ⟨_, ⟨rfl, _⟩ | ⟨g2, c2, cur2, rfl, _, y2, _⟩⟩ := h2
    · cases hg2
    · cases hg2
      rw [y1] at y2
      cases y2
      exact hne rfl

section
variable {T Ts Tw : TypeId} {base p : Nat} {d : Dv} {vl vw : Value} {w w' : World}
theorem IsDev.cells (h : IsDev T Ts Tw base p d vl vw w) : w.cell? ⟨p, 0, none⟩ = some vl ∧ w.cell? ⟨p, 1, none⟩ = some vw ∧ w.frozen? ⟨p, 0, none⟩ = false ∧ w.frozen? ⟨p, 1, none⟩ = false := by
  have h := h.here
  exact ⟨by simp [World.cell?, h], by simp [World.cell?, h], by simp [World.frozen?, h], by simp [World.frozen?, h]⟩
theorem IsDev.lt (h : IsDev T Ts Tw base p d vl vw w) {j : Nat} (hj : foot p vl vw j) : base ≤ j ∧ j < w.heap.size := by
  rcases hj with rfl | hj | hj
  · exact ⟨h.low, (Array.getElem?_eq_some_iff.1 h.here).1⟩
  · exact ⟨own_base h.las _ hj, own_lt h.las _ hj⟩
  · exact ⟨own_base h.wr _ hj, own_lt h.wr _ hj⟩
/-- What leaves its blocks alone leaves it as it is. -/
theorem IsDev.same (h : IsDev T Ts Tw base p d vl vw w) (hs : ∀ j, foot p vl vw j → w'.heap[j]? = w.heap[j]?) : IsDev T Ts Tw base p d vl vw w' :=
  ⟨h.low, (hs p (.inl rfl)).trans h.here, own_same h.las (fun g hg => hs g (.inr (.inl hg))), own_same h.wr (fun g hg => hs g (.inr (.inr hg)))⟩
theorem IsDev.below (h : IsDev T Ts Tw base p d vl vw w) (hb : Below w.heap.size w w') : IsDev T Ts Tw base p d vl vw w' := h.same fun _ hj => hb.block _ (h.lt hj).2
theorem IsDev.apart (h : IsDev T Ts Tw base p d vl vw w) {M : Blk} {n₀ : Nat} (hf : Frees n₀ M w w') (hm : ∀ j, foot p vl vw j → ¬ M j) : IsDev T Ts Tw base p d vl vw w' := h.same fun j hj => hf.same j (h.lt hj).2 (hm j hj)
/-- Devices of unlike types share nothing. -/
theorem foot_apart {T' Ts' Tw' : TypeId} {base' p' : Nat} {d' : Dv} {vl' vw' : Value} (h : IsDev T Ts Tw base p d vl vw w) (h' : IsDev T' Ts' Tw' base' p' d' vl' vw' w) (n1 : T ≠ T') (n2 : T ≠ Ts') (n3 : T ≠ Tw') (n4 : Ts ≠ T') (n5 : Ts ≠ Ts') (n6 : Ts ≠ Tw') (n7 : Tw ≠ T') (n8 : Tw ≠ Ts') (n9 : Tw ≠ Tw') : ∀ j, foot p vl vw j → ¬ foot p' vl' vw' j := by
  rintro j (rfl | hj | hj) (hk | hk | hk)
  · subst hk
    have := h.here.symm.trans h'.here
    cases this
    exact n1 rfl
  · exact own_ne0 h'.las h.here n2 _ hk rfl
  · exact own_ne0 h'.wr h.here n3 _ hk rfl
  · exact own_ne0 h.las h'.here (fun e => n4 e.symm) _ hj hk
  · exact own_types h.las h'.las n5 _ hj hk
  · exact own_types h.las h'.wr n6 _ hj hk
  · exact own_ne0 h.wr h'.here (fun e => n7 e.symm) _ hj hk
  · exact own_types h.wr h'.las n8 _ hj hk
  · exact own_types h.wr h'.wr n9 _ hj hk

theorem own_range {m n : Nat} {e : TypeId} {v : Value} {xs cs : List Value} {o : Nat} (h : w.ownsRow base e m v n xs) (hcs : ∀ j u, cs[j]? = some u → xs[o + j]? = some u) (hne : 0 < n) : ∃ g gc, v = .slice (some ⟨g, 0, none⟩) n gc ∧ n ≤ gc ∧ w.rangeAt g o cs ∧ ∀ j, w.frozen? ⟨g, j, none⟩ = false := by
  obtain ⟨h1, ⟨_, h3⟩ | ⟨g, cap, cur, hv, x1, x2, x3, x4, x5, x6⟩⟩ := h
  · omega
  · refine ⟨g, cap, hv, x3, fun j u hu => ?_, fun j => by simp [World.frozen?, x2]⟩
    have hx := hcs j u hu
    rw [← x6] at hx
    have hlt := (List.getElem?_eq_some_iff.1 hx).1
    simp at hlt
    rw [List.getElem?_take_of_lt (by omega)] at hx
    simp [World.cell?, x2]
    simpa using hx
theorem las_len (hd : DvOk d) : (lasC d.las).length = d.las.length * 64 := flat_len _ _ _ fun s hs => (byteCells_len s).trans (hd.las s hs)
theorem wr_len1 (hd : DvOk d) : ∀ x ∈ d.wr, (wrC1 x).length = 65 := fun x hx => by simp [wrC1, byteCells_len, (hd.wr x hx).2]
/-- Where a sector that lasts lies. -/
theorem IsDev.sec (h : IsDev T Ts Tw base p d vl vw w) (hd : DvOk d) {i : Nat} {s : Sec} (hi : d.las[i]? = some s) : ∃ g gc, vl = .slice (some ⟨g, 0, none⟩) d.las.length gc ∧ d.las.length ≤ gc ∧ w.rangeAt g (i * 64) (Lib.byteCells s) ∧ ∀ j, w.frozen? ⟨g, j, none⟩ = false :=
  own_range h.las (flat_at _ 64 _ (fun s hs => (byteCells_len s).trans (hd.las s hs)) i s hi) hd.pos
/-- Where a write lies. -/
theorem IsDev.wrAt (h : IsDev T Ts Tw base p d vl vw w) (hd : DvOk d) {k : Nat} {x : Nat × Sec} (hk : d.wr[k]? = some x) : ∃ g gc, vw = .slice (some ⟨g, 0, none⟩) d.wr.length gc ∧ d.wr.length ≤ gc ∧ w.rangeAt g (k * 65) (wrC1 x) ∧ ∀ j, w.frozen? ⟨g, j, none⟩ = false :=
  own_range h.wr (flat_at _ 65 _ (wr_len1 hd) k x hk) (by have := (List.getElem?_eq_some_iff.1 hk).1; omega)
end
/-- The two kinds of devices. -/
abbrev IsD := IsDev 91 59 98
abbrev IsR := IsDev 95 61 100
abbrev ToD := DevTo 91 59 98
abbrev ToR := DevTo 95 61 100
/-- A sector of noughts. -/
def sec0 : Sec := List.replicate 64 0
theorem infoSecD : (Try.prog.info? 59).map (fun i => (i.zero, i.size, i.bytes)) = some (some (.agg (Lib.byteCells sec0).toArray), 64, 64) := by kernel_rfl
theorem infoSecR : (Try.prog.info? 61).map (fun i => (i.zero, i.size, i.bytes)) = some (some (.agg (Lib.byteCells sec0).toArray), 64, 64) := by kernel_rfl
theorem infoSecA : (Try.prog.info? 57).map (fun i => (i.zero, i.size, i.bytes)) = some (some (.agg (Lib.byteCells sec0).toArray), 64, 64) := by kernel_rfl
theorem infoWrD : (Try.prog.info? 98).map (fun i => (i.zero, i.size, i.bytes)) = some (some (.agg (wrC1 (0, sec0)).toArray), 65, 72) := by kernel_rfl
theorem infoWrR : (Try.prog.info? 100).map (fun i => (i.zero, i.size, i.bytes)) = some (some (.agg (wrC1 (0, sec0)).toArray), 65, 72) := by kernel_rfl
theorem undSecD : Try.prog.underlying 59 = some (.array 64 5) := by kernel_rfl
theorem undSecR : Try.prog.underlying 61 = some (.array 64 5) := by kernel_rfl
theorem undSecA : Try.prog.underlying 57 = some (.array 64 5) := by kernel_rfl
end Go.Proofs.Ytfknjmfkkaoggaa
