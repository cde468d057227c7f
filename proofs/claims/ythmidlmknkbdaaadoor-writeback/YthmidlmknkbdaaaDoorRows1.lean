/- Rows of the call's own: names, attributes, tokens. -/
import Derived.Test.YthmidlmknkbdaaaDoorWS
import Derived.OwnWalk
import Derived.Maps.AppendAt
import Derived.Laws.Rows
import Derived.RangeFuncRecord
namespace Go.Proofs.YthmidlmknkbdaaaDoor.Xm
open Go.RowKit

theorem own_shape {w : World} {base : Nat} {e : TypeId} {size : Nat} {v : Value} {n : Nat} {xs : List Value} (h : w.ownsRow base e size v n xs) : ∃ ga gc, v = .slice ga n gc := by
  obtain ⟨_, ⟨rfl, rfl⟩ | ⟨g, cap, _, rfl, _⟩⟩ := h
  · exact ⟨none, 0, rfl⟩
  · exact ⟨_, _, rfl⟩
theorem wrap_id (x : Int) (h1 : -9223372036854775808 ≤ x) (h2 : x ≤ 9223372036854775807) : IntKind.i64.wrap x = x := by
  rw [IntKind.wrap_i64]
  omega
theorem stopHere {p : Prop} (h : Hid p) : p := h
theorem own_same {A B : World} {base : Nat} {e : TypeId} {size : Nat} {v : Value} {n : Nat} {xs : List Value} (h : A.ownsRow base e size v n xs) (hg : ∀ g, v.ownBlock = some g → B.heap[g]? = A.heap[g]?) : B.ownsRow base e size v n xs := by
  obtain ⟨h1, h2 | ⟨g, cap, cur, rfl, x1, x2, x3⟩⟩ := h
  · exact ⟨h1, .inl h2⟩
  · exact ⟨h1, .inr ⟨g, cap, cur, rfl, x1, (hg g rfl).trans x2, x3⟩⟩
theorem own_pop {w : World} {base : Nat} {e : TypeId} {ga : Option Addr} {gc m : Nat} {xs : List Value} {x : Value} (h : w.ownsRow base e 1 (.slice ga (m + 1) gc) (m + 1) (xs ++ [x])) : w.ownsRow base e 1 (.slice ga m gc) m xs := by
  obtain ⟨h1, ⟨h2, h3⟩ | ⟨g, cap, cur, hv, x1, x2, x3, x4, x5, x6⟩⟩ := h
  · omega
  · cases hv
    have hl : xs.length = m := by simpa using h1
    refine ⟨by omega, .inr ⟨g, gc, cur, rfl, x1, x2, by omega, x4, x5, ?_⟩⟩
    have := congrArg (List.take m) x6
    rw [List.take_take, Nat.min_eq_left (by omega)] at this
    rw [Nat.mul_one, this, ← hl]
    exact List.take_left
theorem own_last {w : World} {base : Nat} {e : TypeId} {ga : Option Addr} {gc m : Nat} {xs : List Value} {x : Value} (h : w.ownsRow base e 1 (.slice ga (m + 1) gc) (m + 1) (xs ++ [x])) : ∃ g, ga = some ⟨g, 0, none⟩ ∧ m < gc ∧ w.cell? ⟨g, m, none⟩ = some x := by
  obtain ⟨h1, ⟨h2, h3⟩ | ⟨g, cap, cur, hv, x1, x2, x3, x4, x5, x6⟩⟩ := h
  · omega
  · cases hv
    have hl : xs.length = m := by simpa using h1
    have h7 : (cur.toList.take ((m + 1) * 1))[m]? = some x := by rw [x6, ← hl]; simp
    rw [List.getElem?_take_of_lt (by omega)] at h7
    exact ⟨g, rfl, by omega, by simp [World.cell?, x2]; simpa using h7⟩
theorem own_lt {w : World} {base : Nat} {e : TypeId} {size : Nat} {v : Value} {n : Nat} {xs : List Value} (h : w.ownsRow base e size v n xs) (g : Nat) (hg : v.ownBlock = some g) : g < w.heap.size := by
  obtain ⟨_, ⟨rfl, _⟩ | ⟨g', cap, cur, rfl, x1, x2, x3⟩⟩ := h
  · cases hg
  · cases hg
    exact (Array.getElem?_eq_some_iff.1 x2).1
theorem infoString : (Tryd.prog.info? 9).map (fun i => (i.zero, i.size, i.bytes)) = some (some (.string ⟨#[]⟩), 1, 16) := by kernel_rfl
theorem infoAttr : (Tryd.prog.info? 65).map (fun i => (i.zero, i.size, i.bytes)) = some (some (.agg #[.string ⟨#[]⟩, .string ⟨#[]⟩]), 2, 32) := by kernel_rfl
theorem infoTok : (Tryd.prog.info? 55).map (fun i => (i.zero, i.size, i.bytes)) = some (some (.agg #[.int .u8 0, .string ⟨#[]⟩, .slice none 0 0, .string ⟨#[]⟩]), 4, 64) := by kernel_rfl

/-- The cells of attributes. -/
def attrCells (al : List (ByteArray × ByteArray)) : List Value := al.flatMap fun a => [.string a.1, .string a.2]
theorem attrCells_length (al : List (ByteArray × ByteArray)) : (attrCells al).length = al.length * 2 := by
  induction al with
  | nil => rfl
  | cons a al ih => simp only [attrCells, List.flatMap_cons, List.length_append, List.length_cons, List.length_nil] at ih ⊢; omega
theorem attrCells_at : ∀ (al : List (ByteArray × ByteArray)) (j : Nat) (a : ByteArray × ByteArray), al[j]? = some a → (attrCells al)[j * 2]? = some (.string a.1) ∧ (attrCells al)[j * 2 + 1]? = some (.string a.2)
  | [], j, a, h => by simp at h
  | x :: al, 0, a, h => by
    simp at h
    subst h
    simp [attrCells]
  | x :: al, j + 1, a, h => by
    have ih := attrCells_at al j a (by simpa using h)
    have e1 : (j + 1) * 2 = j * 2 + 1 + 1 := by omega
    have e2 : (j + 1) * 2 + 1 = j * 2 + 1 + 1 + 1 := by omega
    rw [e1]
    simp only [attrCells, List.flatMap_cons, List.cons_append, List.nil_append, List.getElem?_cons_succ] at ih ⊢
    exact ih
theorem attrCells_inv {al : List (ByteArray × ByteArray)} {i : Nat} {u : Value} (h : (attrCells al)[i]? = some u) : ∃ j a, al[j]? = some a ∧ ((i = j * 2 ∧ u = .string a.1) ∨ (i = j * 2 + 1 ∧ u = .string a.2)) := by
  have hlt := (List.getElem?_eq_some_iff.1 h).1
  rw [attrCells_length] at hlt
  have hj : i / 2 < al.length := by omega
  obtain ⟨a, ha⟩ : ∃ a, al[i / 2]? = some a := ⟨al[i / 2], by simp [hj]⟩
  obtain ⟨x1, x2⟩ := attrCells_at al (i / 2) a ha
  refine ⟨i / 2, a, ha, ?_⟩
  rcases Nat.mod_two_eq_zero_or_one i with hm | hm
  · have e : i / 2 * 2 = i := by omega
    rw [e, h] at x1
    exact .inl ⟨e.symm, by cases x1; rfl⟩
  · have e : i / 2 * 2 + 1 = i := by omega
    rw [e, h] at x2
    exact .inr ⟨e.symm, by cases x2; rfl⟩

/-- A row of the call's own is attributes in memory. -/
theorem attrMem_own {w : World} {base : Nat} {v : Value} {al : List (ByteArray × ByteArray)} (h : w.ownsRow base 65 2 v al.length (attrCells al)) (h1 : al.length ≤ 4398046510976) (h2 : ∀ a ∈ al, a.1.size ≤ 9223372036854775807 ∧ a.2.size ≤ 9223372036854775807) :
    ∃ ao cap, v = .slice ao al.length cap ∧ al.length ≤ cap ∧ AttrMem w.heap.size w ao al := by
  obtain ⟨hl, ⟨rfl, hn⟩ | ⟨g, cap, cur, rfl, hb, hg, hc, _, hs, ht⟩⟩ := h
  · exact ⟨none, 0, by rw [hn], by omega, h1, h2, fun j a hj => by have := (List.getElem?_eq_some_iff.1 hj).1; omega⟩
  · refine ⟨_, _, rfl, hc, h1, h2, fun j a hj => ⟨g, 0, rfl, (Array.getElem?_eq_some_iff.1 hg).1, ?_, ?_⟩⟩
    · have hlt := (List.getElem?_eq_some_iff.1 hj).1
      have h3 := (attrCells_at al j a hj).1
      rw [← ht, List.getElem?_take_of_lt (by omega)] at h3
      simp [World.cell?, hg]
      simpa using h3
    · have hlt := (List.getElem?_eq_some_iff.1 hj).1
      have h3 := (attrCells_at al j a hj).2
      rw [← ht, List.getElem?_take_of_lt (by omega)] at h3
      simp [World.cell?, hg]
      simpa using h3

/-- A token with where its attributes lie. -/
abbrev TokV := Tok × Option Addr × Nat
def tokC (x : TokV) : List Value := [.int .u8 x.1.kind, .string x.1.name, .slice x.2.1 x.1.attrs.length x.2.2, .string x.1.text]
def Sized (t : Tok) : Prop := t.kind < 256 ∧ t.name.size ≤ 9223372036854775807 ∧ t.text.size ≤ 9223372036854775807 ∧ t.attrs.length ≤ 4398046510976 ∧ ∀ a ∈ t.attrs, a.1.size ≤ 9223372036854775807 ∧ a.2.size ≤ 9223372036854775807
/-- Tokens in rows of the call's own. -/
def ElRow (base : Nat) (W : World) (v : Value) (l : List TokV) : Prop :=
  W.ownsRow base 55 4 v l.length (l.flatMap tokC) ∧ ∀ x ∈ l, W.ownsRow base 65 2 (.slice x.2.1 x.1.attrs.length x.2.2) x.1.attrs.length (attrCells x.1.attrs) ∧ Sized x.1
theorem ElRow.below {base : Nat} {W W' : World} {v : Value} {l : List TokV} (h : ElRow base W v l) (hb : Below W.heap.size W W') : ElRow base W' v l :=
  ⟨own_same h.1 (fun g hg => hb.block g (own_lt h.1 g hg)), fun x hx => ⟨own_same (h.2 x hx).1 (fun g hg => hb.block g (own_lt (h.2 x hx).1 g hg)), (h.2 x hx).2⟩⟩
theorem own_types {W : World} {b1 b2 e1 e2 s1 s2 n1 n2 : Nat} {v1 v2 : Value} {x1 x2 : List Value} (h1 : W.ownsRow b1 e1 s1 v1 n1 x1) (h2 : W.ownsRow b2 e2 s2 v2 n2 x2) (hne : e1 ≠ e2) (g : Nat) (hg : v1.ownBlock = some g) : some g ≠ v2.ownBlock := by
  intro h
  obtain ⟨_, ⟨rfl, _⟩ | ⟨g1, _, _, rfl, _, y1, _⟩⟩ := h1
  · cases hg
  · cases hg
    obtain ⟨_, ⟨rfl, _⟩ | ⟨g2, _, _, rfl, _, y2, _⟩⟩ := h2
    · cases h
    · cases h
      rw [y1] at y2
      cases y2
      exact hne rfl
/-- One token more. -/
theorem ElRow.more {base : Nat} {W W' : World} {v v' : Value} {l : List TokV} {x : TokV} (h : ElRow base W v l) (hx : W.ownsRow base 65 2 (.slice x.2.1 x.1.attrs.length x.2.2) x.1.attrs.length (attrCells x.1.attrs) ∧ Sized x.1)
    (ho : W'.ownsRow base 55 4 v' (l.length + 1) (l.flatMap tokC ++ tokC x)) (hg : W.grownBy W' v.ownBlock) : ElRow base W' v' (l ++ [x]) := by
  refine ⟨by simpa using ho, fun y hy => ?_⟩
  have hy' : W.ownsRow base 65 2 (.slice y.2.1 y.1.attrs.length y.2.2) y.1.attrs.length (attrCells y.1.attrs) ∧ Sized y.1 := by
    rcases List.mem_append.1 hy with hy | hy
    · exact h.2 y hy
    · simp at hy
      subst hy
      exact hx
  exact ⟨own_same hy'.1 (fun g hgb => hg.block g (own_lt hy'.1 g hgb) (own_types hy'.1 h.1 (by decide) g hgb)), hy'.2⟩
theorem ElRow.kept {base : Nat} {W W' : World} {v : Value} {l : List TokV} (h : ElRow base W v l) (hk : ∀ j, j < W.heap.size → W'.heap[j]? = W.heap[j]?) : ElRow base W' v l :=
  ⟨own_same h.1 (fun g hg => hk g (own_lt h.1 g hg)), fun x hx => ⟨own_same (h.2 x hx).1 (fun g hg => hk g (own_lt (h.2 x hx).1 g hg)), (h.2 x hx).2⟩⟩
theorem own_base {W : World} {base e size n : Nat} {v : Value} {xs : List Value} (h : W.ownsRow base e size v n xs) (g : Nat) (hg : v.ownBlock = some g) : base ≤ g := by
  obtain ⟨_, ⟨rfl, _⟩ | ⟨g', _, _, rfl, hb, _⟩⟩ := h
  · cases hg
  · cases hg
    exact hb
theorem own_less {W : World} {base base' e size n : Nat} {v : Value} {xs : List Value} (h : W.ownsRow base e size v n xs) (hb : base' ≤ base) : W.ownsRow base' e size v n xs := by
  obtain ⟨h1, h2 | ⟨g', c, cur, hv, hb', r⟩⟩ := h
  · exact ⟨h1, .inl h2⟩
  · exact ⟨h1, .inr ⟨g', c, cur, hv, Nat.le_trans hb hb', r⟩⟩
/-- A token is put behind tokens that the call itself holds. -/
theorem append_tok (w : World) {ops : Array Oper} {rest : List Oper} {o : Oper} {a : Act} {Q : Exit → Act → World → Prop} (hg : o.guard = none) (s x : Operand)
    (hop : o.op = Op.call { callee := Callee.builtin Builtin.append, args := #[s, x], argTypes := #[22, 22] }) (base : Nat) (v : Value) (l : List TokV) (y : TokV) (hs : a.eval s = v) (hE : ElRow base w v l)
    (hy : w.ownsRow base 65 2 (.slice y.2.1 y.1.attrs.length y.2.2) y.1.attrs.length (attrCells y.1.attrs) ∧ Sized y.1) (bx : Nat) (hx : a.eval x = .slice (some ⟨bx, 0, none⟩) 1 1)
    (hc : w.heap[bx]? = some (.cells #[.int .u8 y.1.kind, .string y.1.name, .slice y.2.1 y.1.attrs.length y.2.2, .string y.1.text] 55)) (hl : l.length ≤ 2000) (hb : base ≤ w.heap.size)
    (hK : ∀ v' w', ElRow base w' v' (l ++ [y]) → Below base w w' → wpList Tryd.prog ops Q rest (a.put o.dst v') w') : wpList Tryd.prog ops Q (o :: rest) a w := by
  obtain ⟨i, hi, hz0, hz1, hz2⟩ := info_parts infoTok
  refine wpList_append_own w hg s x 22 hop base 55 i _ 4 64 Tryd.underlying22 hi hz0 hz1 hz2 rfl (by decide) v l.length (l.flatMap tokC) hs hE.1 ⟨bx, 0, none⟩ 1 1 (tokC y) hx rfl (fun j u hj => ?_) (fun u hu => ?_) (by unfold maxLen; omega) (by omega) hb ?_
  · match j, hj with
    | 0, hj => simp [tokC] at hj; subst hj; simp [Addr.add, World.cell?, hc]
    | 1, hj => simp [tokC] at hj; subst hj; simp [Addr.add, World.cell?, hc]
    | 2, hj => simp [tokC] at hj; subst hj; simp [Addr.add, World.cell?, hc]
    | 3, hj => simp [tokC] at hj; subst hj; simp [Addr.add, World.cell?, hc]
  · simp [tokC] at hu
    rcases hu with rfl | rfl | rfl | rfl <;> rfl
  · intro v' w' ho hgr _
    exact hK v' w' (hE.more hy ho hgr) ((Below.refl base w).grown hgr hb (fun k e => own_base hE.1 k e))

theorem tokCells_at : ∀ (l : List TokV) (k : Nat) (x : TokV), l[k]? = some x → (l.flatMap tokC)[k * 4]? = some (.int .u8 x.1.kind) ∧ (l.flatMap tokC)[k * 4 + 1]? = some (.string x.1.name) ∧ (l.flatMap tokC)[k * 4 + 2]? = some (.slice x.2.1 x.1.attrs.length x.2.2) ∧ (l.flatMap tokC)[k * 4 + 3]? = some (.string x.1.text)
  | [], k, x, h => by simp at h
  | y :: l, 0, x, h => by
    simp at h
    subst h
    simp [tokC]
  | y :: l, k + 1, x, h => by
    have ih := tokCells_at l k x (by simpa using h)
    have e1 : (k + 1) * 4 = k * 4 + 1 + 1 + 1 + 1 := by omega
    have e2 : (k + 1) * 4 + 1 = k * 4 + 1 + 1 + 1 + 1 + 1 := by omega
    have e3 : (k + 1) * 4 + 2 = k * 4 + 2 + 1 + 1 + 1 + 1 := by omega
    have e4 : (k + 1) * 4 + 3 = k * 4 + 3 + 1 + 1 + 1 + 1 := by omega
    rw [e2, e3, e4, e1]
    simp only [List.flatMap_cons, tokC, List.cons_append, List.nil_append, List.getElem?_cons_succ] at ih ⊢
    exact ih
/-- Where the attributes of tokens in rows lie. -/
def avOf (l : List TokV) (k : Nat) : Option Addr × Nat := (l[k]?.map (·.2)).getD (none, 0)
/-- Tokens in rows of the call's own are tokens in memory. -/
theorem tokMem_own {base : Nat} {W : World} {v : Value} {l : List TokV} (h : ElRow base W v l) (hl : l.length ≤ 2000) : ∃ ao cap, v = .slice ao l.length cap ∧ TokMem W.heap.size W ao (l.map (·.1)) (avOf l) := by
  obtain ⟨ho, hx⟩ := h
  obtain ⟨ga, gc, rfl⟩ := own_shape ho
  refine ⟨ga, gc, rfl, by simp; omega, fun k t hk => ?_⟩
  obtain ⟨x, hxk, rfl⟩ : ∃ x, l[k]? = some x ∧ x.1 = t := by simpa using hk
  have hm := hx x (List.mem_of_getElem? hxk)
  have hav : avOf l k = x.2 := by simp [avOf, hxk]
  rw [hav]
  obtain ⟨s1, s2, s3, s4, s5⟩ := hm.2
  obtain ⟨ao', cap', e, hc, hA⟩ := attrMem_own hm.1 s4 s5
  cases e
  refine ⟨s1, s2, s3, hA, hc, ?_⟩
  have hlt := (List.getElem?_eq_some_iff.1 hxk).1
  obtain ⟨hl', ⟨e, hn⟩ | ⟨g, cap, cur, e, hb, hg, hc', _, hs, ht⟩⟩ := ho
  · omega
  · cases e
    refine ⟨g, 0, rfl, (Array.getElem?_eq_some_iff.1 hg).1, ?_⟩
    obtain ⟨q1, q2, q3, q4⟩ := tokCells_at l k x hxk
    rw [← ht, List.getElem?_take_of_lt (by omega)] at q1 q2 q3 q4
    refine ⟨?_, ?_, ?_, ?_⟩ <;> (simp [World.cell?, hg]; first | simpa using q1 | simpa using q2 | simpa using q3 | simpa using q4)
end Go.Proofs.YthmidlmknkbdaaaDoor.Xm
