/- The walk over tokens: what it yields, token by token. -/
import Derived.Test.YtimhkgpjfppkmaaDoorKindAt
import Derived.Test.YtimhkgpjfppkmaaDoorRange
import Derived.Deep.RegionHeld3
import Derived.Maps.AppendAt
import Derived.Laws.Rows
namespace Go.Proofs.YtimhkgpjfppkmaaDoor
open Go.RowKit Go.Shelf
attribute [local go_sem] Oper.semAt_some

/-- A step's value. -/
def stepV (ts : List Tok) (av : Nat → Option Addr × Nat) (k : Nat) : Value :=
  match ts[k]? with
  | none => undef
  | some t => .agg #[.int .u8 t.kind, .string t.name, .slice (av k).1 t.attrs.length (av k).2, .string t.text, .int .u8 (kindOf ts (k - 1 : Int)), .int .u8 (kindOf ts (k + 1 : Int)), .string ((openAt ts k).getLast?.getD ⟨#[]⟩), .int .i64 (openAt ts k).length, .int .i64 (openAt ts (k + 1)).length]
theorem own_shape {w : World} {base : Nat} {e : TypeId} {size : Nat} {v : Value} {n : Nat} {xs : List Value} (h : w.ownsRow base e size v n xs) : ∃ ga gc, v = .slice ga n gc := by
  obtain ⟨_, ⟨rfl, rfl⟩ | ⟨g, cap, _, rfl, _⟩⟩ := h
  · exact ⟨none, 0, rfl⟩
  · exact ⟨_, _, rfl⟩
theorem wrap_id (x : Int) (h1 : -9223372036854775808 ≤ x) (h2 : x ≤ 9223372036854775807) : IntKind.i64.wrap x = x := by
  rw [IntKind.wrap_i64]
  omega
/-- A piece of code that ends in one way alone, walked as everywhere. -/
theorem region_cut {P : Program} {n : Nat} {c : Code} {Q : Exit → Act → World → Prop} {a : Act} {w : World} (A : Act) (W0 : World) (h : c.wp P (fun e a w' => e = .normal ∧ a = A ∧ w' = W0) a w) (hq : Q .normal A W0) : c.wpIn Fence.wide n P Q a w :=
  wpIn_mono (wpIn_wide.2 h) (by rintro e a w ⟨rfl, rfl, rfl⟩; exact hq)
theorem stopHere {p : Prop} (h : Hid p) : p := h
def NoRow (o : Obj) : Prop := ∀ c fz, o ≠ .cells c 5 fz

theorem infoString : (Tryd.prog.info? 9).map (fun i => (i.zero, i.size, i.bytes)) = some (some (.string ⟨#[]⟩), 1, 16) := by kernel_rfl
/-- A name is put behind names that the call itself holds: where they lie then. -/
theorem append_name {n : Nat} (w : World) {ops : Array Oper} {rest : List Oper} {o : Oper} {a : Act} {Q : Exit → Act → World → Prop} (hg : o.guard = none) (s x : Operand)
    (hop : o.op = Op.call { callee := Callee.builtin Builtin.append, args := #[s, x], argTypes := #[78, 78] }) (base : Nat) (v : Value) (k : Nat) (xs : List Value) (hs : a.eval s = v) (hown : w.ownsRow base 9 1 v k xs) (ad : Addr) (u : ByteArray)
    (hx : a.eval x = .slice (some ad) 1 1) (hc : ∀ j z, [Value.string u][j]? = some z → w.cell? (ad.add j) = some z) (hk : k ≤ 2199023255488) (hb : base ≤ w.heap.size)
    (hK : ∀ v' w', w'.ownsRow base 9 1 v' (k + 1) (xs ++ [Value.string u]) → w.grownBy w' v.ownBlock → (v'.ownBlock = v.ownBlock ∨ v'.ownBlock = some w.heap.size) → wpListIn Fence.wide n Tryd.prog ops Q rest (a.put o.dst v') w') :
    wpListIn Fence.wide n Tryd.prog ops Q (o :: rest) a w := by
  obtain ⟨i, hi, hz0, hz1, hz2⟩ := info_parts infoString
  obtain ⟨v', w', hr, r1, r2, _, r4⟩ := run_append_own_at (P := Tryd.prog) w base 78 o.type 9 i _ 1 16 Tryd.underlying78 hi hz0 hz1 hz2 rfl (by decide) v k xs hown ad 1 1 [.string u] rfl hc (by simp [Value.oneCell']) (by unfold maxLen; omega) (by omega) hb
  refine wpListIn_plain hg fun K hK' => ?_
  unfold Oper.wpIn
  refine ⟨by simp [Oper.about, hop, resolve, Target.leads, Sem.run_pure], ?_⟩
  rw [Oper.semAt_plain Fence.wide _ _ (by rw [hop]; intro c hc'; cases hc')]
  simp [execOp, hop, resolve, invoke, builtin, hs, hx, hr, Result.andThen]
  exact hK' _ _ (hK v' w' r1 r2 r4)

theorem own_same {A B : World} {base : Nat} {e : TypeId} {size : Nat} {v : Value} {n : Nat} {xs : List Value} (h : A.ownsRow base e size v n xs) (hg : ∀ g, v.ownBlock = some g → B.heap[g]? = A.heap[g]?) : B.ownsRow base e size v n xs := by
  obtain ⟨h1, h2 | ⟨g, cap, cur, rfl, x1, x2, x3⟩⟩ := h
  · exact ⟨h1, .inl h2⟩
  · exact ⟨h1, .inr ⟨g, cap, cur, rfl, x1, (hg g rfl).trans x2, x3⟩⟩
/-- The last name is taken off. -/
theorem own_pop {w : World} {base : Nat} {e : TypeId} {ga : Option Addr} {gc m : Nat} {xs : List Value} {x : Value} (h : w.ownsRow base e 1 (.slice ga (m + 1) gc) (m + 1) (xs ++ [x])) : w.ownsRow base e 1 (.slice ga m gc) m xs := by
  obtain ⟨h1, ⟨h2, h3⟩ | ⟨g, cap, cur, hv, x1, x2, x3, x4, x5, x6⟩⟩ := h
  · omega
  · cases hv
    have hl : xs.length = m := by simpa using h1
    refine ⟨by omega, .inr ⟨g, gc, cur, rfl, x1, x2, by omega, x4, x5, ?_⟩⟩
    have := congrArg (List.take m) x6
    rw [List.take_take, Nat.min_eq_left (by omega)] at this
    rw [Nat.mul_one, this, ← hl]
    exact List.take_left
theorem own_last {w : World} {base : Nat} {e : TypeId} {ga : Option Addr} {gc m : Nat} {xs : List Value} {x : Value} (h : w.ownsRow base e 1 (.slice ga (m + 1) gc) (m + 1) (xs ++ [x])) : ∃ g, ga = some ⟨g, 0, none⟩ ∧ m < gc ∧ w.cell? ⟨g, m, none⟩ = some x := by
  obtain ⟨h1, ⟨h2, h3⟩ | ⟨g, cap, cur, hv, x1, x2, x3, x4, x5, x6⟩⟩ := h
  · omega
  · cases hv
    have hl : xs.length = m := by simpa using h1
    have h7 : (cur.toList.take ((m + 1) * 1))[m]? = some x := by rw [x6, ← hl]; simp
    rw [List.getElem?_take_of_lt (by omega)] at h7
    exact ⟨g, rfl, by omega, by simp [World.cell?, x2]; simpa using h7⟩

theorem own_lt {w : World} {base : Nat} {e : TypeId} {size : Nat} {v : Value} {n : Nat} {xs : List Value} (h : w.ownsRow base e size v n xs) (g : Nat) (hg : v.ownBlock = some g) : g < w.heap.size := by
  obtain ⟨_, ⟨rfl, _⟩ | ⟨g', cap, cur, rfl, x1, x2, x3⟩⟩ := h
  · cases hg
  · cases hg
    exact (Array.getElem?_eq_some_iff.1 x2).1
theorem cells9 {w : World} {b : Nat} {a0 a1 a2 a3 a4 a5 a6 a7 a8 : Value} {ty : TypeId} (h : w.heap[b]? = some (.cells #[a0, a1, a2, a3, a4, a5, a6, a7, a8] ty)) :
    w.cell? ⟨b, 0, none⟩ = some a0 ∧ w.cell? ⟨b, 1, none⟩ = some a1 ∧ w.cell? ⟨b, 2, none⟩ = some a2 ∧ w.cell? ⟨b, 3, none⟩ = some a3 ∧ w.cell? ⟨b, 4, none⟩ = some a4 ∧ w.cell? ⟨b, 5, none⟩ = some a5 ∧ w.cell? ⟨b, 6, none⟩ = some a6 ∧ w.cell? ⟨b, 7, none⟩ = some a7 ∧ w.cell? ⟨b, 8, none⟩ = some a8 ∧ ∀ i, w.frozen? ⟨b, i, none⟩ = false := by
  refine ⟨?_, ?_, ?_, ?_, ?_, ?_, ?_, ?_, ?_, fun i => ?_⟩ <;> simp [World.cell?, World.frozen?, h]

theorem heap_set9 {w : World} {b : Nat} {cs : Array Value} {ty : TypeId} (h : w.heap[b]? = some (.cells cs ty)) (i : Nat) (v : Value) : (w.setCell ⟨b, i, none⟩ v).heap[b]? = some (.cells (cs.setIfInBounds i v) ty) := by
  exact heap_setCell_same w b i cs ty v h
/-- The blocks of the walk: the box of its list, and its names' row. -/
def mine (Bs : Nat) (ov : Value) : Blk := fun j => j = Bs ∨ ov.ownBlock = some j

end Go.Proofs.YtimhkgpjfppkmaaDoor
