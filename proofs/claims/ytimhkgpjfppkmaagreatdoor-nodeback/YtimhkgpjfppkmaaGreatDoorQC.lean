/- Nodes in memory. Whom a node's subscriptions tell. A map of numbers in memory: its entries, in the order in which they came. Where the first node of each name stands. -/
import Derived.Test.YtimhkgpjfppkmaaGreatDoorDL
import Derived.Test.YtimhkgpjfppkmaaGreatDoorA0g
import Derived.Test.YtimhkgpjfppkmaaGreatDoorRN
import Derived.OwnWalk
import Derived.Maps.RangeRun
import Derived.MapKept
import Derived.ChangeMaps4
namespace Go.Proofs.YtimhkgpjfppkmaaGreatDoor
open Go.RowKit

/-- A node. -/
structure Nd where
  name : ByteArray
  coll : Bool
  acc : Nat
  max : Int
  affs : List (ByteArray × Nat)
  subs : List (ByteArray × Bool × Int)
  items : List (ByteArray × ByteArray × ByteArray)
  parent : ByteArray
/-- Where a node's lists lie: an address and a room each. -/
structure NdW where
  aa : Option Addr
  ac : Nat
  sa : Option Addr
  sc : Nat
  ia : Option Addr
  ic : Nat
def ndC (n : Nd) (v : NdW) : List Value := [.string n.name, .bool n.coll, .int .u8 n.acc, .int .i64 n.max, .slice v.aa n.affs.length v.ac, .slice v.sa n.subs.length v.sc, .slice v.ia n.items.length v.ic, .string n.parent]
def ndA (n : Nd) (v : NdW) : Array Value := #[.string n.name, .bool n.coll, .int .u8 n.acc, .int .i64 n.max, .slice v.aa n.affs.length v.ac, .slice v.sa n.subs.length v.sc, .slice v.ia n.items.length v.ic, .string n.parent]
def AffMem (n₀ : Nat) (w : World) (ao : Option Addr) (l : List (ByteArray × Nat)) : Prop :=
  l.length ≤ 1000000 ∧ ∀ k x, l[k]? = some x → ∃ b off, ao = some ⟨b, off, none⟩ ∧ b < n₀ ∧ w.cell? ⟨b, off + k * 2, none⟩ = some (.string x.1) ∧ w.cell? ⟨b, off + k * 2 + 1, none⟩ = some (.int .u8 x.2)
def SubMem (n₀ : Nat) (w : World) (ao : Option Addr) (l : List (ByteArray × Bool × Int)) : Prop :=
  l.length ≤ 1000000 ∧ ∀ k x, l[k]? = some x → ∃ b off, ao = some ⟨b, off, none⟩ ∧ b < n₀ ∧ w.cell? ⟨b, off + k * 3, none⟩ = some (.string x.1) ∧ w.cell? ⟨b, off + k * 3 + 1, none⟩ = some (.bool x.2.1) ∧ w.cell? ⟨b, off + k * 3 + 2, none⟩ = some (.int .i64 x.2.2)
theorem AffMem.below {n₀ : Nat} {w w' : World} {ao : Option Addr} {l : List (ByteArray × Nat)} (h : AffMem n₀ w ao l) (hb : Below n₀ w w') : AffMem n₀ w' ao l :=
  ⟨h.1, fun k x hk => by
    obtain ⟨b, off, e, hb1, c0, c1⟩ := h.2 k x hk
    exact ⟨b, off, e, hb1, (hb.cell (p := ⟨b, _, none⟩) hb1).trans c0, (hb.cell (p := ⟨b, _, none⟩) hb1).trans c1⟩⟩
theorem SubMem.below {n₀ : Nat} {w w' : World} {ao : Option Addr} {l : List (ByteArray × Bool × Int)} (h : SubMem n₀ w ao l) (hb : Below n₀ w w') : SubMem n₀ w' ao l :=
  ⟨h.1, fun k x hk => by
    obtain ⟨b, off, e, hb1, c0, c1, c2⟩ := h.2 k x hk
    exact ⟨b, off, e, hb1, (hb.cell (p := ⟨b, _, none⟩) hb1).trans c0, (hb.cell (p := ⟨b, _, none⟩) hb1).trans c1, (hb.cell (p := ⟨b, _, none⟩) hb1).trans c2⟩⟩
theorem AffMem.raise {n₀ n₁ : Nat} {w : World} {ao : Option Addr} {l : List (ByteArray × Nat)} (h : AffMem n₀ w ao l) (hn : n₀ ≤ n₁) : AffMem n₁ w ao l :=
  ⟨h.1, fun k x hk => by
    obtain ⟨b, off, e, hb1, c⟩ := h.2 k x hk
    exact ⟨b, off, e, Nat.lt_of_lt_of_le hb1 hn, c⟩⟩
theorem SubMem.raise {n₀ n₁ : Nat} {w : World} {ao : Option Addr} {l : List (ByteArray × Bool × Int)} (h : SubMem n₀ w ao l) (hn : n₀ ≤ n₁) : SubMem n₁ w ao l :=
  ⟨h.1, fun k x hk => by
    obtain ⟨b, off, e, hb1, c⟩ := h.2 k x hk
    exact ⟨b, off, e, Nat.lt_of_lt_of_le hb1 hn, c⟩⟩
/-- A node's lists lie there. -/
def NdOk (n₀ : Nat) (w : World) (n : Nd) (v : NdW) : Prop := AffMem n₀ w v.aa n.affs ∧ SubMem n₀ w v.sa n.subs ∧ n.affs.length ≤ v.ac ∧ n.subs.length ≤ v.sc
theorem NdOk.below {n₀ : Nat} {w w' : World} {n : Nd} {v : NdW} (h : NdOk n₀ w n v) (hb : Below n₀ w w') : NdOk n₀ w' n v := ⟨h.1.below hb, h.2.1.below hb, h.2.2⟩
theorem NdOk.raise {n₀ n₁ : Nat} {w : World} {n : Nd} {v : NdW} (h : NdOk n₀ w n v) (hn : n₀ ≤ n₁) : NdOk n₁ w n v := ⟨h.1.raise hn, h.2.1.raise hn, h.2.2⟩
/-- Nodes that are read. -/
def NdsMem (n₀ : Nat) (w : World) (ao : Option Addr) (l : List Nd) (vs : Nat → NdW) : Prop :=
  l.length ≤ 1000 ∧ ∀ k n, l[k]? = some n → NdOk n₀ w n (vs k) ∧ ∃ b off, ao = some ⟨b, off, none⟩ ∧ b < n₀ ∧ ∀ j (h : j < 8), w.cell? ⟨b, off + k * 8 + j, none⟩ = some ((ndC n (vs k))[j]'h)
theorem NdsMem.below {n₀ : Nat} {w w' : World} {ao : Option Addr} {l : List Nd} {vs : Nat → NdW} (h : NdsMem n₀ w ao l vs) (hb : Below n₀ w w') : NdsMem n₀ w' ao l vs :=
  ⟨h.1, fun k n hk => by
    obtain ⟨h1, b, off, e, hb1, c⟩ := h.2 k n hk
    exact ⟨h1.below hb, b, off, e, hb1, fun j hj => (hb.cell (p := ⟨b, _, none⟩) hb1).trans (c j hj)⟩⟩
theorem NdsMem.raise {n₀ n₁ : Nat} {w : World} {ao : Option Addr} {l : List Nd} {vs : Nat → NdW} (h : NdsMem n₀ w ao l vs) (hn : n₀ ≤ n₁) : NdsMem n₁ w ao l vs :=
  ⟨h.1, fun k n hk => by
    obtain ⟨h1, b, off, e, hb1, c⟩ := h.2 k n hk
    exact ⟨h1.raise hn, b, off, e, Nat.lt_of_lt_of_le hb1 hn, c⟩⟩
theorem nd_box {w : World} {b : Nat} {n : Nd} {v : NdW} {ty : TypeId} (h : w.heap[b]? = some (.cells (ndA n v) ty)) : w.cell? ⟨b, 0, none⟩ = some (.string n.name) ∧ w.cell? ⟨b, 1, none⟩ = some (.bool n.coll) ∧ w.cell? ⟨b, 2, none⟩ = some (.int .u8 n.acc) ∧ w.cell? ⟨b, 3, none⟩ = some (.int .i64 n.max) ∧ w.cell? ⟨b, 4, none⟩ = some (.slice v.aa n.affs.length v.ac) ∧ w.cell? ⟨b, 5, none⟩ = some (.slice v.sa n.subs.length v.sc) ∧ w.cell? ⟨b, 6, none⟩ = some (.slice v.ia n.items.length v.ic) ∧ w.cell? ⟨b, 7, none⟩ = some (.string n.parent) := by
  unfold ndA at h
  refine ⟨?_, ?_, ?_, ?_, ?_, ?_, ?_, ?_⟩ <;> simp [World.cell?, h]
/-- Whom a subscription of a node tells, so many steps down. -/
def reachB (steps : Int) (x : ByteArray × Bool × Int) : Bool := !x.2.1 && (decide (steps = 0) || decide (x.2.2 = 0) || decide (steps ≤ x.2.2))
def reachL (steps : Int) (l : List (ByteArray × Bool × Int)) : List ByteArray := (l.filter (reachB steps)).map (·.1)
end Go.Proofs.YtimhkgpjfppkmaaGreatDoor
namespace Go.Proofs.YtimhkgpjfppkmaaGreatDoor
open Go.RowKit Go.Shelf

theorem stopNd {p : Prop} (h : Hid p) : p := h
theorem reach_take {steps : Int} {l : List (ByteArray × Bool × Int)} {k : Nat} {x : ByteArray × Bool × Int} (h : l[k]? = some x) : reachL steps (l.take (k + 1)) = reachL steps (l.take k) ++ (if reachB steps x = true then [x.1] else []) := by
  rw [List.take_add_one, h]
  unfold reachL
  rw [List.filter_append, List.map_append]
  cases hb : reachB steps x <;> simp [hb]
theorem reach_len (steps : Int) (l : List (ByteArray × Bool × Int)) : (reachL steps l).length ≤ l.length := by
  unfold reachL
  rw [List.length_map]
  exact List.length_filter_le _ _
/-- One name more in a row of the call's own. -/
theorem append_one (w : World) {ops : Array Oper} {rest : List Oper} {o : Oper} {a : Act} {Q : Exit → Act → World → Prop} (hg : o.guard = none) (s x : Operand)
    (hop : o.op = Op.call { callee := Callee.builtin Builtin.append, args := #[s, x], argTypes := #[42, 42] }) (base : Nat) (v : Value) (l : List ByteArray) (hs : a.eval s = v) (hE : w.ownsRow base 9 1 v l.length (strC l)) (u : ByteArray) (bx : Nat)
    (hx : a.eval x = .slice (some ⟨bx, 0, none⟩) 1 1) (hc : w.heap[bx]? = some (.cells #[.string u] 9)) (hl : l.length ≤ 2000000) (hb : base ≤ w.heap.size)
    (hK : ∀ v' w', w'.ownsRow base 9 1 v' (l ++ [u]).length (strC (l ++ [u])) → w.grownBy w' v.ownBlock → wpList Tryz.prog ops Q rest (a.put o.dst v') w') : wpList Tryz.prog ops Q (o :: rest) a w := by
  obtain ⟨i, hi, hz0, hz1, hz2⟩ := info_parts info9
  obtain ⟨v', w', hrun, r1, r2, _, r4⟩ := run_append_own_at (P := Tryz.prog) w base 42 o.type 9 i _ 1 16 Tryz.underlying42 hi hz0 hz1 hz2 rfl (by decide) v l.length (strC l) hE ⟨bx, 0, none⟩ 1 1 [.string u] rfl (fun j z hj => by
    match j, hj with
    | 0, hj => simp at hj; subst hj; simp [Addr.add, World.cell?, hc]) (by simp [Value.oneCell']) (by unfold maxLen; omega) (by omega) hb
  refine wpList_plain hg fun K hK' => ?_
  unfold Oper.wp
  simp [execOp, hop, resolve, invoke, builtin, hs, hx, hrun, Result.andThen]
  have h2 : strC (l ++ [u]) = strC l ++ [.string u] := by simp [strC]
  exact hK' _ _ (hK v' w' (by rw [h2, List.length_append]; exact r1) r2)
theorem own_shape1 {w : World} {base : Nat} {e : TypeId} {size : Nat} {v : Value} {n : Nat} {xs : List Value} (h : w.ownsRow base e size v n xs) : ∃ ga gc, v = .slice ga n gc := by
  obtain ⟨_, ⟨rfl, rfl⟩ | ⟨g, cap, _, rfl, _⟩⟩ := h
  · exact ⟨none, 0, rfl⟩
  · exact ⟨_, _, rfl⟩
end Go.Proofs.YtimhkgpjfppkmaaGreatDoor
namespace Go.Proofs.YtimhkgpjfppkmaaGreatDoor
open Go.RowKit Go.MapKept
open Go.ChangeMaps (setBlock)

/-- An entry: its key, its value, its number. -/
structure En where
  k : ByteArray
  v : Nat
  b : Nat
def en (x : En) : MapEntry := ⟨.string x.k, .int .i64 (x.v : Nat), x.b⟩
def enA (l : List En) : Array MapEntry := (l.map en).toArray
structure MOk (l : List En) (c : Nat) : Prop where
  keys : (l.map (·.k)).Nodup
  born : (l.map (·.b)).Nodup
  lt : ∀ x ∈ l, x.b < c
/-- Where a key is found. -/
theorem find_at (k : ByteArray) : ∀ (l : List En) (i : Nat), (∃ j x, l[j]? = some x ∧ x.k = k ∧ Instr.findNow .string (.string k) (l.map en) i = some (some (i + j, .int .i64 (x.v : Nat)))) ∨ ((∀ x ∈ l, x.k ≠ k) ∧ Instr.findNow .string (.string k) (l.map en) i = some none)
  | [], i => .inr ⟨by simp, by simp [Instr.findNow]⟩
  | x :: l, i => by
    by_cases h : x.k = k
    · refine .inl ⟨0, x, rfl, h, ?_⟩
      have : (k == x.k) = true := (bytes_beq _ _).2 h.symm
      simp [Instr.findNow, en, Instr.sameNow, this]
    · have hf : (k == x.k) = false := by
        cases hb : (k == x.k) with
        | false => rfl
        | true => exact absurd ((bytes_beq _ _).1 hb).symm h
      rcases find_at k l (i + 1) with ⟨j, y, h1, h2, h3⟩ | ⟨h1, h2⟩
      · refine .inl ⟨j + 1, y, by simpa using h1, h2, ?_⟩
        simp only [List.map_cons, Instr.findNow, en, Instr.sameNow, hf]
        rw [show i + (j + 1) = i + 1 + j by omega]
        exact h3
      · refine .inr ⟨fun y hy => ?_, ?_⟩
        · rcases List.mem_cons.1 hy with rfl | hy
          · exact h
          · exact h1 y hy
        · simp only [List.map_cons, Instr.findNow, en, Instr.sameNow, hf]
          exact h2
theorem zeroE (w : World) : (zeroValue 3).run Tryz.prog w = .ok (.int .i64 0) w := by kernel_rfl
theorem findKey_run (k : ByteArray) (l : List En) (w : World) : (Instr.findKey 9 (.string k) (enA l).toList).run Tryz.prog w = .ok ((Instr.findNow .string (.string k) (l.map en) 0).getD none) w := by
  unfold Instr.findKey enA
  simp only [Sem.run_bind, run_underlying Tryz.underlying9, Result.andThen_ok]
  rcases find_at k l 0 with ⟨j, x, h1, h2, h3⟩ | ⟨h1, h2⟩
  · simp [h3]
  · simp [h2]
theorem enA_empty (l : List En) : (enA l).isEmpty = l.isEmpty := by
  unfold enA
  cases l <;> simp
/-- What a key stands for. -/
def getE (l : List En) (k : ByteArray) : Option Nat := (l.find? fun x => decide (x.k = k)).map (·.v)
theorem getE_yes {l : List En} {j : Nat} {x : En} {k : ByteArray} (hn : (l.map (·.k)).Nodup) (hj : l[j]? = some x) (hk : x.k = k) : getE l k = some x.v := by
  unfold getE
  cases hf : l.find? (fun y => decide (y.k = k)) with
  | none => exact absurd (List.find?_eq_none.1 hf x (List.mem_of_getElem? hj)) (by simp [hk])
  | some y =>
    have h1 : y.k = k := by simpa using List.find?_some hf
    obtain ⟨i, hi⟩ := List.mem_iff_getElem?.1 (List.mem_of_find?_eq_some hf)
    have h2 : (l.map (·.k))[j]? = some k := by simp [hj, hk]
    have h3 : (l.map (·.k))[i]? = some k := by simp [hi, h1]
    have hlt := (List.getElem?_eq_some_iff.1 h2).1
    have e := (List.getElem?_inj hlt hn).1 (h2.trans h3.symm)
    subst e
    rw [hj] at hi
    cases hi
    rfl
theorem getE_no {l : List En} {k : ByteArray} (h : ∀ x ∈ l, x.k ≠ k) : getE l k = none := by
  unfold getE
  rw [Option.map_eq_none_iff, List.find?_eq_none]
  intro x hx
  simp [h x hx]
theorem mem_keys {l : List En} {k : ByteArray} : (l.map (·.k)).contains k = true ↔ ∃ x ∈ l, x.k = k := by
  simp only [List.contains_map, List.any_eq_true, bytes_beq]
  constructor
  · rintro ⟨x, hx, e⟩
    exact ⟨x, hx, e.symm⟩
  · rintro ⟨x, hx, e⟩
    exact ⟨x, hx, e.symm⟩
theorem more_ok {l : List En} {c : Nat} (h : MOk l c) (k : ByteArray) (v : Nat) (hk : ∀ x ∈ l, x.k ≠ k) : MOk (l ++ [⟨k, v, c⟩]) (c + 1) := by
  refine ⟨?_, ?_, fun x hx => ?_⟩
  · rw [List.map_append, List.nodup_append]
    refine ⟨h.keys, by simp, fun a ha b hb e => ?_⟩
    simp at hb
    subst hb e
    rw [List.mem_map] at ha
    obtain ⟨x, hx, hxk⟩ := ha
    exact hk x hx hxk
  · rw [List.map_append, List.nodup_append]
    refine ⟨h.born, by simp, fun a ha b hb e => ?_⟩
    simp at hb
    subst hb e
    rw [List.mem_map] at ha
    obtain ⟨x, hx, hxb⟩ := ha
    have := h.lt x hx
    omega
  · rcases List.mem_append.1 hx with hx | hx
    · have := h.lt x hx
      omega
    · simp at hx
      subst hx
      exact Nat.lt_succ_self c
/-- The entries behind a delete. -/
def delL (l : List En) (k : ByteArray) : List En := l.filter fun x => !decide (x.k = k)
theorem delL_ok {l : List En} {c : Nat} (h : MOk l c) (k : ByteArray) : MOk (delL l k) c :=
  ⟨h.keys.sublist (List.Sublist.map _ List.filter_sublist), h.born.sublist (List.Sublist.map _ List.filter_sublist), fun x hx => h.lt x (List.mem_filter.1 hx).1⟩
theorem erase_one {k : ByteArray} : ∀ {l : List En} {j : Nat} {x : En}, (l.map (·.k)).Nodup → l[j]? = some x → x.k = k → l.eraseIdx j = delL l k
  | [], j, x, _, h, _ => by simp at h
  | y :: l, 0, x, hn, h, hk => by
    simp at h
    subst h
    have hn' := List.nodup_cons.1 hn
    have : delL l k = l := by
      unfold delL
      rw [List.filter_eq_self]
      intro z hz
      simp
      intro e
      exact hn'.1 (by show y.k ∈ _; rw [hk, ← e]; exact List.mem_map.2 ⟨z, hz, rfl⟩)
    unfold delL at this ⊢
    rw [List.filter_cons_of_neg (by simp [hk]), this]
    rfl
  | y :: l, j + 1, x, hn, h, hk => by
    have hn' := List.nodup_cons.1 hn
    have hne : y.k ≠ k := fun e => hn'.1 (by
      show y.k ∈ _
      rw [e, ← hk]
      exact List.mem_map.2 ⟨x, List.mem_of_getElem? (by simpa using h), rfl⟩)
    have ih := erase_one hn'.2 (by simpa using h : l[j]? = some x) hk
    unfold delL at ih ⊢
    rw [List.filter_cons_of_pos (by simp [hne]), List.eraseIdx_cons_succ, ih]
end Go.Proofs.YtimhkgpjfppkmaaGreatDoor
namespace Go.Proofs.YtimhkgpjfppkmaaGreatDoor
open Go.RowKit Go.MapKept
open Go.ChangeMaps (setBlock)

def plAdd (l : List En) (n : Nd) (i : Nat) : List En := if getE l n.name = none ∧ n.name.size ≠ 0 then l ++ [⟨n.name, i, l.length⟩] else l
def plTo (ns : List Nd) : Nat → List En
  | 0 => []
  | k + 1 => match ns[k]? with
    | some n => plAdd (plTo ns k) n k
    | none => plTo ns k
theorem getE_none {l : List En} {k : ByteArray} (h : getE l k = none) : ∀ x ∈ l, x.k ≠ k := by
  unfold getE at h
  rw [Option.map_eq_none_iff, List.find?_eq_none] at h
  intro x hx e
  exact h x hx (by simp [e])
theorem plAdd_ok {l : List En} (h : MOk l l.length) (n : Nd) (i : Nat) : MOk (plAdd l n i) (plAdd l n i).length := by
  unfold plAdd
  split
  · rename_i hc
    rw [List.length_append]
    exact more_ok h n.name i (getE_none hc.1)
  · exact h
theorem plTo_ok (ns : List Nd) : ∀ k, MOk (plTo ns k) (plTo ns k).length
  | 0 => ⟨by simp [plTo], by simp [plTo], by simp [plTo]⟩
  | k + 1 => by
    unfold plTo
    split
    · exact plAdd_ok (plTo_ok ns k) _ _
    · exact plTo_ok ns k
theorem setBlock_here (w : World) (b : Nat) (o : Obj) (hb : b < w.heap.size) : (setBlock w b o).heap[b]? = some o := by
  simp [setBlock, hb]
theorem setBlock_off (w : World) (b j : Nat) (o : Obj) (hj : j ≠ b) : (setBlock w b o).heap[j]? = w.heap[j]? := by
  simp [setBlock, Array.getElem?_setIfInBounds]
  intro h
  exact absurd h.symm hj
theorem below_setBlock {n₀ b : Nat} {w : World} (hb : n₀ ≤ b) (o : Obj) : Below n₀ w (setBlock w b o) := ⟨rfl, rfl, rfl, by simp [setBlock], fun k hk => setBlock_off w b k o (by omega)⟩
theorem str_full {s : ByteArray} (h : s.size ≠ 0) : s.toList.isEmpty = false := by
  cases hl : s.toList with
  | nil =>
    have : s.toList.length = s.size := by rw [ByteArray.toList_eq]; simp
    rw [hl] at this
    simp at this
    omega
  | cons a l => rfl
theorem str_none {s : ByteArray} (h : s.size = 0) : s.toList.isEmpty = true := by
  cases hl : s.toList with
  | nil => rfl
  | cons a l =>
    have : s.toList.length = s.size := by rw [ByteArray.toList_eq]; simp
    rw [hl] at this
    simp at this
    omega
end Go.Proofs.YtimhkgpjfppkmaaGreatDoor
