/- A node's text, word by word. A node's words: rows of strings of one's own. -/
import Derived.Test.YtimhkgpjfppkmaaGreatDoorRF
import Derived.Test.YtimhkgpjfppkmaaGreatDoorAt0
import Derived.Test.YtimhkgpjfppkmaaGreatDoorNc0
import Derived.Test.YtimhkgpjfppkmaaGreatDoorRB
import Derived.Test.YtimhkgpjfppkmaaGreatDoorQG
namespace Go.Proofs.YtimhkgpjfppkmaaGreatDoor

def itB (v : Int) : ByteArray := ⟨(Lib.itoa v).toArray⟩
def eitB (yes no : ByteArray) (b : Bool) : ByteArray := if b = true then yes else no
def wA (x : ByteArray × Nat) : List ByteArray := [x.1, itB x.2]
def wS (x : ByteArray × Bool × Int) : List ByteArray := [x.1, eitB ⟨#[112]⟩ ⟨#[115]⟩ x.2.1, itB x.2.2]
def wI (x : ByteArray × ByteArray × ByteArray) : List ByteArray := [x.1, x.2.1, x.2.2]
/-- A node's words. -/
def wordsN (n : Nd) : List ByteArray := [n.name, eitB ⟨#[99]⟩ ⟨#[108]⟩ n.coll, itB n.acc, itB n.max, n.parent] ++ [itB n.affs.length] ++ n.affs.flatMap wA ++ [itB n.subs.length] ++ n.subs.flatMap wS ++ [itB n.items.length] ++ n.items.flatMap wI
def encB (x : ByteArray) : List UInt8 := encW (bsT x)
theorem itB_num (k : Nat) : encB (itB k) = encNum k := by
  unfold encB itB bsT encNum
  rw [Lib.itoa_nonneg]
theorem eitB_eit (y n : ByteArray) (b : Bool) : encB (eitB y n b) = encEit (bsT y) (bsT n) b := by
  unfold encB eitB encEit
  cases b <;> rfl
theorem wA_enc (l : List (ByteArray × Nat)) : (l.flatMap wA).flatMap encB = encMany encAff l := by
  unfold encMany
  rw [List.flatMap_assoc, List.flatMap_def]
  congr 2
  funext x
  simp only [wA, List.flatMap_cons, List.flatMap_nil, List.append_nil, itB_num]
  rfl
theorem wS_enc (l : List (ByteArray × Bool × Int)) (h : ∀ x ∈ l, 0 ≤ x.2.2) : (l.flatMap wS).flatMap encB = encMany encSub l := by
  unfold encMany
  rw [List.flatMap_assoc, List.flatMap_def]
  congr 1
  refine List.map_congr_left fun x hx => ?_
  obtain ⟨k, hk⟩ : ∃ k : Nat, x.2.2 = k := ⟨x.2.2.toNat, by have := h x hx; omega⟩
  simp only [wS, List.flatMap_cons, List.flatMap_nil, List.append_nil, eitB_eit]
  unfold encSub
  rw [hk, itB_num]
  rfl
theorem wI_enc (l : List (ByteArray × ByteArray × ByteArray)) : (l.flatMap wI).flatMap encB = encMany encIt l := by
  unfold encMany
  rw [List.flatMap_assoc, List.flatMap_def]
  congr 2
  funext x
  simp only [wI, List.flatMap_cons, List.flatMap_nil, List.append_nil]
  rfl
theorem words_enc {n : Nd} (h : Small n) : (wordsN n).flatMap encB = encN n := by
  obtain ⟨k, hk⟩ : ∃ k : Nat, n.max = k := ⟨n.max.toNat, by have := h.max0; omega⟩
  unfold wordsN encN encSev
  rw [hk]
  simp only [List.flatMap_append, List.flatMap_cons, List.flatMap_nil, List.append_nil, wA_enc, wI_enc, wS_enc _ fun x hx => (h.sub x hx).2.1, itB_num, eitB_eit, List.append_assoc, Int.toNat_natCast]
  rfl
/-- A word of a right node is short. -/
theorem itB_le {v : Int} (h0 : 0 ≤ v) (h1 : v ≤ 255) : (itB v).size ≤ 3 := by
  obtain ⟨k, hk⟩ : ∃ k : Nat, v = k := ⟨v.toNat, by omega⟩
  show (Lib.itoa v).length ≤ 3
  rw [hk, Lib.itoa_nonneg]
  exact dec_len (by omega) (by omega)
end Go.Proofs.YtimhkgpjfppkmaaGreatDoor
namespace Go.Proofs.YtimhkgpjfppkmaaGreatDoor
open Go.RowKit Go.Shelf

theorem itoa_nat (v : Int) (h0 : 0 ≤ v) (h1 : v ≤ 1000000000) (w : World) (hg : GlobE w) :
    Calls Tryz.prog 12 #[.int .i64 v] w fun e w' => e = .returned (.string (itB v)) ∧ Below w.heap.size w w' := itoa_any v (by omega) (by omega) w hg
set_option maxRecDepth 100000 in
theorem either_yes (b : Bool) (y n : ByteArray) (w : World) :
    Calls Tryz.prog 28 #[.bool b, .string y, .string n] w fun e w' => e = .returned (.string (eitB y n b)) ∧ Below w.heap.size w w' := by
  go_enter Tryz.func28, Tryz.ntmps28
  cases b with
  | true =>
    go_wp2_with fail
    go_ret
    exact ⟨rfl, Below.refl _ _⟩
  | false =>
    go_wp2_with fail
    go_ret
    exact ⟨rfl, Below.refl _ _⟩
/-- A row that is built. -/
theorem own_new (W : World) (base : Nat) (ys : List ByteArray) (hb : base ≤ W.heap.size) (hy : ys.length ≤ 2000000) : (W.alloc (.cells (strC ys).toArray 9)).ownsRow base 9 1 (.slice (some ⟨W.heap.size, 0, none⟩) ys.length ys.length) ys.length (strC ys) := by
  have hl : (strC ys).length = ys.length := by simp [strC]
  refine ⟨by omega, .inr ⟨W.heap.size, ys.length, (strC ys).toArray, rfl, hb, World.alloc_heap_new _ _, Nat.le_refl _, by unfold maxLen; omega, by simp; omega, ?_⟩⟩
  rw [List.take_of_length_le (by simp; omega)]
set_option maxRecDepth 100000 in
/-- A row that is built, behind a row of one's own. -/
theorem pushS {wr W : World} {base : Nat} {v : Value} {xs ys : List ByteArray} {T : TypeId} {n : Nat} (hrow : wr.ownsRow base 9 1 v xs.length (strC xs)) (hb : base ≤ wr.heap.size) (hk : xs.length + ys.length ≤ 2000000) (hn : ys.length = n) (hW : wr.alloc (.cells (strC ys).toArray 9) = W) :
    ∃ ga gc w4, (Builtin.append_ #[42, 42] T #[v, .slice (some ⟨wr.heap.size, 0, none⟩) n n]).run Tryz.prog W = .ok (.slice ga (xs ++ ys).length gc) w4 ∧ w4.ownsRow base 9 1 (.slice ga (xs ++ ys).length gc) (xs ++ ys).length (strC (xs ++ ys)) ∧ Below base wr w4 ∧ ∀ k, k < wr.heap.size → v.ownBlock ≠ some k → w4.heap[k]? = wr.heap[k]? := by
  subst hn hW
  have hl : (strC ys).length = ys.length := by simp [strC]
  have hB3 : Below wr.heap.size wr (wr.alloc (.cells (strC ys).toArray 9)) := (Below.refl _ wr).alloc (Nat.le_refl _) _
  have hown := own_new wr base ys hb (by omega)
  obtain ⟨ti, t1, t2, t3, t4⟩ := info_parts info9
  have hz3 := hB3.size
  obtain ⟨v', w4, hap, q1, q2, _, _⟩ := run_append_own_at (P := Tryz.prog) (wr.alloc (.cells (strC ys).toArray 9)) base 42 T 9 ti _ 1 16 Tryz.underlying42 t1 t2 t3 t4 rfl (by omega) v xs.length (strC xs) (own_same hrow (fun g e => hB3.block g (own_lt hrow g e))) ⟨wr.heap.size, 0, none⟩ ys.length ys.length (strC ys) (by omega) (hown.cells rfl) (fun u hu => by
      obtain ⟨x, _, hx⟩ := List.mem_map.1 hu
      rw [← hx]
      rfl) (by unfold maxLen; omega) (by omega) (by omega)
  have hB4 : Below base wr w4 := (hB3.mono hb).grown q2 (by omega) (fun r e => own_base hrow r e)
  have htk : strC (xs ++ ys) = strC xs ++ strC ys := by simp [strC]
  have hln : (xs ++ ys).length = xs.length + ys.length := List.length_append
  rw [htk, hln]
  obtain ⟨ga, gc, rfl⟩ := own_shape q1
  refine ⟨ga, gc, w4, hap, q1, hB4, fun k hk hne => ?_⟩
  rw [q2.block k (by omega) (fun e => hne e.symm)]
  exact hB3.block k hk
theorem ex_conv1 {o : Oper} {a : Act} {w : World} {x : Operand} {k : Nat} {T : TypeId} (ho : o.op = .convert T 3 x) (hT : T = 53 ∨ T = 22) (hx : a.eval x = .int .u8 k) : (execOp a.eval o).run Tryz.prog w = .ok (.value (.int .i64 (IntKind.i64.wrap k))) w := by
  unfold execOp
  simp only [ho, hx]
  rcases hT with rfl | rfl <;> go_simp
theorem wrap_small {k : Nat} (h : k ≤ 1000000) : IntKind.i64.wrap (k : Int) = k := by
  rw [IntKind.wrap_i64]
  omega
end Go.Proofs.YtimhkgpjfppkmaaGreatDoor
