/- Base 64: group. -/
import Derived.Test.YtnlmohegkmegcabDoorMath
import Derived.Test.YtnlmohegkmegcabDoorSmall
import Derived.OwnWalk
import Derived.Lib.AppendStr
import Derived.Lib.EndianBits
import Derived.RegionTactic
import Derived.BigRegion
import Derived.Deep.RegionHeld3
namespace Go.Proofs.YtnlmohegkmegcabDoor
open Go.RowKit

def digs : ByteArray := ⟨#[65, 66, 67, 68, 69, 70, 71, 72, 73, 74, 75, 76, 77, 78, 79, 80, 81, 82, 83, 84, 85, 86, 87, 88, 89, 90, 97, 98, 99, 100, 101, 102, 103, 104, 105, 106, 107, 108, 109, 110, 111, 112, 113, 114, 115, 116, 117, 118, 119, 120, 121, 122, 48, 49, 50, 51, 52, 53, 54, 55, 56, 57, 43, 47]⟩
/-- The digit of a number below 64. -/
def dg (a : Nat) : UInt8 := digs.data.getD a 0
theorem digs_size : digs.size = 64 := by decide
theorem dig_index (a : Nat) (h : a < 64) (w : World) : (Instr.index 9 (.string digs) (.int .u32 a)).run Tryd.prog w = .ok (.int .u8 (dg a).toNat) w := by
  have h1 : a < digs.size := by rw [digs_size]; exact h
  have e : digs[a] = dg a := by
    have h2 : digs.data[a]? = some digs[a] := Array.getElem?_eq_getElem h1
    show digs[a] = digs.data.getD a 0
    generalize digs[a] = q at h2
    rw [Array.getD_eq_getD_getElem?]
    rw [h2]
    rfl
  have h3 : ¬ (64 ≤ (a : Int)) := by omega
  simp [go_sem, digs_size, e]
  intro h4
  exact absurd h4 h3
theorem dig_index' (a : Nat) (h : a < 64) (w : World) : (Instr.index 9 (.string ⟨#[65, 66, 67, 68, 69, 70, 71, 72, 73, 74, 75, 76, 77, 78, 79, 80, 81, 82, 83, 84, 85, 86, 87, 88, 89, 90, 97, 98, 99, 100, 101, 102, 103, 104, 105, 106, 107, 108, 109, 110, 111, 112, 113, 114, 115, 116, 117, 118, 119, 120, 121, 122, 48, 49, 50, 51, 52, 53, 54, 55, 56, 57, 43, 47]⟩) (.int .u32 a)).run Tryd.prog w = .ok (.int .u8 (dg a).toNat) w := dig_index a h w

theorem group_core (x y z n : Int) (a b c d : Nat) (ha : a < 64) (hb : b < 64) (hc : c < 64) (hd : d < 64) (hn : bits BinOp.or IntKind.u32 (bits BinOp.or IntKind.u32 (x * 65536) (y * 256)) z = n)
    (e1 : n / 262144 = a) (e2 : bits BinOp.and IntKind.u32 (n / 4096) 63 = b) (e3 : bits BinOp.and IntKind.u32 (n / 64) 63 = c) (e4 : bits BinOp.and IntKind.u32 n 63 = d)
    (hx : 0 ≤ x) (hx' : x ≤ 255) (hy : 0 ≤ y) (hy' : y ≤ 255) (hz : 0 ≤ z) (hz' : z ≤ 255) (w : World) :
    Calls Tryd.prog 39 #[.int .u8 x, .int .u8 y, .int .u8 z] w fun e w' => e = .returned (.string ⟨#[dg a, dg b, dg c, dg d]⟩) ∧ Below w.heap.size w w' := by
  have cv : (convert 33 9 (.slice (some ⟨w.heap.size, 0, none⟩) 4 4)).run Tryd.prog ((w.alloc (.cells #[.int .u8 (dg a).toNat, .int .u8 (dg b).toNat, .int .u8 (dg c).toNat, .int .u8 (dg d).toNat] 5)).drew) = .ok (.string ⟨#[dg a, dg b, dg c, dg d]⟩) ((w.alloc (.cells #[.int .u8 (dg a).toNat, .int .u8 (dg b).toNat, .int .u8 (dg c).toNat, .int .u8 (dg d).toNat] 5)).drew) :=
    run_convert_bytes_back _ 33 9 5 ⟨w.heap.size, 0, none⟩ 4 [dg a, dg b, dg c, dg d] Tryd.underlying33 Tryd.underlying5 Tryd.underlying9 (fun j hj => by
      have hj' : j = 0 ∨ j = 1 ∨ j = 2 ∨ j = 3 := by simp at hj; omega
      rcases hj' with rfl | rfl | rfl | rfl <;> simp [Addr.add])
  have i1 := dig_index' a ha
  have i2 := dig_index' b hb
  have i3 := dig_index' c hc
  have i4 := dig_index' d hd
  go_enter Tryd.func39, Tryd.ntmps39
  go_wp2_with fail
  clear hn
  go_region
  go_wp2_with fail
  go_ret
  exact ⟨rfl, ((Below.refl _ _).alloc (Nat.le_refl _) _).drew⟩
theorem or_join (x y z : Int) (hx : 0 ≤ x) (hx' : x ≤ 255) (hy : 0 ≤ y) (hy' : y ≤ 255) (hz : 0 ≤ z) (hz' : z ≤ 255) :
    bits BinOp.or IntKind.u32 (bits BinOp.or IntKind.u32 (x * 65536) (y * 256)) z = x * 65536 + y * 256 + z := by
  have h1 := bits_join .u32 32 (by decide) wraps_u32 16 (x * 65536) (y * 256) (by omega) (by omega) (by omega) (by omega) (by omega) (by omega)
  rw [h1]
  exact bits_join .u32 32 (by decide) wraps_u32 8 (x * 65536 + y * 256) z (by omega) (by omega) (by omega) (by omega) (by omega) (by omega)
theorem and63 (x : Int) (h0 : 0 ≤ x) (h1 : x < 16777216) : bits BinOp.and IntKind.u32 x 63 = x % 64 := by
  have := bits_mask .u32 32 (by decide) wraps_u32 6 (by decide) x h0 (by omega)
  simpa using this

/-- Three bytes as four digits. -/
def sx (x y z : Nat) : List UInt8 := [dg ((x * 65536 + y * 256 + z) / 262144), dg ((x * 65536 + y * 256 + z) / 4096 % 64), dg ((x * 65536 + y * 256 + z) / 64 % 64), dg ((x * 65536 + y * 256 + z) % 64)]
theorem group_any (x y z : Nat) (hx : x ≤ 255) (hy : y ≤ 255) (hz : z ≤ 255) (w : World) :
    Calls Tryd.prog 39 #[.int .u8 x, .int .u8 y, .int .u8 z] w fun e w' => e = .returned (.string ⟨(sx x y z).toArray⟩) ∧ Below w.heap.size w w' := by
  have e := or_join x y z (by omega) (by omega) (by omega) (by omega) (by omega) (by omega)
  exact group_core x y z ((x : Int) * 65536 + y * 256 + z) _ _ _ _ (by omega) (by omega) (by omega) (by omega) e (by omega) (by rw [and63 _ (by omega) (by omega)]; omega) (by rw [and63 _ (by omega) (by omega)]; omega) (by rw [and63 _ (by omega) (by omega)]; omega) (by omega) (by omega) (by omega) (by omega) (by omega) (by omega) w

/-- A text in base 64. -/
def b64 : List UInt8 → List UInt8
  | x :: y :: z :: r => sx x.toNat y.toNat z.toNat ++ b64 r
  | [x, y] => (sx x.toNat y.toNat 0).take 3 ++ [61]
  | [x] => (sx x.toNat 0 0).take 2 ++ [61, 61]
  | [] => []

/-- 'append(b, t...)' onto a row of one's own, at a step of a region that draws its order. -/
theorem step_append_str {P : Program} {w : World} {ops : Array Oper} {o : Oper} {a : Act} {K : Act → World → Prop} {Q : Exit → Act → World → Prop} {E : Prop} (hgd : o.guard = none) (sl x : Operand) (t u : TypeId)
    (ho : o.op = .call { callee := .builtin .append, args := #[sl, x], argTypes := #[t, u] })
    (base : Nat) (e : TypeId) (i : TypeInfo) (ht : P.underlying t = some (.slice e)) (hu : P.underlying u = some .string) (hi : P.info? e = some i) (hz : i.zero = some (.int .u8 0))
    (hsize : i.size = 1) (hby : i.bytes = 1)
    (v : Value) (n : Nat) (xs : List Value) (hs : a.eval sl = v) (hown : w.ownsRow base e 1 v n xs) (s : ByteArray) (hx : a.eval x = .string s)
    (h63 : n + s.size ≤ maxLen) (hbytes : n + s.size ≤ 140737488355328) (hbase : base ≤ w.heap.size)
    (h : ∀ v' w', w'.ownsRow base e 1 v' (n + s.size) (xs ++ Lib.strCells s) → w.grownBy w' v.ownBlock → K (a.put o.dst v') w') :
    if Region.wanted o (yielded ops a.tmps) = true then Oper.wp P o a w K Q else E := by
  have hw : Region.wanted o (yielded ops a.tmps) = true := by simp [Region.wanted, hgd]
  rw [if_pos hw]
  obtain ⟨v', w', hr, h2, h3, _⟩ := Lib.run_append_own_string (P := P) w base t u o.type e i ht hu hi hz hsize hby v n xs hown s h63 hbytes hbase
  unfold Oper.wp execOp
  simp only [ho, resolve, invoke, builtin, Sem.run_bind, Sem.run_pure, Result.andThen_ok, List.map_toArray, List.map_cons, List.map_nil, hs, hx, hr]
  exact h v' w' h2 h3
theorem own_below {w w' : World} {B : Nat} {v : Value} {n : Nat} {xs : List Value} (h : w.ownsRow B 5 1 v n xs) (hb : Below w.heap.size w w') : w'.ownsRow B 5 1 v n xs := by
  refine ⟨h.1, ?_⟩
  rcases h.2 with hn | ⟨g, cap, cur, hv, hbg, hg, rest⟩
  · exact .inl hn
  · exact .inr ⟨g, cap, cur, hv, hbg, by rw [hb.block g (Array.getElem?_eq_some_iff.1 hg).1]; exact hg, rest⟩
theorem lenOk {n t s m : Nat} (h : n + 2 * t ≤ 2 * s) (_h2 : t ≤ s) (h3 : s ≤ 1000000) (hm : m = 4 := by rfl) : n + m ≤ maxLen := by
  unfold maxLen; omega
theorem lenOk2 {n t s m : Nat} (h : n + 2 * t ≤ 2 * s) (_h2 : t ≤ s) (h3 : s ≤ 1000000) (hm : m = 4 := by rfl) : n + m ≤ 140737488355328 := by
  omega
theorem lenOk3 {n t s m : Nat} (h : n + 2 * t ≤ 2 * s) (_h2 : t ≤ s) (h3 : s ≤ 1000000) (hm : m = 3 := by rfl) : n + m ≤ maxLen := by
  unfold maxLen; omega
theorem lenOk4 {n t s m : Nat} (h : n + 2 * t ≤ 2 * s) (_h2 : t ≤ s) (h3 : s ≤ 1000000) (hm : m = 3 := by rfl) : n + m ≤ 140737488355328 := by
  omega
theorem szOk {B : Nat} {w wr w2 : World} (h : Below B w wr) (h2 : Below wr.drew.heap.size wr.drew w2) (hB : B = w.heap.size := by rfl) : B ≤ w2.heap.size := by
  have h1 := h.size
  have h3 := h2.size
  rw [World.size_drew] at h3
  omega
theorem own_lt {w : World} {B : Nat} {v : Value} {n : Nat} {xs : List Value} (h : w.ownsRow B 5 1 v n xs) (k : Nat) (hk : v.ownBlock = some k) : B ≤ k := by
  rcases h.2 with ⟨hn, _⟩ | ⟨g, cap, cur, hv, hbg, hg, rest⟩
  · subst hn; cases hk
  · subst hv
    cases hk
    exact hbg
/-- How long the text in a slot is. -/
def strOf : Value → Nat
  | .string t => t.size
  | _ => 0
theorem byteInfo : ∃ i0, Tryd.prog.info? 5 = some i0 ∧ i0.zero = some (.int .u8 0) ∧ i0.size = 1 ∧ i0.bytes = 1 := by
  have h : (Tryd.prog.info? 5).map (fun i => (i.zero, i.size, i.bytes)) = some (some (.int .u8 0), 1, 1) := by kernel_rfl
  obtain ⟨i, hi, hh⟩ := Option.map_eq_some_iff.1 h
  simp only [Prod.mk.injEq] at hh
  exact ⟨i, hi, hh.1, hh.2.1, hh.2.2⟩

theorem list3 (t : ByteArray) (h : 3 ≤ t.size) : t.data.toList = (t[0]'(by omega)) :: (t[1]'(by omega)) :: (t[2]'(by omega)) :: t.data.toList.drop 3 := by
  have h0 := list_at t 0 (by omega)
  have h1 := list_at t 1 (by omega)
  have h2 := list_at t 2 (by omega)
  have hl := size_list t
  match ht : t.data.toList, hl with
  | [], hl => simp at hl; omega
  | [_], hl => simp at hl; omega
  | [_, _], hl => simp at hl; omega
  | a :: b :: c :: r, _ =>
    rw [ht] at h0 h1 h2
    simp only [List.getElem?_cons_zero, List.getElem?_cons_succ, Option.some.injEq] at h0 h1 h2
    rw [← h0, ← h1, ← h2]
    rfl
theorem b64_step (t : ByteArray) (h : 3 ≤ t.size) : b64 t.data.toList = sx (t[0]'(by omega)).toNat (t[1]'(by omega)).toNat (t[2]'(by omega)).toNat ++ b64 (t.extract 3 t.size).data.toList := by
  rw [drop_list]
  rw [list3 t h]
  rfl

theorem conv_own {w : World} {B : Nat} {v : Value} {acc : List UInt8} (h : w.ownsRow B 5 1 v acc.length (Lib.byteCells acc)) :
    (convert 33 9 v).run Tryd.prog w = .ok (.string ⟨acc.toArray⟩) w := by
  rcases h.2 with ⟨hv, hn⟩ | ⟨g, cap, cur, hv, hbg, hg, _, _, _, htk⟩
  · subst hv
    have : acc = [] := List.eq_nil_of_length_eq_zero hn
    subst this
    exact run_convert_bytes_nil w 33 5 Tryd.underlying33 Tryd.underlying5 0 0 9 Tryd.underlying9
  · subst hv
    refine run_convert_bytes_back w 33 9 5 ⟨g, 0, none⟩ cap acc Tryd.underlying33 Tryd.underlying5 Tryd.underlying9 (fun j hj => ?_)
    have hadd : (⟨g, 0, none⟩ : Addr).add j = ⟨g, j, none⟩ := by unfold Addr.add; split <;> simp_all
    rw [hadd, cell_of_row w g j cur 5 _ hg]
    have h1 : (cur.toList.take (acc.length * 1))[j]? = (Lib.byteCells acc)[j]? := by rw [htk]
    rw [List.getElem?_take_of_lt (by omega)] at h1
    rw [← Array.getElem?_toList, h1]
    simp [Lib.byteCells, hj]
theorem sx_four (x y z : Nat) : ∃ a b c d, sx x y z = [a, b, c, d] := ⟨_, _, _, _, rfl⟩
end Go.Proofs.YtnlmohegkmegcabDoor
