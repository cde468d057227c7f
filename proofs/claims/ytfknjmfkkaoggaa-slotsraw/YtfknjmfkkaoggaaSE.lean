/- Sectors are compared. -/
import Derived.Test.YtfknjmfkkaoggaaD6
import Derived.ChangeKeysEq
namespace Go.Proofs.Ytfknjmfkkaoggaa
open Go.RowKit Go.Shelf

theorem cells5 : Try.prog.cellsOf 5 = 1 := by kernel_rfl
theorem infoU8 : (Try.prog.info? 5).map (fun i => (i.zero, i.size, i.bytes)) = some (some (.int .u8 0), 1, 1) := by kernel_rfl
theorem secA_get {s : Sec} {i : Nat} {b : UInt8} (h : s[i]? = some b) : (secA s)[i]? = some (.int .u8 b.toNat) := by
  simp only [secA, Lib.byteCells, List.getElem?_toArray, List.getElem?_map, h]
  rfl
theorem part_sec {s : Sec} {i : Nat} {b : UInt8} (h : s[i]? = some b) (w : World) : (part 5 (secA s) (i * 1)).run Try.prog w = .ok (.int .u8 b.toNat) w := by
  have hg := secA_get h
  have ha : (isAgg 5).run Try.prog w = .ok false w := by
    unfold isAgg
    rw [Sem.run_bind, run_underlying Try.underlying5 w]
    rfl
  unfold part
  simp [ha, hg]
set_option maxRecDepth 100000 in
theorem eqItems_sec (d : Nat) (s t : Sec) (w : World) : ∀ is : List Nat, (∀ i ∈ is, i < s.length ∧ i < t.length) → (Op.eqItems (d + 1) 5 1 (secA s) (secA t) is).run Try.prog w = .ok (decide (∀ i ∈ is, s[i]? = t[i]?)) w
  | [], _ => by simp [Op.eqItems]
  | i :: is, h => by
    obtain ⟨h1, h2⟩ := h i List.mem_cons_self
    have ih := eqItems_sec d s t w is (fun j hj => h j (List.mem_cons_of_mem _ hj))
    have p1 := part_sec (List.getElem?_eq_getElem h1) w
    have p2 := part_sec (List.getElem?_eq_getElem h2) w
    have p3 := run_equalIn_int (P := Try.prog) w d 5 .u8 .u8 ((s[i]).toNat : Int) ((t[i]).toNat : Int) Try.underlying5
    simp only [Op.eqItems, Sem.run_bind, p1, p2, p3, Result.andThen_ok]
    by_cases he : s[i] = t[i]
    · have e1 : (((s[i]).toNat : Int) == ((t[i]).toNat : Int)) = true := by simp [he]
      rw [e1]
      simp only [Bool.not_true, Bool.false_eq_true, if_false, ih]
      congr 1
      rw [decide_eq_decide]
      simp [List.getElem?_eq_getElem h1, List.getElem?_eq_getElem h2, he]
    · have e1 : (((s[i]).toNat : Int) == ((t[i]).toNat : Int)) = false := by
        rw [beq_eq_false_iff_ne]
        intro h
        exact he (UInt8.toNat_inj.1 (by omega))
      rw [e1]
      simp [List.getElem?_eq_getElem h1, List.getElem?_eq_getElem h2, he]
set_option maxRecDepth 100000 in
theorem sec_equal (d : Nat) {T : TypeId} (hT : Try.prog.underlying T = some (.array 64 5)) (s t : Sec) (hs : s.length = 64) (ht : t.length = 64) (w : World) : (Op.equalIn (d + 2) T (.agg (secA s)) (.agg (secA t))).run Try.prog w = .ok (decide (s = t)) w := by
  obtain ⟨i, h1, _⟩ := infos infoU8
  rw [run_equalIn_array w (d + 1) (secA s) (secA t) hT h1, cells5, eqItems_sec d s t w _ (fun j hj => by simp at hj; omega)]
  congr 1
  rw [decide_eq_decide]
  constructor
  · intro h
    apply List.ext_getElem?
    intro j
    by_cases hj : j < 64
    · exact h j (by simpa using hj)
    · rw [List.getElem?_eq_none (by omega), List.getElem?_eq_none (by omega)]
  · rintro rfl j _
    rfl
set_option maxRecDepth 100000 in
theorem sec_neq {T : TypeId} (hT : Try.prog.underlying T = some (.array 64 5)) (s t : Sec) (hs : s.length = 64) (ht : t.length = 64) (w : World) : (binOp .neq T (.agg (secA s)) (.agg (secA t))).run Try.prog w = .ok (.bool (!decide (s = t))) w := by
  rw [run_neq_struct, sec_equal 9998 hT s t hs ht w]
  simp
set_option maxRecDepth 100000 in
theorem sec_eql {T : TypeId} (hT : Try.prog.underlying T = some (.array 64 5)) (s t : Sec) (hs : s.length = 64) (ht : t.length = 64) (w : World) : (binOp .eql T (.agg (secA s)) (.agg (secA t))).run Try.prog w = .ok (.bool (decide (s = t))) w := by
  rw [run_eql_struct, sec_equal 9998 hT s t hs ht w]
  simp
theorem sec_guard {T : TypeId} (hT : Try.prog.eqGuardType Try.prog.depth T = false) (x y : Operand) (a b : Array Value) (w : World) : (eqGuard .eql T x y (.agg a) (.agg b)).run Try.prog w = .ok () w := by
  unfold eqGuard
  simp [hT, go_sem]
theorem ex_eql {o : Oper} {a : Act} {w : World} {T T' : TypeId} {x y : Operand} {u v : Array Value} {r : Value} (ho : o.op = .binOp .eql T x y T') (hx : a.eval x = .agg u) (hy : a.eval y = .agg v) (hT : Try.prog.eqGuardType Try.prog.depth T = false) (hr : (binOp .eql T (.agg u) (.agg v)).run Try.prog w = .ok r w) : (execOp a.eval o).run Try.prog w = .ok (.value r) w := by
  unfold execOp
  simp only [ho, hx, hy]
  simp only [Sem.run_bind, sec_guard hT, hr, Result.andThen_ok, Sem.run_pure]
end Go.Proofs.Ytfknjmfkkaoggaa
