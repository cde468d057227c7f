/- A request's small functions. -/
import Derived.Test.YtimhkgpjfppkmaaDoorRq0
import Derived.Test.YtimhkgpjfppkmaaDoorAt0
namespace Go.Proofs.YtimhkgpjfppkmaaDoor
open Go.RowKit Go.Shelf

theorem ex_idx16 {o : Oper} {a : Act} {w : World} {x y : Operand} {b k : Nat} (ho : o.op = .indexAddr 67 x y) (hx : a.eval x = .pointer (some ⟨b, 0, none⟩)) (hy : a.eval y = .int .u8 k) (hk : k < 16) : (execOp a.eval o).run Tryd.prog w = .ok (.value (.pointer (some ⟨b, k, none⟩))) w := by
  have h0 : ¬ ((k : Int) < 0) := by omega
  have h1 : (k : Int) < 16 := by omega
  unfold execOp
  simp only [ho, hx, hy]
  go_simp
theorem ex_idx16i {o : Oper} {a : Act} {w : World} {x y : Operand} {b k : Nat} (ho : o.op = .indexAddr 67 x y) (hx : a.eval x = .pointer (some ⟨b, 0, none⟩)) (hy : a.eval y = .int .i64 k) (hk : k < 16) : (execOp a.eval o).run Tryd.prog w = .ok (.value (.pointer (some ⟨b, k, none⟩))) w := by
  have h0 : ¬ ((k : Int) < 0) := by omega
  have h1 : (k : Int) < 16 := by omega
  unfold execOp
  simp only [ho, hx, hy]
  go_simp
theorem store_w16 (w : World) (L : List ByteArray) (h : L.length = 16) : (Instr.storeAt 67 (.pointer (some ⟨w.heap.size, 0, none⟩)) (.agg (w16 L))).run Tryd.prog (w.alloc (.cells #[.string ⟨#[]⟩, .string ⟨#[]⟩, .string ⟨#[]⟩, .string ⟨#[]⟩, .string ⟨#[]⟩, .string ⟨#[]⟩, .string ⟨#[]⟩, .string ⟨#[]⟩, .string ⟨#[]⟩, .string ⟨#[]⟩, .string ⟨#[]⟩, .string ⟨#[]⟩, .string ⟨#[]⟩, .string ⟨#[]⟩, .string ⟨#[]⟩, .string ⟨#[]⟩] 67)) = .ok () (w.alloc (.cells (w16 L) 67)) :=
  run_store_new info16 w (w16_size h) rfl (by rw [Array.all_eq_true]; intro i hi; simp [w16]; rfl)
/-- The name of a verb. -/
def verbB (v : Nat) : ByteArray := verbsL.getD v ⟨#[]⟩
theorem verbB_at {v : Nat} (h : v < 16) : verbsL[v]? = some (verbB v) := by
  have hl : v < verbsL.length := h
  unfold verbB
  rw [List.getD_eq_getElem?_getD, List.getElem?_eq_getElem hl]
  rfl
set_option maxRecDepth 100000 in
set_option maxHeartbeats 2000000 in
theorem verb_any (v : Nat) (hv : v ≤ 255) (w : World) : Calls Tryd.prog 16 #[.int .u8 v] w fun e w' => e = .returned (.string (verbB v)) ∧ Below w.heap.size w w' := by
  have hwr : IntKind.i64.wrap (v : Int) = v := by rw [IntKind.wrap_i64]; omega
  have HWR := hide hwr
  clear hwr
  go_enter Tryd.func16, Tryd.ntmps16
  go_wp2_with fail
  refine (verbs_any w).mono ?_
  rintro e w1 ⟨rfl, b1⟩
  have f2 := World.alloc_heap_new w1 (.cells (w16 verbsL) 67)
  have b2 : Below w.heap.size w (w1.alloc (.cells (w16 verbsL) 67)) := b1.alloc b1.size _
  by_cases h16 : (16 : Int) ≤ v
  · have HB := hide b2
    clear f2 b1 b2
    go_wp2_with (refine l_store _ (store_w16 w1 verbsL rfl) rfl rfl rfl rfl ?_)
    go_ret
    refine ⟨?_, HB.out⟩
    unfold verbB
    rw [List.getD_eq_getElem?_getD, List.getElem?_eq_none (show verbsL.length ≤ v by have : verbsL.length = 16 := rfl; omega)]
    rfl
  · have c := w16_cell f2 (verbB_at (show v < 16 by omega))
    have HB := hide b2
    have hlt : v < 16 := by omega
    clear f2 b1 b2
    go_wp2_with (first | refine l_store _ (store_w16 w1 verbsL rfl) rfl rfl rfl rfl ?_ | refine l_val rfl _ (ex_idx16 rfl rfl rfl hlt) ?_)
    go_ret
    exact ⟨rfl, HB.out⟩
theorem typeOf_any (b : Bool) (w : World) : Calls Tryd.prog 40 #[.bool b] w fun e w' => e = .returned (.int .i64 (if b = true then 1 else 0)) ∧ w' = w := by
  cases b with
  | true =>
    go_enter Tryd.func40, Tryd.ntmps40
    go_wp2_with fail
    go_ret
    exact ⟨rfl, rfl⟩
  | false =>
    go_enter Tryd.func40, Tryd.ntmps40
    go_wp2_with fail
    go_ret
    exact ⟨rfl, rfl⟩
/-- What a thing may be: right, if it is named, and else not there. -/
def fitB (named right none : Bool) : Bool := if named = true then right else none
set_option maxRecDepth 100000 in
theorem fits_string (named right : Bool) (t : ByteArray) (w : World) : Calls Tryd.prog 24 #[.bool named, .string t, .bool right] w fun e w' => e = .returned (.bool (fitB named right (decide (t = ⟨#[]⟩)))) ∧ w' = w := by
  cases named with
  | true =>
    go_enter Tryd.func24, Tryd.ntmps24
    go_wp2_with fail
    go_ret
    exact ⟨rfl, rfl⟩
  | false =>
    by_cases h : t = ⟨#[]⟩
    · subst h
      go_enter Tryd.func24, Tryd.ntmps24
      go_wp2_with fail
      go_ret
      simp [fitB]
    · have hn := str_ne h
      rw [decide_eq_false h]
      clear h
      go_enter Tryd.func24, Tryd.ntmps24
      go_wp2_with fail
      go_ret
      simp [fitB]
      try simpa using hn
set_option maxRecDepth 100000 in
theorem fits_role (named right : Bool) (t : Nat) (w : World) : Calls Tryd.prog 27 #[.bool named, .int .u8 t, .bool right] w fun e w' => e = .returned (.bool (fitB named right (decide (t = 0)))) ∧ w' = w := by
  cases named with
  | true =>
    go_enter Tryd.func27, Tryd.ntmps27
    go_wp2_with fail
    go_ret
    exact ⟨rfl, rfl⟩
  | false =>
    by_cases h : t = 0
    · subst h
      go_enter Tryd.func27, Tryd.ntmps27
      go_wp2_with fail
      go_ret
      simp [fitB]
    · have hn : ((t : Int) == 0) = false := by rw [beq_eq_false_iff_ne]; omega
      rw [decide_eq_false h]
      clear h
      go_enter Tryd.func27, Tryd.ntmps27
      go_wp2_with fail
      go_ret
      simp [fitB]
      try simpa using hn
set_option maxRecDepth 100000 in
theorem fits_acc (named right : Bool) (t : Nat) (w : World) : Calls Tryd.prog 28 #[.bool named, .int .u8 t, .bool right] w fun e w' => e = .returned (.bool (fitB named right (decide (t = 0)))) ∧ w' = w := by
  cases named with
  | true =>
    go_enter Tryd.func28, Tryd.ntmps28
    go_wp2_with fail
    go_ret
    exact ⟨rfl, rfl⟩
  | false =>
    by_cases h : t = 0
    · subst h
      go_enter Tryd.func28, Tryd.ntmps28
      go_wp2_with fail
      go_ret
      simp [fitB]
    · have hn : ((t : Int) == 0) = false := by rw [beq_eq_false_iff_ne]; omega
      rw [decide_eq_false h]
      clear h
      go_enter Tryd.func28, Tryd.ntmps28
      go_wp2_with fail
      go_ret
      simp [fitB]
      try simpa using hn
set_option maxRecDepth 100000 in
theorem fits_int (named right : Bool) (t : Int) (w : World) : Calls Tryd.prog 29 #[.bool named, .int .i64 t, .bool right] w fun e w' => e = .returned (.bool (fitB named right (decide (t = 0)))) ∧ w' = w := by
  cases named with
  | true =>
    go_enter Tryd.func29, Tryd.ntmps29
    go_wp2_with fail
    go_ret
    exact ⟨rfl, rfl⟩
  | false =>
    by_cases h : t = 0
    · subst h
      go_enter Tryd.func29, Tryd.ntmps29
      go_wp2_with fail
      go_ret
      simp [fitB]
    · have hn : (t == 0) = false := by rw [beq_eq_false_iff_ne]; exact h
      rw [decide_eq_false h]
      clear h
      go_enter Tryd.func29, Tryd.ntmps29
      go_wp2_with fail
      go_ret
      simp [fitB]
      try simpa using hn
set_option maxRecDepth 100000 in
theorem fits_bool (named right : Bool) (t : Bool) (w : World) : Calls Tryd.prog 30 #[.bool named, .bool t, .bool right] w fun e w' => e = .returned (.bool (fitB named right (decide (t = false)))) ∧ w' = w := by
  cases named with
  | true =>
    go_enter Tryd.func30, Tryd.ntmps30
    go_wp2_with fail
    go_ret
    exact ⟨rfl, rfl⟩
  | false =>
    cases t with
    | true =>
      go_enter Tryd.func30, Tryd.ntmps30
      go_wp2_with fail
      go_ret
      exact ⟨rfl, rfl⟩
    | false =>
      go_enter Tryd.func30, Tryd.ntmps30
      go_wp2_with fail
      go_ret
      exact ⟨rfl, rfl⟩
end Go.Proofs.YtimhkgpjfppkmaaDoor
