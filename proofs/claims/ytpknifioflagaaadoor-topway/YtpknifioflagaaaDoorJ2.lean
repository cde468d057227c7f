/- Addresses: their texts. -/
import Derived.Test.YtpknifioflagaaaDoorJ1
import Derived.RangeFuncRecord
namespace Go.Proofs.YtpknifioflagaaaDoor.Jd
open Go.RowKit

def emp : ByteArray := ⟨#[]⟩
def joinB (lo dom res : ByteArray) : ByteArray :=
  let s := if lo = emp then dom else lo ++ ⟨#[64]⟩ ++ dom
  if res = emp then s else s ++ (⟨#[47]⟩ ++ res)
def jl (lo dom res : ByteArray) : JL := ⟨lo.data.toList, dom.data.toList, res.data.toList⟩
theorem emp_iff (s : ByteArray) : s = emp ↔ s.data.toList = [] := by
  obtain ⟨⟨l⟩⟩ := s
  constructor
  · intro h
    cases h
    rfl
  · intro h
    have h' : l = [] := h
    subst h'
    rfl
theorem ne_empty {s : ByteArray} (h : s ≠ emp) : s.toList.isEmpty = false := by
  rw [ByteArray.toList_eq]
  cases hl : s.data.toList with
  | nil => exact absurd ((emp_iff s).2 hl) h
  | cons a l => rfl
theorem app_list (a b : ByteArray) : (a ++ b).data.toList = a.data.toList ++ b.data.toList := by simp
theorem joinB_list (lo dom res : ByteArray) : (joinB lo dom res).data.toList = textJ (jl lo dom res) := by
  unfold joinB textJ jl
  by_cases h1 : lo = emp <;> by_cases h2 : res = emp
  · rw [if_pos h1, if_pos h2, if_pos ((emp_iff _).1 h1), if_pos ((emp_iff _).1 h2)]
    simp
  · rw [if_pos h1, if_neg h2, if_pos ((emp_iff _).1 h1), if_neg (fun h => h2 ((emp_iff _).2 h)), app_list, app_list]
    rfl
  · rw [if_neg h1, if_pos h2, if_neg (fun h => h1 ((emp_iff _).2 h)), if_pos ((emp_iff _).1 h2), app_list, app_list]
    simp
  · rw [if_neg h1, if_neg h2, if_neg (fun h => h1 ((emp_iff _).2 h)), if_neg (fun h => h2 ((emp_iff _).2 h)), app_list, app_list, app_list, app_list]
    simp
theorem size_list (s : ByteArray) : s.data.toList.length = s.size := Array.length_toList
theorem size_app (a b : ByteArray) : (a ++ b).size = a.size + b.size := by
  rw [← size_list, app_list, List.length_append, size_list, size_list]

set_option maxRecDepth 100000 in
theorem join_any (lo dom res : ByteArray) (w : World) (hs : lo.size + dom.size + res.size + 2 ≤ 9223372036854775807) : Calls Tryd.prog 48 #[.agg #[.string lo, .string dom, .string res]] w fun e w' => e = .returned (.string (joinB lo dom res)) ∧ Below w.heap.size w w' := by
  have a1 : ∀ w : World, (Op.stringOp .add lo ⟨#[64]⟩).run Tryd.prog w = .ok (.string (lo ++ ⟨#[64]⟩)) w := fun w => run_string_add_sum w _ _ (by show lo.size + 1 ≤ _; omega)
  have a2 : ∀ w : World, (Op.stringOp .add (lo ++ ⟨#[64]⟩) dom).run Tryd.prog w = .ok (.string (lo ++ ⟨#[64]⟩ ++ dom)) w := fun w => run_string_add_sum w _ _ (by rw [size_app]; show lo.size + 1 + _ ≤ _; omega)
  have a3 : ∀ w : World, (Op.stringOp .add ⟨#[47]⟩ res).run Tryd.prog w = .ok (.string (⟨#[47]⟩ ++ res)) w := fun w => run_string_add_sum w _ _ (by show 1 + res.size ≤ _; omega)
  have a4 : ∀ w : World, (Op.stringOp .add dom (⟨#[47]⟩ ++ res)).run Tryd.prog w = .ok (.string (dom ++ (⟨#[47]⟩ ++ res))) w := fun w => run_string_add_sum w _ _ (by rw [size_app]; show dom.size + (1 + _) ≤ _; omega)
  have a5 : ∀ w : World, (Op.stringOp .add (lo ++ ⟨#[64]⟩ ++ dom) (⟨#[47]⟩ ++ res)).run Tryd.prog w = .ok (.string (lo ++ ⟨#[64]⟩ ++ dom ++ (⟨#[47]⟩ ++ res))) w := fun w => run_string_add_sum w _ _ (by rw [size_app, size_app, size_app]; show lo.size + 1 + dom.size + (1 + _) ≤ _; omega)
  unfold joinB
  by_cases h1 : lo = emp <;> by_cases h2 : res = emp
  · rw [if_pos h1, if_pos h2]
    subst h1 h2
    unfold emp
    clear a1 a2 a3 a4 a5
    go_enter Tryd.func48, Tryd.ntmps48
    go_wp2
    go_ret
    exact ⟨rfl, (Below.refl _ w).alloc (Nat.le_refl _) _⟩
  · rw [if_pos h1, if_neg h2]
    have hne := ne_empty h2
    subst h1
    unfold emp
    clear a1 a2 a5 h2
    go_enter Tryd.func48, Tryd.ntmps48
    go_wp2
    go_ret
    exact ⟨rfl, (Below.refl _ w).alloc (Nat.le_refl _) _⟩
  · rw [if_neg h1, if_pos h2]
    have hne := ne_empty h1
    subst h2
    unfold emp
    clear a3 a4 a5 h1
    go_enter Tryd.func48, Tryd.ntmps48
    go_wp2
    go_ret
    exact ⟨rfl, (Below.refl _ w).alloc (Nat.le_refl _) _⟩
  · rw [if_neg h1, if_neg h2]
    have hne := ne_empty h1
    have hne2 := ne_empty h2
    clear h1 h2 a4
    go_enter Tryd.func48, Tryd.ntmps48
    go_wp2
    go_ret
    exact ⟨rfl, (Below.refl _ w).alloc (Nat.le_refl _) _⟩

theorem results_jid {fn : Func} {tmps : Array Value} {w : World} {b : Nat} {x y z : Value} (h : fn.results = #[.cell 2 47]) (hp : tmps[2]?.getD undef = .pointer (some ⟨b, 0, none⟩)) (h0 : w.cell? ⟨b, 0, none⟩ = some x) (h1 : w.cell? ⟨b, 1, none⟩ = some y) (h2 : w.cell? ⟨b, 2, none⟩ = some z) : (results fn tmps).run Tryd.prog w = .ok (.agg #[x, y, z]) w := by
  simp [results, h, hp, h0, h1, h2, go_sem, Tryd.isAgg47, Tryd.sizeOf47]
theorem results_jid2 {fn : Func} {tmps : Array Value} {w : World} {b : Nat} {x y z r : Value} (h : fn.results = #[.cell 2 47, .tmp 3]) (hp : tmps[2]?.getD undef = .pointer (some ⟨b, 0, none⟩)) (hr : tmps[3]?.getD undef = r) (h0 : w.cell? ⟨b, 0, none⟩ = some x) (h1 : w.cell? ⟨b, 1, none⟩ = some y) (h2 : w.cell? ⟨b, 2, none⟩ = some z) : (results fn tmps).run Tryd.prog w = .ok (.tuple #[.agg #[x, y, z], r]) w := by
  simp [results, h, hp, hr, h0, h1, h2, go_sem, Tryd.isAgg47, Tryd.sizeOf47]
/-- An address that lies in a block. -/
theorem cells3 {w : World} {b : Nat} {x y z : Value} {T : TypeId} (h : w.heap[b]? = some (.cells #[x, y, z] T)) : w.cell? ⟨b, 0, none⟩ = some x ∧ w.cell? ⟨b, 1, none⟩ = some y ∧ w.cell? ⟨b, 2, none⟩ = some z ∧ w.frozen? ⟨b, 0, none⟩ = false ∧ w.frozen? ⟨b, 1, none⟩ = false ∧ w.frozen? ⟨b, 2, none⟩ = false := by
  refine ⟨by simp [World.cell?, h], by simp [World.cell?, h], by simp [World.cell?, h], by simp [World.frozen?, h], by simp [World.frozen?, h], by simp [World.frozen?, h]⟩
theorem set3 {w : World} {b : Nat} {x y z : Value} {T : TypeId} (h : w.heap[b]? = some (.cells #[x, y, z] T)) (x' y' z' : Value) : (((w.setCell ⟨b, 0, none⟩ x').setCell ⟨b, 1, none⟩ y').setCell ⟨b, 2, none⟩ z').heap[b]? = some (.cells #[x', y', z'] T) := by
  have k1 := heap_setCell_same _ _ 0 _ _ x' h
  have k2 := heap_setCell_same _ _ 1 _ _ y' k1
  have k3 := heap_setCell_same _ _ 2 _ _ z' k2
  exact k3

set_option maxRecDepth 100000 in
theorem reftext_any (lo dom res : ByteArray) (w : World) (hs : lo.size + dom.size + res.size + 2 ≤ 9223372036854775807) : Calls Tryd.prog 72 #[.agg #[.string lo, .string dom, .string res]] w fun e w' => e = .returned (.string (joinB lo dom res)) ∧ Below w.heap.size w w' := by
  have a1 : ∀ w : World, (Op.stringOp .add lo ⟨#[64]⟩).run Tryd.prog w = .ok (.string (lo ++ ⟨#[64]⟩)) w := fun w => run_string_add_sum w _ _ (by show lo.size + 1 ≤ _; omega)
  have a2 : ∀ w : World, (Op.stringOp .add (lo ++ ⟨#[64]⟩) dom).run Tryd.prog w = .ok (.string (lo ++ ⟨#[64]⟩ ++ dom)) w := fun w => run_string_add_sum w _ _ (by rw [size_app]; show lo.size + 1 + _ ≤ _; omega)
  have a3 : ∀ w : World, (Op.stringOp .add ⟨#[47]⟩ res).run Tryd.prog w = .ok (.string (⟨#[47]⟩ ++ res)) w := fun w => run_string_add_sum w _ _ (by show 1 + res.size ≤ _; omega)
  have a4 : ∀ w : World, (Op.stringOp .add dom (⟨#[47]⟩ ++ res)).run Tryd.prog w = .ok (.string (dom ++ (⟨#[47]⟩ ++ res))) w := fun w => run_string_add_sum w _ _ (by rw [size_app]; show dom.size + (1 + _) ≤ _; omega)
  have a5 : ∀ w : World, (Op.stringOp .add (lo ++ ⟨#[64]⟩ ++ dom) (⟨#[47]⟩ ++ res)).run Tryd.prog w = .ok (.string (lo ++ ⟨#[64]⟩ ++ dom ++ (⟨#[47]⟩ ++ res))) w := fun w => run_string_add_sum w _ _ (by rw [size_app, size_app, size_app]; show lo.size + 1 + dom.size + (1 + _) ≤ _; omega)
  unfold joinB
  by_cases h1 : lo = emp <;> by_cases h2 : res = emp
  · rw [if_pos h1, if_pos h2]
    subst h1 h2
    unfold emp
    clear a1 a2 a3 a4 a5
    go_enter Tryd.func72, Tryd.ntmps72
    go_wp2
    go_ret
    exact ⟨rfl, (Below.refl _ w).alloc (Nat.le_refl _) _⟩
  · rw [if_pos h1, if_neg h2]
    have hne := ne_empty h2
    subst h1
    unfold emp
    clear a1 a2 a5 h2
    go_enter Tryd.func72, Tryd.ntmps72
    go_wp2
    go_ret
    exact ⟨rfl, (Below.refl _ w).alloc (Nat.le_refl _) _⟩
  · rw [if_neg h1, if_pos h2]
    have hne := ne_empty h1
    subst h2
    unfold emp
    clear a3 a4 a5 h1
    go_enter Tryd.func72, Tryd.ntmps72
    go_wp2
    go_ret
    exact ⟨rfl, (Below.refl _ w).alloc (Nat.le_refl _) _⟩
  · rw [if_neg h1, if_neg h2]
    have hne := ne_empty h1
    have hne2 := ne_empty h2
    clear h1 h2 a4
    go_enter Tryd.func72, Tryd.ntmps72
    go_wp2
    go_ret
    exact ⟨rfl, (Below.refl _ w).alloc (Nat.le_refl _) _⟩

theorem new2 (w : World) (A B : Obj) : ((w.alloc A).alloc B).heap[w.heap.size + 1]? = some B := by
  have h := World.alloc_heap_new (w.alloc A) B
  rw [show (w.alloc A).heap.size = w.heap.size + 1 by simp] at h
  exact h
end Go.Proofs.YtpknifioflagaaaDoor.Jd
