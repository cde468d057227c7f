/- A parser: it is broken off; what recovers. -/
import Derived.Test.YthflpcfpfdmaeaaDoorXp7
import Derived.Defers
import Derived.Recover
import Derived.Laws.Pointers
namespace Go.Proofs.YthflpcfpfdmaeaaDoor.Xm
open Go.RowKit

set_option maxRecDepth 100000 in
theorem breakOff_any (base p : Nat) (st : PS) (vw vo : Value) (err : Int) (w : World) (hP : IsP base p st vw vo w) :
    Calls Tryd.prog 31 #[.pointer (some ⟨p, 0, none⟩), .int .i64 err] w fun e w' => e = .returned (.tuple #[]) ∧ IsP base p { st with broken := err, wait := [], quote := 0 } (.slice none 0 0) vo w' ∧ Only p w w' := by
  obtain ⟨c0, c1, _, _, _, c5, cf⟩ := hP.cells
  have cf0 := cf 0 (by omega)
  have cf1 := cf 1 (by omega)
  have cf5 := cf 5 (by omega)
  have HP := hide hP
  clear hP cf
  go_enter Tryd.func31, Tryd.ntmps31
  go_wp2_with fail
  go_end0
  refine ⟨rfl, ?_, (((Only.refl p w).set _).set _).set _⟩
  obtain ⟨h0, h1, h2, h3⟩ := HP.out
  have hk : (w.setCell ⟨p, 5, none⟩ (.int .i64 err)).heap[p]? = _ := heap_setCell_same _ _ 5 _ _ _ h1
  have hk2 : ((w.setCell ⟨p, 5, none⟩ (.int .i64 err)).setCell ⟨p, 0, none⟩ (.slice none 0 0)).heap[p]? = _ := heap_setCell_same _ _ 0 _ _ _ hk
  have hk3 : (((w.setCell ⟨p, 5, none⟩ (.int .i64 err)).setCell ⟨p, 0, none⟩ (.slice none 0 0)).setCell ⟨p, 1, none⟩ (.int .u8 0)).heap[p]? = _ := heap_setCell_same _ _ 1 _ _ _ hk2
  refine ⟨h0, hk3, World.ownsRow_nil _ _ _ _, own_same h3 (fun g hg => ?_)⟩
  have hne := own_ne0 h3 h1 (by decide) g hg
  exact (Below.heap_setCell _ _ _ _ hne).trans ((Below.heap_setCell _ _ _ _ hne).trans (Below.heap_setCell _ _ _ _ hne))

set_option maxRecDepth 100000 in
theorem catch_idle (q : Nat) (w : World) :
    CallsD Tryd.prog 30 #[.pointer (some ⟨q, 0, none⟩)] .returning w fun e u' w' => e = .returned (.tuple #[]) ∧ u' = .returning ∧ w' = w := by
  refine callsD_of_wpS Tryd.func30 rfl fun c₀ cs hu => ?_
  apply wpS_seq
  apply wpS_region
  simp [wpOpsS, go_sem, recoverD, hu, Tryd.ntmps30, Exit.thenS]
  refine wpS_of_wp ?_
  go_wp2_with fail
  cases c₀
  simp_all [bodyPostS, results, Tryd.results30]

theorem stop_assert (v : Value) (xT : TypeId) (w : World) : (Instr.typeAssert (.iface 73 v) xT 73 true).run Tryd.prog w = .ok (.tuple #[v, .bool true]) w := by
  simp [Instr.typeAssert, run_underlying Tryd.underlying73, go_sem, Result.andThen]
set_option maxRecDepth 100000 in
theorem catch_stop (base p q : Nat) (st : PS) (vw vo : Value) (err : Int) (older : List PanicEntry) (w : World) (hP : IsP base p st vw vo w) (hq : w.cell? ⟨q, 0, none⟩ = some (.pointer (some ⟨p, 0, none⟩))) :
    CallsD Tryd.prog 30 #[.pointer (some ⟨q, 0, none⟩)] (.panicking ({ v := .iface 73 (.agg #[.int .i64 err]), recovered := false } :: older)) w fun e u' w' =>
      e = .returned (.tuple #[]) ∧ u' = .panicking ({ v := .iface 73 (.agg #[.int .i64 err]), recovered := true } :: older) ∧ IsP base p { st with broken := err, wait := [], quote := 0 } (.slice none 0 0) vo w' ∧ Only p w w' := by
  have hql : q < w.heap.size := block_lt_of_cell hq
  refine callsD_of_wpS Tryd.func30 rfl fun c₀ cs hu => ?_
  apply wpS_seq
  apply wpS_region
  simp [wpOpsS, go_sem, recoverD, hu, Tryd.ntmps30, Exit.thenS]
  refine wpS_of_wp ?_
  have hta := stop_assert (.agg #[.int .i64 err]) 20 w
  have HB := hide hP
  clear hP
  simp only [Array.replicate_succ, Array.replicate_zero, List.push_toArray, List.nil_append, List.cons_append, List.setIfInBounds_toArray, List.set_cons_succ, List.set_cons_zero, List.append_toArray]
  go_wp2_with fail
  refine (breakOff_any base p st vw vo err _ (HB.out.below ((Below.refl _ w).alloc (Nat.le_refl _) _))).mono ?_
  rintro e w2 ⟨rfl, hP2, hO2⟩
  have H2 := hide (And.intro hP2 hO2)
  clear hP2 hO2
  go_wp2_with fail
  simp [bodyPostS, results, Tryd.results30]
  exact ⟨H2.out.1, (Only.of_below ((Below.refl _ w).alloc (Nat.le_refl _) _) (Nat.le_of_lt HB.out.lt)).trans H2.out.2⟩
end Go.Proofs.YthflpcfpfdmaeaaDoor.Xm
