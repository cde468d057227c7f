/- slices.Grow of none; slices.Concat of edges. -/
import Derived.Test.YtffjmkngdjbjlaaC6
import Derived.Test.YtffjmkngdjbjlaaDL
import Derived.Lib.AppendZerosOnto
namespace Go.Proofs.Ytffjmkngdjbjlaa
open Go.RowKit Go.Shelf

theorem infoEd : (Try.prog.info? 71).map (fun i => (i.zero, i.size, i.bytes)) = some (some (.agg #[.string ⟨#[]⟩, .string ⟨#[]⟩]), 2, 32) := by kernel_rfl
def edC1 (x : Pr) : List Value := [.string x.1, .string x.2]
def edC (l : List Pr) : List Value := l.flatMap edC1
theorem edC_len (l : List Pr) : (edC l).length = l.length * 2 := by
  induction l with
  | nil => rfl
  | cons x l ih =>
    show (edC1 x ++ edC l).length = _
    rw [List.length_append, ih]
    simp [edC1]
    omega
theorem edC_app (a b : List Pr) : edC (a ++ b) = edC a ++ edC b := by simp [edC]
theorem edC_one (l : List Pr) : ∀ u ∈ edC l, u.oneCell' = true := fun u hu => by
  obtain ⟨x, _, h⟩ := List.mem_flatMap.1 hu
  simp [edC1] at h
  rcases h with rfl | rfl <;> rfl
theorem ex_append2 {o : Oper} {a : Act} {w w' : World} {s x : Operand} {t t' : TypeId} {u v r : Value} (ho : o.op = .call { callee := .builtin .append, args := #[s, x], argTypes := #[t, t'] }) (hs : a.eval s = u) (hx : a.eval x = v) (hr : (Builtin.append_ #[t, t'] o.type #[u, v]).run Try.prog w = .ok r w') : (execOp a.eval o).run Try.prog w = .ok (.value r) w' := by
  simp [execOp, ho, resolve, invoke, builtin, hs, hx, hr, Result.andThen]
set_option maxRecDepth 100000 in
set_option maxHeartbeats 2000000 in
theorem grow_any (k : Nat) (hk : k ≤ 4000000) (w : World) :
    Calls Try.prog 52 #[.slice none 0 0, .int .i64 k] w fun e w' => ∃ v, e = .returned v ∧ w'.ownsRow w.heap.size 71 2 v 0 [] ∧ Below w.heap.size w w' := by
  have h1 : ¬ ((k : Int) < 0) := by omega
  have h2 : IntKind.i64.wrap (k : Int) = k := by rw [IntKind.wrap_i64]; omega
  by_cases h0 : 0 < k
  · have h0i : (0 : Int) < k := by omega
    obtain ⟨ti, t1, t2, t3, t4⟩ := info_parts infoEd
    have hrz : ∀ ty, (Builtin.append_ #[50, 3] ty #[.slice none 0 0, .int .i64 k]).run Try.prog w = _ := fun ty => Lib.run_append_grow_zeros w 50 3 ty 71 ti _ .i64 .i64 Try.underlying50 Try.underlying3 t1 t2 none 0 0 [] (run_firstCells_none w.drew _ 0 0 0) k h0 (by omega) (by omega) (by omega) (by rw [t4]; omega) (growslice_fits (by omega) (by rw [t4]; omega))
    rw [Nat.zero_add] at hrz
    have hGn : k ≤ grownCap w k 0 71 := grownCap_ge w _ _ _
    have hGm := grownCap_le_maxLen w k 0 71 (by unfold maxLen; omega)
    obtain ⟨G, hG⟩ : ∃ G, grownCap w k 0 71 = G := ⟨_, rfl⟩
    rw [hG] at hrz hGn hGm
    obtain ⟨cur, hcur⟩ : ∃ cur : Array Value, (([] : List Value).toArray ++ Builtin.zeroCells (Value.agg #[.string ⟨#[]⟩, .string ⟨#[]⟩]).cells k ++ Builtin.zeroCells (Value.agg #[.string ⟨#[]⟩, .string ⟨#[]⟩]).cells (G - k)) = cur := ⟨_, rfl⟩
    have hcs : cur.size = G * 2 := by
      rw [← hcur]
      simp only [Array.size_append, size_zeroCells]
      show 0 + k * 2 + (G - k) * 2 = G * 2
      omega
    rw [hcur] at hrz
    obtain ⟨W, hW⟩ : ∃ W, w.drew.alloc (.cells cur 71) = W := ⟨_, rfl⟩
    rw [hW] at hrz
    have hB : Below w.heap.size w W := by rw [← hW]; exact ((Below.refl _ w).drew).alloc (Nat.le_refl _) _
    have hrow : W.ownsRow w.heap.size 71 2 (.slice (some ⟨w.heap.size, 0, none⟩) 0 G) 0 [] := ⟨rfl, .inr ⟨w.heap.size, G, cur, rfl, Nat.le_refl _, by rw [← hW]; exact heap_alloc_new w.drew _, Nat.zero_le _, hGm, hcs, by simp⟩⟩
    have hG63 : (G : Int) ≤ 9223372036854775807 := by unfold maxLen at hGm; omega
    have HX := hide (And.intro hrow hB)
    have HA := hide hrz
    clear hrow hB hW hcs hcur hG t1 t2 t3 t4 hrz
    go_enter Try.func52, Try.ntmps52
    go_wp2_with (at_builtin; go_loud (refine l_val rfl _ (ex_append2 (t := 50) (t' := 3) rfl rfl rfl (HA.out _)) ?_))
    go_ret
    exact ⟨_, rfl, HX.out.1, HX.out.2⟩
  · obtain rfl : k = 0 := by omega
    go_enter Try.func52, Try.ntmps52
    go_wp2_with fail
    go_ret
    exact ⟨_, rfl, World.ownsRow_nil _ _ _ _, Below.refl _ _⟩
end Go.Proofs.Ytffjmkngdjbjlaa
