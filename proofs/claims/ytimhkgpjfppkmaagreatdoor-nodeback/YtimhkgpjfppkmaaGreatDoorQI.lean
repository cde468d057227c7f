/- Fan: operations of its round. Fan: those who are told of a node. -/
import Derived.Test.YtimhkgpjfppkmaaGreatDoorNd4
import Derived.Test.YtimhkgpjfppkmaaGreatDoorQH
import Derived.Test.YtimhkgpjfppkmaaGreatDoorQG
namespace Go.Proofs.YtimhkgpjfppkmaaGreatDoor
open Go.RowKit Go.Shelf

theorem infoNd : (Tryz.prog.info? 27).map (fun i => (i.zero, i.size, i.bytes)) = some (some (.agg #[.string ⟨#[]⟩, .bool false, .int .u8 0, .int .i64 0, .slice none 0 0, .slice none 0 0, .slice none 0 0, .string ⟨#[]⟩]), 8, 120) := by kernel_rfl
theorem load_nd {w : World} {b : Nat} {n : Nd} {v : NdW} (h : w.heap[b]? = some (.cells (ndA n v) 27)) : (Instr.loadAt 27 (.pointer (some ⟨b, 0, none⟩))).run Tryz.prog w = .ok (.agg (ndA n v)) w := run_load_row infoNd Tryz.underlying27 rfl rfl h
theorem load_sl {w : World} {b : Nat} {v : Value} (hc : w.cell? ⟨b, 0, none⟩ = some v) : (Instr.loadAt 42 (.pointer (some ⟨b, 0, none⟩))).run Tryz.prog w = .ok v w := by
  have ha : (isAgg 42).run Tryz.prog w = .ok false w := by
    unfold isAgg
    rw [Sem.run_bind, run_underlying Tryz.underlying42 w]
    simp
  simp [Instr.loadAt, Instr.sureAddr, loadVar, ha, hc, go_sem]
theorem store_sl {w : World} {b : Nat} {v : Value} {ga : Option Addr} {n gc : Nat} (hc : w.cell? ⟨b, 0, none⟩ = some v) (hf : w.frozen? ⟨b, 0, none⟩ = false) : (Instr.storeAt 42 (.pointer (some ⟨b, 0, none⟩)) (.slice ga n gc)).run Tryz.prog w = .ok () (w.setCell ⟨b, 0, none⟩ (.slice ga n gc)) := by
  simp [Instr.storeAt, Instr.sureAddr, storeVar, hc, hf, go_sem]
theorem ex_app {o : Oper} {a : Act} {w w' : World} {s x : Operand} {t t' : TypeId} {u v r : Value} (ho : o.op = .call { callee := .builtin .append, args := #[s, x], argTypes := #[t, t'] }) (hs : a.eval s = u) (hx : a.eval x = v) (hr : (Builtin.append_ #[t, t'] o.type #[u, v]).run Tryz.prog w = .ok r w') : (execOp a.eval o).run Tryz.prog w = .ok (.value r) w' := by
  simp [execOp, ho, resolve, invoke, builtin, hs, hx, hr, Result.andThen]
set_option maxRecDepth 100000 in
theorem app_str {W : World} {k k2 : Nat} {v v2 : Value} {xs ys : List ByteArray} {T : TypeId} (hv : W.ownsRow k 9 1 v xs.length (strC xs)) (h2 : W.ownsRow k2 9 1 v2 ys.length (strC ys)) (hk : k ≤ W.heap.size) (hs : xs.length + ys.length ≤ 4000000) :
    ∃ v' w', (Builtin.append_ #[42, 42] T #[v, v2]).run Tryz.prog W = .ok v' w' ∧ w'.ownsRow k 9 1 v' (xs ++ ys).length (strC (xs ++ ys)) ∧ W.grownBy w' v.ownBlock ∧ (v'.ownBlock = v.ownBlock ∨ v'.ownBlock = some W.heap.size) := by
  obtain ⟨ti, t1, t2, t3, t4⟩ := info_parts info9
  have hsc : strC (xs ++ ys) = strC xs ++ strC ys := by simp [strC]
  obtain ⟨h21, ⟨rfl, hn2⟩ | ⟨g, cap, cur, rfl, y1, y2, y3, y4, y5, y6⟩⟩ := id h2
  · have hl : ys = [] := List.eq_nil_of_length_eq_zero hn2
    subst hl
    refine ⟨v, W, ?_, by simpa using hv, World.grownBy.refl _ _, .inl rfl⟩
    obtain ⟨_, ⟨rfl, h2'⟩ | ⟨g, c, cur, rfl, _, _, hnc, _⟩⟩ := hv
    · simp [Builtin.append_, run_underlying Tryz.underlying42, sizeOf, typeInfo, t1, Builtin.lenOf, Builtin.firstCells]
    · simp [Builtin.append_, run_underlying Tryz.underlying42, sizeOf, typeInfo, t1, Builtin.lenOf, Builtin.firstCells, hnc, storeCells]
  · obtain ⟨v', w', hap, z1, z2, _, z4⟩ := run_append_own_at (P := Tryz.prog) W k 42 T 9 ti _ 1 16 Tryz.underlying42 t1 t2 t3 t4 rfl (by omega) v xs.length (strC xs) hv ⟨g, 0, none⟩ ys.length cap (strC ys) (by simp [strC]) (h2.cells rfl) (fun u hu => by
      obtain ⟨x, _, hx⟩ := List.mem_map.1 hu
      rw [← hx]
      rfl) (by unfold maxLen; omega) (by omega) hk
    exact ⟨v', w', hap, by rw [List.length_append, hsc]; exact z1, z2, z4⟩
end Go.Proofs.YtimhkgpjfppkmaaGreatDoor
namespace Go.Proofs.YtimhkgpjfppkmaaGreatDoor
open Go.RowKit Go.Shelf
attribute [local go_sem] Oper.semAt_some

def ovS (ns : List Nd) (S : List Nat) (k : Nat) : List (ByteArray × Bool × Int) :=
  match S[k]? with
  | none => []
  | some i => match ns[i]? with
    | none => []
    | some n => n.subs
/-- Those who are told, behind so many of the nodes above. -/
def toldTo (ns : List Nd) (S : List Nat) (nd : Nd) : Nat → List ByteArray
  | 0 => reachL 0 nd.subs
  | k + 1 => toldTo ns S nd k ++ reachL ((k : Int) + 1) (ovS ns S k)
def ovA (ns : List Nd) (vs : Nat → NdW) (S : List Nat) (k : Nat) : Array Value :=
  match S[k]? with
  | none => #[]
  | some i => match ns[i]? with
    | none => #[]
    | some n => ndA n (vs i)
theorem own_lowN {W : World} {b b' e s n : Nat} {v : Value} {xs : List Value} (h : W.ownsRow b e s v n xs) (hb : b' ≤ b) : W.ownsRow b' e s v n xs := by
  obtain ⟨h1, h2 | ⟨g, cap, cur, x0, x1, x2⟩⟩ := h
  · exact ⟨h1, .inl h2⟩
  · exact ⟨h1, .inr ⟨g, cap, cur, x0, Nat.le_trans hb x1, x2⟩⟩
theorem ovGo_lt (ns : List Nd) : ∀ (f : Nat) (l : List En) (t : ByteArray), (∀ x ∈ l, x.v < ns.length) → ∀ i ∈ ovGo ns f l t, i < ns.length
  | 0, _, _, _, i, h => by simp [ovGo] at h
  | f + 1, l, t, hl, i, h => by
    cases hg : getE l t with
    | none => rw [ovGo_none hg] at h; simp at h
    | some j =>
      rw [ovGo_some hg] at h
      rcases List.mem_cons.1 h with rfl | h
      · obtain ⟨x, hx, e⟩ := getE_mem hg
        rw [← e]
        exact hl x hx
      · exact ovGo_lt ns f _ _ (fun x hx => hl x (List.mem_filter.1 hx).1) i h
theorem ov_at {ns : List Nd} {t : ByteArray} {S : List Nat} {k : Nat} (hS : ovL ns t = S) (hk : k < S.length) : ∃ i n, S[k]? = some i ∧ ns[i]? = some n := by
  have h1 : S[k]? = some (S[k]) := List.getElem?_eq_getElem hk
  have h2 : S[k] < ns.length := ovGo_lt ns _ _ t (plTo_lt ns ns.length) _ (by
    show S[k] ∈ ovL ns t
    rw [hS]
    exact List.getElem_mem hk)
  exact ⟨_, _, h1, List.getElem?_eq_getElem h2⟩
theorem told_le (ns : List Nd) (S : List Nat) (nd : Nd) (k : Nat) : ∀ m, k ≤ m → (toldTo ns S nd k).length ≤ (toldTo ns S nd m).length
  | 0, h => by
    have : k = 0 := by omega
    rw [this]
    exact Nat.le_refl _
  | m + 1, h => by
    rcases Nat.lt_or_ge m k with h1 | h1
    · have : k = m + 1 := by omega
      rw [this]
      exact Nat.le_refl _
    · have h2 := told_le ns S nd k m h1
      show _ ≤ (toldTo ns S nd m ++ reachL ((m : Int) + 1) (ovS ns S m)).length
      rw [List.length_append]
      omega
end Go.Proofs.YtimhkgpjfppkmaaGreatDoor
