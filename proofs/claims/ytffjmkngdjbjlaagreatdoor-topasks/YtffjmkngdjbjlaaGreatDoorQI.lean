/- Fan: operations of its round. Fan: those who are told of a node. -/
import Derived.Test.YtffjmkngdjbjlaaGreatDoorNd4
import Derived.Test.YtffjmkngdjbjlaaGreatDoorQH
import Derived.Test.YtffjmkngdjbjlaaGreatDoorQG
namespace Go.Proofs.YtffjmkngdjbjlaaGreatDoor
open Go.RowKit Go.Shelf

theorem infoNd : (Tryz.prog.info? 30).map (fun i => (i.zero, i.size, i.bytes)) = some (some (.agg #[.string ⟨#[]⟩, .bool false, .int .u8 0, .int .i64 0, .slice none 0 0, .slice none 0 0, .slice none 0 0, .string ⟨#[]⟩]), 8, 120) := by kernel_rfl
theorem load_nd {w : World} {b : Nat} {n : Nd} {v : NdW} (h : w.heap[b]? = some (.cells (ndA n v) 30)) : (Instr.loadAt 30 (.pointer (some ⟨b, 0, none⟩))).run Tryz.prog w = .ok (.agg (ndA n v)) w := run_load_row infoNd Tryz.underlying30 rfl rfl h
theorem load_sl {w : World} {b : Nat} {v : Value} (hc : w.cell? ⟨b, 0, none⟩ = some v) : (Instr.loadAt 36 (.pointer (some ⟨b, 0, none⟩))).run Tryz.prog w = .ok v w := by
  have ha : (isAgg 36).run Tryz.prog w = .ok false w := by
    unfold isAgg
    rw [Sem.run_bind, run_underlying Tryz.underlying36 w]
    simp
  simp [Instr.loadAt, Instr.sureAddr, loadVar, ha, hc, go_sem]
theorem store_sl {w : World} {b : Nat} {v : Value} {ga : Option Addr} {n gc : Nat} (hc : w.cell? ⟨b, 0, none⟩ = some v) (hf : w.frozen? ⟨b, 0, none⟩ = false) : (Instr.storeAt 36 (.pointer (some ⟨b, 0, none⟩)) (.slice ga n gc)).run Tryz.prog w = .ok () (w.setCell ⟨b, 0, none⟩ (.slice ga n gc)) := by
  simp [Instr.storeAt, Instr.sureAddr, storeVar, hc, hf, go_sem]
theorem ex_app {o : Oper} {a : Act} {w w' : World} {s x : Operand} {t t' : TypeId} {u v r : Value} (ho : o.op = .call { callee := .builtin .append, args := #[s, x], argTypes := #[t, t'] }) (hs : a.eval s = u) (hx : a.eval x = v) (hr : (Builtin.append_ #[t, t'] o.type #[u, v]).run Tryz.prog w = .ok r w') : (execOp a.eval o).run Tryz.prog w = .ok (.value r) w' := by
  simp [execOp, ho, resolve, invoke, builtin, hs, hx, hr, Result.andThen]
set_option maxRecDepth 100000 in
theorem app_str {W : World} {k k2 : Nat} {v v2 : Value} {xs ys : List ByteArray} {T : TypeId} (hv : W.ownsRow k 9 1 v xs.length (strC xs)) (h2 : W.ownsRow k2 9 1 v2 ys.length (strC ys)) (hk : k ≤ W.heap.size) (hs : xs.length + ys.length ≤ 4000000) :
    ∃ v' w', (Builtin.append_ #[36, 36] T #[v, v2]).run Tryz.prog W = .ok v' w' ∧ w'.ownsRow k 9 1 v' (xs ++ ys).length (strC (xs ++ ys)) ∧ W.grownBy w' v.ownBlock ∧ (v'.ownBlock = v.ownBlock ∨ v'.ownBlock = some W.heap.size) := by
  obtain ⟨ti, t1, t2, t3, t4⟩ := info_parts info9
  have hsc : strC (xs ++ ys) = strC xs ++ strC ys := by simp [strC]
  obtain ⟨h21, ⟨rfl, hn2⟩ | ⟨g, cap, cur, rfl, y1, y2, y3, y4, y5, y6⟩⟩ := id h2
  · have hl : ys = [] := List.eq_nil_of_length_eq_zero hn2
    subst hl
    refine ⟨v, W, ?_, by simpa using hv, World.grownBy.refl _ _, .inl rfl⟩
    obtain ⟨_, ⟨rfl, h2'⟩ | ⟨g, c, cur, rfl, _, _, hnc, _⟩⟩ := hv
    · simp [Builtin.append_, run_underlying Tryz.underlying36, sizeOf, typeInfo, t1, Builtin.lenOf, Builtin.firstCells]
    · simp [Builtin.append_, run_underlying Tryz.underlying36, sizeOf, typeInfo, t1, Builtin.lenOf, Builtin.firstCells, hnc, storeCells]
  · obtain ⟨v', w', hap, z1, z2, _, z4⟩ := run_append_own_at (P := Tryz.prog) W k 36 T 9 ti _ 1 16 Tryz.underlying36 t1 t2 t3 t4 rfl (by omega) v xs.length (strC xs) hv ⟨g, 0, none⟩ ys.length cap (strC ys) (by simp [strC]) (h2.cells rfl) (fun u hu => by
      obtain ⟨x, _, hx⟩ := List.mem_map.1 hu
      rw [← hx]
      rfl) (by unfold maxLen; omega) (by omega) hk
    exact ⟨v', w', hap, by rw [List.length_append, hsc]; exact z1, z2, z4⟩
end Go.Proofs.YtffjmkngdjbjlaaGreatDoor
namespace Go.Proofs.YtffjmkngdjbjlaaGreatDoor
open Go.RowKit Go.Shelf
attribute [local go_sem] Oper.semAt_some

def ovS (ns : List Nd) (S : List Nat) (k : Nat) : List (ByteArray × Bool × Int) :=
  match S[k]? with
  | none => []
  | some i => match ns[i]? with
    | none => []
    | some n => n.subs
/-- Those who are told, behind so many of the nodes above. -/
def toldTo (ns : List Nd) (S : List Nat) (nd : Nd) : Nat → List ByteArray
  | 0 => reachL 0 nd.subs
  | k + 1 => toldTo ns S nd k ++ reachL ((k : Int) + 1) (ovS ns S k)
def ovA (ns : List Nd) (vs : Nat → NdW) (S : List Nat) (k : Nat) : Array Value :=
  match S[k]? with
  | none => #[]
  | some i => match ns[i]? with
    | none => #[]
    | some n => ndA n (vs i)
theorem own_lowN {W : World} {b b' e s n : Nat} {v : Value} {xs : List Value} (h : W.ownsRow b e s v n xs) (hb : b' ≤ b) : W.ownsRow b' e s v n xs := by
  obtain ⟨h1, h2 | ⟨g, cap, cur, x0, x1, x2⟩⟩ := h
  · exact ⟨h1, .inl h2⟩
  · exact ⟨h1, .inr ⟨g, cap, cur, x0, Nat.le_trans hb x1, x2⟩⟩
theorem ovGo_lt (ns : List Nd) : ∀ (f : Nat) (l : List En) (t : ByteArray), (∀ x ∈ l, x.v < ns.length) → ∀ i ∈ ovGo ns f l t, i < ns.length
  | 0, _, _, _, i, h => by simp [ovGo] at h
  | f + 1, l, t, hl, i, h => by
    cases hg : getE l t with
    | none => rw [ovGo_none hg] at h; simp at h
    | some j =>
      rw [ovGo_some hg] at h
      rcases List.mem_cons.1 h with rfl | h
      · obtain ⟨x, hx, e⟩ := getE_mem hg
        rw [← e]
        exact hl x hx
      · exact ovGo_lt ns f _ _ (fun x hx => hl x (List.mem_filter.1 hx).1) i h
theorem ov_at {ns : List Nd} {t : ByteArray} {S : List Nat} {k : Nat} (hS : ovL ns t = S) (hk : k < S.length) : ∃ i n, S[k]? = some i ∧ ns[i]? = some n := by
  have h1 : S[k]? = some (S[k]) := List.getElem?_eq_getElem hk
  have h2 : S[k] < ns.length := ovGo_lt ns _ _ t (plTo_lt ns ns.length) _ (by
    show S[k] ∈ ovL ns t
    rw [hS]
    exact List.getElem_mem hk)
  exact ⟨_, _, h1, List.getElem?_eq_getElem h2⟩
theorem told_le (ns : List Nd) (S : List Nat) (nd : Nd) (k : Nat) : ∀ m, k ≤ m → (toldTo ns S nd k).length ≤ (toldTo ns S nd m).length
  | 0, h => by
    have : k = 0 := by omega
    rw [this]
    exact Nat.le_refl _
  | m + 1, h => by
    rcases Nat.lt_or_ge m k with h1 | h1
    · have : k = m + 1 := by omega
      rw [this]
      exact Nat.le_refl _
    · have h2 := told_le ns S nd k m h1
      show _ ≤ (toldTo ns S nd m ++ reachL ((m : Int) + 1) (ovS ns S m)).length
      rw [List.length_append]
      omega
theorem over_any (ao : Option Addr) (cap n : Nat) (nd : Nd) (v : NdW) (w : World) :
    Calls Tryz.prog 23 #[.slice ao n cap, .agg (ndA nd v)] w fun e w' => e = .returned (.func (.func 50) #[] #[.pointer (some ⟨w.heap.size, 0, none⟩), .pointer (some ⟨w.heap.size + 1, 0, none⟩)]) ∧ w' = (w.alloc (.cells #[.slice ao n cap] 38)).alloc (.cells (ndA nd v) 30) := by
  have hmf : ∀ (fn : Fn) (first cap : Array Value) (w : World), (Instr.makeFunc fn first cap).run Tryz.prog w = .ok (.func fn first cap) w := fun _ _ _ _ => rfl
  unfold ndA
  go_enter Tryz.func23, Tryz.ntmps23
  go_wp2_with fail
  go_ret
  exact ⟨rfl, rfl⟩
set_option maxRecDepth 100000 in
set_option maxHeartbeats 8000000 in
theorem fan_any (ao : Option Addr) (cap : Nat) (ns : List Nd) (vs : Nat → NdW) (s : ByteArray) (i0 : Nat) (nd : Nd) (T : List ByteArray) (w : World) (hm : NdsMem w.heap.size w ao ns vs) (hi : ns[i0]? = some nd) (hnm : nd.name = s) (hn : ∀ j n, j < i0 → ns[j]? = some n → n.name ≠ s) (ha : nd.acc = 0)
    (hT : toldTo ns (ovL ns nd.parent) nd (ovL ns nd.parent).length = T) (hTl : T.length ≤ 100000) (hr : ∀ t ∈ sortS T, roleL nd.affs t ≠ 1) (hc : Lib.compact ((sortS T).map ByteArray.toList) = (sortS T).map ByteArray.toList) :
    Calls Tryz.prog 7 #[.slice ao ns.length cap, .string s] w fun e w' => ∃ v, e = .returned v ∧ w'.ownsRow w.heap.size 9 1 v T.length (strC (sortS T)) ∧ Below w.heap.size w w' := by
  have hmf : ∀ (fn : Fn) (first cap : Array Value) (w : World), (Instr.makeFunc fn first cap).run Tryz.prog w = .ok (.func fn first cap) w := fun _ _ _ _ => rfl
  obtain ⟨m, hml⟩ : ∃ m, ns.length = m := ⟨_, rfl⟩
  have him : i0 < m := by have := (List.getElem?_eq_some_iff.1 hi).1; omega
  have hm3 : m ≤ 1000 := by have := hm.1; omega
  have himi : (i0 : Int) < m := by omega
  have hi0 : (0 : Int) ≤ i0 := by omega
  have hi0n : ¬ ((i0 : Int) < 0) := by omega
  obtain ⟨Wa, hWa⟩ : ∃ Wa, w.alloc (.cells #[.string s] 9) = Wa := ⟨_, rfl⟩
  have ba : Below w.heap.size w Wa := by rw [← hWa]; exact (Below.refl _ w).alloc (Nat.le_refl _) _
  have fa : Wa.heap[w.heap.size]? = some (.cells #[.string s] 9) := by rw [← hWa]; exact World.alloc_heap_new w _
  have hix := idxN_any ao cap ns vs s w.heap.size i0 Wa ((hm.below ba).raise ba.size) fa ⟨nd, hi, hnm⟩ hn
  rw [hml] at hix
  rw [← hWa] at hix
  have HIX := hide hix
  have HA := hide (And.intro hm (And.intro hi (And.intro ha (And.intro hr (And.intro hc (And.intro hml (And.intro hT ba)))))))
  rw [hml]
  have HWa := hide hWa
  clear hm hi hnm hn ha hr hc hml hix ba fa hWa hT
  refine (callsIn_wide (n := 3)).1 ?_
  refine callsIn_of_wp_marks Tryz.func7 rfl trivial ?_ rfl
  simp only [Tryz.ntmps7, List.size_toArray, List.length_cons, List.length_nil, Nat.reduceAdd, Nat.reduceSub, Array.replicate_succ, Array.replicate_zero, List.push_toArray, List.append_toArray, List.nil_append, List.cons_append]
  gi_wp2_with fail
  refine ⟨trivial, (callsIn_wide.2 HIX.out).mono ?_⟩
  rintro e w1 ⟨rfl, b1⟩
  rw [HWa.out] at b1
  have B1 : Below w.heap.size w w1 := HA.out.2.2.2.2.2.2.2.trans (b1.mono HA.out.2.2.2.2.2.2.2.size)
  have s1 := B1.size
  obtain ⟨hok1, b, off, hbe, hb1, hcl⟩ := (HA.out.1.below B1).2 i0 nd HA.out.2.1
  have d0 := hcl 0 (by omega)
  have d1 := hcl 1 (by omega)
  have d2 := hcl 2 (by omega)
  have d3 := hcl 3 (by omega)
  have d4 := hcl 4 (by omega)
  have d5 := hcl 5 (by omega)
  have d6 := hcl 6 (by omega)
  have d7 := hcl 7 (by omega)
  simp only [ndC, List.getElem_cons_zero, List.getElem_cons_succ, Nat.add_zero] at d0 d1 d2 d3 d4 d5 d6 d7
  obtain ⟨W2, hW2⟩ : ∃ W2, w1.alloc (.cells (ndA nd (vs i0)) 30) = W2 := ⟨_, rfl⟩
  have b2 : Below w1.heap.size w1 W2 := by rw [← hW2]; exact (Below.refl _ w1).alloc (Nat.le_refl _) _
  have f2 : W2.heap[w1.heap.size]? = some (.cells (ndA nd (vs i0)) 30) := by rw [← hW2]; exact World.alloc_heap_new w1 _
  have z2 : W2.heap.size = w1.heap.size + 1 := by rw [← hW2]; simp
  have B2 : Below w.heap.size w W2 := B1.trans (b2.mono s1)
  have hrc := reached_any nd (vs i0) 0 W2 ((hok1.below (b2.mono s1)).raise B2.size)
  rw [← hW2] at hrc
  unfold ndA at hrc
  have HR := hide hrc
  have H2 := hide (And.intro B2 (And.intro f2 (And.intro z2 hW2)))
  clear hrc B2 f2 z2 hW2 b2 b1 B1 hcl hok1
  subst hbe
  gi_wp2_with fail
  refine ⟨trivial, (callsIn_wide.2 HR.out).mono ?_⟩
  rintro e w3 ⟨v3, rfl, hown3, b3⟩
  have hW2 := H2.out.2.2.2
  unfold ndA at hW2
  rw [hW2] at hown3 b3
  obtain ⟨g3, c3, hv3⟩ := own_shape1 hown3
  subst hv3
  have B3 : Below w.heap.size w w3 := H2.out.1.trans (b3.mono H2.out.1.size)
  have f3 := (b3.block _ (Array.getElem?_eq_some_iff.1 H2.out.2.1).1).trans H2.out.2.1
  have lw1 : w1.heap.size < w3.heap.size := (Array.getElem?_eq_some_iff.1 f3).1
  obtain ⟨q, hq⟩ : ∃ q, (reachL 0 nd.subs).length = q := ⟨_, rfl⟩
  rw [hq] at hown3 ⊢
  obtain ⟨W4, hW4⟩ : ∃ W4, w3.alloc (.cells #[.slice g3 q c3] 36) = W4 := ⟨_, rfl⟩
  have b4 : Below w3.heap.size w3 W4 := by rw [← hW4]; exact (Below.refl _ w3).alloc (Nat.le_refl _) _
  have f4 : W4.heap[w1.heap.size]? = some (.cells (ndA nd (vs i0)) 30) := (b4.block _ lw1).trans f3
  have t4 : W4.heap[w3.heap.size]? = some (.cells #[.slice g3 q c3] 36) := by rw [← hW4]; exact World.alloc_heap_new w3 _
  have z4 : W4.heap.size = w3.heap.size + 1 := by rw [← hW4]; simp
  obtain ⟨x0, x1, x2, x3, x4, x5, x6, x7⟩ := nd_box f4
  have hov := over_any (some ⟨b, off, none⟩) cap m nd (vs i0) W4
  rw [← hW4] at hov x0 x1 x2 x3 x4 x5 x6 x7
  unfold ndA at hov
  have HO := hide hov
  have H4 := hide (And.intro (B3.trans (b4.mono B3.size)) (And.intro f4 (And.intro t4 (And.intro z4 (And.intro hW4 (And.intro (own_same hown3 (fun g hg => b4.block g (own_lt hown3 g hg))) (And.intro hq lw1)))))))
  clear hov b4 f4 t4 z4 hW4 hown3 b3 B3 f3 hW2 hq d0 d1 d2 d3 d4 d5 d6 d7
  gi_wp2_with fail
  refine ⟨trivial, (callsIn_wide.2 HO.out).mono ?_⟩
  rintro e w5 ⟨rfl, hw5⟩
  have zz : (w3.alloc (.cells #[.slice g3 q c3] 36)).heap.size = w3.heap.size + 1 := by simp
  rw [zz]
  rw [H4.out.2.2.2.2.1] at hw5
  have h41 := World.alloc_heap_new W4 (.cells #[.slice (some ⟨b, off, none⟩) m cap] 38)
  have z41 : (W4.alloc (.cells #[.slice (some ⟨b, off, none⟩) m cap] 38)).heap.size = w3.heap.size + 1 + 1 := by rw [World.size_alloc, H4.out.2.2.2.1]
  have b5 : Below W4.heap.size W4 w5 := by rw [hw5]; exact ((Below.refl _ W4).alloc (Nat.le_refl _) _).alloc (by simp) _
  have g51 : w5.heap[w3.heap.size + 1]? = some (.cells #[.slice (some ⟨b, off, none⟩) m cap] 38) := by
    rw [hw5, Below.heap_alloc _ _ _ (by rw [z41]; omega), ← H4.out.2.2.2.1]
    exact h41
  have g52 : w5.heap[w3.heap.size + 1 + 1]? = some (.cells (ndA nd (vs i0)) 30) := by
    rw [hw5, ← z41]
    exact World.alloc_heap_new _ _
  have z5 : w5.heap.size = w3.heap.size + 1 + 1 + 1 := by rw [hw5, World.size_alloc, z41]
  have B5 : Below w.heap.size w w5 := H4.out.1.trans (b5.mono H4.out.1.size)
  have s4 := H4.out.1.size
  have z4 := H4.out.2.2.2.1
  have t5 := (b5.block w3.heap.size (by omega)).trans H4.out.2.2.1
  have n5 := (b5.block w1.heap.size (by have := H4.out.2.2.2.2.2.2.2; omega)).trans H4.out.2.1
  have o5 := own_lowN (b' := w.heap.size) (own_same H4.out.2.2.2.2.2.1 (fun g hg => b5.block g (own_lt H4.out.2.2.2.2.2.1 g hg))) H2.out.1.size
  have hml := HA.out.2.2.2.2.2.1
  have hseq := over_seq (3 - 1) w.heap.size (some ⟨b, off, none⟩) cap ns vs nd (vs i0) (w3.heap.size + 1) (w3.heap.size + 1 + 1) w5 (HA.out.1.below B5) (by rw [hml]; exact g51) g52 ⟨by omega, by omega⟩
  have hT := HA.out.2.2.2.2.2.2.1
  have hSm : (ovL ns nd.parent).length ≤ 1000 := Nat.le_trans (ovGo_len _ _ _ _) (by omega)
  obtain ⟨S, hS⟩ : ∃ S, ovL ns nd.parent = S := ⟨_, rfl⟩
  rw [hS] at hseq hT hSm
  have lw1 := H4.out.2.2.2.2.2.2.2
  have HQ := hide hseq
  have H5 := hide (And.intro t5 (And.intro o5 (And.intro n5 (And.intro B5 (And.intro H4.out.2.2.2.2.2.2.1 (And.intro hT (And.intro hS (And.intro g51 g52))))))))
  clear hseq t5 o5 n5 B5 hT hS g51 g52 b5 hw5 h41 z41 zz x0 x1 x2 x3 x4 x5 x6 x7 HO HR HIX
  gi_wp2_with fail
  refine range_own (it := 50) (pre := #[]) (held := #[.pointer (some ⟨w3.heap.size + 1, 0, none⟩), .pointer (some ⟨w3.heap.size + 1 + 1, 0, none⟩)]) (by omega) rfl trivial rfl (enters_of Tryz.func50 (by kernel_rfl) rfl) (n₀ := w.heap.size) (by omega) (Below.refl _ _)
    (fun j hj => by rcases hj with rfl | rfl <;> omega) HQ.out (fun _ => rfl)
    (fun M k W => ∃ v, W.heap[w3.heap.size]? = some (.cells #[v] 36) ∧ W.ownsRow w.heap.size 9 1 v (toldTo ns S nd k).length (strC (toldTo ns S nd k)) ∧ (∀ j, v.ownBlock = some j → ¬ M j) ∧ ¬ M w3.heap.size ∧ W.heap[w1.heap.size]? = some (.cells (ndA nd (vs i0)) 30) ∧ ¬ M w1.heap.size ∧ Below w.heap.size w W)
    (fun _ _ => False)
    ?hI ?hIx ?h0 (fun k => .cells (ovA ns vs S k) 30)
    (fun k bs => { tmps := #[.slice (some ⟨b, off, none⟩) m cap, .string s, undef, .pointer (some ⟨w.heap.size, 0, none⟩), .slice none 0 0, .int .i64 i0, .pointer (some ⟨w1.heap.size, 0, none⟩), .pointer (some ⟨w3.heap.size, 0, none⟩), .int .i64 ((k : Int) + 1), .pointer (some ⟨bs, 0, none⟩), .slice (some ⟨b, off, none⟩) m cap, .func (.func 21) #[] #[.pointer (some ⟨w.heap.size, 0, none⟩)], .int .i64 i0, .int .i64 i0, .bool (decide ((i0 : Int) < 0)), .slice (some ⟨b, off, none⟩) m cap, .int .i64 i0, .pointer (some ⟨b, off + i0 * 8, none⟩), .agg #[.string nd.name, .bool nd.coll, .int .u8 nd.acc, .int .i64 nd.max, .slice (vs i0).aa nd.affs.length (vs i0).ac, .slice (vs i0).sa nd.subs.length (vs i0).sc, .slice (vs i0).ia nd.items.length (vs i0).ic, .string nd.parent], .agg #[.string nd.name, .bool nd.coll, .int .u8 nd.acc, .int .i64 nd.max, .slice (vs i0).aa nd.affs.length (vs i0).ac, .slice (vs i0).sa nd.subs.length (vs i0).sc, .slice (vs i0).ia nd.items.length (vs i0).ic, .string nd.parent], .slice g3 q c3, .slice (some ⟨b, off, none⟩) m cap, .agg #[.string nd.name, .bool nd.coll, .int .u8 nd.acc, .int .i64 nd.max, .slice (vs i0).aa nd.affs.length (vs i0).ac, .slice (vs i0).sa nd.subs.length (vs i0).sc, .slice (vs i0).ia nd.items.length (vs i0).ic, .string nd.parent], .func (.func 50) #[] #[.pointer (some ⟨w3.heap.size + 1, 0, none⟩), .pointer (some ⟨w3.heap.size + 1 + 1, 0, none⟩)], .int .i64 ((k : Int) + 1), ovV ns vs S k, undef, undef, undef, undef, undef, undef, undef, undef, undef, undef, undef, undef], defers := [] })
    ?assign ?body ?done ?stop
  case hI =>
    rintro M M' k A B ⟨v, i0', i1, i2, i3, i4, i5, i6⟩ hb hc hm
    refine ⟨v, hc _ _ i0' (.inl rfl) i3, own_same i1 (fun g e => ?_), fun j e hj => i2 j e (hm j (own_lt i1 j e) hj), fun h => i3 (hm _ (Array.getElem?_eq_some_iff.1 i0').1 h), hc _ _ i4 (.inl rfl) i5, fun h => i5 (hm _ (Array.getElem?_eq_some_iff.1 i4).1 h), i6.trans hb⟩
    obtain ⟨_, ⟨rfl, _⟩ | ⟨g', cap', cur, rfl, x1, x2, _⟩⟩ := i1
    · cases e
    · cases e
      exact (hc g' _ x2 (.inl rfl) (i2 g' rfl)).trans x2.symm
  case hIx => exact fun k A B h => h.elim
  case h0 => exact ⟨_, H5.out.1, by show World.ownsRow _ _ _ _ _ (reachL 0 nd.subs).length _; rw [H5.out.2.2.2.2.1]; exact H5.out.2.1, fun j e h => (by rcases h with rfl | rfl; exact own_ne0 H5.out.2.1 H5.out.2.2.2.2.2.2.2.1 (by decide) _ e rfl; exact own_ne0 H5.out.2.1 H5.out.2.2.2.2.2.2.2.2 (by decide) _ e rfl), fun h => (by rcases h with h | h <;> omega), H5.out.2.2.1, fun h => (by rcases h with h | h <;> omega), H5.out.2.2.2.1⟩
  case assign =>
    intro l k W K hk hK
    obtain ⟨i, n, hi, hn⟩ : ∃ i n, S[k]? = some i ∧ ns[i]? = some n := ov_at H5.out.2.2.2.2.2.2.1 hk
    have hv : ovV ns vs S k = .agg (ndA n (vs i)) := by simp [ovV, hi, hn]
    have ho : ovA ns vs S k = ndA n (vs i) := by simp [ovA, hi, hn]
    rw [hv, ho] at hK
    rw [hv]
    unfold ndA at hK ⊢
    clear hv ho
    gi_wp2_with fail
    exact hK
  case body =>
    rintro l M k bs W ⟨v, i0', i1, i2, i3, i4, i5, i6⟩ hk hM hbs hle
    obtain ⟨i, n, hi, hn⟩ := ov_at H5.out.2.2.2.2.2.2.1 hk
    have hv : ovV ns vs S k = .agg (ndA n (vs i)) := by simp [ovV, hi, hn]
    have ho : ovA ns vs S k = ndA n (vs i) := by simp [ovA, hi, hn]
    rw [ho] at hbs
    have hsub : toldTo ns S nd (k + 1) = toldTo ns S nd k ++ reachL ((k : Int) + 1) n.subs := by
      show toldTo ns S nd k ++ reachL ((k : Int) + 1) (ovS ns S k) = _
      simp [ovS, hi, hn]
    have hok : NdOk W.heap.size W n (vs i) := (((HA.out.1.below i6).2 i n hn).1).raise i6.size
    have hlk : (toldTo ns S nd (k + 1)).length ≤ 100000 := Nat.le_trans (told_le ns S nd (k + 1) S.length (by omega)) (by rw [H5.out.2.2.2.2.2.1]; exact hTl)
    rw [hsub, List.length_append] at hlk
    obtain ⟨ga, gc, hvv⟩ := own_shape1 i1
    subst hvv
    obtain ⟨X, hX⟩ : ∃ X, toldTo ns S nd k = X := ⟨_, rfl⟩
    obtain ⟨Y, hY⟩ : ∃ Y, reachL ((k : Int) + 1) n.subs = Y := ⟨_, rfl⟩
    rw [hX, hY] at hlk hsub
    rw [hX] at i0' i1 i2
    have hbsl : bs < W.heap.size := (Array.getElem?_eq_some_iff.1 hbs).1
    have hbt : bs ≠ w3.heap.size := fun e => by rw [e, i0'] at hbs; cases hbs
    have hltt : w3.heap.size < W.heap.size := (Array.getElem?_eq_some_iff.1 i0').1
    have hlt1 : w1.heap.size < W.heap.size := (Array.getElem?_eq_some_iff.1 i4).1
    have hWz : w.heap.size ≤ W.heap.size := i6.size
    have hMl : ∀ j, M j → w.heap.size ≤ j ∧ j < W.heap.size := fun j hj => by
      obtain ⟨h1, _, o, ho', _⟩ := hM j hj
      exact ⟨h1, (Array.getElem?_eq_some_iff.1 ho').1⟩
    have fin : ∀ (V1 : World) (v1 : Value), Below W.heap.size W V1 → V1.ownsRow W.heap.size 9 1 v1 (reachL ((k : Int) + 1) n.subs).length (strC (reachL ((k : Int) + 1) n.subs)) → ∃ v' w4, (Builtin.append_ #[36, 36] 36 #[.slice ga X.length gc, v1]).run Tryz.prog V1 = .ok v' w4 ∧ (∃ ga2 gc2, v' = .slice ga2 (X ++ Y).length gc2) ∧ w4.cell? ⟨w3.heap.size, 0, none⟩ = some (.slice ga X.length gc) ∧ w4.frozen? ⟨w3.heap.size, 0, none⟩ = false ∧ w4.heap[bs]? = some (.cells (ndA n (vs i)) 30) ∧ (fun W' => (KeepsFrom w5.heap.size W W' ∧ Kept M W W' ∧ Below w.heap.size W W' ∧ ∃ v, W'.heap[w3.heap.size]? = some (.cells #[v] 36) ∧ W'.ownsRow w.heap.size 9 1 v (toldTo ns S nd (k + 1)).length (strC (toldTo ns S nd (k + 1))) ∧ (∀ j, v.ownBlock = some j → ¬ M j) ∧ ¬ M w3.heap.size ∧ W'.heap[w1.heap.size]? = some (.cells (ndA nd (vs i0)) 30) ∧ ¬ M w1.heap.size ∧ Below w.heap.size w W')) (w4.setCell ⟨w3.heap.size, 0, none⟩ v') := by
      intro V1 v1 hb1 ho1
      rw [hY] at ho1
      obtain ⟨v', w4, hap, y1, y2, y4⟩ := app_str (T := 36) (own_same i1 (fun g e => hb1.block g (own_lt i1 g e))) ho1 (Nat.le_trans hWz hb1.size) (by omega)
      have hvb : ∀ j, (Value.slice ga X.length gc).ownBlock = some j → j ≠ w3.heap.size := fun j e => own_ne0 i1 i0' (by decide) j e
      have hvb1 : ∀ j, (Value.slice ga X.length gc).ownBlock = some j → j ≠ w1.heap.size := fun j e => own_ne0 i1 i4 (by decide) j e
      have hvbs : ∀ j, (Value.slice ga X.length gc).ownBlock = some j → j ≠ bs := fun j e => own_ne0 i1 hbs (by decide) j e
      have hz1 := hb1.size
      have h4t : w4.heap[w3.heap.size]? = some (.cells #[.slice ga X.length gc] 36) := (y2.block _ (by omega) (fun e => hvb _ e.symm rfl)).trans ((hb1.block _ hltt).trans i0')
      have h4n : w4.heap[w1.heap.size]? = some (.cells (ndA nd (vs i0)) 30) := (y2.block _ (by omega) (fun e => hvb1 _ e.symm rfl)).trans ((hb1.block _ hlt1).trans i4)
      have h4b : w4.heap[bs]? = some (.cells (ndA n (vs i)) 30) := (y2.block _ (by omega) (fun e => hvbs _ e.symm rfl)).trans ((hb1.block _ hbsl).trans hbs)
      have hv' : ∀ j, v'.ownBlock = some j → (Value.slice ga X.length gc).ownBlock = some j ∨ W.heap.size ≤ j := fun j e => by
        rcases y4 with z | z
        · exact .inl (z ▸ e)
        · rw [z] at e
          cases e
          exact .inr hz1
      have hBn : Below w.heap.size W (w4.setCell ⟨w3.heap.size, 0, none⟩ v') := (((hb1.mono hWz).grown y2 (by omega) (fun j e => own_base i1 j e)).setCell (p := ⟨w3.heap.size, 0, none⟩) (show w.heap.size ≤ w3.heap.size by omega) _)
      refine ⟨v', w4, hap, own_shape1 y1, one_cellN h4t, by simp [World.frozen?, h4t], h4b, ⟨⟨hBn.size, fun j o hj ho' hc' => ?_⟩, fun j hj => ?_, hBn, v', heap_setCell_same _ _ 0 _ _ _ h4t, ?_, fun j e hj => ?_, i3, (Below.heap_setCell _ _ _ _ (show w1.heap.size ≠ w3.heap.size by omega)).trans h4n, i5, i6.trans hBn⟩⟩
      · have hjl := (Array.getElem?_eq_some_iff.1 ho').1
        have hj1 : j ≠ w3.heap.size := fun e => by rw [e, i0'] at ho'; cases ho'; cases hc'
        have hj2 : (Value.slice ga X.length gc).ownBlock ≠ some j := fun e => by
          obtain ⟨_, ⟨e1, _⟩ | ⟨g', cap', cur, e1, z1, z2, _⟩⟩ := i1
          · rw [e1] at e
            cases e
          · rw [e1] at e
            cases e
            rw [z2] at ho'
            cases ho'
            cases hc'
        exact (Below.heap_setCell _ _ _ _ hj1).trans ((y2.block j (by omega) (fun e => hj2 e.symm)).trans ((hb1.block j hjl).trans ho'))
      · have hjl := (hMl j hj).2
        have hj1 : j ≠ w3.heap.size := fun e => i3 (by rw [← e]; exact hj)
        exact (Below.heap_setCell _ _ _ _ hj1).trans ((y2.block j (by omega) (fun e => i2 j e.symm hj)).trans (hb1.block j hjl))
      · rw [hsub]
        exact own_same y1 (fun g e => Below.heap_setCell _ _ _ _ (by
          rcases hv' g e with z | z
          · exact hvb g z
          · show g ≠ w3.heap.size
            omega))
      · rcases hv' j e with z | z
        · exact i2 j z hj
        · have := (hMl j hj).2
          omega
    have hc0 : W.cell? ⟨w3.heap.size, 0, none⟩ = some (.slice ga X.length gc) := one_cellN i0'
    rw [hv]
    clear hv ho hsub hlk hX hY hM hMl i1 i2 i3 i4 i5 i6 i0' hi hn
    gi_wp2_with fail
    refine region_roundR (S := fun V => V.heap[bs]? = some (.cells (ndA n (vs i)) 30)) (fun _ W' => (KeepsFrom w5.heap.size W W' ∧ Kept M W W' ∧ Below w.heap.size W W' ∧ ∃ v, W'.heap[w3.heap.size]? = some (.cells #[v] 36) ∧ W'.ownsRow w.heap.size 9 1 v (toldTo ns S nd (k + 1)).length (strC (toldTo ns S nd (k + 1))) ∧ (∀ j, v.ownBlock = some j → ¬ M j) ∧ ¬ M w3.heap.size ∧ W'.heap[w1.heap.size]? = some (.cells (ndA nd (vs i0)) 30) ∧ ¬ M w1.heap.size ∧ Below w.heap.size w W')) (by kernel_rfl) (by kernel_rfl) ?rg ?hq
    case rg =>
      have S0 : W.drew.heap[bs]? = some (.cells (ndA n (vs i)) 30) := hbs
      refine anyH_take (i := 1) (v := .agg (ndA n (vs i))) rfl (some 27) rfl (by kernel_rfl) (by kernel_rfl) (by kernel_rfl) (fun _ _ _ h => by cases h.1) (by kernel_rfl) (fun w0 hw0 => ex_load rfl rfl (load_nd hw0)) S0 ?_
      simp only [Act.put, List.setIfInBounds_toArray, List.set_cons_zero, List.set_cons_succ]
      refine anyH_take (i := 2) (v := .int .i64 ((k : Int) + 1)) rfl (some 28) rfl (by kernel_rfl) (by kernel_rfl) (by kernel_rfl) (fun _ _ _ h => by cases h.1) (by kernel_rfl) (fun w0 hw0 => by first | rfl | kernel_rfl) S0 ?_
      simp only [Act.put, List.setIfInBounds_toArray, List.set_cons_zero, List.set_cons_succ]
      refine anyH_two (i := 0) (j := 3) (by kernel_rfl) ?_ ?_
      · refine op_run rfl (some 26) rfl (by kernel_rfl) (ex_load rfl rfl (load_sl (show W.drew.cell? ⟨w3.heap.size, 0, none⟩ = some (.slice ga X.length gc) from hc0))) ?_
        refine ⟨S0, ?_⟩
        simp only [Act.put, List.setIfInBounds_toArray, List.set_cons_zero, List.set_cons_succ]
        refine anyH_one (i := 3) (by kernel_rfl) ?_
        refine op_call rfl (some 29) rfl (by kernel_rfl) #[.agg (ndA n (vs i)), .int .i64 ((k : Int) + 1)] rfl (by simp [Act.eval]) (fun _ _ => rfl) (reached_any n (vs i) ((k : Int) + 1) W.drew hok) ?_
        rintro e V1 ⟨v1, rfl, ho1, b1⟩
        have b1W : Below W.heap.size W V1 := ⟨b1.os, b1.tape, b1.output, b1.size, b1.block⟩
        refine ⟨_, rfl, (b1W.block bs hbsl).trans hbs, ?_⟩
        simp only [Act.put, List.setIfInBounds_toArray, List.set_cons_zero, List.set_cons_succ]
        obtain ⟨v', w4, hap, ⟨ga2, gc2, hv2⟩, hc4, hf4, hb4, hre⟩ := fin V1 v1 b1W ho1
        subst hv2
        refine anyH_one (i := 4) (by kernel_rfl) ?_
        refine op_run rfl (some 30) rfl (by kernel_rfl) (ex_app rfl rfl rfl hap) ?_
        refine ⟨hb4, ?_⟩
        simp only [Act.put, List.setIfInBounds_toArray, List.set_cons_zero, List.set_cons_succ]
        refine anyH_one (i := 5) (by kernel_rfl) ?_
        refine op_store rfl rfl (by kernel_rfl) (ex_store rfl rfl rfl (store_sl hc4 hf4)) ?_
        refine ⟨(Below.heap_setCell _ _ _ _ hbt).trans hb4, ?_⟩
        simp only [Act.put]
        exact wpAnyH_done (by kernel_rfl) ⟨rfl, hre⟩ _
      · refine op_call rfl (some 29) rfl (by kernel_rfl) #[.agg (ndA n (vs i)), .int .i64 ((k : Int) + 1)] rfl (by simp [Act.eval]) (fun _ _ => rfl) (reached_any n (vs i) ((k : Int) + 1) W.drew hok) ?_
        rintro e V1 ⟨v1, rfl, ho1, b1⟩
        have b1W : Below W.heap.size W V1 := ⟨b1.os, b1.tape, b1.output, b1.size, b1.block⟩
        refine ⟨_, rfl, (b1W.block bs hbsl).trans hbs, ?_⟩
        simp only [Act.put, List.setIfInBounds_toArray, List.set_cons_zero, List.set_cons_succ]
        refine anyH_one (i := 0) (by kernel_rfl) ?_
        refine op_run rfl (some 26) rfl (by kernel_rfl) (ex_load rfl rfl (load_sl ((b1W.cell (p := ⟨w3.heap.size, 0, none⟩) hltt).trans hc0))) ?_
        refine ⟨(b1W.block bs hbsl).trans hbs, ?_⟩
        simp only [Act.put, List.setIfInBounds_toArray, List.set_cons_zero, List.set_cons_succ]
        obtain ⟨v', w4, hap, ⟨ga2, gc2, hv2⟩, hc4, hf4, hb4, hre⟩ := fin V1 v1 b1W ho1
        subst hv2
        refine anyH_one (i := 4) (by kernel_rfl) ?_
        refine op_run rfl (some 30) rfl (by kernel_rfl) (ex_app rfl rfl rfl hap) ?_
        refine ⟨hb4, ?_⟩
        simp only [Act.put, List.setIfInBounds_toArray, List.set_cons_zero, List.set_cons_succ]
        refine anyH_one (i := 5) (by kernel_rfl) ?_
        refine op_store rfl rfl (by kernel_rfl) (ex_store rfl rfl rfl (store_sl hc4 hf4)) ?_
        refine ⟨(Below.heap_setCell _ _ _ _ hbt).trans hb4, ?_⟩
        simp only [Act.put]
        exact wpAnyH_done (by kernel_rfl) ⟨rfl, hre⟩ _
    case hq =>
      rintro a W' hre
      gi_wp2_with fail
      exact hre
  case done =>
    rintro D M W hD ⟨v, i0', i1, i2, i3, i4, i5, i6⟩ hK
    rw [H5.out.2.2.2.2.2.1] at i1
    obtain ⟨t, ht⟩ : ∃ t, T.length = t := ⟨_, rfl⟩
    rw [ht] at i1
    obtain ⟨ga, gc, hvv⟩ := own_shape1 i1
    subst hvv
    have hc0 : W.cell? ⟨w3.heap.size, 0, none⟩ = some (.slice ga t gc) := one_cellN i0'
    have hst := sort_any w.heap.size (.slice ga t gc) T W (by rw [ht]; exact i1) (by omega)
    have HS := hide hst
    have HE := hide (And.intro i0' (And.intro i1 (And.intro i4 (And.intro i6 (And.intro hK ht)))))
    clear hst i0' i1 i2 i3 i4 i5 i6 hK ht
    gi_wp2_with fail
    refine ⟨trivial, (callsIn_wide.2 HS.out).mono ?_⟩
    rintro e w6 ⟨rfl, hown6, hgr6⟩
    obtain ⟨i0', i1, i4, i6, hK, ht⟩ := HE.out
    rw [ht] at hown6
    have hlt3 : w3.heap.size < W.heap.size := (Array.getElem?_eq_some_iff.1 i0').1
    have hlt1 : w1.heap.size < W.heap.size := (Array.getElem?_eq_some_iff.1 i4).1
    have hltD : D < W.heap.size := (Array.getElem?_eq_some_iff.1 hK).1
    have hnD : ∀ (V : World) (g : Nat), V.heap[D]? = some (.deferred (some [])) → (Value.slice ga t gc).ownBlock = some g → (∀ xs, V.ownsRow w.heap.size 9 1 (.slice ga t gc) t xs → g ≠ D) := fun V g hd e xs ho e2 => by
      obtain ⟨_, ⟨z1, _⟩ | ⟨g', cap', cur, z1, _, z2, _⟩⟩ := ho
      · rw [z1] at e
        cases e
      · rw [z1] at e
        cases e
        have e3 : g' = D := e2
        rw [e3, hd] at z2
        cases z2
    have h6t : w6.heap[w3.heap.size]? = some (.cells #[.slice ga t gc] 36) := (hgr6.block _ hlt3 (fun e => own_ne0 i1 i0' (by decide) _ e.symm rfl)).trans i0'
    have h6n : w6.heap[w1.heap.size]? = some (.cells (ndA nd (vs i0)) 30) := (hgr6.block _ hlt1 (fun e => own_ne0 i1 i4 (by decide) _ e.symm rfl)).trans i4
    have h6D : w6.heap[D]? = some (.deferred (some [])) := (hgr6.block _ hltD (fun e => hnD W D hK e.symm _ i1 rfl)).trans hK
    have B6 : Below w.heap.size w w6 := i6.grown hgr6 (Nat.le_trans i6.size (Nat.le_refl _)) (fun g e => own_base i1 g e)
    have c6 : w6.cell? ⟨w3.heap.size, 0, none⟩ = some (.slice ga t gc) := one_cellN h6t
    have hsl : (sortS T).length = t := by rw [sortS_len, ht]
    have hcp := compact_any w.heap.size (.slice ga t gc) (sortS T) w6 (by rw [hsl]; exact hown6) (by omega) HA.out.2.2.2.2.1
    have H6 := hide (And.intro hcp (And.intro h6t (And.intro h6n (And.intro h6D (And.intro B6 (And.intro hown6 (And.intro hsl hnD)))))))
    clear hcp h6t h6n h6D B6 hown6 hsl hnD hgr6 i0' i1 i4 i6 hK ht hlt3 hlt1 hltD
    gi_wp2_with fail
    refine ⟨trivial, (callsIn_wide.2 H6.out.1).mono ?_⟩
    rintro e w7 ⟨rfl, b7⟩
    obtain ⟨_, h6t, h6n, h6D, B6, hown6, hsl, hnD⟩ := H6.out
    have h7t := (b7.block _ (Array.getElem?_eq_some_iff.1 h6t).1).trans h6t
    have h7n := (b7.block _ (Array.getElem?_eq_some_iff.1 h6n).1).trans h6n
    have h7D := (b7.block _ (Array.getElem?_eq_some_iff.1 h6D).1).trans h6D
    have B7 : Below w.heap.size w w7 := B6.trans (b7.mono B6.size)
    have o7 := own_same hown6 (fun g e => b7.block g (own_lt hown6 g e))
    have c7 : w7.cell? ⟨w3.heap.size, 0, none⟩ = some (.slice ga t gc) := one_cellN h7t
    have f7 : w7.frozen? ⟨w3.heap.size, 0, none⟩ = false := by simp [World.frozen?, h7t]
    have n31 : w1.heap.size ≠ w3.heap.size := by omega
    have nD3 : D ≠ w3.heap.size := fun e => by rw [e, h7t] at h7D; cases h7D
    have h8n : (w7.setCell ⟨w3.heap.size, 0, none⟩ (.slice ga t gc)).heap[w1.heap.size]? = some (.cells (ndA nd (vs i0)) 30) := (Below.heap_setCell _ _ _ _ n31).trans h7n
    have h8D : (w7.setCell ⟨w3.heap.size, 0, none⟩ (.slice ga t gc)).heap[D]? = some (.deferred (some [])) := (Below.heap_setCell _ _ _ _ nD3).trans h7D
    have h8t : (w7.setCell ⟨w3.heap.size, 0, none⟩ (.slice ga t gc)).heap[w3.heap.size]? = some (.cells #[.slice ga t gc] 36) := heap_setCell_same _ _ 0 _ _ _ h7t
    have o8 := own_same (B := w7.setCell ⟨w3.heap.size, 0, none⟩ (.slice ga t gc)) o7 (fun g e => Below.heap_setCell _ _ _ _ (own_ne0 o7 h7t (by decide) g e))
    have B8 : Below w.heap.size w (w7.setCell ⟨w3.heap.size, 0, none⟩ (.slice ga t gc)) := B7.setCell (p := ⟨w3.heap.size, 0, none⟩) (show w.heap.size ≤ w3.heap.size by omega) _
    have c8 : (w7.setCell ⟨w3.heap.size, 0, none⟩ (.slice ga t gc)).cell? ⟨w3.heap.size, 0, none⟩ = some (.slice ga t gc) := one_cellN h8t
    have hdl := delete_any nd (vs i0) w1.heap.size w.heap.size ga gc (sortS T) (w7.setCell ⟨w3.heap.size, 0, none⟩ (.slice ga t gc)) h8n ((((HA.out.1.below B8).2 i0 nd HA.out.2.1).1).raise B8.size) HA.out.2.2.1 HA.out.2.2.2.1 (by rw [hsl]; exact o8) (by rw [sortS_len]; omega)
    rw [hsl] at hdl
    have H8 := hide (And.intro hdl (And.intro h8D (And.intro B8 (And.intro o8 hnD))))
    clear hdl h8D B8 o8 h8n h8t h7t h7n h7D B7 o7 b7 h6t h6n h6D B6 hown6 hsl hnD nD3
    gi_wp2_with fail
    refine ⟨trivial, (callsIn_wide.2 H8.out.1).mono ?_⟩
    rintro e w9 ⟨rfl, b9⟩
    obtain ⟨_, h8D, B8, o8, hnD⟩ := H8.out
    have h9D := (b9.block _ (Array.getElem?_eq_some_iff.1 h8D).1).trans h8D
    have B9 : Below w.heap.size w w9 := B8.trans (b9.mono B8.size)
    have o9 := own_same o8 (fun g e => b9.block g (own_lt o8 g e))
    have H9 := hide (And.intro h9D (And.intro B9 (And.intro o9 hnD)))
    clear h8D B8 o8 hnD h9D B9 o9 b9
    gi_wp2_with fail
    obtain ⟨h9D, B9, o9, hnD⟩ := H9.out
    refine ⟨by simp, .inl ⟨_, _, rfl, run_takeDeferred h9D, ?_⟩⟩
    refine ⟨_, results_tmp rfl _ _ _, _, rfl, ?_, B9.trans (below_put _ _ (by omega))⟩
    rw [show T.length = t from HE.out.2.2.2.2.2]
    exact own_same o9 (fun g e => World.putObj_heap_other (hnD w9 g h9D e _ o9))
  case stop => exact fun D k W hD hk h => h.elim
end Go.Proofs.YtffjmkngdjbjlaaGreatDoor
