/- Lists of a node: copies; where what is struck stands first. Lists of a node: an element of a row of one's own is written; the end of a row is cleared. -/
import Derived.Test.YtimhkgpjfppkmaaGreatDoorNc0
import Derived.Laws.IdiomCopy
import Derived.Lib.SliceRun
namespace Go.Proofs.YtimhkgpjfppkmaaGreatDoor
open Go.RowKit

theorem fn_box {w : World} {b : Nat} {f : FuncId} {T : TypeId} (h : w.heap[b]? = some (.cells #[.func (.func f) #[] #[]] T)) : w.cell? ⟨b, 0, none⟩ = some (.func (.func f) #[] #[]) := by simp [World.cell?, h]
theorem str_box {w : World} {b : Nat} {s : ByteArray} (h : w.heap[b]? = some (.cells #[.string s] 9)) : w.cell? ⟨b, 0, none⟩ = some (.string s) := by simp [World.cell?, h]
theorem load_fnAff {w : World} {b : Nat} {v : Value} (hc : w.cell? ⟨b, 0, none⟩ = some v) : (Instr.loadAt 88 (.pointer (some ⟨b, 0, none⟩))).run Tryz.prog w = .ok v w := by
  have ha : (isAgg 88).run Tryz.prog w = .ok false w := by
    unfold isAgg
    rw [Sem.run_bind, run_underlying Tryz.underlying88 w]
    simp
  simp [Instr.loadAt, Instr.sureAddr, loadVar, ha, hc, go_sem]
set_option maxRecDepth 100000 in
theorem copied_a (ao : Option Addr) (cap : Nat) (L : List (ByteArray × Nat)) (w : World) (hm : AffMem w.heap.size w ao L) :
    Calls Tryz.prog 64 #[.slice ao L.length cap] w fun e w' => ∃ v, e = .returned v ∧ w'.ownsRow w.heap.size 55 2 v L.length (aC L) ∧ Below w.heap.size w w' := by
  have hl := hm.1
  obtain ⟨v1, w1, hap, hown, hgr, _⟩ := app_a (W := w) (k := w.heap.size) (v := .slice none 0 0) (xs := []) (T := 23) (cap := cap) (World.ownsRow_nil _ _ _ _) hm (Nat.le_refl _) (by simp; omega)
  obtain ⟨m, hml⟩ : ∃ m, L.length = m := ⟨_, rfl⟩
  rw [List.nil_append, hml] at hown
  rw [hml] at hap ⊢
  obtain ⟨g1, c1, rfl⟩ := own_shape1 hown
  have hb : Below w.heap.size w w1 := (Below.refl _ w).grown hgr (Nat.le_refl _) (fun g e => by cases e)
  have H := hide (And.intro hown hb)
  clear hown hb hgr hm hml hl
  go_enter Tryz.func64, Tryz.ntmps64
  go_wp2_with (at_builtin; refine stopNd ?_)
  unfold Hid
  refine l_val rfl _ (ex_appN rfl rfl rfl hap) ?_
  clear hap
  go_wp2_with fail
  go_ret
  exact ⟨_, rfl, H.out.1, H.out.2⟩
/-- Where the first of a key stands. -/
def IdxRAff (L : List (ByteArray × Nat)) (k : ByteArray) (e : Ending) : Prop := (∃ i x, L[i]? = some x ∧ x.1 = k ∧ (∀ y ∈ L.take i, y.1 ≠ k) ∧ e = .returned (.int .i64 (i : Nat))) ∨ ((∀ y ∈ L, y.1 ≠ k) ∧ e = .returned (.int .i64 (-1)))
theorem load_fnSub {w : World} {b : Nat} {v : Value} (hc : w.cell? ⟨b, 0, none⟩ = some v) : (Instr.loadAt 84 (.pointer (some ⟨b, 0, none⟩))).run Tryz.prog w = .ok v w := by
  have ha : (isAgg 84).run Tryz.prog w = .ok false w := by
    unfold isAgg
    rw [Sem.run_bind, run_underlying Tryz.underlying84 w]
    simp
  simp [Instr.loadAt, Instr.sureAddr, loadVar, ha, hc, go_sem]
set_option maxRecDepth 100000 in
theorem copied_s (ao : Option Addr) (cap : Nat) (L : List (ByteArray × Bool × Int)) (w : World) (hm : SubMem w.heap.size w ao L) :
    Calls Tryz.prog 65 #[.slice ao L.length cap] w fun e w' => ∃ v, e = .returned v ∧ w'.ownsRow w.heap.size 58 3 v L.length (sC L) ∧ Below w.heap.size w w' := by
  have hl := hm.1
  obtain ⟨v1, w1, hap, hown, hgr, _⟩ := app_s (W := w) (k := w.heap.size) (v := .slice none 0 0) (xs := []) (T := 24) (cap := cap) (World.ownsRow_nil _ _ _ _) hm (Nat.le_refl _) (by simp; omega)
  obtain ⟨m, hml⟩ : ∃ m, L.length = m := ⟨_, rfl⟩
  rw [List.nil_append, hml] at hown
  rw [hml] at hap ⊢
  obtain ⟨g1, c1, rfl⟩ := own_shape1 hown
  have hb : Below w.heap.size w w1 := (Below.refl _ w).grown hgr (Nat.le_refl _) (fun g e => by cases e)
  have H := hide (And.intro hown hb)
  clear hown hb hgr hm hml hl
  go_enter Tryz.func65, Tryz.ntmps65
  go_wp2_with (at_builtin; refine stopNd ?_)
  unfold Hid
  refine l_val rfl _ (ex_appN rfl rfl rfl hap) ?_
  clear hap
  go_wp2_with fail
  go_ret
  exact ⟨_, rfl, H.out.1, H.out.2⟩
set_option maxRecDepth 100000 in
theorem wo_s (x : ByteArray × Bool × Int) (k : ByteArray) (bf bk : Nat) (w : World) (hf : w.heap[bf]? = some (.cells #[.func (.func 38) #[] #[]] 84)) (hk : w.heap[bk]? = some (.cells #[.string k] 9)) :
    Calls Tryz.prog 83 #[.agg #[.string x.1, .bool x.2.1, .int .i64 x.2.2], .pointer (some ⟨bf, 0, none⟩), .pointer (some ⟨bk, 0, none⟩)] w fun e w' => e = .returned (.bool (x.1.toList == k.toList)) ∧ Below w.heap.size w w' := by
  have b1 : Below w.heap.size w (w.alloc (.cells #[.string x.1, .bool x.2.1, .int .i64 x.2.2] 58)) := (Below.refl _ w).alloc (Nat.le_refl _) _
  have hfl := (Array.getElem?_eq_some_iff.1 hf).1
  have hkl := (Array.getElem?_eq_some_iff.1 hk).1
  have c0 := fn_box ((b1.block bf hfl).trans hf)
  have c1 := str_box ((b1.block bk hkl).trans hk)
  have HK := hide (sKey_any x (w.alloc (.cells #[.string x.1, .bool x.2.1, .int .i64 x.2.2] 58)))
  obtain ⟨r, hr⟩ : ∃ r, (x.1.toList == k.toList) = r := ⟨_, rfl⟩
  rw [hr]
  have HH := hide (And.intro b1 hk)
  clear b1 hf hk
  go_enter Tryz.func83, Tryz.ntmps83
  go_wp2_with fail
  obtain ⟨W, hW⟩ : ∃ W, w.alloc (.cells #[.string x.1, .bool x.2.1, .int .i64 x.2.2] 58) = W := ⟨_, rfl⟩
  obtain ⟨q, hq⟩ : ∃ q, w.heap.size = q := ⟨_, rfl⟩
  have f0 := World.alloc_heap_new w (.cells #[.string x.1, .bool x.2.1, .int .i64 x.2.2] 58)
  rw [hW] at f0 c0 c1 HH ⊢
  rw [hq] at f0 ⊢
  have hqW : q < W.heap.size := (Array.getElem?_eq_some_iff.1 f0).1
  have hfW : bf < W.heap.size := World.block_lt_of_cell? W _ c0
  have hkW : bk < W.heap.size := World.block_lt_of_cell? W _ c1
  clear HK hW hq
  obtain ⟨V0, hV0⟩ : ∃ V0, W.drew = V0 := ⟨_, rfl⟩
  have B0 : Below W.heap.size W V0 := by rw [← hV0]; exact (Below.refl _ W).drew
  replace c0 := (B0.cell (p := ⟨bf, 0, none⟩) hfW).trans c0
  replace c1 := (B0.cell (p := ⟨bk, 0, none⟩) hkW).trans c1
  replace f0 := (B0.block q hqW).trans f0
  have hqV : q < V0.heap.size := Nat.lt_of_lt_of_le hqW B0.size
  have hfV : bf < V0.heap.size := Nat.lt_of_lt_of_le hfW B0.size
  have hkV : bk < V0.heap.size := Nat.lt_of_lt_of_le hkW B0.size
  refine region_rel (S := fun V => Below V0.heap.size V0 V) (fun a Wz => ∃ xx : Nat → Value, (Below W.heap.size W Wz) ∧ a = { tmps := #[xx 0, xx 1, xx 2, xx 3, .bool r, xx 5, xx 6, xx 7, xx 8, xx 9], defers := [] }) (by kernel_rfl) ?any ?fin
  case any =>
    rw [hV0]
    clear hV0
    have S0 : Below V0.heap.size V0 V0 := Below.refl _ _
    refine anyH_take (i := 0) (v := .func (.func 38) #[] #[]) rfl (some 5) rfl (by kernel_rfl) (by kernel_rfl) (by kernel_rfl) (fun _ _ _ h => by cases h.1) (by kernel_rfl) (fun w0 hw0 => ex_load rfl rfl (load_fnSub ((hw0.cell (p := ⟨bf, 0, none⟩) hfV).trans c0))) S0 ?_
    simp only [Act.put, List.setIfInBounds_toArray, List.set_cons_zero, List.set_cons_succ]
    refine anyH_take (i := 1) (v := .agg #[.string x.1, .bool x.2.1, .int .i64 x.2.2]) rfl (some 6) rfl (by kernel_rfl) (by kernel_rfl) (by kernel_rfl) (fun _ _ _ h => by cases h.1) (by kernel_rfl) (fun w0 hw0 => ex_load rfl rfl (load_s ((hw0.cell (p := ⟨q, 0, none⟩) hqV).trans (cells_s f0).1) ((hw0.cell (p := ⟨q, 1, none⟩) hqV).trans (cells_s f0).2.1) ((hw0.cell (p := ⟨q, 2, none⟩) hqV).trans (cells_s f0).2.2.1))) S0 ?_
    simp only [Act.put, List.setIfInBounds_toArray, List.set_cons_zero, List.set_cons_succ]
    refine anyH_take (i := 3) (v := .string k) rfl (some 8) rfl (by kernel_rfl) (by kernel_rfl) (by kernel_rfl) (fun _ _ _ h => by cases h.1) (by kernel_rfl) (fun w0 hw0 => ex_load rfl rfl (load_str ((hw0.cell (p := ⟨bk, 0, none⟩) hkV).trans c1))) S0 ?_
    simp only [Act.put, List.setIfInBounds_toArray, List.set_cons_zero, List.set_cons_succ]
    refine anyH_one (i := 2) (by kernel_rfl) ?_
    refine op_callv rfl (some 7) rfl (by kernel_rfl) #[.agg #[.string x.1, .bool x.2.1, .int .i64 x.2.2]] rfl rfl (by simp [Act.eval]) (fun _ _ => rfl) (sKey_any x V0) ?_
    rintro e V1 ⟨rfl, c1_⟩
    have b1 : Below V0.heap.size V0 V1 := c1_
    refine ⟨_, rfl, S0.trans (b1.mono S0.size), ?_⟩
    simp only [Act.put, List.setIfInBounds_toArray, List.set_cons_zero, List.set_cons_succ]
    refine anyH_more (fun V => Below V1.heap.size V1 V) (fun V hV => S0.trans ((b1.trans (hV.mono b1.size)).mono S0.size)) ?_
    have S1 : Below V1.heap.size V1 V1 := Below.refl _ _
    have B1 : Below W.heap.size W V1 := B0.trans (b1.mono B0.size)
    refine anyH_take (i := 4) (v := .bool r) rfl (some 9) rfl (by kernel_rfl) (by kernel_rfl) (by kernel_rfl) (fun _ _ _ h => by cases h.1) (by kernel_rfl) (fun _ _ => ex_eqS rfl rfl rfl hr) S1 ?_
    simp only [Act.put, List.setIfInBounds_toArray, List.set_cons_zero, List.set_cons_succ]
    refine anyH_val (i := 5) (by kernel_rfl) rfl (some 4) rfl (by kernel_rfl) (ex_anyv rfl rfl) S1 ?_
    simp only [Act.put, List.setIfInBounds_toArray, List.set_cons_zero, List.set_cons_succ]
    exact wpAnyH_done (by kernel_rfl) ⟨rfl, fill (B1) (by kernel_rfl)⟩ _
  case fin =>
    rintro a W2 ⟨xx, hB, rfl⟩
    have HB := hide (HH.out.1.trans (hB.mono HH.out.1.size))
    clear hB B0 hV0 c0 c1 f0
    go_wp2_with fail
    go_ret
    exact ⟨rfl, HB.out⟩
/-- Where the first of a key stands. -/
def IdxRSub (L : List (ByteArray × Bool × Int)) (k : ByteArray) (e : Ending) : Prop := (∃ i x, L[i]? = some x ∧ x.1 = k ∧ (∀ y ∈ L.take i, y.1 ≠ k) ∧ e = .returned (.int .i64 (i : Nat))) ∨ ((∀ y ∈ L, y.1 ≠ k) ∧ e = .returned (.int .i64 (-1)))
set_option maxRecDepth 100000 in
set_option maxHeartbeats 4000000 in
theorem idx_s (L : List (ByteArray × Bool × Int)) (k : ByteArray) (ao : Option Addr) (cap bf bk : Nat) (w : World) (hf : w.heap[bf]? = some (.cells #[.func (.func 38) #[] #[]] 84)) (hk : w.heap[bk]? = some (.cells #[.string k] 9)) (hm : SubMem w.heap.size w ao L) :
    Calls Tryz.prog 86 #[.slice ao L.length cap, .func (.func 83) #[] #[.pointer (some ⟨bf, 0, none⟩), .pointer (some ⟨bk, 0, none⟩)]] w fun e w' => IdxRSub L k e ∧ Below w.heap.size w w' := by
  obtain ⟨m, hml⟩ : ∃ m, L.length = m := ⟨_, rfl⟩
  have hm6 : m ≤ 1000000 := by have := hm.1; omega
  have HH := hide (And.intro hf (And.intro hk (And.intro hm hml)))
  rw [hml]
  clear hf hk hm hml
  go_enter Tryz.func86, Tryz.ntmps86
  go_wp2_with fail
  go_loopw [8] (fun iv wr => ∃ i : Nat, i ≤ m ∧ iv = .int .i64 i ∧ (∀ y ∈ L.take i, y.1 ≠ k) ∧ Below w.heap.size w wr) (fun iv _ => m - (intOf iv).toNat)
  case atStart => exact ⟨0, Nat.zero_le _, rfl, by simp, Below.refl _ _⟩
  case round =>
    obtain ⟨i, him, rfl, hno, hbw⟩ := hrel
    by_cases hlt : (i : Int) < m
    · obtain ⟨x, hx⟩ : ∃ x, L[i]? = some x := ⟨_, List.getElem?_eq_getElem (by have := HH.out.2.2.2; omega)⟩
      obtain ⟨b, off, hbe, hb1, d0, d1, d2⟩ := HH.out.2.2.1.2 i x hx
      have e0 := (hbw.cell (p := ⟨b, _, none⟩) hb1).trans d0
      have e1 := (hbw.cell (p := ⟨b, _, none⟩) hb1).trans d1
      have e2 := (hbw.cell (p := ⟨b, _, none⟩) hb1).trans d2
      have hfn := wo_s x k bf bk wr ((hbw.block bf (Array.getElem?_eq_some_iff.1 HH.out.1).1).trans HH.out.1) ((hbw.block bk (Array.getElem?_eq_some_iff.1 HH.out.2.1).1).trans HH.out.2.1)
      have hi0 : (0 : Int) ≤ i := by omega
      rw [hbe]
      by_cases hs : x.1 = k
      · have hse : (x.1.toList == k.toList) = true := by rw [hs]; simp
        rw [hse] at hfn
        have HF := hide (And.intro hfn (And.intro hbw (And.intro hno (And.intro hx hs))))
        clear hfn hbw d0 d1 d2 hx hno hs hse
        go_wp2_with (go_at_call 83; refine HF.out.1.mono ?_; rintro e w2 ⟨rfl, b2⟩; have H2 := hide (HF.out.2.1.trans (b2.mono HF.out.2.1.size)); clear b2)
        go_ret
        exact ⟨.inl ⟨i, x, HF.out.2.2.2.1, HF.out.2.2.2.2, HF.out.2.2.1, rfl⟩, H2.out⟩
      · have hse : (x.1.toList == k.toList) = false := str_ne hs
        rw [hse] at hfn
        have HF := hide (And.intro hfn (And.intro hbw (And.intro hno (And.intro hx hs))))
        clear hfn hbw d0 d1 d2 hx hno hs hse
        go_wp2_with (go_at_call 83; refine HF.out.1.mono ?_; rintro e w2 ⟨rfl, b2⟩; have H2 := hide (HF.out.2.1.trans (b2.mono HF.out.2.1.size)); clear b2)
        refine ⟨⟨i + 1, by omega, by simp, fun y hy => ?_, H2.out⟩, by simp [intOf]; omega⟩
        rw [List.take_add_one, HF.out.2.2.2.1] at hy
        rcases List.mem_append.1 hy with hy | hy
        · exact HF.out.2.2.1 y hy
        · simp at hy
          rw [hy]
          exact HF.out.2.2.2.2
    · have hall : ∀ y ∈ L, y.1 ≠ k := by rwa [List.take_of_length_le (by have := HH.out.2.2.2; omega)] at hno
      have H2 := hide (And.intro hall hbw)
      clear hbw hno hall
      go_wp2_with fail
      go_ret
      exact ⟨.inr ⟨H2.out.1, rfl⟩, H2.out.2⟩
theorem load_fnItem {w : World} {b : Nat} {v : Value} (hc : w.cell? ⟨b, 0, none⟩ = some v) : (Instr.loadAt 95 (.pointer (some ⟨b, 0, none⟩))).run Tryz.prog w = .ok v w := by
  have ha : (isAgg 95).run Tryz.prog w = .ok false w := by
    unfold isAgg
    rw [Sem.run_bind, run_underlying Tryz.underlying95 w]
    simp
  simp [Instr.loadAt, Instr.sureAddr, loadVar, ha, hc, go_sem]
set_option maxRecDepth 100000 in
theorem copied_i (ao : Option Addr) (cap : Nat) (L : List (ByteArray × ByteArray × ByteArray)) (w : World) (hm : ItMem w.heap.size w ao L) :
    Calls Tryz.prog 66 #[.slice ao L.length cap] w fun e w' => ∃ v, e = .returned v ∧ w'.ownsRow w.heap.size 61 3 v L.length (iC L) ∧ Below w.heap.size w w' := by
  have hl := hm.1
  obtain ⟨v1, w1, hap, hown, hgr, _⟩ := app_i (W := w) (k := w.heap.size) (v := .slice none 0 0) (xs := []) (T := 25) (cap := cap) (World.ownsRow_nil _ _ _ _) hm (Nat.le_refl _) (by simp; omega)
  obtain ⟨m, hml⟩ : ∃ m, L.length = m := ⟨_, rfl⟩
  rw [List.nil_append, hml] at hown
  rw [hml] at hap ⊢
  obtain ⟨g1, c1, rfl⟩ := own_shape1 hown
  have hb : Below w.heap.size w w1 := (Below.refl _ w).grown hgr (Nat.le_refl _) (fun g e => by cases e)
  have H := hide (And.intro hown hb)
  clear hown hb hgr hm hml hl
  go_enter Tryz.func66, Tryz.ntmps66
  go_wp2_with (at_builtin; refine stopNd ?_)
  unfold Hid
  refine l_val rfl _ (ex_appN rfl rfl rfl hap) ?_
  clear hap
  go_wp2_with fail
  go_ret
  exact ⟨_, rfl, H.out.1, H.out.2⟩
/-- Where the first of a key stands. -/
def IdxRItem (L : List (ByteArray × ByteArray × ByteArray)) (k : ByteArray) (e : Ending) : Prop := (∃ i x, L[i]? = some x ∧ x.1 = k ∧ (∀ y ∈ L.take i, y.1 ≠ k) ∧ e = .returned (.int .i64 (i : Nat))) ∨ ((∀ y ∈ L, y.1 ≠ k) ∧ e = .returned (.int .i64 (-1)))
end Go.Proofs.YtimhkgpjfppkmaaGreatDoor
namespace Go.Proofs.YtimhkgpjfppkmaaGreatDoor
open Go.RowKit

theorem ex_clear {o : Oper} {a : Act} {w w' : World} {x : Operand} {t : TypeId} {u r : Value} (ho : o.op = .call { callee := .builtin .clear, args := #[x], argTypes := #[t] }) (hx : a.eval x = u) (hr : (Builtin.clear_ #[t] o.type #[u]).run Tryz.prog w = .ok r w') : (execOp a.eval o).run Tryz.prog w = .ok (.value r) w' := by
  simp [execOp, ho, resolve, invoke, builtin, hx, hr, Result.andThen]
theorem setCells_at (g lim base : Nat) (T : TypeId) (hb : base ≤ g) (w0 : World) : ∀ (vs : List Value) (o : Nat) (w : World) (cur : Array Value), lim ≤ o → w.heap[g]? = some (.cells cur T) → Below base w0 w → ∃ cur', (w.setCells g o vs).heap[g]? = some (.cells cur' T) ∧ cur'.size = cur.size ∧ cur'.toList.take lim = cur.toList.take lim ∧ Below base w0 (w.setCells g o vs)
  | [], o, w, cur, _, h, hw => ⟨cur, h, rfl, rfl, hw⟩
  | v :: vs, o, w, cur, hl, h, hw => by
    obtain ⟨cur', h1, h2, h3, h4⟩ := setCells_at g lim base T hb w0 vs (o + 1) (w.setCell ⟨g, o, none⟩ v) (cur.setIfInBounds o v) (by omega) (heap_setk h) (hw.setCell (p := ⟨g, o, none⟩) hb v)
    refine ⟨cur', h1, by rw [h2, Array.size_setIfInBounds], ?_, h4⟩
    rw [h3, Array.toList_setIfInBounds, List.take_set]
    rw [List.set_eq_of_length_le (by rw [List.length_take]; omega)]
theorem aC_set (y : ByteArray × Nat) : ∀ (L : List (ByteArray × Nat)) (i : Nat), i < L.length → (((aC L).set (i * 2) (.string y.1)).set (i * 2 + 1) (.int .u8 y.2)) = aC (L.set i y)
  | [], i, h => by simp at h
  | x :: L, 0, h => by
    have e : aC (x :: L) = [.string x.1, .int .u8 x.2] ++ aC L := rfl
    rw [e]
    rfl
  | x :: L, i + 1, h => by
    have ih := aC_set y L i (by simpa using h)
    have e : aC (x :: L) = [.string x.1, .int .u8 x.2] ++ aC L := rfl
    rw [e, List.set_cons_succ]
    rw [show aC (x :: L.set i y) = [.string x.1, .int .u8 x.2] ++ aC (L.set i y) from rfl, ← ih]
    rw [List.set_append_right _ _ (by simp; omega), List.set_append_right _ _ (by simp; omega)]
    simp only [List.length_cons, List.length_nil]
    rw [show (i + 1) * 2 - (0 + 1 + 1) = i * 2 by omega, show (i + 1) * 2 + 1 - (0 + 1 + 1) = i * 2 + 1 by omega]
theorem aC_take (L : List (ByteArray × Nat)) (i : Nat) : (aC L).take (i * 2) = aC (L.take i) := by
  have h := aC_app (L.take i) (L.drop i)
  rw [List.take_append_drop] at h
  rw [h]
  by_cases hi : i ≤ L.length
  · rw [List.take_append_of_le_length (by rw [aC_len, List.length_take]; omega), List.take_of_length_le (by rw [aC_len, List.length_take]; omega)]
  · rw [List.drop_eq_nil_of_le (by omega), List.take_of_length_le (l := L) (by omega)]
    rw [show aC ([] : List (ByteArray × Nat)) = [] from rfl, List.append_nil, List.take_of_length_le (by rw [aC_len]; omega)]
theorem own_set_a {w : World} {base g cap i : Nat} {L : List (ByteArray × Nat)} (y : ByteArray × Nat) (h : w.ownsRow base 55 2 (.slice (some ⟨g, 0, none⟩) L.length cap) L.length (aC L)) (hi : i < L.length) :
    ((w.setCell ⟨g, i * 2, none⟩ (.string y.1)).setCell ⟨g, i * 2 + 1, none⟩ (.int .u8 y.2)).ownsRow base 55 2 (.slice (some ⟨g, 0, none⟩) L.length cap) L.length (aC (L.set i y)) := by
  obtain ⟨h1, ⟨e, h2⟩ | ⟨g', cap', cur, e, x1, x2, x3, x4, x5, x6⟩⟩ := h
  · omega
  · cases e
    refine ⟨by rw [aC_len, List.length_set], .inr ⟨g, cap, ((cur.setIfInBounds (i * 2) (.string y.1)).setIfInBounds (i * 2 + 1) (.int .u8 y.2)), rfl, x1, heap_setk (heap_setk x2), x3, x4, by simp [x5], ?_⟩⟩
    rw [Array.toList_setIfInBounds, Array.toList_setIfInBounds, List.take_set, List.take_set, x6]
    exact aC_set y L i hi
theorem clear_a {w : World} {base g cap c i : Nat} {L : List (ByteArray × Nat)} {ty : TypeId} (h : w.ownsRow base 55 2 (.slice (some ⟨g, 0, none⟩) L.length cap) L.length (aC L)) (hi : i < L.length) :
    ∃ w', (Builtin.clear_ #[23] ty #[.slice (some ⟨g, i * 2, none⟩) (L.length - i) c]).run Tryz.prog w = .ok (.tuple #[]) w' ∧ w'.ownsRow base 55 2 (.slice (some ⟨g, 0, none⟩) i cap) i (aC (L.take i)) ∧ Below base w w' := by
  obtain ⟨h1, ⟨e, h2⟩ | ⟨g', cap', cur, e, x1, x2, x3, x4, x5, x6⟩⟩ := h
  · omega
  · cases e
    have hlz : (Builtin.zeroCells #[.string ⟨#[]⟩, .int .u8 0] (L.length - i)).toList.length = (L.length - i) * 2 := by simp [Builtin.zeroCells]
    have hst := run_storeCells_cells (P := Tryz.prog) g (i * 2) (Builtin.zeroCells #[.string ⟨#[]⟩, .int .u8 0] (L.length - i)).toList 0 w
      (fun j hj => by
        rw [hlz] at hj
        have hlt : i * 2 + 0 + j < cur.size := by
          have : L.length * 2 ≤ cap * 2 := Nat.mul_le_mul_right _ x3
          have : i * 2 + (L.length - i) * 2 = L.length * 2 := by rw [← Nat.add_mul]; congr 1; omega
          omega
        have hlt' : i * 2 + j < cur.size := by omega
        simp [World.cell?, x2, hlt'])
      (fun j hj => by simp [World.frozen?, x2])
      (fun v hv => by
        simp [Builtin.zeroCells] at hv
        obtain ⟨j, _, rfl⟩ := hv
        have : j % 2 = 0 ∨ j % 2 = 1 := by omega
        rcases this with h | h <;> simp [h] <;> rfl)
    obtain ⟨cur', y1, y2, y3, y4⟩ := setCells_at g (i * 2) base 55 x1 w (Builtin.zeroCells #[.string ⟨#[]⟩, .int .u8 0] (L.length - i)).toList (i * 2 + 0) w cur (by omega) x2 (Below.refl _ w)
    refine ⟨_, ?_, ⟨by rw [aC_len, List.length_take]; omega, .inr ⟨g, cap, cur', rfl, x1, y1, by omega, x4, by rw [y2, x5], ?_⟩⟩, y4⟩
    · obtain ⟨m, hm⟩ : ∃ m, L.length - i = m + 1 := ⟨L.length - i - 1, by omega⟩
      rw [hm] at hst ⊢
      rw [Nat.add_zero] at hst ⊢
      simp [Builtin.clear_, run_underlying Tryz.underlying23, Tryz.zeroValue55, Value.cells, hst]
    · rw [y3, ← aC_take, ← x6, List.take_take, Nat.min_eq_left (by have := Nat.mul_le_mul_right 2 (Nat.le_of_lt hi); omega)]
theorem sC_set (y : ByteArray × Bool × Int) : ∀ (L : List (ByteArray × Bool × Int)) (i : Nat), i < L.length → ((((sC L).set (i * 3) (.string y.1)).set (i * 3 + 1) (.bool y.2.1)).set (i * 3 + 2) (.int .i64 y.2.2)) = sC (L.set i y)
  | [], i, h => by simp at h
  | x :: L, 0, h => by
    have e : sC (x :: L) = [.string x.1, .bool x.2.1, .int .i64 x.2.2] ++ sC L := rfl
    rw [e]
    rfl
  | x :: L, i + 1, h => by
    have ih := sC_set y L i (by simpa using h)
    have e : sC (x :: L) = [.string x.1, .bool x.2.1, .int .i64 x.2.2] ++ sC L := rfl
    rw [e, List.set_cons_succ]
    rw [show sC (x :: L.set i y) = [.string x.1, .bool x.2.1, .int .i64 x.2.2] ++ sC (L.set i y) from rfl, ← ih]
    rw [List.set_append_right _ _ (by simp; omega), List.set_append_right _ _ (by simp; omega), List.set_append_right _ _ (by simp; omega)]
    simp only [List.length_cons, List.length_nil]
    rw [show (i + 1) * 3 - (0 + 1 + 1 + 1) = i * 3 by omega, show (i + 1) * 3 + 1 - (0 + 1 + 1 + 1) = i * 3 + 1 by omega, show (i + 1) * 3 + 2 - (0 + 1 + 1 + 1) = i * 3 + 2 by omega]
theorem sC_take (L : List (ByteArray × Bool × Int)) (i : Nat) : (sC L).take (i * 3) = sC (L.take i) := by
  have h := sC_app (L.take i) (L.drop i)
  rw [List.take_append_drop] at h
  rw [h]
  by_cases hi : i ≤ L.length
  · rw [List.take_append_of_le_length (by rw [sC_len, List.length_take]; omega), List.take_of_length_le (by rw [sC_len, List.length_take]; omega)]
  · rw [List.drop_eq_nil_of_le (by omega), List.take_of_length_le (l := L) (by omega)]
    rw [show sC ([] : List (ByteArray × Bool × Int)) = [] from rfl, List.append_nil, List.take_of_length_le (by rw [sC_len]; omega)]
theorem own_set_s {w : World} {base g cap i : Nat} {L : List (ByteArray × Bool × Int)} (y : ByteArray × Bool × Int) (h : w.ownsRow base 58 3 (.slice (some ⟨g, 0, none⟩) L.length cap) L.length (sC L)) (hi : i < L.length) :
    (((w.setCell ⟨g, i * 3, none⟩ (.string y.1)).setCell ⟨g, i * 3 + 1, none⟩ (.bool y.2.1)).setCell ⟨g, i * 3 + 2, none⟩ (.int .i64 y.2.2)).ownsRow base 58 3 (.slice (some ⟨g, 0, none⟩) L.length cap) L.length (sC (L.set i y)) := by
  obtain ⟨h1, ⟨e, h2⟩ | ⟨g', cap', cur, e, x1, x2, x3, x4, x5, x6⟩⟩ := h
  · omega
  · cases e
    refine ⟨by rw [sC_len, List.length_set], .inr ⟨g, cap, (((cur.setIfInBounds (i * 3) (.string y.1)).setIfInBounds (i * 3 + 1) (.bool y.2.1)).setIfInBounds (i * 3 + 2) (.int .i64 y.2.2)), rfl, x1, heap_setk (heap_setk (heap_setk x2)), x3, x4, by simp [x5], ?_⟩⟩
    rw [Array.toList_setIfInBounds, Array.toList_setIfInBounds, Array.toList_setIfInBounds, List.take_set, List.take_set, List.take_set, x6]
    exact sC_set y L i hi
theorem clear_s {w : World} {base g cap c i : Nat} {L : List (ByteArray × Bool × Int)} {ty : TypeId} (h : w.ownsRow base 58 3 (.slice (some ⟨g, 0, none⟩) L.length cap) L.length (sC L)) (hi : i < L.length) :
    ∃ w', (Builtin.clear_ #[24] ty #[.slice (some ⟨g, i * 3, none⟩) (L.length - i) c]).run Tryz.prog w = .ok (.tuple #[]) w' ∧ w'.ownsRow base 58 3 (.slice (some ⟨g, 0, none⟩) i cap) i (sC (L.take i)) ∧ Below base w w' := by
  obtain ⟨h1, ⟨e, h2⟩ | ⟨g', cap', cur, e, x1, x2, x3, x4, x5, x6⟩⟩ := h
  · omega
  · cases e
    have hlz : (Builtin.zeroCells #[.string ⟨#[]⟩, .bool false, .int .i64 0] (L.length - i)).toList.length = (L.length - i) * 3 := by simp [Builtin.zeroCells]
    have hst := run_storeCells_cells (P := Tryz.prog) g (i * 3) (Builtin.zeroCells #[.string ⟨#[]⟩, .bool false, .int .i64 0] (L.length - i)).toList 0 w
      (fun j hj => by
        rw [hlz] at hj
        have hlt : i * 3 + 0 + j < cur.size := by
          have : L.length * 3 ≤ cap * 3 := Nat.mul_le_mul_right _ x3
          have : i * 3 + (L.length - i) * 3 = L.length * 3 := by rw [← Nat.add_mul]; congr 1; omega
          omega
        have hlt' : i * 3 + j < cur.size := by omega
        simp [World.cell?, x2, hlt'])
      (fun j hj => by simp [World.frozen?, x2])
      (fun v hv => by
        simp [Builtin.zeroCells] at hv
        obtain ⟨j, _, rfl⟩ := hv
        have : j % 3 = 0 ∨ j % 3 = 1 ∨ j % 3 = 2 := by omega
        rcases this with h | h | h <;> simp [h] <;> rfl)
    obtain ⟨cur', y1, y2, y3, y4⟩ := setCells_at g (i * 3) base 58 x1 w (Builtin.zeroCells #[.string ⟨#[]⟩, .bool false, .int .i64 0] (L.length - i)).toList (i * 3 + 0) w cur (by omega) x2 (Below.refl _ w)
    refine ⟨_, ?_, ⟨by rw [sC_len, List.length_take]; omega, .inr ⟨g, cap, cur', rfl, x1, y1, by omega, x4, by rw [y2, x5], ?_⟩⟩, y4⟩
    · obtain ⟨m, hm⟩ : ∃ m, L.length - i = m + 1 := ⟨L.length - i - 1, by omega⟩
      rw [hm] at hst ⊢
      rw [Nat.add_zero] at hst ⊢
      simp [Builtin.clear_, run_underlying Tryz.underlying24, Tryz.zeroValue58, Value.cells, hst]
    · rw [y3, ← sC_take, ← x6, List.take_take, Nat.min_eq_left (by have := Nat.mul_le_mul_right 3 (Nat.le_of_lt hi); omega)]
theorem iC_set (y : ByteArray × ByteArray × ByteArray) : ∀ (L : List (ByteArray × ByteArray × ByteArray)) (i : Nat), i < L.length → ((((iC L).set (i * 3) (.string y.1)).set (i * 3 + 1) (.string y.2.1)).set (i * 3 + 2) (.string y.2.2)) = iC (L.set i y)
  | [], i, h => by simp at h
  | x :: L, 0, h => by
    have e : iC (x :: L) = [.string x.1, .string x.2.1, .string x.2.2] ++ iC L := rfl
    rw [e]
    rfl
  | x :: L, i + 1, h => by
    have ih := iC_set y L i (by simpa using h)
    have e : iC (x :: L) = [.string x.1, .string x.2.1, .string x.2.2] ++ iC L := rfl
    rw [e, List.set_cons_succ]
    rw [show iC (x :: L.set i y) = [.string x.1, .string x.2.1, .string x.2.2] ++ iC (L.set i y) from rfl, ← ih]
    rw [List.set_append_right _ _ (by simp; omega), List.set_append_right _ _ (by simp; omega), List.set_append_right _ _ (by simp; omega)]
    simp only [List.length_cons, List.length_nil]
    rw [show (i + 1) * 3 - (0 + 1 + 1 + 1) = i * 3 by omega, show (i + 1) * 3 + 1 - (0 + 1 + 1 + 1) = i * 3 + 1 by omega, show (i + 1) * 3 + 2 - (0 + 1 + 1 + 1) = i * 3 + 2 by omega]
theorem iC_take (L : List (ByteArray × ByteArray × ByteArray)) (i : Nat) : (iC L).take (i * 3) = iC (L.take i) := by
  have h := iC_app (L.take i) (L.drop i)
  rw [List.take_append_drop] at h
  rw [h]
  by_cases hi : i ≤ L.length
  · rw [List.take_append_of_le_length (by rw [iC_len, List.length_take]; omega), List.take_of_length_le (by rw [iC_len, List.length_take]; omega)]
  · rw [List.drop_eq_nil_of_le (by omega), List.take_of_length_le (l := L) (by omega)]
    rw [show iC ([] : List (ByteArray × ByteArray × ByteArray)) = [] from rfl, List.append_nil, List.take_of_length_le (by rw [iC_len]; omega)]
theorem own_set_i {w : World} {base g cap i : Nat} {L : List (ByteArray × ByteArray × ByteArray)} (y : ByteArray × ByteArray × ByteArray) (h : w.ownsRow base 61 3 (.slice (some ⟨g, 0, none⟩) L.length cap) L.length (iC L)) (hi : i < L.length) :
    (((w.setCell ⟨g, i * 3, none⟩ (.string y.1)).setCell ⟨g, i * 3 + 1, none⟩ (.string y.2.1)).setCell ⟨g, i * 3 + 2, none⟩ (.string y.2.2)).ownsRow base 61 3 (.slice (some ⟨g, 0, none⟩) L.length cap) L.length (iC (L.set i y)) := by
  obtain ⟨h1, ⟨e, h2⟩ | ⟨g', cap', cur, e, x1, x2, x3, x4, x5, x6⟩⟩ := h
  · omega
  · cases e
    refine ⟨by rw [iC_len, List.length_set], .inr ⟨g, cap, (((cur.setIfInBounds (i * 3) (.string y.1)).setIfInBounds (i * 3 + 1) (.string y.2.1)).setIfInBounds (i * 3 + 2) (.string y.2.2)), rfl, x1, heap_setk (heap_setk (heap_setk x2)), x3, x4, by simp [x5], ?_⟩⟩
    rw [Array.toList_setIfInBounds, Array.toList_setIfInBounds, Array.toList_setIfInBounds, List.take_set, List.take_set, List.take_set, x6]
    exact iC_set y L i hi
theorem clear_i {w : World} {base g cap c i : Nat} {L : List (ByteArray × ByteArray × ByteArray)} {ty : TypeId} (h : w.ownsRow base 61 3 (.slice (some ⟨g, 0, none⟩) L.length cap) L.length (iC L)) (hi : i < L.length) :
    ∃ w', (Builtin.clear_ #[25] ty #[.slice (some ⟨g, i * 3, none⟩) (L.length - i) c]).run Tryz.prog w = .ok (.tuple #[]) w' ∧ w'.ownsRow base 61 3 (.slice (some ⟨g, 0, none⟩) i cap) i (iC (L.take i)) ∧ Below base w w' := by
  obtain ⟨h1, ⟨e, h2⟩ | ⟨g', cap', cur, e, x1, x2, x3, x4, x5, x6⟩⟩ := h
  · omega
  · cases e
    have hlz : (Builtin.zeroCells #[.string ⟨#[]⟩, .string ⟨#[]⟩, .string ⟨#[]⟩] (L.length - i)).toList.length = (L.length - i) * 3 := by simp [Builtin.zeroCells]
    have hst := run_storeCells_cells (P := Tryz.prog) g (i * 3) (Builtin.zeroCells #[.string ⟨#[]⟩, .string ⟨#[]⟩, .string ⟨#[]⟩] (L.length - i)).toList 0 w
      (fun j hj => by
        rw [hlz] at hj
        have hlt : i * 3 + 0 + j < cur.size := by
          have : L.length * 3 ≤ cap * 3 := Nat.mul_le_mul_right _ x3
          have : i * 3 + (L.length - i) * 3 = L.length * 3 := by rw [← Nat.add_mul]; congr 1; omega
          omega
        have hlt' : i * 3 + j < cur.size := by omega
        simp [World.cell?, x2, hlt'])
      (fun j hj => by simp [World.frozen?, x2])
      (fun v hv => by
        simp [Builtin.zeroCells] at hv
        obtain ⟨j, _, rfl⟩ := hv
        have : j % 3 = 0 ∨ j % 3 = 1 ∨ j % 3 = 2 := by omega
        rcases this with h | h | h <;> simp [h] <;> rfl)
    obtain ⟨cur', y1, y2, y3, y4⟩ := setCells_at g (i * 3) base 61 x1 w (Builtin.zeroCells #[.string ⟨#[]⟩, .string ⟨#[]⟩, .string ⟨#[]⟩] (L.length - i)).toList (i * 3 + 0) w cur (by omega) x2 (Below.refl _ w)
    refine ⟨_, ?_, ⟨by rw [iC_len, List.length_take]; omega, .inr ⟨g, cap, cur', rfl, x1, y1, by omega, x4, by rw [y2, x5], ?_⟩⟩, y4⟩
    · obtain ⟨m, hm⟩ : ∃ m, L.length - i = m + 1 := ⟨L.length - i - 1, by omega⟩
      rw [hm] at hst ⊢
      rw [Nat.add_zero] at hst ⊢
      simp [Builtin.clear_, run_underlying Tryz.underlying25, Tryz.zeroValue61, Value.cells, hst]
    · rw [y3, ← iC_take, ← x6, List.take_take, Nat.min_eq_left (by have := Nat.mul_le_mul_right 3 (Nat.le_of_lt hi); omega)]
end Go.Proofs.YtimhkgpjfppkmaaGreatDoor
