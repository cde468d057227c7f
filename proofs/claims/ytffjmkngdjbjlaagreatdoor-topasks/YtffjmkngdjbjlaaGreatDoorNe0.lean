/- Lists of a node: copies; where what is struck stands first. -/
import Derived.Test.YtffjmkngdjbjlaaGreatDoorNc0
namespace Go.Proofs.YtffjmkngdjbjlaaGreatDoor
open Go.RowKit

theorem fn_box {w : World} {b : Nat} {f : FuncId} {T : TypeId} (h : w.heap[b]? = some (.cells #[.func (.func f) #[] #[]] T)) : w.cell? ⟨b, 0, none⟩ = some (.func (.func f) #[] #[]) := by simp [World.cell?, h]
theorem str_box {w : World} {b : Nat} {s : ByteArray} (h : w.heap[b]? = some (.cells #[.string s] 9)) : w.cell? ⟨b, 0, none⟩ = some (.string s) := by simp [World.cell?, h]
theorem load_fnAff {w : World} {b : Nat} {v : Value} (hc : w.cell? ⟨b, 0, none⟩ = some v) : (Instr.loadAt 67 (.pointer (some ⟨b, 0, none⟩))).run Tryz.prog w = .ok v w := by
  have ha : (isAgg 67).run Tryz.prog w = .ok false w := by
    unfold isAgg
    rw [Sem.run_bind, run_underlying Tryz.underlying67 w]
    simp
  simp [Instr.loadAt, Instr.sureAddr, loadVar, ha, hc, go_sem]
set_option maxRecDepth 100000 in
theorem copied_a (ao : Option Addr) (cap : Nat) (L : List (ByteArray × Nat)) (w : World) (hm : AffMem w.heap.size w ao L) :
    Calls Tryz.prog 42 #[.slice ao L.length cap] w fun e w' => ∃ v, e = .returned v ∧ w'.ownsRow w.heap.size 25 2 v L.length (aC L) ∧ Below w.heap.size w w' := by
  have hl := hm.1
  obtain ⟨v1, w1, hap, hown, hgr, _⟩ := app_a (W := w) (k := w.heap.size) (v := .slice none 0 0) (xs := []) (T := 26) (cap := cap) (World.ownsRow_nil _ _ _ _) hm (Nat.le_refl _) (by simp; omega)
  obtain ⟨m, hml⟩ : ∃ m, L.length = m := ⟨_, rfl⟩
  rw [List.nil_append, hml] at hown
  rw [hml] at hap ⊢
  obtain ⟨g1, c1, rfl⟩ := own_shape1 hown
  have hb : Below w.heap.size w w1 := (Below.refl _ w).grown hgr (Nat.le_refl _) (fun g e => by cases e)
  have H := hide (And.intro hown hb)
  clear hown hb hgr hm hml hl
  go_enter Tryz.func42, Tryz.ntmps42
  go_wp2_with (at_builtin; refine stopNd ?_)
  unfold Hid
  refine l_val rfl _ (ex_appN rfl rfl rfl hap) ?_
  clear hap
  go_wp2_with fail
  go_ret
  exact ⟨_, rfl, H.out.1, H.out.2⟩
set_option maxRecDepth 100000 in
theorem wo_a (x : ByteArray × Nat) (k : ByteArray) (bf bk : Nat) (w : World) (hf : w.heap[bf]? = some (.cells #[.func (.func 32) #[] #[]] 67)) (hk : w.heap[bk]? = some (.cells #[.string k] 9)) :
    Calls Tryz.prog 82 #[.agg #[.string x.1, .int .u8 x.2], .pointer (some ⟨bf, 0, none⟩), .pointer (some ⟨bk, 0, none⟩)] w fun e w' => e = .returned (.bool (x.1.toList == k.toList)) ∧ Below w.heap.size w w' := by
  have b1 : Below w.heap.size w (w.alloc (.cells #[.string x.1, .int .u8 x.2] 25)) := (Below.refl _ w).alloc (Nat.le_refl _) _
  have hfl := (Array.getElem?_eq_some_iff.1 hf).1
  have hkl := (Array.getElem?_eq_some_iff.1 hk).1
  have c0 := fn_box ((b1.block bf hfl).trans hf)
  have c1 := str_box ((b1.block bk hkl).trans hk)
  have HK := hide (aKey_any x (w.alloc (.cells #[.string x.1, .int .u8 x.2] 25)))
  obtain ⟨r, hr⟩ : ∃ r, (x.1.toList == k.toList) = r := ⟨_, rfl⟩
  rw [hr]
  have HH := hide (And.intro b1 hk)
  clear b1 hf hk
  go_enter Tryz.func82, Tryz.ntmps82
  go_wp2_with fail
  obtain ⟨W, hW⟩ : ∃ W, w.alloc (.cells #[.string x.1, .int .u8 x.2] 25) = W := ⟨_, rfl⟩
  obtain ⟨q, hq⟩ : ∃ q, w.heap.size = q := ⟨_, rfl⟩
  have f0 := World.alloc_heap_new w (.cells #[.string x.1, .int .u8 x.2] 25)
  rw [hW] at f0 c0 c1 HH ⊢
  rw [hq] at f0 ⊢
  have hqW : q < W.heap.size := (Array.getElem?_eq_some_iff.1 f0).1
  have hfW : bf < W.heap.size := World.block_lt_of_cell? W _ c0
  have hkW : bk < W.heap.size := World.block_lt_of_cell? W _ c1
  clear HK hW hq
  obtain ⟨V0, hV0⟩ : ∃ V0, W.drew = V0 := ⟨_, rfl⟩
  have B0 : Below W.heap.size W V0 := by rw [← hV0]; exact (Below.refl _ W).drew
  replace c0 := (B0.cell (p := ⟨bf, 0, none⟩) hfW).trans c0
  replace c1 := (B0.cell (p := ⟨bk, 0, none⟩) hkW).trans c1
  replace f0 := (B0.block q hqW).trans f0
  have hqV : q < V0.heap.size := Nat.lt_of_lt_of_le hqW B0.size
  have hfV : bf < V0.heap.size := Nat.lt_of_lt_of_le hfW B0.size
  have hkV : bk < V0.heap.size := Nat.lt_of_lt_of_le hkW B0.size
  refine region_rel (S := fun V => Below V0.heap.size V0 V) (fun a Wz => ∃ xx : Nat → Value, (Below W.heap.size W Wz) ∧ a = { tmps := #[xx 0, xx 1, xx 2, xx 3, .bool r, xx 5, xx 6, xx 7, xx 8, xx 9], defers := [] }) (by kernel_rfl) ?any ?fin
  case any =>
    rw [hV0]
    clear hV0
    have S0 : Below V0.heap.size V0 V0 := Below.refl _ _
    refine anyH_take (i := 0) (v := .func (.func 32) #[] #[]) rfl (some 5) rfl (by kernel_rfl) (by kernel_rfl) (by kernel_rfl) (fun _ _ _ h => by cases h.1) (by kernel_rfl) (fun w0 hw0 => ex_load rfl rfl (load_fnAff ((hw0.cell (p := ⟨bf, 0, none⟩) hfV).trans c0))) S0 ?_
    simp only [Act.put, List.setIfInBounds_toArray, List.set_cons_zero, List.set_cons_succ]
    refine anyH_take (i := 1) (v := .agg #[.string x.1, .int .u8 x.2]) rfl (some 6) rfl (by kernel_rfl) (by kernel_rfl) (by kernel_rfl) (fun _ _ _ h => by cases h.1) (by kernel_rfl) (fun w0 hw0 => ex_load rfl rfl (load_a ((hw0.cell (p := ⟨q, 0, none⟩) hqV).trans (cell01 f0).1) ((hw0.cell (p := ⟨q, 1, none⟩) hqV).trans (cell01 f0).2))) S0 ?_
    simp only [Act.put, List.setIfInBounds_toArray, List.set_cons_zero, List.set_cons_succ]
    refine anyH_take (i := 3) (v := .string k) rfl (some 8) rfl (by kernel_rfl) (by kernel_rfl) (by kernel_rfl) (fun _ _ _ h => by cases h.1) (by kernel_rfl) (fun w0 hw0 => ex_load rfl rfl (load_str ((hw0.cell (p := ⟨bk, 0, none⟩) hkV).trans c1))) S0 ?_
    simp only [Act.put, List.setIfInBounds_toArray, List.set_cons_zero, List.set_cons_succ]
    refine anyH_one (i := 2) (by kernel_rfl) ?_
    refine op_callv rfl (some 7) rfl (by kernel_rfl) #[.agg #[.string x.1, .int .u8 x.2]] rfl rfl (by simp [Act.eval]) (fun _ _ => rfl) (aKey_any x V0) ?_
    rintro e V1 ⟨rfl, c1_⟩
    have b1 : Below V0.heap.size V0 V1 := c1_
    refine ⟨_, rfl, S0.trans (b1.mono S0.size), ?_⟩
    simp only [Act.put, List.setIfInBounds_toArray, List.set_cons_zero, List.set_cons_succ]
    refine anyH_more (fun V => Below V1.heap.size V1 V) (fun V hV => S0.trans ((b1.trans (hV.mono b1.size)).mono S0.size)) ?_
    have S1 : Below V1.heap.size V1 V1 := Below.refl _ _
    have B1 : Below W.heap.size W V1 := B0.trans (b1.mono B0.size)
    refine anyH_take (i := 4) (v := .bool r) rfl (some 9) rfl (by kernel_rfl) (by kernel_rfl) (by kernel_rfl) (fun _ _ _ h => by cases h.1) (by kernel_rfl) (fun _ _ => ex_eqS rfl rfl rfl hr) S1 ?_
    simp only [Act.put, List.setIfInBounds_toArray, List.set_cons_zero, List.set_cons_succ]
    refine anyH_val (i := 5) (by kernel_rfl) rfl (some 4) rfl (by kernel_rfl) (ex_anyv rfl rfl) S1 ?_
    simp only [Act.put, List.setIfInBounds_toArray, List.set_cons_zero, List.set_cons_succ]
    exact wpAnyH_done (by kernel_rfl) ⟨rfl, fill (B1) (by kernel_rfl)⟩ _
  case fin =>
    rintro a W2 ⟨xx, hB, rfl⟩
    have HB := hide (HH.out.1.trans (hB.mono HH.out.1.size))
    clear hB B0 hV0 c0 c1 f0
    go_wp2_with fail
    go_ret
    exact ⟨rfl, HB.out⟩
/-- Where the first of a key stands. -/
def IdxRAff (L : List (ByteArray × Nat)) (k : ByteArray) (e : Ending) : Prop := (∃ i x, L[i]? = some x ∧ x.1 = k ∧ (∀ y ∈ L.take i, y.1 ≠ k) ∧ e = .returned (.int .i64 (i : Nat))) ∨ ((∀ y ∈ L, y.1 ≠ k) ∧ e = .returned (.int .i64 (-1)))
set_option maxRecDepth 100000 in
set_option maxHeartbeats 4000000 in
theorem idx_a (L : List (ByteArray × Nat)) (k : ByteArray) (ao : Option Addr) (cap bf bk : Nat) (w : World) (hf : w.heap[bf]? = some (.cells #[.func (.func 32) #[] #[]] 67)) (hk : w.heap[bk]? = some (.cells #[.string k] 9)) (hm : AffMem w.heap.size w ao L) :
    Calls Tryz.prog 95 #[.slice ao L.length cap, .func (.func 82) #[] #[.pointer (some ⟨bf, 0, none⟩), .pointer (some ⟨bk, 0, none⟩)]] w fun e w' => IdxRAff L k e ∧ Below w.heap.size w w' := by
  obtain ⟨m, hml⟩ : ∃ m, L.length = m := ⟨_, rfl⟩
  have hm6 : m ≤ 1000000 := by have := hm.1; omega
  have HH := hide (And.intro hf (And.intro hk (And.intro hm hml)))
  rw [hml]
  clear hf hk hm hml
  go_enter Tryz.func95, Tryz.ntmps95
  go_wp2_with fail
  go_loopw [8] (fun iv wr => ∃ i : Nat, i ≤ m ∧ iv = .int .i64 i ∧ (∀ y ∈ L.take i, y.1 ≠ k) ∧ Below w.heap.size w wr) (fun iv _ => m - (intOf iv).toNat)
  case atStart => exact ⟨0, Nat.zero_le _, rfl, by simp, Below.refl _ _⟩
  case round =>
    obtain ⟨i, him, rfl, hno, hbw⟩ := hrel
    by_cases hlt : (i : Int) < m
    · obtain ⟨x, hx⟩ : ∃ x, L[i]? = some x := ⟨_, List.getElem?_eq_getElem (by have := HH.out.2.2.2; omega)⟩
      obtain ⟨b, off, hbe, hb1, d0, d1⟩ := HH.out.2.2.1.2 i x hx
      have e0 := (hbw.cell (p := ⟨b, _, none⟩) hb1).trans d0
      have e1 := (hbw.cell (p := ⟨b, _, none⟩) hb1).trans d1
      have hfn := wo_a x k bf bk wr ((hbw.block bf (Array.getElem?_eq_some_iff.1 HH.out.1).1).trans HH.out.1) ((hbw.block bk (Array.getElem?_eq_some_iff.1 HH.out.2.1).1).trans HH.out.2.1)
      have hi0 : (0 : Int) ≤ i := by omega
      rw [hbe]
      by_cases hs : x.1 = k
      · have hse : (x.1.toList == k.toList) = true := by rw [hs]; simp
        rw [hse] at hfn
        have HF := hide (And.intro hfn (And.intro hbw (And.intro hno (And.intro hx hs))))
        clear hfn hbw d0 d1 hx hno hs hse
        go_wp2_with (go_at_call 82; refine HF.out.1.mono ?_; rintro e w2 ⟨rfl, b2⟩; have H2 := hide (HF.out.2.1.trans (b2.mono HF.out.2.1.size)); clear b2)
        go_ret
        exact ⟨.inl ⟨i, x, HF.out.2.2.2.1, HF.out.2.2.2.2, HF.out.2.2.1, rfl⟩, H2.out⟩
      · have hse : (x.1.toList == k.toList) = false := str_ne hs
        rw [hse] at hfn
        have HF := hide (And.intro hfn (And.intro hbw (And.intro hno (And.intro hx hs))))
        clear hfn hbw d0 d1 hx hno hs hse
        go_wp2_with (go_at_call 82; refine HF.out.1.mono ?_; rintro e w2 ⟨rfl, b2⟩; have H2 := hide (HF.out.2.1.trans (b2.mono HF.out.2.1.size)); clear b2)
        refine ⟨⟨i + 1, by omega, by simp, fun y hy => ?_, H2.out⟩, by simp [intOf]; omega⟩
        rw [List.take_add_one, HF.out.2.2.2.1] at hy
        rcases List.mem_append.1 hy with hy | hy
        · exact HF.out.2.2.1 y hy
        · simp at hy
          rw [hy]
          exact HF.out.2.2.2.2
    · have hall : ∀ y ∈ L, y.1 ≠ k := by rwa [List.take_of_length_le (by have := HH.out.2.2.2; omega)] at hno
      have H2 := hide (And.intro hall hbw)
      clear hbw hno hall
      go_wp2_with fail
      go_ret
      exact ⟨.inr ⟨H2.out.1, rfl⟩, H2.out.2⟩
theorem load_fnSub {w : World} {b : Nat} {v : Value} (hc : w.cell? ⟨b, 0, none⟩ = some v) : (Instr.loadAt 52 (.pointer (some ⟨b, 0, none⟩))).run Tryz.prog w = .ok v w := by
  have ha : (isAgg 52).run Tryz.prog w = .ok false w := by
    unfold isAgg
    rw [Sem.run_bind, run_underlying Tryz.underlying52 w]
    simp
  simp [Instr.loadAt, Instr.sureAddr, loadVar, ha, hc, go_sem]
set_option maxRecDepth 100000 in
theorem copied_s (ao : Option Addr) (cap : Nat) (L : List (ByteArray × Bool × Int)) (w : World) (hm : SubMem w.heap.size w ao L) :
    Calls Tryz.prog 43 #[.slice ao L.length cap] w fun e w' => ∃ v, e = .returned v ∧ w'.ownsRow w.heap.size 43 3 v L.length (sC L) ∧ Below w.heap.size w w' := by
  have hl := hm.1
  obtain ⟨v1, w1, hap, hown, hgr, _⟩ := app_s (W := w) (k := w.heap.size) (v := .slice none 0 0) (xs := []) (T := 27) (cap := cap) (World.ownsRow_nil _ _ _ _) hm (Nat.le_refl _) (by simp; omega)
  obtain ⟨m, hml⟩ : ∃ m, L.length = m := ⟨_, rfl⟩
  rw [List.nil_append, hml] at hown
  rw [hml] at hap ⊢
  obtain ⟨g1, c1, rfl⟩ := own_shape1 hown
  have hb : Below w.heap.size w w1 := (Below.refl _ w).grown hgr (Nat.le_refl _) (fun g e => by cases e)
  have H := hide (And.intro hown hb)
  clear hown hb hgr hm hml hl
  go_enter Tryz.func43, Tryz.ntmps43
  go_wp2_with (at_builtin; refine stopNd ?_)
  unfold Hid
  refine l_val rfl _ (ex_appN rfl rfl rfl hap) ?_
  clear hap
  go_wp2_with fail
  go_ret
  exact ⟨_, rfl, H.out.1, H.out.2⟩
set_option maxRecDepth 100000 in
theorem wo_s (x : ByteArray × Bool × Int) (k : ByteArray) (bf bk : Nat) (w : World) (hf : w.heap[bf]? = some (.cells #[.func (.func 17) #[] #[]] 52)) (hk : w.heap[bk]? = some (.cells #[.string k] 9)) :
    Calls Tryz.prog 47 #[.agg #[.string x.1, .bool x.2.1, .int .i64 x.2.2], .pointer (some ⟨bf, 0, none⟩), .pointer (some ⟨bk, 0, none⟩)] w fun e w' => e = .returned (.bool (x.1.toList == k.toList)) ∧ Below w.heap.size w w' := by
  have b1 : Below w.heap.size w (w.alloc (.cells #[.string x.1, .bool x.2.1, .int .i64 x.2.2] 43)) := (Below.refl _ w).alloc (Nat.le_refl _) _
  have hfl := (Array.getElem?_eq_some_iff.1 hf).1
  have hkl := (Array.getElem?_eq_some_iff.1 hk).1
  have c0 := fn_box ((b1.block bf hfl).trans hf)
  have c1 := str_box ((b1.block bk hkl).trans hk)
  have HK := hide (sKey_any x (w.alloc (.cells #[.string x.1, .bool x.2.1, .int .i64 x.2.2] 43)))
  obtain ⟨r, hr⟩ : ∃ r, (x.1.toList == k.toList) = r := ⟨_, rfl⟩
  rw [hr]
  have HH := hide (And.intro b1 hk)
  clear b1 hf hk
  go_enter Tryz.func47, Tryz.ntmps47
  go_wp2_with fail
  obtain ⟨W, hW⟩ : ∃ W, w.alloc (.cells #[.string x.1, .bool x.2.1, .int .i64 x.2.2] 43) = W := ⟨_, rfl⟩
  obtain ⟨q, hq⟩ : ∃ q, w.heap.size = q := ⟨_, rfl⟩
  have f0 := World.alloc_heap_new w (.cells #[.string x.1, .bool x.2.1, .int .i64 x.2.2] 43)
  rw [hW] at f0 c0 c1 HH ⊢
  rw [hq] at f0 ⊢
  have hqW : q < W.heap.size := (Array.getElem?_eq_some_iff.1 f0).1
  have hfW : bf < W.heap.size := World.block_lt_of_cell? W _ c0
  have hkW : bk < W.heap.size := World.block_lt_of_cell? W _ c1
  clear HK hW hq
  obtain ⟨V0, hV0⟩ : ∃ V0, W.drew = V0 := ⟨_, rfl⟩
  have B0 : Below W.heap.size W V0 := by rw [← hV0]; exact (Below.refl _ W).drew
  replace c0 := (B0.cell (p := ⟨bf, 0, none⟩) hfW).trans c0
  replace c1 := (B0.cell (p := ⟨bk, 0, none⟩) hkW).trans c1
  replace f0 := (B0.block q hqW).trans f0
  have hqV : q < V0.heap.size := Nat.lt_of_lt_of_le hqW B0.size
  have hfV : bf < V0.heap.size := Nat.lt_of_lt_of_le hfW B0.size
  have hkV : bk < V0.heap.size := Nat.lt_of_lt_of_le hkW B0.size
  refine region_rel (S := fun V => Below V0.heap.size V0 V) (fun a Wz => ∃ xx : Nat → Value, (Below W.heap.size W Wz) ∧ a = { tmps := #[xx 0, xx 1, xx 2, xx 3, .bool r, xx 5, xx 6, xx 7, xx 8, xx 9], defers := [] }) (by kernel_rfl) ?any ?fin
  case any =>
    rw [hV0]
    clear hV0
    have S0 : Below V0.heap.size V0 V0 := Below.refl _ _
    refine anyH_take (i := 0) (v := .func (.func 17) #[] #[]) rfl (some 5) rfl (by kernel_rfl) (by kernel_rfl) (by kernel_rfl) (fun _ _ _ h => by cases h.1) (by kernel_rfl) (fun w0 hw0 => ex_load rfl rfl (load_fnSub ((hw0.cell (p := ⟨bf, 0, none⟩) hfV).trans c0))) S0 ?_
    simp only [Act.put, List.setIfInBounds_toArray, List.set_cons_zero, List.set_cons_succ]
    refine anyH_take (i := 1) (v := .agg #[.string x.1, .bool x.2.1, .int .i64 x.2.2]) rfl (some 6) rfl (by kernel_rfl) (by kernel_rfl) (by kernel_rfl) (fun _ _ _ h => by cases h.1) (by kernel_rfl) (fun w0 hw0 => ex_load rfl rfl (load_s ((hw0.cell (p := ⟨q, 0, none⟩) hqV).trans (cells_s f0).1) ((hw0.cell (p := ⟨q, 1, none⟩) hqV).trans (cells_s f0).2.1) ((hw0.cell (p := ⟨q, 2, none⟩) hqV).trans (cells_s f0).2.2.1))) S0 ?_
    simp only [Act.put, List.setIfInBounds_toArray, List.set_cons_zero, List.set_cons_succ]
    refine anyH_take (i := 3) (v := .string k) rfl (some 8) rfl (by kernel_rfl) (by kernel_rfl) (by kernel_rfl) (fun _ _ _ h => by cases h.1) (by kernel_rfl) (fun w0 hw0 => ex_load rfl rfl (load_str ((hw0.cell (p := ⟨bk, 0, none⟩) hkV).trans c1))) S0 ?_
    simp only [Act.put, List.setIfInBounds_toArray, List.set_cons_zero, List.set_cons_succ]
    refine anyH_one (i := 2) (by kernel_rfl) ?_
    refine op_callv rfl (some 7) rfl (by kernel_rfl) #[.agg #[.string x.1, .bool x.2.1, .int .i64 x.2.2]] rfl rfl (by simp [Act.eval]) (fun _ _ => rfl) (sKey_any x V0) ?_
    rintro e V1 ⟨rfl, c1_⟩
    have b1 : Below V0.heap.size V0 V1 := c1_
    refine ⟨_, rfl, S0.trans (b1.mono S0.size), ?_⟩
    simp only [Act.put, List.setIfInBounds_toArray, List.set_cons_zero, List.set_cons_succ]
    refine anyH_more (fun V => Below V1.heap.size V1 V) (fun V hV => S0.trans ((b1.trans (hV.mono b1.size)).mono S0.size)) ?_
    have S1 : Below V1.heap.size V1 V1 := Below.refl _ _
    have B1 : Below W.heap.size W V1 := B0.trans (b1.mono B0.size)
    refine anyH_take (i := 4) (v := .bool r) rfl (some 9) rfl (by kernel_rfl) (by kernel_rfl) (by kernel_rfl) (fun _ _ _ h => by cases h.1) (by kernel_rfl) (fun _ _ => ex_eqS rfl rfl rfl hr) S1 ?_
    simp only [Act.put, List.setIfInBounds_toArray, List.set_cons_zero, List.set_cons_succ]
    refine anyH_val (i := 5) (by kernel_rfl) rfl (some 4) rfl (by kernel_rfl) (ex_anyv rfl rfl) S1 ?_
    simp only [Act.put, List.setIfInBounds_toArray, List.set_cons_zero, List.set_cons_succ]
    exact wpAnyH_done (by kernel_rfl) ⟨rfl, fill (B1) (by kernel_rfl)⟩ _
  case fin =>
    rintro a W2 ⟨xx, hB, rfl⟩
    have HB := hide (HH.out.1.trans (hB.mono HH.out.1.size))
    clear hB B0 hV0 c0 c1 f0
    go_wp2_with fail
    go_ret
    exact ⟨rfl, HB.out⟩
/-- Where the first of a key stands. -/
def IdxRSub (L : List (ByteArray × Bool × Int)) (k : ByteArray) (e : Ending) : Prop := (∃ i x, L[i]? = some x ∧ x.1 = k ∧ (∀ y ∈ L.take i, y.1 ≠ k) ∧ e = .returned (.int .i64 (i : Nat))) ∨ ((∀ y ∈ L, y.1 ≠ k) ∧ e = .returned (.int .i64 (-1)))
set_option maxRecDepth 100000 in
set_option maxHeartbeats 4000000 in
theorem idx_s (L : List (ByteArray × Bool × Int)) (k : ByteArray) (ao : Option Addr) (cap bf bk : Nat) (w : World) (hf : w.heap[bf]? = some (.cells #[.func (.func 17) #[] #[]] 52)) (hk : w.heap[bk]? = some (.cells #[.string k] 9)) (hm : SubMem w.heap.size w ao L) :
    Calls Tryz.prog 69 #[.slice ao L.length cap, .func (.func 47) #[] #[.pointer (some ⟨bf, 0, none⟩), .pointer (some ⟨bk, 0, none⟩)]] w fun e w' => IdxRSub L k e ∧ Below w.heap.size w w' := by
  obtain ⟨m, hml⟩ : ∃ m, L.length = m := ⟨_, rfl⟩
  have hm6 : m ≤ 1000000 := by have := hm.1; omega
  have HH := hide (And.intro hf (And.intro hk (And.intro hm hml)))
  rw [hml]
  clear hf hk hm hml
  go_enter Tryz.func69, Tryz.ntmps69
  go_wp2_with fail
  go_loopw [8] (fun iv wr => ∃ i : Nat, i ≤ m ∧ iv = .int .i64 i ∧ (∀ y ∈ L.take i, y.1 ≠ k) ∧ Below w.heap.size w wr) (fun iv _ => m - (intOf iv).toNat)
  case atStart => exact ⟨0, Nat.zero_le _, rfl, by simp, Below.refl _ _⟩
  case round =>
    obtain ⟨i, him, rfl, hno, hbw⟩ := hrel
    by_cases hlt : (i : Int) < m
    · obtain ⟨x, hx⟩ : ∃ x, L[i]? = some x := ⟨_, List.getElem?_eq_getElem (by have := HH.out.2.2.2; omega)⟩
      obtain ⟨b, off, hbe, hb1, d0, d1, d2⟩ := HH.out.2.2.1.2 i x hx
      have e0 := (hbw.cell (p := ⟨b, _, none⟩) hb1).trans d0
      have e1 := (hbw.cell (p := ⟨b, _, none⟩) hb1).trans d1
      have e2 := (hbw.cell (p := ⟨b, _, none⟩) hb1).trans d2
      have hfn := wo_s x k bf bk wr ((hbw.block bf (Array.getElem?_eq_some_iff.1 HH.out.1).1).trans HH.out.1) ((hbw.block bk (Array.getElem?_eq_some_iff.1 HH.out.2.1).1).trans HH.out.2.1)
      have hi0 : (0 : Int) ≤ i := by omega
      rw [hbe]
      by_cases hs : x.1 = k
      · have hse : (x.1.toList == k.toList) = true := by rw [hs]; simp
        rw [hse] at hfn
        have HF := hide (And.intro hfn (And.intro hbw (And.intro hno (And.intro hx hs))))
        clear hfn hbw d0 d1 d2 hx hno hs hse
        go_wp2_with (go_at_call 47; refine HF.out.1.mono ?_; rintro e w2 ⟨rfl, b2⟩; have H2 := hide (HF.out.2.1.trans (b2.mono HF.out.2.1.size)); clear b2)
        go_ret
        exact ⟨.inl ⟨i, x, HF.out.2.2.2.1, HF.out.2.2.2.2, HF.out.2.2.1, rfl⟩, H2.out⟩
      · have hse : (x.1.toList == k.toList) = false := str_ne hs
        rw [hse] at hfn
        have HF := hide (And.intro hfn (And.intro hbw (And.intro hno (And.intro hx hs))))
        clear hfn hbw d0 d1 d2 hx hno hs hse
        go_wp2_with (go_at_call 47; refine HF.out.1.mono ?_; rintro e w2 ⟨rfl, b2⟩; have H2 := hide (HF.out.2.1.trans (b2.mono HF.out.2.1.size)); clear b2)
        refine ⟨⟨i + 1, by omega, by simp, fun y hy => ?_, H2.out⟩, by simp [intOf]; omega⟩
        rw [List.take_add_one, HF.out.2.2.2.1] at hy
        rcases List.mem_append.1 hy with hy | hy
        · exact HF.out.2.2.1 y hy
        · simp at hy
          rw [hy]
          exact HF.out.2.2.2.2
    · have hall : ∀ y ∈ L, y.1 ≠ k := by rwa [List.take_of_length_le (by have := HH.out.2.2.2; omega)] at hno
      have H2 := hide (And.intro hall hbw)
      clear hbw hno hall
      go_wp2_with fail
      go_ret
      exact ⟨.inr ⟨H2.out.1, rfl⟩, H2.out.2⟩
theorem load_fnItem {w : World} {b : Nat} {v : Value} (hc : w.cell? ⟨b, 0, none⟩ = some v) : (Instr.loadAt 103 (.pointer (some ⟨b, 0, none⟩))).run Tryz.prog w = .ok v w := by
  have ha : (isAgg 103).run Tryz.prog w = .ok false w := by
    unfold isAgg
    rw [Sem.run_bind, run_underlying Tryz.underlying103 w]
    simp
  simp [Instr.loadAt, Instr.sureAddr, loadVar, ha, hc, go_sem]
set_option maxRecDepth 100000 in
theorem copied_i (ao : Option Addr) (cap : Nat) (L : List (ByteArray × ByteArray × ByteArray)) (w : World) (hm : ItMem w.heap.size w ao L) :
    Calls Tryz.prog 44 #[.slice ao L.length cap] w fun e w' => ∃ v, e = .returned v ∧ w'.ownsRow w.heap.size 83 3 v L.length (iC L) ∧ Below w.heap.size w w' := by
  have hl := hm.1
  obtain ⟨v1, w1, hap, hown, hgr, _⟩ := app_i (W := w) (k := w.heap.size) (v := .slice none 0 0) (xs := []) (T := 28) (cap := cap) (World.ownsRow_nil _ _ _ _) hm (Nat.le_refl _) (by simp; omega)
  obtain ⟨m, hml⟩ : ∃ m, L.length = m := ⟨_, rfl⟩
  rw [List.nil_append, hml] at hown
  rw [hml] at hap ⊢
  obtain ⟨g1, c1, rfl⟩ := own_shape1 hown
  have hb : Below w.heap.size w w1 := (Below.refl _ w).grown hgr (Nat.le_refl _) (fun g e => by cases e)
  have H := hide (And.intro hown hb)
  clear hown hb hgr hm hml hl
  go_enter Tryz.func44, Tryz.ntmps44
  go_wp2_with (at_builtin; refine stopNd ?_)
  unfold Hid
  refine l_val rfl _ (ex_appN rfl rfl rfl hap) ?_
  clear hap
  go_wp2_with fail
  go_ret
  exact ⟨_, rfl, H.out.1, H.out.2⟩
/-- Where the first of a key stands. -/
def IdxRItem (L : List (ByteArray × ByteArray × ByteArray)) (k : ByteArray) (e : Ending) : Prop := (∃ i x, L[i]? = some x ∧ x.1 = k ∧ (∀ y ∈ L.take i, y.1 ≠ k) ∧ e = .returned (.int .i64 (i : Nat))) ∨ ((∀ y ∈ L, y.1 ≠ k) ∧ e = .returned (.int .i64 (-1)))
end Go.Proofs.YtffjmkngdjbjlaaGreatDoor
