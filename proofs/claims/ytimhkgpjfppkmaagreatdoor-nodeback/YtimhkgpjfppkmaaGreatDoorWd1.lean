/- A node's words: all of them. -/
import Derived.Test.YtimhkgpjfppkmaaGreatDoorRO
import Derived.Test.YtimhkgpjfppkmaaGreatDoorRC
namespace Go.Proofs.YtimhkgpjfppkmaaGreatDoor
open Go.RowKit Go.Shelf

/-- A region that draws: what it leaves is told of what was. -/
theorem region_relA {P : Program} {id : Nat} {ops : Array Oper} {Q : Exit → Act → World → Prop} {S : World → Prop} {a : Act} {w : World} (R : Act → Act → World → Prop) (hm : P.follows .mixedOrders = true)
    (h : wpAnyH P .any ops (fun e a' w' => e = .normal ∧ R a a' w') S ops.size (Array.replicate ops.size false) a w.drew) (hq : ∀ a' w', R a a' w' → Q .normal a' w') : (Code.region id ops true).wp P Q a w :=
  region_rel (R a) hm h hq
/-- Some places of a row are written. -/
def putA (T : Array Value) (is : List Nat) (x : Nat → Value) : Array Value := is.foldl (fun t i => t.setIfInBounds i (x i)) T
theorem ld_bool {w : World} {p : Addr} {x : Bool} (hc : w.cell? p = some (.bool x)) : (Instr.loadAt 4 (.pointer (some p))).run Tryz.prog w = .ok (.bool x) w := by
  simp [Instr.loadAt, Instr.sureAddr, loadVar, Tryz.isAgg4, hc, go_sem]
theorem ld_int {w : World} {p : Addr} {x : Int} (hc : w.cell? p = some (.int .i64 x)) : (Instr.loadAt 3 (.pointer (some p))).run Tryz.prog w = .ok (.int .i64 x) w := by
  simp [Instr.loadAt, Instr.sureAddr, loadVar, Tryz.isAgg3, hc, go_sem]
theorem ld_role {w : World} {p : Addr} {x : Int} (hc : w.cell? p = some (.int .u8 x)) : (Instr.loadAt 53 (.pointer (some p))).run Tryz.prog w = .ok (.int .u8 x) w := by
  simp [Instr.loadAt, Instr.sureAddr, loadVar, Tryz.isAgg53, hc, go_sem]
theorem ld_acc {w : World} {p : Addr} {x : Int} (hc : w.cell? p = some (.int .u8 x)) : (Instr.loadAt 22 (.pointer (some p))).run Tryz.prog w = .ok (.int .u8 x) w := by
  simp [Instr.loadAt, Instr.sureAddr, loadVar, Tryz.isAgg22, hc, go_sem]
theorem flat_step {α : Type} (f : α → List ByteArray) {l : List α} {i : Nat} {x : α} (h : l[i]? = some x) : (l.take (i + 1)).flatMap f = (l.take i).flatMap f ++ f x := by
  rw [List.take_add_one, h]
  simp
theorem one_sS (x : ByteArray) (W : World) : (Instr.buildSlice 42 1 #[(0, .string x)]).run Tryz.prog W = .ok (.slice (some ⟨W.heap.size, 0, none⟩) 1 1) (W.alloc (.cells (strC [x]).toArray 9)) := by kernel_rfl
theorem two_sS (x y : ByteArray) (W : World) : (Instr.buildSlice 42 2 #[(0, .string x), (1, .string y)]).run Tryz.prog W = .ok (.slice (some ⟨W.heap.size, 0, none⟩) 2 2) (W.alloc (.cells (strC [x, y]).toArray 9)) := by kernel_rfl
theorem three_sS (x y z : ByteArray) (W : World) : (Instr.buildSlice 42 3 #[(0, .string x), (1, .string y), (2, .string z)]).run Tryz.prog W = .ok (.slice (some ⟨W.heap.size, 0, none⟩) 3 3) (W.alloc (.cells (strC [x, y, z]).toArray 9)) := by kernel_rfl
theorem five_sS (x y z u v : ByteArray) (W : World) : (Instr.buildSlice 42 5 #[(0, .string x), (1, .string y), (2, .string z), (3, .string u), (4, .string v)]).run Tryz.prog W = .ok (.slice (some ⟨W.heap.size, 0, none⟩) 5 5) (W.alloc (.cells (strC [x, y, z, u, v]).toArray 9)) := by kernel_rfl
theorem own_low {w : World} {b b' size n : Nat} {e : TypeId} {v : Value} {xs : List Value} (h : w.ownsRow b e size v n xs) (hb : b' ≤ b) : w.ownsRow b' e size v n xs := by
  obtain ⟨h1, h2 | ⟨g, cap, cur, h3, h4, h5⟩⟩ := h
  · exact ⟨h1, .inl h2⟩
  · exact ⟨h1, .inr ⟨g, cap, cur, h3, Nat.le_trans hb h4, h5⟩⟩
theorem below_refl_alloc (W : World) (o : Obj) : Below W.heap.size W (W.alloc o) := (Below.refl _ W).alloc (Nat.le_refl _) _

set_option maxRecDepth 100000 in
set_option maxHeartbeats 8000000 in
theorem words_any (n : Nd) (v : NdW) (w : World) (hm : NdM w.heap.size w n v) (hs : Small n) (hg : GlobE w) :
    Calls Tryz.prog 10 #[.agg (ndA n v)] w fun e w' => ∃ ga gc, e = .returned (.slice ga (wordsN n).length gc) ∧ w'.ownsRow w.heap.size 9 1 (.slice ga (wordsN n).length gc) (wordsN n).length (strC (wordsN n)) ∧ Below w.heap.size w w' := by
  obtain ⟨W1, hW1⟩ : ∃ W1, w.alloc (.cells (ndA n v) 27) = W1 := ⟨_, rfl⟩
  have b1 : Below w.heap.size w W1 := by rw [← hW1]; exact below_refl_alloc w _
  have hz1 : W1.heap.size = w.heap.size + 1 := by rw [← hW1]; simp
  have f1 : W1.heap[w.heap.size]? = some (.cells (ndA n v) 27) := by rw [← hW1]; exact World.alloc_heap_new _ _
  obtain ⟨B, hB⟩ : ∃ B, W1.heap.size = B := ⟨_, rfl⟩
  have hm1 : NdM B W1 n v := hB ▸ hm.move b1
  have hBox : ∀ X, Below B W1 X → X.heap[w.heap.size]? = some (.cells (ndA n v) 27) := fun X hX => (hX.block _ (by omega)).trans f1
  have hGl : ∀ X, Below B W1 X → GlobE X := fun X hX => (hg.below b1).below (hB.symm ▸ hX)
  obtain ⟨L5, hL5⟩ : ∃ L, [n.name, eitB ⟨#[99]⟩ ⟨#[108]⟩ n.coll, itB n.acc, itB n.max, n.parent] = L := ⟨_, rfl⟩
  have hl5 : L5.length = 5 := by rw [← hL5]; rfl
  have HS := hide hs
  have HM := hide hm1
  have HX := hide hBox
  have HGl := hide hGl
  have HB := hide hB
  have HZ := hide (And.intro b1 hz1)
  have HL5 := hide hL5
  have Hl5 := hide hl5
  have hacc := hs.acc
  have hmax0 := hs.max0
  have hmax8 := hs.max8
  have haf := hs.affs
  have hsu := hs.subs
  have hit := hs.items
  obtain ⟨ka, hka⟩ : ∃ k, n.affs.length = k := ⟨_, rfl⟩
  obtain ⟨ks, hks⟩ : ∃ k, n.subs.length = k := ⟨_, rfl⟩
  obtain ⟨ki, hki⟩ : ∃ k, n.items.length = k := ⟨_, rfl⟩
  have hka16 : ka ≤ 16 := hka ▸ haf
  have hks16 : ks ≤ 16 := hks ▸ hsu
  have hki8 : ki ≤ 8 := hki ▸ hit
  have HKa := hide hka
  have HKs := hide hks
  have HKi := hide hki
  have HW1 := hide hW1
  clear hm hg hm1 hBox hGl hz1 hl5 hL5 b1 hs f1 hka hks hki
  go_enter Tryz.func10, Tryz.ntmps10
  go_wp2_with fail
  clear hW1
  have B0 : Below B W1 W1.drew := (Below.refl _ W1).drew
  have s0 : W1.drew.heap.size = B := HB.out
  obtain ⟨V0, hV0⟩ : ∃ V0, W1.drew = V0 := ⟨_, rfl⟩
  rw [hV0] at B0 s0
  refine region_relA (S := fun V => Below B W1 V) (fun a0 a W => ∃ (ga : Option Addr) (gc : Nat) (xx : Nat → Value), (W.ownsRow B 9 1 (.slice ga 5 gc) 5 (strC L5) ∧ Below B W1 W) ∧ a = ⟨(putA a0.tmps [10, 11, 12, 13, 14, 15, 16, 17, 18, 19, 20, 21, 22, 23, 24] xx).setIfInBounds 3 (.slice ga 5 gc), a0.defers⟩) (by kernel_rfl) ?any ?fin
  case any =>
    rw [hV0]
    clear hV0
    refine anyH_take (i := 0) (v := .pointer (some ⟨w.heap.size, 0, none⟩)) rfl (some 10) rfl (by kernel_rfl) (by kernel_rfl) (by kernel_rfl) (fun _ _ _ h => by cases h.1) rfl (fun w0 hw0 => by first | rfl | kernel_rfl) B0 ?_
    simp only [Act.put, List.setIfInBounds_toArray, List.set_cons_zero, List.set_cons_succ]
    refine anyH_take (i := 1) (v := .string n.name) rfl (some 11) rfl (by kernel_rfl) (by kernel_rfl) (by kernel_rfl) (fun _ _ _ h => by cases h.1) rfl (fun w0 hw0 => ex_load rfl rfl (ld9 (by have h := nd_box (HX.out w0 hw0); exact h.1))) B0 ?_
    simp only [Act.put, List.setIfInBounds_toArray, List.set_cons_zero, List.set_cons_succ]
    refine anyH_take (i := 2) (v := .pointer (some ⟨w.heap.size, 1, none⟩)) rfl (some 12) rfl (by kernel_rfl) (by kernel_rfl) (by kernel_rfl) (fun _ _ _ h => by cases h.1) rfl (fun w0 hw0 => by first | rfl | kernel_rfl) B0 ?_
    simp only [Act.put, List.setIfInBounds_toArray, List.set_cons_zero, List.set_cons_succ]
    refine anyH_take (i := 3) (v := .bool n.coll) rfl (some 13) rfl (by kernel_rfl) (by kernel_rfl) (by kernel_rfl) (fun _ _ _ h => by cases h.1) rfl (fun w0 hw0 => ex_load rfl rfl (ld_bool (by have h := nd_box (HX.out w0 hw0); exact h.2.1))) B0 ?_
    simp only [Act.put, List.setIfInBounds_toArray, List.set_cons_zero, List.set_cons_succ]
    refine anyH_take (i := 5) (v := .pointer (some ⟨w.heap.size, 2, none⟩)) rfl (some 15) rfl (by kernel_rfl) (by kernel_rfl) (by kernel_rfl) (fun _ _ _ h => by cases h.1) rfl (fun w0 hw0 => by first | rfl | kernel_rfl) B0 ?_
    simp only [Act.put, List.setIfInBounds_toArray, List.set_cons_zero, List.set_cons_succ]
    refine anyH_take (i := 6) (v := .int .u8 n.acc) rfl (some 16) rfl (by kernel_rfl) (by kernel_rfl) (by kernel_rfl) (fun _ _ _ h => by cases h.1) rfl (fun w0 hw0 => ex_load rfl rfl (ld_acc (by have h := nd_box (HX.out w0 hw0); exact h.2.2.1))) B0 ?_
    simp only [Act.put, List.setIfInBounds_toArray, List.set_cons_zero, List.set_cons_succ]
    refine anyH_take (i := 7) (v := .int .i64 n.acc) rfl (some 17) rfl (by kernel_rfl) (by kernel_rfl) (by kernel_rfl) (fun _ _ _ h => by cases h.1) rfl (fun w0 hw0 => (ex_conv1 rfl (.inr rfl) rfl).trans (by rw [wrap_small (by omega)])) B0 ?_
    simp only [Act.put, List.setIfInBounds_toArray, List.set_cons_zero, List.set_cons_succ]
    refine anyH_take (i := 9) (v := .pointer (some ⟨w.heap.size, 3, none⟩)) rfl (some 19) rfl (by kernel_rfl) (by kernel_rfl) (by kernel_rfl) (fun _ _ _ h => by cases h.1) rfl (fun w0 hw0 => by first | rfl | kernel_rfl) B0 ?_
    simp only [Act.put, List.setIfInBounds_toArray, List.set_cons_zero, List.set_cons_succ]
    refine anyH_take (i := 10) (v := .int .i64 n.max) rfl (some 20) rfl (by kernel_rfl) (by kernel_rfl) (by kernel_rfl) (fun _ _ _ h => by cases h.1) rfl (fun w0 hw0 => ex_load rfl rfl (ld_int (by have h := nd_box (HX.out w0 hw0); exact h.2.2.2.1))) B0 ?_
    simp only [Act.put, List.setIfInBounds_toArray, List.set_cons_zero, List.set_cons_succ]
    refine anyH_take (i := 12) (v := .pointer (some ⟨w.heap.size, 7, none⟩)) rfl (some 22) rfl (by kernel_rfl) (by kernel_rfl) (by kernel_rfl) (fun _ _ _ h => by cases h.1) rfl (fun w0 hw0 => by first | rfl | kernel_rfl) B0 ?_
    simp only [Act.put, List.setIfInBounds_toArray, List.set_cons_zero, List.set_cons_succ]
    refine anyH_take (i := 13) (v := .string n.parent) rfl (some 23) rfl (by kernel_rfl) (by kernel_rfl) (by kernel_rfl) (fun _ _ _ h => by cases h.1) rfl (fun w0 hw0 => ex_load rfl rfl (ld9 (by have h := nd_box (HX.out w0 hw0); exact h.2.2.2.2.2.2.2))) B0 ?_
    simp only [Act.put, List.setIfInBounds_toArray, List.set_cons_zero, List.set_cons_succ]
    refine anyH_one (i := 4) (by kernel_rfl) ?_
    refine op_call rfl (some 14) rfl rfl #[.bool n.coll, .string ⟨#[99]⟩, .string ⟨#[108]⟩] rfl (by simp [Act.eval]) (fun _ _ => rfl) (either_yes n.coll ⟨#[99]⟩ ⟨#[108]⟩ V0) ?_
    rintro e V1 ⟨rfl, c1⟩
    have B1 : Below B W1 V1 := B0.trans (c1.mono (by have := s0; omega))
    have s1 : B ≤ V1.heap.size := by have := c1.size; omega
    refine ⟨_, rfl, B1, ?_⟩
    simp only [Act.put, List.setIfInBounds_toArray, List.set_cons_zero, List.set_cons_succ]
    refine anyH_one (i := 8) (by kernel_rfl) ?_
    refine op_call rfl (some 18) rfl rfl #[.int .i64 n.acc] rfl (by simp [Act.eval]) (fun _ _ => rfl) (itoa_nat n.acc (by omega) (by omega) V1 (HGl.out V1 B1)) ?_
    rintro e V2 ⟨rfl, c2⟩
    have B2 : Below B W1 V2 := B1.trans (c2.mono (by have := s1; omega))
    have s2 : B ≤ V2.heap.size := by have := c2.size; omega
    refine ⟨_, rfl, B2, ?_⟩
    simp only [Act.put, List.setIfInBounds_toArray, List.set_cons_zero, List.set_cons_succ]
    refine anyH_one (i := 11) (by kernel_rfl) ?_
    refine op_call rfl (some 21) rfl rfl #[.int .i64 n.max] rfl (by simp [Act.eval]) (fun _ _ => rfl) (itoa_nat n.max (by omega) (by omega) V2 (HGl.out V2 B2)) ?_
    rintro e V3 ⟨rfl, c3⟩
    have B3 : Below B W1 V3 := B2.trans (c3.mono (by have := s2; omega))
    have s3 : B ≤ V3.heap.size := by have := c3.size; omega
    refine ⟨_, rfl, B3, ?_⟩
    simp only [Act.put, List.setIfInBounds_toArray, List.set_cons_zero, List.set_cons_succ]
    have own4 := own_new V3 B L5 s3 (by have := Hl5.out; omega)
    have B4 : Below B W1 (V3.alloc (.cells (strC L5).toArray 9)) := B3.alloc s3 _
    have hb5 := five_sS n.name (eitB ⟨#[99]⟩ ⟨#[108]⟩ n.coll) (itB n.acc) (itB n.max) n.parent V3
    rw [HL5.out] at hb5
    rw [Hl5.out] at own4
    refine anyH_one (i := 14) (by kernel_rfl) (op_run rfl (some 24) rfl rfl (ex_sliceK (us := #[(0, .string n.name), (1, .string (eitB ⟨#[99]⟩ ⟨#[108]⟩ n.coll)), (2, .string (itB n.acc)), (3, .string (itB n.max)), (4, .string n.parent)]) rfl (by simp [Act.eval]) hb5) ⟨B4, ?_⟩)
    simp only [Act.put, List.setIfInBounds_toArray, List.set_cons_zero, List.set_cons_succ]
    refine anyH_val (i := 15) (by kernel_rfl) rfl (some 3) rfl rfl (ex_anyv rfl rfl) B4 ?_
    simp only [Act.put, List.setIfInBounds_toArray, List.set_cons_zero, List.set_cons_succ]
    exact wpAnyH_done (by kernel_rfl) ⟨rfl, _, _, fill ⟨own4, B4⟩ (by kernel_rfl)⟩ _
  rintro a W ⟨ga, gc, xx, ⟨hown, hbel⟩, rfl⟩
  clear hV0 B0 s0 V0
  simp only [putA, List.foldl_cons, List.foldl_nil, List.setIfInBounds_toArray, List.set_cons_zero, List.set_cons_succ]
  rw [← Hl5.out] at hown
  rw [← Hl5.out]
  have HO1 := hide (And.intro hown hbel)
  obtain ⟨c0, c1, c2, c3, c4, c5, c6, c7⟩ := nd_box (HX.out W hbel)
  rw [HKa.out] at c4
  clear hown hbel c0 c1 c2 c3 c5 c6 c7
  go_wp2_with fail
  refine (itoa_nat (ka : Int) (by omega) (by omega) W (HGl.out W HO1.out.2)).mono ?_
  rintro e X1 ⟨rfl, bx⟩
  clear c4
  have sz : B ≤ W.heap.size := by have := HO1.out.2.size; have := HB.out; omega
  have hbel2 : Below B W1 X1 := HO1.out.2.trans (bx.mono sz)
  have hown2 := own_same (B := X1) HO1.out.1 (fun g e => bx.block g (own_lt HO1.out.1 g e))
  have sz2 : B ≤ X1.heap.size := by have := bx.size; omega
  obtain ⟨M1, hM1⟩ : ∃ L, L5 ++ [itB (ka : Int)] = L := ⟨_, rfl⟩
  have hbs := one_sS (itB (ka : Int)) X1
  obtain ⟨g1, e1, Y1, hap, hown4, hbel4, _⟩ := pushS (T := 42) (ys := [itB (ka : Int)]) (n := 1) hown2 sz2 (by have := Hl5.out; simp; omega) rfl rfl
  rw [hM1] at hap hown4
  have hbelY : Below B W1 Y1 := hbel2.trans hbel4
  obtain ⟨c0, c1, c2, c3, c4, c5, c6, c7⟩ := nd_box (HX.out Y1 hbelY)
  rw [HKa.out] at c4
  have hMl : M1.length ≤ L5.length + 1 := by rw [← hM1]; simp
  have hMb1 : M1.length ≤ 100 := by have := Hl5.out; omega
  have HP1 := hide (And.intro hown4 (And.intro hbelY (And.intro hM1 hMl)))
  clear hown4 hbelY hM1 hMl hown2 hbel2 sz sz2 hbel4 bx c0 c1 c2 c3 c5 c6 c7
  go_wp2_with (first | refine l_val rfl _ (ex_sliceK (us := #[(0, .string (itB (ka : Int)))]) rfl (by simp [Act.eval]) hbs) ?_ | refine l_val rfl _ (ex_appN rfl rfl rfl hap) ?_)
  clear hap hbs c4
  go_loopw [3, 35] (fun lv iv wr => ∃ (i : Nat) (L : List ByteArray) (ga : Option Addr) (gc : Nat), i ≤ ka ∧ iv = .int .i64 i ∧ L = M1 ++ (n.affs.take i).flatMap wA ∧ L.length ≤ M1.length + 3 * i ∧ lv = .slice ga L.length gc ∧ wr.ownsRow B 9 1 (.slice ga L.length gc) L.length (strC L) ∧ Below B W1 wr) (fun _ iv _ => ka - (intOf iv).toNat)
  case atStart => exact ⟨0, M1, g1, e1, Nat.zero_le _, rfl, by simp, by omega, rfl, HP1.out.1, HP1.out.2.1⟩
  case round =>
    obtain ⟨i, L, ga, gc, hik, rfl, hL, hLl, rfl, hown, hbel⟩ := hrel
    have HR1 := hide (And.intro hL (And.intro hLl (And.intro hown hbel)))
    have HMl1 := HP1.out.2.2.2
    clear hL hown hbel
    by_cases hlt : (i : Int) < ka
    · obtain ⟨x, hx⟩ : ∃ x, n.affs[i]? = some x := ⟨_, List.getElem?_eq_getElem (by have := HKa.out; omega)⟩
      obtain ⟨b, off, hv, hbl, d0, d1⟩ := HM.out.ok.1.2 i x hx
      have e0 := (HR1.out.2.2.2.cell (p := ⟨b, _, none⟩) hbl).trans d0
      have e1 := (HR1.out.2.2.2.cell (p := ⟨b, _, none⟩) hbl).trans d1
      rw [hv]
      have HXx := hide (And.intro hx hbl)
      clear hx hbl d0 d1
      obtain ⟨Wb, hWb⟩ : ∃ W, wr.alloc (.cells #[.string x.1, .int .u8 x.2] 55) = W := ⟨_, rfl⟩
      have fb : Wb.heap[wr.heap.size]? = some (.cells #[.string x.1, .int .u8 x.2] 55) := by rw [← hWb]; exact World.alloc_heap_new _ _
      have bb : Below wr.heap.size wr Wb := by rw [← hWb]; exact below_refl_alloc _ _
      have hbl1 := (Array.getElem?_eq_some_iff.1 fb).1
      have sz0 : B ≤ wr.heap.size := by have := HR1.out.2.2.2.size; have := HB.out; omega
      have hbel1 : Below B W1 Wb := HR1.out.2.2.2.trans (bb.mono sz0)
      have hown1 := own_same (B := Wb) HR1.out.2.2.1 (fun g e => bb.block g (own_lt HR1.out.2.2.1 g e))
      have hfar : Value.ownBlock (.slice ga L.length gc) ≠ some wr.heap.size := fun e => Nat.lt_irrefl _ (own_lt HR1.out.2.2.1 _ e)
      have H1 := hide (And.intro fb (And.intro hbel1 (And.intro hown1 hfar)))
      clear fb bb hbel1 hown1 hfar
      go_wp2_with (first | refine l_val rfl _ (ex_idxAff (k := i) rfl rfl rfl (by omega)) ?_ | refine l_load _ (load_a e0 e1) rfl rfl rfl ?_)
      clear e0 e1 hWb hv
      have B0 : Below B W1 Wb.drew := H1.out.2.1.drew
      have s0 : B ≤ Wb.drew.heap.size := by have := B0.size; have := HB.out; omega
      have hd : Wb.drew.heap = Wb.heap := rfl
      obtain ⟨V0, hV0⟩ : ∃ V0, Wb.drew = V0 := ⟨_, rfl⟩
      rw [hV0] at B0 s0 hd
      have f0 := H1.out.1
      rw [← hd] at f0
      have own0 := own_same (B := V0) H1.out.2.2.1 (fun g e => by rw [hd])
      refine region_relA (S := fun V => V.heap[wr.heap.size]? = some (.cells #[.string x.1, .int .u8 x.2] 55)) (fun a0 a W => ∃ (ga2 : Option Addr) (gc2 : Nat) (xx : Nat → Value), (W.ownsRow B 9 1 (.slice ga2 (L ++ wA x).length gc2) (L ++ wA x).length (strC (L ++ wA x)) ∧ Below B W1 W) ∧ a = ⟨(putA a0.tmps [39, 40, 41, 42, 43, 44, 45, 46, 47] xx).setIfInBounds 3 (.slice ga2 (L ++ wA x).length gc2), a0.defers⟩) (by kernel_rfl) ?any1 ?fin1
      case any1 =>
        rw [hV0]
        clear hV0 hd
        have hx2 : x.2 ≤ 5 := (HS.out.aff x (List.mem_of_getElem? HXx.out.1)).2
        refine anyH_take (i := 0) (v := .slice ga L.length gc) rfl (some 39) rfl (by kernel_rfl) (by kernel_rfl) (by kernel_rfl) (fun _ _ _ h => by cases h.1) rfl (fun w0 hw0 => by first | rfl | kernel_rfl) f0 ?_
        simp only [Act.put, List.setIfInBounds_toArray, List.set_cons_zero, List.set_cons_succ]
        refine anyH_take (i := 1) (v := .pointer (some ⟨wr.heap.size, 0, none⟩)) rfl (some 40) rfl (by kernel_rfl) (by kernel_rfl) (by kernel_rfl) (fun _ _ _ h => by cases h.1) rfl (fun w0 hw0 => by first | rfl | kernel_rfl) f0 ?_
        simp only [Act.put, List.setIfInBounds_toArray, List.set_cons_zero, List.set_cons_succ]
        refine anyH_take (i := 2) (v := .string x.1) rfl (some 41) rfl (by kernel_rfl) (by kernel_rfl) (by kernel_rfl) (fun _ _ _ h => by cases h.1) rfl (fun w0 hw0 => ex_load rfl rfl (ld9 (by simp [World.cell?, hw0]))) f0 ?_
        simp only [Act.put, List.setIfInBounds_toArray, List.set_cons_zero, List.set_cons_succ]
        refine anyH_take (i := 3) (v := .pointer (some ⟨wr.heap.size, 1, none⟩)) rfl (some 42) rfl (by kernel_rfl) (by kernel_rfl) (by kernel_rfl) (fun _ _ _ h => by cases h.1) rfl (fun w0 hw0 => by first | rfl | kernel_rfl) f0 ?_
        simp only [Act.put, List.setIfInBounds_toArray, List.set_cons_zero, List.set_cons_succ]
        refine anyH_take (i := 4) (v := .int .u8 x.2) rfl (some 43) rfl (by kernel_rfl) (by kernel_rfl) (by kernel_rfl) (fun _ _ _ h => by cases h.1) rfl (fun w0 hw0 => ex_load rfl rfl (ld_role (by simp [World.cell?, hw0]))) f0 ?_
        simp only [Act.put, List.setIfInBounds_toArray, List.set_cons_zero, List.set_cons_succ]
        refine anyH_take (i := 5) (v := .int .i64 x.2) rfl (some 44) rfl (by kernel_rfl) (by kernel_rfl) (by kernel_rfl) (fun _ _ _ h => by cases h.1) rfl (fun w0 hw0 => (ex_conv1 rfl (.inl rfl) rfl).trans (by rw [wrap_small (by omega)])) f0 ?_
        simp only [Act.put, List.setIfInBounds_toArray, List.set_cons_zero, List.set_cons_succ]
        refine anyH_one (i := 6) (by kernel_rfl) ?_
        refine op_call rfl (some 45) rfl rfl #[.int .i64 x.2] rfl (by simp [Act.eval]) (fun _ _ => rfl) (itoa_nat x.2 (by omega) (by omega) V0 (HGl.out V0 B0)) ?_
        rintro e V1 ⟨rfl, c1⟩
        have B1 : Below B W1 V1 := B0.trans (c1.mono s0)
        have s1 : B ≤ V1.heap.size := by have := c1.size; omega
        have f1 := (c1.block _ (Array.getElem?_eq_some_iff.1 f0).1).trans f0
        have own1 := own_same (B := V1) own0 (fun g e => c1.block g (own_lt own0 g e))
        refine ⟨_, rfl, f1, ?_⟩
        simp only [Act.put, List.setIfInBounds_toArray, List.set_cons_zero, List.set_cons_succ]
        have hbs := two_sS x.1 (itB x.2) V1
        obtain ⟨ga2, gc2, V9, hap, own9, c9, k9⟩ := pushS (T := 42) (ys := wA x) (n := 2) own1 s1 (by have := HR1.out.2.1; simp [wA]; omega) rfl rfl
        have f8 := ((below_refl_alloc V1 (.cells (strC (wA x)).toArray 9)).block _ (Array.getElem?_eq_some_iff.1 f1).1).trans f1
        have f9 := (k9 wr.heap.size (Array.getElem?_eq_some_iff.1 f1).1 H1.out.2.2.2).trans f1
        have B9 : Below B W1 V9 := B1.trans c9
        refine anyH_one (i := 7) (by kernel_rfl) (op_run rfl (some 46) rfl rfl (ex_sliceK (us := #[(0, .string x.1), (1, .string (itB x.2))]) rfl (by simp [Act.eval]) hbs) ⟨f8, ?_⟩)
        simp only [Act.put, List.setIfInBounds_toArray, List.set_cons_zero, List.set_cons_succ]
        refine anyH_one (i := 8) (by kernel_rfl) (op_run rfl (some 47) rfl rfl (ex_appN rfl rfl rfl hap) ⟨f9, ?_⟩)
        simp only [Act.put, List.setIfInBounds_toArray, List.set_cons_zero, List.set_cons_succ]
        refine anyH_val (i := 9) (by kernel_rfl) rfl (some 3) rfl rfl (ex_anyv rfl rfl) f9 ?_
        simp only [Act.put, List.setIfInBounds_toArray, List.set_cons_zero, List.set_cons_succ]
        exact wpAnyH_done (by kernel_rfl) ⟨rfl, _, _, fill ⟨own9, B9⟩ (by kernel_rfl)⟩ _
      rintro a W ⟨ga2, gc2, xx, ⟨hown2, hbel2⟩, rfl⟩
      clear hV0 B0 s0 hd V0 f0 own0
      simp only [putA, List.foldl_cons, List.foldl_nil, List.setIfInBounds_toArray, List.set_cons_zero, List.set_cons_succ]
      have H2 := hide (And.intro hown2 hbel2)
      clear hown2 hbel2
      go_wp2_with fail
      go_roundw
      case rel => exact ⟨i + 1, L ++ wA x, ga2, gc2, by omega, by simp, by rw [flat_step _ HXx.out.1, HR1.out.1, List.append_assoc], by have := HR1.out.2.1; simp [wA]; omega, by first | rfl | simp, H2.out.1, H2.out.2⟩
      case measure => simp [intOf]; omega
    · obtain rfl : ka = i := by omega
      have hLf : L = M1 ++ n.affs.flatMap wA := by rw [HR1.out.1, List.take_of_length_le (by have := HKa.out; omega)]
      have HLf1 := hide hLf
      clear hLf
      have hown := HR1.out.2.2.1
      have hbel := HR1.out.2.2.2
      obtain ⟨N1, hN1⟩ : ∃ N, L = N := ⟨_, rfl⟩
      have hNl1 : N1.length ≤ M1.length + 3 * ka := by rw [← hN1]; exact HR1.out.2.1
      have HN1 := hide (hN1.symm.trans HLf1.out)
      rw [hN1] at hown ⊢
      clear hik
      have HO2 := hide (And.intro hown hbel)
      obtain ⟨c0, c1, c2, c3, c4, c5, c6, c7⟩ := nd_box (HX.out wr hbel)
      rw [HKs.out] at c5
      clear hown hbel c0 c1 c2 c3 c4 c6 c7
      go_wp2_with fail
      refine (itoa_nat (ks : Int) (by omega) (by omega) wr (HGl.out wr HO2.out.2)).mono ?_
      rintro e X2 ⟨rfl, bx⟩
      clear c5
      have sz : B ≤ wr.heap.size := by have := HO2.out.2.size; have := HB.out; omega
      have hbel2 : Below B W1 X2 := HO2.out.2.trans (bx.mono sz)
      have hown2 := own_same (B := X2) HO2.out.1 (fun g e => bx.block g (own_lt HO2.out.1 g e))
      have sz2 : B ≤ X2.heap.size := by have := bx.size; omega
      obtain ⟨M2, hM2⟩ : ∃ L, N1 ++ [itB (ks : Int)] = L := ⟨_, rfl⟩
      have hbs := one_sS (itB (ks : Int)) X2
      obtain ⟨g2, e2, Y2, hap, hown4, hbel4, _⟩ := pushS (T := 42) (ys := [itB (ks : Int)]) (n := 1) hown2 sz2 (by have := hNl1; simp; omega) rfl rfl
      rw [hM2] at hap hown4
      have hbelY : Below B W1 Y2 := hbel2.trans hbel4
      obtain ⟨c0, c1, c2, c3, c4, c5, c6, c7⟩ := nd_box (HX.out Y2 hbelY)
      rw [HKs.out] at c5
      have hMl : M2.length ≤ N1.length + 1 := by rw [← hM2]; simp
      have hMb2 : M2.length ≤ 200 := by have := hNl1; omega
      have HP2 := hide (And.intro hown4 (And.intro hbelY (And.intro hM2 hMl)))
      clear hown4 hbelY hM2 hMl hown2 hbel2 sz sz2 hbel4 bx c0 c1 c2 c3 c4 c6 c7
      go_wp2_with (first | refine l_val rfl _ (ex_sliceK (us := #[(0, .string (itB (ks : Int)))]) rfl (by simp [Act.eval]) hbs) ?_ | refine l_val rfl _ (ex_appN rfl rfl rfl hap) ?_)
      clear hap hbs c5
      go_loopw [3, 59] (fun lv iv wr => ∃ (i : Nat) (L : List ByteArray) (ga : Option Addr) (gc : Nat), i ≤ ks ∧ iv = .int .i64 i ∧ L = M2 ++ (n.subs.take i).flatMap wS ∧ L.length ≤ M2.length + 3 * i ∧ lv = .slice ga L.length gc ∧ wr.ownsRow B 9 1 (.slice ga L.length gc) L.length (strC L) ∧ Below B W1 wr) (fun _ iv _ => ks - (intOf iv).toNat)
      case atStart => exact ⟨0, M2, g2, e2, Nat.zero_le _, rfl, by simp, by omega, rfl, HP2.out.1, HP2.out.2.1⟩
      case round =>
        obtain ⟨i, L, ga, gc, hik, rfl, hL, hLl, rfl, hown, hbel⟩ := hrel
        have HR2 := hide (And.intro hL (And.intro hLl (And.intro hown hbel)))
        have HMl2 := HP2.out.2.2.2
        clear hL hown hbel
        by_cases hlt : (i : Int) < ks
        · obtain ⟨x, hx⟩ : ∃ x, n.subs[i]? = some x := ⟨_, List.getElem?_eq_getElem (by have := HKs.out; omega)⟩
          obtain ⟨b, off, hv, hbl, d0, d1, d2⟩ := HM.out.ok.2.1.2 i x hx
          have e0 := (HR2.out.2.2.2.cell (p := ⟨b, _, none⟩) hbl).trans d0
          have e1 := (HR2.out.2.2.2.cell (p := ⟨b, _, none⟩) hbl).trans d1
          have e2 := (HR2.out.2.2.2.cell (p := ⟨b, _, none⟩) hbl).trans d2
          rw [hv]
          have HXx := hide (And.intro hx hbl)
          clear hx hbl d0 d1 d2
          obtain ⟨Wb, hWb⟩ : ∃ W, wr.alloc (.cells #[.string x.1, .bool x.2.1, .int .i64 x.2.2] 58) = W := ⟨_, rfl⟩
          have fb : Wb.heap[wr.heap.size]? = some (.cells #[.string x.1, .bool x.2.1, .int .i64 x.2.2] 58) := by rw [← hWb]; exact World.alloc_heap_new _ _
          have bb : Below wr.heap.size wr Wb := by rw [← hWb]; exact below_refl_alloc _ _
          have hbl1 := (Array.getElem?_eq_some_iff.1 fb).1
          have sz0 : B ≤ wr.heap.size := by have := HR2.out.2.2.2.size; have := HB.out; omega
          have hbel1 : Below B W1 Wb := HR2.out.2.2.2.trans (bb.mono sz0)
          have hown1 := own_same (B := Wb) HR2.out.2.2.1 (fun g e => bb.block g (own_lt HR2.out.2.2.1 g e))
          have hfar : Value.ownBlock (.slice ga L.length gc) ≠ some wr.heap.size := fun e => Nat.lt_irrefl _ (own_lt HR2.out.2.2.1 _ e)
          have H1 := hide (And.intro fb (And.intro hbel1 (And.intro hown1 hfar)))
          clear fb bb hbel1 hown1 hfar
          go_wp2_with (first | refine l_val rfl _ (ex_idxSub (k := i) rfl rfl rfl (by omega)) ?_ | refine l_load _ (load_s e0 e1 e2) rfl rfl rfl ?_)
          clear e0 e1 e2 hWb hv
          have B0 : Below B W1 Wb.drew := H1.out.2.1.drew
          have s0 : B ≤ Wb.drew.heap.size := by have := B0.size; have := HB.out; omega
          have hd : Wb.drew.heap = Wb.heap := rfl
          obtain ⟨V0, hV0⟩ : ∃ V0, Wb.drew = V0 := ⟨_, rfl⟩
          rw [hV0] at B0 s0 hd
          have f0 := H1.out.1
          rw [← hd] at f0
          have own0 := own_same (B := V0) H1.out.2.2.1 (fun g e => by rw [hd])
          refine region_relA (S := fun V => V.heap[wr.heap.size]? = some (.cells #[.string x.1, .bool x.2.1, .int .i64 x.2.2] 58)) (fun a0 a W => ∃ (ga2 : Option Addr) (gc2 : Nat) (xx : Nat → Value), (W.ownsRow B 9 1 (.slice ga2 (L ++ wS x).length gc2) (L ++ wS x).length (strC (L ++ wS x)) ∧ Below B W1 W) ∧ a = ⟨(putA a0.tmps [63, 64, 65, 66, 67, 68, 69, 70, 71, 72, 73] xx).setIfInBounds 3 (.slice ga2 (L ++ wS x).length gc2), a0.defers⟩) (by kernel_rfl) ?any2 ?fin2
          case any2 =>
            rw [hV0]
            clear hV0 hd
            obtain ⟨_, hx20, hx2⟩ := HS.out.sub x (List.mem_of_getElem? HXx.out.1)
            refine anyH_take (i := 0) (v := .slice ga L.length gc) rfl (some 63) rfl (by kernel_rfl) (by kernel_rfl) (by kernel_rfl) (fun _ _ _ h => by cases h.1) rfl (fun w0 hw0 => by first | rfl | kernel_rfl) f0 ?_
            simp only [Act.put, List.setIfInBounds_toArray, List.set_cons_zero, List.set_cons_succ]
            refine anyH_take (i := 1) (v := .pointer (some ⟨wr.heap.size, 0, none⟩)) rfl (some 64) rfl (by kernel_rfl) (by kernel_rfl) (by kernel_rfl) (fun _ _ _ h => by cases h.1) rfl (fun w0 hw0 => by first | rfl | kernel_rfl) f0 ?_
            simp only [Act.put, List.setIfInBounds_toArray, List.set_cons_zero, List.set_cons_succ]
            refine anyH_take (i := 2) (v := .string x.1) rfl (some 65) rfl (by kernel_rfl) (by kernel_rfl) (by kernel_rfl) (fun _ _ _ h => by cases h.1) rfl (fun w0 hw0 => ex_load rfl rfl (ld9 (by simp [World.cell?, hw0]))) f0 ?_
            simp only [Act.put, List.setIfInBounds_toArray, List.set_cons_zero, List.set_cons_succ]
            refine anyH_take (i := 3) (v := .pointer (some ⟨wr.heap.size, 1, none⟩)) rfl (some 66) rfl (by kernel_rfl) (by kernel_rfl) (by kernel_rfl) (fun _ _ _ h => by cases h.1) rfl (fun w0 hw0 => by first | rfl | kernel_rfl) f0 ?_
            simp only [Act.put, List.setIfInBounds_toArray, List.set_cons_zero, List.set_cons_succ]
            refine anyH_take (i := 4) (v := .bool x.2.1) rfl (some 67) rfl (by kernel_rfl) (by kernel_rfl) (by kernel_rfl) (fun _ _ _ h => by cases h.1) rfl (fun w0 hw0 => ex_load rfl rfl (ld_bool (by simp [World.cell?, hw0]))) f0 ?_
            simp only [Act.put, List.setIfInBounds_toArray, List.set_cons_zero, List.set_cons_succ]
            refine anyH_take (i := 6) (v := .pointer (some ⟨wr.heap.size, 2, none⟩)) rfl (some 69) rfl (by kernel_rfl) (by kernel_rfl) (by kernel_rfl) (fun _ _ _ h => by cases h.1) rfl (fun w0 hw0 => by first | rfl | kernel_rfl) f0 ?_
            simp only [Act.put, List.setIfInBounds_toArray, List.set_cons_zero, List.set_cons_succ]
            refine anyH_take (i := 7) (v := .int .i64 x.2.2) rfl (some 70) rfl (by kernel_rfl) (by kernel_rfl) (by kernel_rfl) (fun _ _ _ h => by cases h.1) rfl (fun w0 hw0 => ex_load rfl rfl (ld_int (by simp [World.cell?, hw0]))) f0 ?_
            simp only [Act.put, List.setIfInBounds_toArray, List.set_cons_zero, List.set_cons_succ]
            refine anyH_one (i := 5) (by kernel_rfl) ?_
            refine op_call rfl (some 68) rfl rfl #[.bool x.2.1, .string ⟨#[112]⟩, .string ⟨#[115]⟩] rfl (by simp [Act.eval]) (fun _ _ => rfl) (either_yes x.2.1 ⟨#[112]⟩ ⟨#[115]⟩ V0) ?_
            rintro e V1 ⟨rfl, c1⟩
            have B1 : Below B W1 V1 := B0.trans (c1.mono s0)
            have s1 : B ≤ V1.heap.size := by have := c1.size; omega
            have f1 := (c1.block _ (Array.getElem?_eq_some_iff.1 f0).1).trans f0
            have own1 := own_same (B := V1) own0 (fun g e => c1.block g (own_lt own0 g e))
            refine ⟨_, rfl, f1, ?_⟩
            simp only [Act.put, List.setIfInBounds_toArray, List.set_cons_zero, List.set_cons_succ]
            refine anyH_one (i := 8) (by kernel_rfl) ?_
            refine op_call rfl (some 71) rfl rfl #[.int .i64 x.2.2] rfl (by simp [Act.eval]) (fun _ _ => rfl) (itoa_nat x.2.2 (by omega) (by omega) V1 (HGl.out V1 B1)) ?_
            rintro e V2 ⟨rfl, c2⟩
            have B2 : Below B W1 V2 := B1.trans (c2.mono s1)
            have s2 : B ≤ V2.heap.size := by have := c2.size; omega
            have f2 := (c2.block _ (Array.getElem?_eq_some_iff.1 f1).1).trans f1
            have own2 := own_same (B := V2) own1 (fun g e => c2.block g (own_lt own1 g e))
            refine ⟨_, rfl, f2, ?_⟩
            simp only [Act.put, List.setIfInBounds_toArray, List.set_cons_zero, List.set_cons_succ]
            have hbs := three_sS x.1 (eitB ⟨#[112]⟩ ⟨#[115]⟩ x.2.1) (itB x.2.2) V2
            obtain ⟨ga2, gc2, V9, hap, own9, c9, k9⟩ := pushS (T := 42) (ys := wS x) (n := 3) own2 s2 (by have := HR2.out.2.1; simp [wS]; omega) rfl rfl
            have f8 := ((below_refl_alloc V2 (.cells (strC (wS x)).toArray 9)).block _ (Array.getElem?_eq_some_iff.1 f2).1).trans f2
            have f9 := (k9 wr.heap.size (Array.getElem?_eq_some_iff.1 f2).1 H1.out.2.2.2).trans f2
            have B9 : Below B W1 V9 := B2.trans c9
            refine anyH_one (i := 9) (by kernel_rfl) (op_run rfl (some 72) rfl rfl (ex_sliceK (us := #[(0, .string x.1), (1, .string (eitB ⟨#[112]⟩ ⟨#[115]⟩ x.2.1)), (2, .string (itB x.2.2))]) rfl (by simp [Act.eval]) hbs) ⟨f8, ?_⟩)
            simp only [Act.put, List.setIfInBounds_toArray, List.set_cons_zero, List.set_cons_succ]
            refine anyH_one (i := 10) (by kernel_rfl) (op_run rfl (some 73) rfl rfl (ex_appN rfl rfl rfl hap) ⟨f9, ?_⟩)
            simp only [Act.put, List.setIfInBounds_toArray, List.set_cons_zero, List.set_cons_succ]
            refine anyH_val (i := 11) (by kernel_rfl) rfl (some 3) rfl rfl (ex_anyv rfl rfl) f9 ?_
            simp only [Act.put, List.setIfInBounds_toArray, List.set_cons_zero, List.set_cons_succ]
            exact wpAnyH_done (by kernel_rfl) ⟨rfl, _, _, fill ⟨own9, B9⟩ (by kernel_rfl)⟩ _
          rintro a W ⟨ga2, gc2, xx, ⟨hown2, hbel2⟩, rfl⟩
          clear hV0 B0 s0 hd V0 f0 own0
          simp only [putA, List.foldl_cons, List.foldl_nil, List.setIfInBounds_toArray, List.set_cons_zero, List.set_cons_succ]
          have H2 := hide (And.intro hown2 hbel2)
          clear hown2 hbel2
          go_wp2_with fail
          go_roundw
          case rel => exact ⟨i + 1, L ++ wS x, ga2, gc2, by omega, by simp, by rw [flat_step _ HXx.out.1, HR2.out.1, List.append_assoc], by have := HR2.out.2.1; simp [wS]; omega, by first | rfl | simp, H2.out.1, H2.out.2⟩
          case measure => simp [intOf]; omega
        · obtain rfl : ks = i := by omega
          have hLf : L = M2 ++ n.subs.flatMap wS := by rw [HR2.out.1, List.take_of_length_le (by have := HKs.out; omega)]
          have HLf2 := hide hLf
          clear hLf
          have hown := HR2.out.2.2.1
          have hbel := HR2.out.2.2.2
          obtain ⟨N2, hN2⟩ : ∃ N, L = N := ⟨_, rfl⟩
          have hNl2 : N2.length ≤ M2.length + 3 * ks := by rw [← hN2]; exact HR2.out.2.1
          have HN2 := hide (hN2.symm.trans HLf2.out)
          rw [hN2] at hown ⊢
          clear hik
          have HO3 := hide (And.intro hown hbel)
          obtain ⟨c0, c1, c2, c3, c4, c5, c6, c7⟩ := nd_box (HX.out wr hbel)
          rw [HKi.out] at c6
          clear hown hbel c0 c1 c2 c3 c4 c5 c7
          go_wp2_with fail
          refine (itoa_nat (ki : Int) (by omega) (by omega) wr (HGl.out wr HO3.out.2)).mono ?_
          rintro e X3 ⟨rfl, bx⟩
          clear c6
          have sz : B ≤ wr.heap.size := by have := HO3.out.2.size; have := HB.out; omega
          have hbel2 : Below B W1 X3 := HO3.out.2.trans (bx.mono sz)
          have hown2 := own_same (B := X3) HO3.out.1 (fun g e => bx.block g (own_lt HO3.out.1 g e))
          have sz2 : B ≤ X3.heap.size := by have := bx.size; omega
          obtain ⟨M3, hM3⟩ : ∃ L, N2 ++ [itB (ki : Int)] = L := ⟨_, rfl⟩
          have hbs := one_sS (itB (ki : Int)) X3
          obtain ⟨g3, e3, Y3, hap, hown4, hbel4, _⟩ := pushS (T := 42) (ys := [itB (ki : Int)]) (n := 1) hown2 sz2 (by have := hNl2; simp; omega) rfl rfl
          rw [hM3] at hap hown4
          have hbelY : Below B W1 Y3 := hbel2.trans hbel4
          obtain ⟨c0, c1, c2, c3, c4, c5, c6, c7⟩ := nd_box (HX.out Y3 hbelY)
          rw [HKi.out] at c6
          have hMl : M3.length ≤ N2.length + 1 := by rw [← hM3]; simp
          have hMb3 : M3.length ≤ 300 := by have := hNl2; omega
          have HP3 := hide (And.intro hown4 (And.intro hbelY (And.intro hM3 hMl)))
          clear hown4 hbelY hM3 hMl hown2 hbel2 sz sz2 hbel4 bx c0 c1 c2 c3 c4 c5 c7
          go_wp2_with (first | refine l_val rfl _ (ex_sliceK (us := #[(0, .string (itB (ki : Int)))]) rfl (by simp [Act.eval]) hbs) ?_ | refine l_val rfl _ (ex_appN rfl rfl rfl hap) ?_)
          clear hap hbs c6
          go_loopw [3, 85] (fun lv iv wr => ∃ (i : Nat) (L : List ByteArray) (ga : Option Addr) (gc : Nat), i ≤ ki ∧ iv = .int .i64 i ∧ L = M3 ++ (n.items.take i).flatMap wI ∧ L.length ≤ M3.length + 3 * i ∧ lv = .slice ga L.length gc ∧ wr.ownsRow B 9 1 (.slice ga L.length gc) L.length (strC L) ∧ Below B W1 wr) (fun _ iv _ => ki - (intOf iv).toNat)
          case atStart => exact ⟨0, M3, g3, e3, Nat.zero_le _, rfl, by simp, by omega, rfl, HP3.out.1, HP3.out.2.1⟩
          case round =>
            obtain ⟨i, L, ga, gc, hik, rfl, hL, hLl, rfl, hown, hbel⟩ := hrel
            have HR3 := hide (And.intro hL (And.intro hLl (And.intro hown hbel)))
            have HMl3 := HP3.out.2.2.2
            clear hL hown hbel
            by_cases hlt : (i : Int) < ki
            · obtain ⟨x, hx⟩ : ∃ x, n.items[i]? = some x := ⟨_, List.getElem?_eq_getElem (by have := HKi.out; omega)⟩
              obtain ⟨b, off, hv, hbl, d0, d1, d2⟩ := HM.out.it.2 i x hx
              have e0 := (HR3.out.2.2.2.cell (p := ⟨b, _, none⟩) hbl).trans d0
              have e1 := (HR3.out.2.2.2.cell (p := ⟨b, _, none⟩) hbl).trans d1
              have e2 := (HR3.out.2.2.2.cell (p := ⟨b, _, none⟩) hbl).trans d2
              rw [hv]
              have HXx := hide (And.intro hx hbl)
              clear hx hbl d0 d1 d2
              obtain ⟨Wb, hWb⟩ : ∃ W, wr.alloc (.cells #[.string x.1, .string x.2.1, .string x.2.2] 61) = W := ⟨_, rfl⟩
              have fb : Wb.heap[wr.heap.size]? = some (.cells #[.string x.1, .string x.2.1, .string x.2.2] 61) := by rw [← hWb]; exact World.alloc_heap_new _ _
              have bb : Below wr.heap.size wr Wb := by rw [← hWb]; exact below_refl_alloc _ _
              have hbl1 := (Array.getElem?_eq_some_iff.1 fb).1
              have sz0 : B ≤ wr.heap.size := by have := HR3.out.2.2.2.size; have := HB.out; omega
              have hbel1 : Below B W1 Wb := HR3.out.2.2.2.trans (bb.mono sz0)
              have hown1 := own_same (B := Wb) HR3.out.2.2.1 (fun g e => bb.block g (own_lt HR3.out.2.2.1 g e))
              have hfar : Value.ownBlock (.slice ga L.length gc) ≠ some wr.heap.size := fun e => Nat.lt_irrefl _ (own_lt HR3.out.2.2.1 _ e)
              have H1 := hide (And.intro fb (And.intro hbel1 (And.intro hown1 hfar)))
              clear fb bb hbel1 hown1 hfar
              have hbs := three_sS x.1 x.2.1 x.2.2 Wb
              have szb : B ≤ Wb.heap.size := by have := H1.out.2.1.size; have := HB.out; omega
              obtain ⟨ga2, gc2, V9, hap, own9, c9, k9⟩ := pushS (T := 42) (ys := wI x) (n := 3) H1.out.2.2.1 szb (by have := HR3.out.2.1; simp [wI]; omega) rfl rfl
              have fb := H1.out.1
              have z0 : Wb.cell? ⟨wr.heap.size, 0, none⟩ = some (.string x.1) := by simp [World.cell?, fb]
              have z1 : Wb.cell? ⟨wr.heap.size, 1, none⟩ = some (.string x.2.1) := by simp [World.cell?, fb]
              have z2 : Wb.cell? ⟨wr.heap.size, 2, none⟩ = some (.string x.2.2) := by simp [World.cell?, fb]
              have H2 := hide (And.intro own9 (H1.out.2.1.trans c9))
              clear own9 c9 k9 fb szb
              go_wp2_with (first | refine l_val rfl _ (ex_idxItem (k := i) rfl rfl rfl (by omega)) ?_ | refine l_load _ (load_i e0 e1 e2) rfl rfl rfl ?_ | refine l_val rfl _ (ex_sliceK (us := #[(0, .string x.1), (1, .string x.2.1), (2, .string x.2.2)]) rfl (by simp [Act.eval]) hbs) ?_ | refine l_val rfl _ (ex_appN rfl rfl rfl hap) ?_)
              go_roundw
              case rel => exact ⟨i + 1, L ++ wI x, ga2, gc2, by omega, by simp, by rw [flat_step _ HXx.out.1, HR3.out.1, List.append_assoc], by have := HR3.out.2.1; simp [wI]; omega, by first | rfl | simp, H2.out.1, H2.out.2⟩
              case measure => simp [intOf]; omega
            · obtain rfl : ki = i := by omega
              have hLf : L = M3 ++ n.items.flatMap wI := by rw [HR3.out.1, List.take_of_length_le (by have := HKi.out; omega)]
              have HLf3 := hide hLf
              clear hLf
              have hw : L = wordsN n := by
                rw [HLf3.out, ← HP3.out.2.2.1, HN2.out, ← HP2.out.2.2.1, HN1.out, ← HP1.out.2.2.1, ← HL5.out]
                unfold wordsN
                rw [HKa.out, HKs.out, HKi.out]
              go_wp2_with fail
              go_ret
              have h1 := HR3.out.2.2.1
              have h2 := HR3.out.2.2.2
              rw [hw] at h1
              refine ⟨ga, gc, rfl, ?_, ?_⟩
              · exact own_low h1 (by have := HZ.out.2; have := HB.out; omega)
              · exact HZ.out.1.trans (h2.mono (by have := HZ.out.2; have := HB.out; omega))
end Go.Proofs.YtimhkgpjfppkmaaGreatDoor
