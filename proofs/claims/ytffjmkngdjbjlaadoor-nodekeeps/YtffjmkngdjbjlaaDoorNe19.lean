/- law11's few, and its beginning. -/
import Derived.Test.YtffjmkngdjbjlaaDoorNe17
namespace Go.Proofs.YtffjmkngdjbjlaaDoor
open Go.RowKit

/-- A node with not too much in it. -/
def fewN (n : Nd) : Nd := { n with affs := n.affs.take 20, subs := n.subs.take 20, items := n.items.take 20 }
/-- A node that is handed in. -/
structure RawM (w : World) (n : Nd) (v : NdW) : Prop where
  mem : NdM w.heap.size w (fewN n) v
  ac : n.affs.length ≤ v.ac
  sc : n.subs.length ≤ v.sc
  ic : n.items.length ≤ v.ic
theorem RawM.move {w w' : World} {n : Nd} {v : NdW} (h : RawM w n v) (hb : Below w.heap.size w w') : RawM w' n v := ⟨h.mem.move hb, h.ac, h.sc, h.ic⟩
theorem load_one {T : TypeId} {w : World} {b i : Nat} {v : Value} (ha : (isAgg T).run Tryd.prog w = .ok false w) (hc : w.cell? ⟨b, i, none⟩ = some v) : (Instr.loadAt T (.pointer (some ⟨b, i, none⟩))).run Tryd.prog w = .ok v w := by
  simp [Instr.loadAt, Instr.sureAddr, loadVar, ha, hc, go_sem]
theorem agg_one24 (w : World) : (isAgg 24).run Tryd.prog w = .ok false w := by
  unfold isAgg
  rw [Sem.run_bind, run_underlying Tryd.underlying24 w]
  simp
theorem box_affs {W : World} {b : Nat} {n : Nd} {v : NdW} (h : W.heap[b]? = some (.cells (ndA n v) 28)) (hl : 20 < n.affs.length) : (W.setCell ⟨b, 4, none⟩ (.slice v.aa 20 v.ac)).heap[b]? = some (.cells (ndA { n with affs := n.affs.take 20 } v) 28) := by
  have e : (n.affs.take 20).length = 20 := by rw [List.length_take]; omega
  have h1 := heap_setk (i := 4) (v := .slice v.aa 20 v.ac) h
  rw [h1]
  unfold ndA
  rw [e]
  rfl
theorem agg_one25 (w : World) : (isAgg 25).run Tryd.prog w = .ok false w := by
  unfold isAgg
  rw [Sem.run_bind, run_underlying Tryd.underlying25 w]
  simp
theorem box_subs {W : World} {b : Nat} {n : Nd} {v : NdW} (h : W.heap[b]? = some (.cells (ndA n v) 28)) (hl : 20 < n.subs.length) : (W.setCell ⟨b, 5, none⟩ (.slice v.sa 20 v.sc)).heap[b]? = some (.cells (ndA { n with subs := n.subs.take 20 } v) 28) := by
  have e : (n.subs.take 20).length = 20 := by rw [List.length_take]; omega
  have h1 := heap_setk (i := 5) (v := .slice v.sa 20 v.sc) h
  rw [h1]
  unfold ndA
  rw [e]
  rfl
theorem agg_one26 (w : World) : (isAgg 26).run Tryd.prog w = .ok false w := by
  unfold isAgg
  rw [Sem.run_bind, run_underlying Tryd.underlying26 w]
  simp
theorem box_items {W : World} {b : Nat} {n : Nd} {v : NdW} (h : W.heap[b]? = some (.cells (ndA n v) 28)) (hl : 20 < n.items.length) : (W.setCell ⟨b, 6, none⟩ (.slice v.ia 20 v.ic)).heap[b]? = some (.cells (ndA { n with items := n.items.take 20 } v) 28) := by
  have e : (n.items.take 20).length = 20 := by rw [List.length_take]; omega
  have h1 := heap_setk (i := 6) (v := .slice v.ia 20 v.ic) h
  rw [h1]
  unfold ndA
  rw [e]
  rfl
set_option maxRecDepth 100000 in
set_option maxHeartbeats 8000000 in
theorem few_any (n : Nd) (v : NdW) (w : World) (hr : RawM w n v) :
    Calls Tryd.prog 14 #[.agg (ndA n v)] w fun e w' => e = .returned (.agg (ndA (fewN n) v)) ∧ Below w.heap.size w w' := by
  obtain ⟨W, hW, fa, fr, bw, zw⟩ := boxes w n v
  have HK := hide (And.intro hr.ac (And.intro hr.sc hr.ic))
  have HB0 := hide (And.intro fa (And.intro fr bw))
  have hl := (nd_box fa).2.2.2.2.1
  rw [show (ndA noN noW : Array Value) = #[.string ⟨#[]⟩, .bool false, .int .u8 0, .int .i64 0, .slice none 0 0, .slice none 0 0, .slice none 0 0, .string ⟨#[]⟩] from rfl] at hW
  rw [← hW] at hl
  have HL := hide (load_one (agg_one24 _) hl)
  have HW := hide hW
  clear hr hW fa fr bw zw hl
  go_enter Tryd.func14, Tryd.ntmps14
  go_wp2_with (refine l_load _ HL.out rfl rfl rfl ?_; refine stopNd ?_)
  unfold Hid
  have hW := HW.out
  rw [hW]
  clear hW HW HL
  have c4 : W.cell? ⟨w.heap.size, 4, none⟩ = some (.slice v.aa n.affs.length v.ac) := (nd_box HB0.out.1).2.2.2.2.1
  by_cases hc0 : (20 : Int) < n.affs.length
  · have hcap : (20 : Int) ≤ v.ac := by have := HK.out.1; omega
    have zf : W.frozen? ⟨w.heap.size, 4, none⟩ = false := by simp [World.frozen?, HB0.out.1]
    have HC0 := hide (show 20 < n.affs.length by omega)
    go_wp2_with (refine l_store _ (store_any (size_one24 _) c4 zf) rfl rfl rfl rfl ?_; refine stopNd ?_)
    unfold Hid
    have hn : (W.setCell ⟨w.heap.size, 4, none⟩ (.slice v.aa 20 v.ac)).heap[w.heap.size]? = some (.cells (ndA { n with affs := n.affs.take 20 } v) 28) := box_affs HB0.out.1 HC0.out
    have hn2 : (W.setCell ⟨w.heap.size, 4, none⟩ (.slice v.aa 20 v.ac)).heap[w.heap.size + 1]? = some (.cells (ndA noN noW) 28) := (set_blk _ _ _ _ (by simp)).trans HB0.out.2.1
    have hn3 : Below w.heap.size w (W.setCell ⟨w.heap.size, 4, none⟩ (.slice v.aa 20 v.ac)) := HB0.out.2.2.setCell (p := ⟨w.heap.size, 4, none⟩) (Nat.le_refl _) _
    obtain ⟨W1, hWn⟩ : ∃ W1, W.setCell ⟨w.heap.size, 4, none⟩ (.slice v.aa 20 v.ac) = W1 := ⟨_, rfl⟩
    rw [hWn] at hn hn2 hn3 ⊢
    have HB1 := hide (And.intro hn (And.intro hn2 hn3))
    clear hn hn2 hn3 hWn c4 zf hcap hc0
    have c5 : W1.cell? ⟨w.heap.size, 5, none⟩ = some (.slice v.sa n.subs.length v.sc) := (nd_box HB1.out.1).2.2.2.2.2.1
    by_cases hc1 : (20 : Int) < n.subs.length
    · have hcap : (20 : Int) ≤ v.sc := by have := HK.out.2.1; omega
      have zf : W1.frozen? ⟨w.heap.size, 5, none⟩ = false := by simp [World.frozen?, HB1.out.1]
      have HC1 := hide (show 20 < n.subs.length by omega)
      go_wp2_with (refine l_store _ (store_any (size_one25 _) c5 zf) rfl rfl rfl rfl ?_; refine stopNd ?_)
      unfold Hid
      have hn : (W1.setCell ⟨w.heap.size, 5, none⟩ (.slice v.sa 20 v.sc)).heap[w.heap.size]? = some (.cells (ndA { n with affs := n.affs.take 20, subs := n.subs.take 20 } v) 28) := box_subs HB1.out.1 HC1.out
      have hn2 : (W1.setCell ⟨w.heap.size, 5, none⟩ (.slice v.sa 20 v.sc)).heap[w.heap.size + 1]? = some (.cells (ndA noN noW) 28) := (set_blk _ _ _ _ (by simp)).trans HB1.out.2.1
      have hn3 : Below w.heap.size w (W1.setCell ⟨w.heap.size, 5, none⟩ (.slice v.sa 20 v.sc)) := HB1.out.2.2.setCell (p := ⟨w.heap.size, 5, none⟩) (Nat.le_refl _) _
      obtain ⟨W12, hWn⟩ : ∃ W12, W1.setCell ⟨w.heap.size, 5, none⟩ (.slice v.sa 20 v.sc) = W12 := ⟨_, rfl⟩
      rw [hWn] at hn hn2 hn3 ⊢
      have HB2 := hide (And.intro hn (And.intro hn2 hn3))
      clear hn hn2 hn3 hWn c5 zf hcap hc1
      have c6 : W12.cell? ⟨w.heap.size, 6, none⟩ = some (.slice v.ia n.items.length v.ic) := (nd_box HB2.out.1).2.2.2.2.2.2.1
      by_cases hc2 : (20 : Int) < n.items.length
      · have hcap : (20 : Int) ≤ v.ic := by have := HK.out.2.2; omega
        have zf : W12.frozen? ⟨w.heap.size, 6, none⟩ = false := by simp [World.frozen?, HB2.out.1]
        have HC2 := hide (show 20 < n.items.length by omega)
        go_wp2_with (refine l_store _ (store_any (size_one26 _) c6 zf) rfl rfl rfl rfl ?_; refine stopNd ?_)
        unfold Hid
        have hn : (W12.setCell ⟨w.heap.size, 6, none⟩ (.slice v.ia 20 v.ic)).heap[w.heap.size]? = some (.cells (ndA { n with affs := n.affs.take 20, subs := n.subs.take 20, items := n.items.take 20 } v) 28) := box_items HB2.out.1 HC2.out
        have hn2 : (W12.setCell ⟨w.heap.size, 6, none⟩ (.slice v.ia 20 v.ic)).heap[w.heap.size + 1]? = some (.cells (ndA noN noW) 28) := (set_blk _ _ _ _ (by simp)).trans HB2.out.2.1
        have hn3 : Below w.heap.size w (W12.setCell ⟨w.heap.size, 6, none⟩ (.slice v.ia 20 v.ic)) := HB2.out.2.2.setCell (p := ⟨w.heap.size, 6, none⟩) (Nat.le_refl _) _
        obtain ⟨W123, hWn⟩ : ∃ W123, W12.setCell ⟨w.heap.size, 6, none⟩ (.slice v.ia 20 v.ic) = W123 := ⟨_, rfl⟩
        rw [hWn] at hn hn2 hn3 ⊢
        have HB3 := hide (And.intro hn (And.intro hn2 hn3))
        clear hn hn2 hn3 hWn c6 zf hcap hc2
        have hfw : { n with affs := n.affs.take 20, subs := n.subs.take 20, items := n.items.take 20 } = fewN n := by
          unfold fewN
          rfl
        have hbox := HB3.out.1
        rw [hfw] at hbox
        have HX := hide hbox
        have HR := hide HB3.out.2.1
        clear hbox hfw
        go_wp2_with (refine l_load _ (load_nd HX.out) rfl rfl rfl ?_; refine stopNd ?_)
        unfold Hid
        refine l_store _ (store_nd (n := fewN n) (u := v) HR.out) rfl rfl rfl rfl ?_
        go_wp2_with fail
        exact bodyPost_ret (results_nd rfl rfl (setNd_heap HR.out)) rfl ⟨rfl, setNd_below HB3.out.2.2 (Nat.le_succ _)⟩
      · have HC2 := hide (show n.items.length ≤ 20 by omega)
        have HB3 := HB2
        have hfw : { n with affs := n.affs.take 20, subs := n.subs.take 20 } = fewN n := by
          unfold fewN
          rw [List.take_of_length_le HC2.out]
        have hbox := HB3.out.1
        rw [hfw] at hbox
        have HX := hide hbox
        have HR := hide HB3.out.2.1
        clear hbox hfw
        go_wp2_with (refine l_load _ (load_nd HX.out) rfl rfl rfl ?_; refine stopNd ?_)
        unfold Hid
        refine l_store _ (store_nd (n := fewN n) (u := v) HR.out) rfl rfl rfl rfl ?_
        go_wp2_with fail
        exact bodyPost_ret (results_nd rfl rfl (setNd_heap HR.out)) rfl ⟨rfl, setNd_below HB3.out.2.2 (Nat.le_succ _)⟩
    · have HC1 := hide (show n.subs.length ≤ 20 by omega)
      have HB2 := HB1
      have c6 : W1.cell? ⟨w.heap.size, 6, none⟩ = some (.slice v.ia n.items.length v.ic) := (nd_box HB2.out.1).2.2.2.2.2.2.1
      by_cases hc2 : (20 : Int) < n.items.length
      · have hcap : (20 : Int) ≤ v.ic := by have := HK.out.2.2; omega
        have zf : W1.frozen? ⟨w.heap.size, 6, none⟩ = false := by simp [World.frozen?, HB2.out.1]
        have HC2 := hide (show 20 < n.items.length by omega)
        go_wp2_with (refine l_store _ (store_any (size_one26 _) c6 zf) rfl rfl rfl rfl ?_; refine stopNd ?_)
        unfold Hid
        have hn : (W1.setCell ⟨w.heap.size, 6, none⟩ (.slice v.ia 20 v.ic)).heap[w.heap.size]? = some (.cells (ndA { n with affs := n.affs.take 20, items := n.items.take 20 } v) 28) := box_items HB2.out.1 HC2.out
        have hn2 : (W1.setCell ⟨w.heap.size, 6, none⟩ (.slice v.ia 20 v.ic)).heap[w.heap.size + 1]? = some (.cells (ndA noN noW) 28) := (set_blk _ _ _ _ (by simp)).trans HB2.out.2.1
        have hn3 : Below w.heap.size w (W1.setCell ⟨w.heap.size, 6, none⟩ (.slice v.ia 20 v.ic)) := HB2.out.2.2.setCell (p := ⟨w.heap.size, 6, none⟩) (Nat.le_refl _) _
        obtain ⟨W13, hWn⟩ : ∃ W13, W1.setCell ⟨w.heap.size, 6, none⟩ (.slice v.ia 20 v.ic) = W13 := ⟨_, rfl⟩
        rw [hWn] at hn hn2 hn3 ⊢
        have HB3 := hide (And.intro hn (And.intro hn2 hn3))
        clear hn hn2 hn3 hWn c6 zf hcap hc2
        have hfw : { n with affs := n.affs.take 20, items := n.items.take 20 } = fewN n := by
          unfold fewN
          rw [List.take_of_length_le HC1.out]
        have hbox := HB3.out.1
        rw [hfw] at hbox
        have HX := hide hbox
        have HR := hide HB3.out.2.1
        clear hbox hfw
        go_wp2_with (refine l_load _ (load_nd HX.out) rfl rfl rfl ?_; refine stopNd ?_)
        unfold Hid
        refine l_store _ (store_nd (n := fewN n) (u := v) HR.out) rfl rfl rfl rfl ?_
        go_wp2_with fail
        exact bodyPost_ret (results_nd rfl rfl (setNd_heap HR.out)) rfl ⟨rfl, setNd_below HB3.out.2.2 (Nat.le_succ _)⟩
      · have HC2 := hide (show n.items.length ≤ 20 by omega)
        have HB3 := HB2
        have hfw : { n with affs := n.affs.take 20 } = fewN n := by
          unfold fewN
          rw [List.take_of_length_le HC1.out, List.take_of_length_le HC2.out]
        have hbox := HB3.out.1
        rw [hfw] at hbox
        have HX := hide hbox
        have HR := hide HB3.out.2.1
        clear hbox hfw
        go_wp2_with (refine l_load _ (load_nd HX.out) rfl rfl rfl ?_; refine stopNd ?_)
        unfold Hid
        refine l_store _ (store_nd (n := fewN n) (u := v) HR.out) rfl rfl rfl rfl ?_
        go_wp2_with fail
        exact bodyPost_ret (results_nd rfl rfl (setNd_heap HR.out)) rfl ⟨rfl, setNd_below HB3.out.2.2 (Nat.le_succ _)⟩
  · have HC0 := hide (show n.affs.length ≤ 20 by omega)
    have HB1 := HB0
    have c5 : W.cell? ⟨w.heap.size, 5, none⟩ = some (.slice v.sa n.subs.length v.sc) := (nd_box HB1.out.1).2.2.2.2.2.1
    by_cases hc1 : (20 : Int) < n.subs.length
    · have hcap : (20 : Int) ≤ v.sc := by have := HK.out.2.1; omega
      have zf : W.frozen? ⟨w.heap.size, 5, none⟩ = false := by simp [World.frozen?, HB1.out.1]
      have HC1 := hide (show 20 < n.subs.length by omega)
      go_wp2_with (refine l_store _ (store_any (size_one25 _) c5 zf) rfl rfl rfl rfl ?_; refine stopNd ?_)
      unfold Hid
      have hn : (W.setCell ⟨w.heap.size, 5, none⟩ (.slice v.sa 20 v.sc)).heap[w.heap.size]? = some (.cells (ndA { n with subs := n.subs.take 20 } v) 28) := box_subs HB1.out.1 HC1.out
      have hn2 : (W.setCell ⟨w.heap.size, 5, none⟩ (.slice v.sa 20 v.sc)).heap[w.heap.size + 1]? = some (.cells (ndA noN noW) 28) := (set_blk _ _ _ _ (by simp)).trans HB1.out.2.1
      have hn3 : Below w.heap.size w (W.setCell ⟨w.heap.size, 5, none⟩ (.slice v.sa 20 v.sc)) := HB1.out.2.2.setCell (p := ⟨w.heap.size, 5, none⟩) (Nat.le_refl _) _
      obtain ⟨W2, hWn⟩ : ∃ W2, W.setCell ⟨w.heap.size, 5, none⟩ (.slice v.sa 20 v.sc) = W2 := ⟨_, rfl⟩
      rw [hWn] at hn hn2 hn3 ⊢
      have HB2 := hide (And.intro hn (And.intro hn2 hn3))
      clear hn hn2 hn3 hWn c5 zf hcap hc1
      have c6 : W2.cell? ⟨w.heap.size, 6, none⟩ = some (.slice v.ia n.items.length v.ic) := (nd_box HB2.out.1).2.2.2.2.2.2.1
      by_cases hc2 : (20 : Int) < n.items.length
      · have hcap : (20 : Int) ≤ v.ic := by have := HK.out.2.2; omega
        have zf : W2.frozen? ⟨w.heap.size, 6, none⟩ = false := by simp [World.frozen?, HB2.out.1]
        have HC2 := hide (show 20 < n.items.length by omega)
        go_wp2_with (refine l_store _ (store_any (size_one26 _) c6 zf) rfl rfl rfl rfl ?_; refine stopNd ?_)
        unfold Hid
        have hn : (W2.setCell ⟨w.heap.size, 6, none⟩ (.slice v.ia 20 v.ic)).heap[w.heap.size]? = some (.cells (ndA { n with subs := n.subs.take 20, items := n.items.take 20 } v) 28) := box_items HB2.out.1 HC2.out
        have hn2 : (W2.setCell ⟨w.heap.size, 6, none⟩ (.slice v.ia 20 v.ic)).heap[w.heap.size + 1]? = some (.cells (ndA noN noW) 28) := (set_blk _ _ _ _ (by simp)).trans HB2.out.2.1
        have hn3 : Below w.heap.size w (W2.setCell ⟨w.heap.size, 6, none⟩ (.slice v.ia 20 v.ic)) := HB2.out.2.2.setCell (p := ⟨w.heap.size, 6, none⟩) (Nat.le_refl _) _
        obtain ⟨W23, hWn⟩ : ∃ W23, W2.setCell ⟨w.heap.size, 6, none⟩ (.slice v.ia 20 v.ic) = W23 := ⟨_, rfl⟩
        rw [hWn] at hn hn2 hn3 ⊢
        have HB3 := hide (And.intro hn (And.intro hn2 hn3))
        clear hn hn2 hn3 hWn c6 zf hcap hc2
        have hfw : { n with subs := n.subs.take 20, items := n.items.take 20 } = fewN n := by
          unfold fewN
          rw [List.take_of_length_le HC0.out]
        have hbox := HB3.out.1
        rw [hfw] at hbox
        have HX := hide hbox
        have HR := hide HB3.out.2.1
        clear hbox hfw
        go_wp2_with (refine l_load _ (load_nd HX.out) rfl rfl rfl ?_; refine stopNd ?_)
        unfold Hid
        refine l_store _ (store_nd (n := fewN n) (u := v) HR.out) rfl rfl rfl rfl ?_
        go_wp2_with fail
        exact bodyPost_ret (results_nd rfl rfl (setNd_heap HR.out)) rfl ⟨rfl, setNd_below HB3.out.2.2 (Nat.le_succ _)⟩
      · have HC2 := hide (show n.items.length ≤ 20 by omega)
        have HB3 := HB2
        have hfw : { n with subs := n.subs.take 20 } = fewN n := by
          unfold fewN
          rw [List.take_of_length_le HC0.out, List.take_of_length_le HC2.out]
        have hbox := HB3.out.1
        rw [hfw] at hbox
        have HX := hide hbox
        have HR := hide HB3.out.2.1
        clear hbox hfw
        go_wp2_with (refine l_load _ (load_nd HX.out) rfl rfl rfl ?_; refine stopNd ?_)
        unfold Hid
        refine l_store _ (store_nd (n := fewN n) (u := v) HR.out) rfl rfl rfl rfl ?_
        go_wp2_with fail
        exact bodyPost_ret (results_nd rfl rfl (setNd_heap HR.out)) rfl ⟨rfl, setNd_below HB3.out.2.2 (Nat.le_succ _)⟩
    · have HC1 := hide (show n.subs.length ≤ 20 by omega)
      have HB2 := HB1
      have c6 : W.cell? ⟨w.heap.size, 6, none⟩ = some (.slice v.ia n.items.length v.ic) := (nd_box HB2.out.1).2.2.2.2.2.2.1
      by_cases hc2 : (20 : Int) < n.items.length
      · have hcap : (20 : Int) ≤ v.ic := by have := HK.out.2.2; omega
        have zf : W.frozen? ⟨w.heap.size, 6, none⟩ = false := by simp [World.frozen?, HB2.out.1]
        have HC2 := hide (show 20 < n.items.length by omega)
        go_wp2_with (refine l_store _ (store_any (size_one26 _) c6 zf) rfl rfl rfl rfl ?_; refine stopNd ?_)
        unfold Hid
        have hn : (W.setCell ⟨w.heap.size, 6, none⟩ (.slice v.ia 20 v.ic)).heap[w.heap.size]? = some (.cells (ndA { n with items := n.items.take 20 } v) 28) := box_items HB2.out.1 HC2.out
        have hn2 : (W.setCell ⟨w.heap.size, 6, none⟩ (.slice v.ia 20 v.ic)).heap[w.heap.size + 1]? = some (.cells (ndA noN noW) 28) := (set_blk _ _ _ _ (by simp)).trans HB2.out.2.1
        have hn3 : Below w.heap.size w (W.setCell ⟨w.heap.size, 6, none⟩ (.slice v.ia 20 v.ic)) := HB2.out.2.2.setCell (p := ⟨w.heap.size, 6, none⟩) (Nat.le_refl _) _
        obtain ⟨W3, hWn⟩ : ∃ W3, W.setCell ⟨w.heap.size, 6, none⟩ (.slice v.ia 20 v.ic) = W3 := ⟨_, rfl⟩
        rw [hWn] at hn hn2 hn3 ⊢
        have HB3 := hide (And.intro hn (And.intro hn2 hn3))
        clear hn hn2 hn3 hWn c6 zf hcap hc2
        have hfw : { n with items := n.items.take 20 } = fewN n := by
          unfold fewN
          rw [List.take_of_length_le HC0.out, List.take_of_length_le HC1.out]
        have hbox := HB3.out.1
        rw [hfw] at hbox
        have HX := hide hbox
        have HR := hide HB3.out.2.1
        clear hbox hfw
        go_wp2_with (refine l_load _ (load_nd HX.out) rfl rfl rfl ?_; refine stopNd ?_)
        unfold Hid
        refine l_store _ (store_nd (n := fewN n) (u := v) HR.out) rfl rfl rfl rfl ?_
        go_wp2_with fail
        exact bodyPost_ret (results_nd rfl rfl (setNd_heap HR.out)) rfl ⟨rfl, setNd_below HB3.out.2.2 (Nat.le_succ _)⟩
      · have HC2 := hide (show n.items.length ≤ 20 by omega)
        have HB3 := HB2
        have hfw : n = fewN n := by
          unfold fewN
          rw [List.take_of_length_le HC0.out, List.take_of_length_le HC1.out, List.take_of_length_le HC2.out]
        have hbox := HB3.out.1
        rw [hfw] at hbox
        have HX := hide hbox
        have HR := hide HB3.out.2.1
        clear hbox hfw
        go_wp2_with (refine l_load _ (load_nd HX.out) rfl rfl rfl ?_; refine stopNd ?_)
        unfold Hid
        refine l_store _ (store_nd (n := fewN n) (u := v) HR.out) rfl rfl rfl rfl ?_
        go_wp2_with fail
        exact bodyPost_ret (results_nd rfl rfl (setNd_heap HR.out)) rfl ⟨rfl, setNd_below HB3.out.2.2 (Nat.le_succ _)⟩
end Go.Proofs.YtffjmkngdjbjlaaDoor
