/- Lists of a node: an element is put in its place. Somebody goes; an owner says whether somebody who waits may subscribe. An owner gives somebody a role. -/
import Derived.Test.YtffjmkngdjbjlaaGreatDoorNe13
import Derived.Test.YtffjmkngdjbjlaaGreatDoorNe10
namespace Go.Proofs.YtffjmkngdjbjlaaGreatDoor
open Go.RowKit

theorem tw_at {α : Type} {p : α → Bool} {F : List α} {k : Nat} (h : ∀ y ∈ F.take k, p y = true) (h2 : ∀ y, F[k]? = some y → p y = false) : F.takeWhile p = F.take k ∧ F.dropWhile p = F.drop k := by
  have h3 : (F.drop k).takeWhile p = [] ∧ (F.drop k).dropWhile p = F.drop k := by
    cases hd : F.drop k with
    | nil => exact ⟨rfl, rfl⟩
    | cons y r =>
      have hy : F[k]? = some y := by
        have := congrArg (fun l => l[0]?) hd
        simpa using this
      have := h2 y hy
      simp [this]
  have e := List.take_append_drop k F
  constructor
  · rw [← e, List.takeWhile_append_of_pos h, h3.1, List.append_nil, e]
  · conv => lhs; rw [← e]
    rw [List.dropWhile_append_of_pos h, h3.2]
theorem ins_s (L : List (ByteArray × Bool × Int)) (x : ByteArray × Bool × Int) (v : Value) (bx base i : Nat) (w : World) (hown : w.ownsRow base 43 3 v L.length (sC L)) (hx : w.heap[bx]? = some (.cells #[.string x.1, .bool x.2.1, .int .i64 x.2.2] 43)) (hne : ∀ g, v.ownBlock = some g → g ≠ bx) (hl : L.length ≤ 1000000) (hb : base ≤ w.heap.size) (hi : i ≤ L.length) :
    Calls Tryz.prog 45 #[v, .int .i64 i, .slice (some ⟨bx, 0, none⟩) 1 1] w fun e w' => ∃ v', e = .returned v' ∧ w'.ownsRow base 43 3 v' (L.take i ++ x :: L.drop i).length (sC (L.take i ++ x :: L.drop i)) ∧ Below base w w' := by
  by_cases h : i = L.length
  · subst h
    have := insEnd_s L x v bx base w hown hx hl hb
    rw [List.take_length, List.drop_length]
    exact this
  · exact insMid_s L x v bx base i w hown hx hne hl hb (by omega)
set_option maxRecDepth 100000 in
set_option maxHeartbeats 4000000 in
theorem with_s (ao : Option Addr) (cap0 : Nat) (L : List (ByteArray × Bool × Int)) (x : ByteArray × Bool × Int) (w : World) (hm : SubMem w.heap.size w ao L) :
    Calls Tryz.prog 16 #[.slice ao L.length cap0, .func (.func 17) #[] #[], .agg #[.string x.1, .bool x.2.1, .int .i64 x.2.2]] w fun e w' => ∃ v', e = .returned v' ∧ w'.ownsRow w.heap.size 43 3 v' (inSub x L).length (sC (inSub x L)) ∧ Below w.heap.size w w' := by
  have hl := hm.1
  obtain ⟨Wa, hWa⟩ : ∃ Wa, w.alloc (.cells #[.string x.1, .bool x.2.1, .int .i64 x.2.2] 43) = Wa := ⟨_, rfl⟩
  have fa := World.alloc_heap_new w (.cells #[.string x.1, .bool x.2.1, .int .i64 x.2.2] 43)
  have ba : Below w.heap.size w Wa := by rw [← hWa]; exact (Below.refl _ w).alloc (Nat.le_refl _) _
  have za : Wa.heap.size = w.heap.size + 1 := by rw [← hWa]; simp
  rw [hWa] at fa
  have HK := hide (sKey_any x Wa)
  have HH := hide (And.intro hm (And.intro fa (And.intro ba za)))
  have HW := hide hWa
  obtain ⟨m0, hml⟩ : ∃ m0, L.length = m0 := ⟨_, rfl⟩
  obtain ⟨F, hF⟩ : ∃ F, woSub x.1 L = F := ⟨_, rfl⟩
  have hFl : F.length ≤ 1000000 := by rw [← hF]; exact Nat.le_trans (List.length_filter_le _ _) hl
  have HF := hide (And.intro hF hml)
  have hin : inSub x L = F.takeWhile (fun y => decide (y.1.toList < x.1.toList)) ++ x :: F.dropWhile (fun y => decide (y.1.toList < x.1.toList)) := by rw [← hF]; rfl
  rw [hin]
  rw [hml]
  rw [← hWa] at HK
  clear hin hm fa ba za hF hWa hml hl
  go_enter Tryz.func16, Tryz.ntmps16
  go_wp2_with fail
  refine HK.out.mono ?_
  rintro e w1 ⟨rfl, b1⟩
  have B1 : Below w.heap.size w w1 := by
    have h : _ = Wa := HW.out
    rw [h] at b1
    exact HH.out.2.2.1.trans (b1.mono HH.out.2.2.1.size)
  have f1 : w1.heap[w.heap.size]? = some (.cells #[.string x.1, .bool x.2.1, .int .i64 x.2.2] 43) := by
    have h : _ = Wa := HW.out
    rw [h] at b1
    exact (b1.block _ (by have := HH.out.2.2.2; omega)).trans HH.out.2.1
  have hwo := without_s ao cap0 L x.1 w1 ((HH.out.1.below B1).raise B1.size)
  rw [HF.out.1, HF.out.2] at hwo
  have HWo := hide hwo
  have H1 := hide (And.intro B1 f1)
  clear hwo B1 f1 b1 HK
  go_wp2_with fail
  refine HWo.out.mono ?_
  rintro e w2 ⟨v2, rfl, hown2, b2⟩
  have B2 : Below w.heap.size w w2 := H1.out.1.trans (b2.mono H1.out.1.size)
  have hq1 := (Array.getElem?_eq_some_iff.1 H1.out.2).1
  have f2 := (b2.block _ hq1).trans H1.out.2
  obtain ⟨ga, gc, rfl, hm2, hgc, _, hg2⟩ := own_s hown2 hFl
  obtain ⟨m, hmF⟩ : ∃ m, F.length = m := ⟨_, rfl⟩
  have hm6 : m ≤ 1000000 := by omega
  obtain ⟨q, hq⟩ : ∃ q, w.heap.size = q := ⟨_, rfl⟩
  have hbase := b2.size
  have hq2 : w.heap.size < w1.heap.size := hq1
  have H2 := hide (And.intro B2 (And.intro f2 (And.intro hm2 (And.intro hown2 (And.intro hmF (And.intro hq2 hg2))))))
  rw [hmF]
  clear B2 f2 hm2 hown2 b2 hq1 HWo hmF hg2 hq2
  go_wp2_with fail
  go_loopw [7] (fun iv wr => ∃ k : Nat, k ≤ m ∧ iv = .int .i64 k ∧ (∀ y ∈ F.take k, y.1.toList < x.1.toList) ∧ Below w2.heap.size w2 wr) (fun iv _ => m - (intOf iv).toNat)
  case atStart => exact ⟨0, Nat.zero_le _, rfl, by simp, Below.refl _ _⟩
  case round =>
    obtain ⟨k, hkm, rfl, hall, hbw⟩ := hrel
    have fq := (hbw.block _ (by have := H2.out.2.2.2.2.2.1; have := H2.out.1.size; omega)).trans H2.out.2.1
    rw [hq] at fq
    have hqr : q < wr.heap.size := (Array.getElem?_eq_some_iff.1 fq).1
    obtain ⟨b0, b1, b2, _, _, _⟩ := cells_s fq
    by_cases hlt : (k : Int) < m
    · have hklt : k < m := by omega
      obtain ⟨y, hy⟩ : ∃ y, F[k]? = some y := ⟨_, List.getElem?_eq_getElem (by have := H2.out.2.2.2.2.1; omega)⟩
      obtain ⟨g, off, hge, hgl, c0, c1, c2⟩ := H2.out.2.2.1.2 k y hy
      have hoff : off = 0 := (H2.out.2.2.2.2.2.2 _ hge).2
      subst hoff
      have hcmp : decide ((k : Int) < m) = true := decide_eq_true hlt
      by_cases hls : y.1.toList < x.1.toList
      · have hles : Op.bytesLess y.1.toList x.1.toList = true := less_yes hls
        have hall2 : ∀ z ∈ F.take (k + 1), z.1.toList < x.1.toList := fun z hz => by
          rw [List.take_add_one, hy] at hz
          rcases List.mem_append.1 hz with hz | hz
          · exact hall z hz
          · simp at hz
            rw [hz]
            exact hls
        rw [hge]
        go_wp2_with fail
        obtain ⟨V0, hV0⟩ : ∃ V0, wr.drew = V0 := ⟨_, rfl⟩
        have B0 : Below wr.heap.size wr V0 := by rw [← hV0]; exact (Below.refl _ wr).drew
        have hqV : q < V0.heap.size := Nat.lt_of_lt_of_le hqr B0.size
        have hgV : g < V0.heap.size := by have := hbw.size; have := B0.size; omega
        replace c0 := (B0.cell (p := ⟨g, _, none⟩) (Nat.lt_of_lt_of_le hgl hbw.size)).trans ((hbw.cell (p := ⟨g, _, none⟩) hgl).trans c0)
        replace c1 := (B0.cell (p := ⟨g, _, none⟩) (Nat.lt_of_lt_of_le hgl hbw.size)).trans ((hbw.cell (p := ⟨g, _, none⟩) hgl).trans c1)
        replace c2 := (B0.cell (p := ⟨g, _, none⟩) (Nat.lt_of_lt_of_le hgl hbw.size)).trans ((hbw.cell (p := ⟨g, _, none⟩) hgl).trans c2)
        replace b0 := (B0.cell (p := ⟨q, _, none⟩) hqr).trans b0
        replace b1 := (B0.cell (p := ⟨q, _, none⟩) hqr).trans b1
        replace b2 := (B0.cell (p := ⟨q, _, none⟩) hqr).trans b2
        refine region_rel (S := fun V => Below V0.heap.size V0 V) (fun a Wz => ∃ xx : Nat → Value, (Below wr.heap.size wr Wz) ∧ a = { tmps := #[.slice (some ⟨g, 0, none⟩) m gc, .func (.func 17) #[] #[], .agg #[.string x.1, .bool x.2.1, .int .i64 x.2.2], undef, undef, .pointer (some ⟨q, 0, none⟩), .slice none 0 0, .int .i64 k, .slice ao m0 cap0, .func (.func 17) #[] #[], .func (.func 17) #[] #[], .agg #[.string x.1, .bool x.2.1, .int .i64 x.2.2], .string x.1, .slice (some ⟨g, 0, none⟩) m gc, xx 14, xx 15, xx 16, xx 17, xx 18, xx 19, xx 20, xx 21, xx 22, xx 23, xx 24, xx 25, xx 26, xx 27, xx 28, .bool true, xx 30, xx 31, undef, undef, undef, undef, undef], defers := [] }) (by kernel_rfl) ?anyt ?fint
        case anyt =>
          rw [hV0]
          clear hV0
          have S0 : Below V0.heap.size V0 V0 := Below.refl _ _
          refine anyH_take (i := 0) (v := .int .i64 k) rfl (some 14) rfl (by kernel_rfl) (by kernel_rfl) (by kernel_rfl) (fun _ _ _ h => by cases h.1) (by kernel_rfl) (fun w0 hw0 => by first | rfl | kernel_rfl) S0 ?_
          simp only [Act.put, List.setIfInBounds_toArray, List.set_cons_zero, List.set_cons_succ]
          refine anyH_take (i := 1) (v := .slice (some ⟨g, 0, none⟩) m gc) rfl (some 15) rfl (by kernel_rfl) (by kernel_rfl) (by kernel_rfl) (fun _ _ _ h => by cases h.1) (by kernel_rfl) (fun w0 hw0 => by first | rfl | kernel_rfl) S0 ?_
          simp only [Act.put, List.setIfInBounds_toArray, List.set_cons_zero, List.set_cons_succ]
          refine anyH_take (i := 2) (v := .int .i64 m) rfl (some 16) rfl (by kernel_rfl) (by kernel_rfl) (by kernel_rfl) (fun _ _ _ h => by cases h.1) (by kernel_rfl) (fun w0 hw0 => by first | rfl | kernel_rfl) S0 ?_
          simp only [Act.put, List.setIfInBounds_toArray, List.set_cons_zero, List.set_cons_succ]
          refine anyH_take (i := 3) (v := .bool true) rfl (some 17) rfl (by kernel_rfl) (by kernel_rfl) (by kernel_rfl) (fun _ _ _ h => by cases h.1) (by kernel_rfl) (fun _ _ => ex_lssI rfl rfl rfl hcmp) S0 ?_
          simp only [Act.put, List.setIfInBounds_toArray, List.set_cons_zero, List.set_cons_succ]
          refine anyH_take (i := 4) (v := .bool true) rfl (some 18) rfl (by kernel_rfl) (by kernel_rfl) (by kernel_rfl) (fun _ _ _ h => by cases h.1) (by kernel_rfl) (fun w0 hw0 => by first | rfl | kernel_rfl) S0 ?_
          simp only [Act.put, List.setIfInBounds_toArray, List.set_cons_zero, List.set_cons_succ]
          refine anyH_take (i := 5) (v := .func (.func 17) #[] #[]) rfl (some 19) rfl (by kernel_rfl) (by kernel_rfl) (by kernel_rfl) (fun _ _ _ h => by cases h.1) (by kernel_rfl) (fun w0 hw0 => by first | rfl | kernel_rfl) S0 ?_
          simp only [Act.put, List.setIfInBounds_toArray, List.set_cons_zero, List.set_cons_succ]
          refine anyH_take (i := 6) (v := .slice (some ⟨g, 0, none⟩) m gc) rfl (some 20) rfl (by kernel_rfl) (by kernel_rfl) (by kernel_rfl) (fun _ _ _ h => by cases h.1) (by kernel_rfl) (fun w0 hw0 => by first | rfl | kernel_rfl) S0 ?_
          simp only [Act.put, List.setIfInBounds_toArray, List.set_cons_zero, List.set_cons_succ]
          refine anyH_take (i := 7) (v := .int .i64 k) rfl (some 21) rfl (by kernel_rfl) (by kernel_rfl) (by kernel_rfl) (fun _ _ _ h => by cases h.1) (by kernel_rfl) (fun w0 hw0 => by first | rfl | kernel_rfl) S0 ?_
          simp only [Act.put, List.setIfInBounds_toArray, List.set_cons_zero, List.set_cons_succ]
          refine anyH_take (i := 8) (v := .pointer (some ⟨g, 0 + k * 3, none⟩)) rfl (some 22) rfl (by kernel_rfl) (by kernel_rfl) (by kernel_rfl) (fun _ _ _ h => by cases h.1) (by kernel_rfl) (fun _ _ => ex_idxSub rfl rfl rfl hklt) S0 ?_
          simp only [Act.put, List.setIfInBounds_toArray, List.set_cons_zero, List.set_cons_succ]
          refine anyH_take (i := 9) (v := .agg #[.string y.1, .bool y.2.1, .int .i64 y.2.2]) rfl (some 23) rfl (by kernel_rfl) (by kernel_rfl) (by kernel_rfl) (fun _ _ _ h => by cases h.1) (by kernel_rfl) (fun w0 hw0 => ex_load rfl rfl (load_s ((hw0.cell (p := ⟨g, _, none⟩) hgV).trans c0) ((hw0.cell (p := ⟨g, _, none⟩) hgV).trans c1) ((hw0.cell (p := ⟨g, _, none⟩) hgV).trans c2))) S0 ?_
          simp only [Act.put, List.setIfInBounds_toArray, List.set_cons_zero, List.set_cons_succ]
          refine anyH_take (i := 11) (v := .func (.func 17) #[] #[]) rfl (some 25) rfl (by kernel_rfl) (by kernel_rfl) (by kernel_rfl) (fun _ _ _ h => by cases h.1) (by kernel_rfl) (fun w0 hw0 => by first | rfl | kernel_rfl) S0 ?_
          simp only [Act.put, List.setIfInBounds_toArray, List.set_cons_zero, List.set_cons_succ]
          refine anyH_take (i := 12) (v := .agg #[.string x.1, .bool x.2.1, .int .i64 x.2.2]) rfl (some 26) rfl (by kernel_rfl) (by kernel_rfl) (by kernel_rfl) (fun _ _ _ h => by cases h.1) (by kernel_rfl) (fun w0 hw0 => ex_load rfl rfl (load_s ((hw0.cell (p := ⟨q, 0, none⟩) hqV).trans b0) ((hw0.cell (p := ⟨q, 1, none⟩) hqV).trans b1) ((hw0.cell (p := ⟨q, 2, none⟩) hqV).trans b2))) S0 ?_
          simp only [Act.put, List.setIfInBounds_toArray, List.set_cons_zero, List.set_cons_succ]
          refine anyH_one (i := 10) (by kernel_rfl) ?_
          refine op_callv rfl (some 24) rfl (by kernel_rfl) #[.agg #[.string y.1, .bool y.2.1, .int .i64 y.2.2]] rfl rfl (by simp [Act.eval]) (fun _ _ => rfl) (sKey_any y V0) ?_
          rintro e V1 ⟨rfl, c1_⟩
          have b1 : Below V0.heap.size V0 V1 := c1_
          refine ⟨_, rfl, S0.trans (b1.mono S0.size), ?_⟩
          simp only [Act.put, List.setIfInBounds_toArray, List.set_cons_zero, List.set_cons_succ]
          refine anyH_more (fun V => Below V1.heap.size V1 V) (fun V hV => S0.trans ((b1.trans (hV.mono b1.size)).mono S0.size)) ?_
          have S1 : Below V1.heap.size V1 V1 := Below.refl _ _
          have B1 : Below wr.heap.size wr V1 := B0.trans (b1.mono B0.size)
          refine anyH_one (i := 13) (by kernel_rfl) ?_
          refine op_callv rfl (some 27) rfl (by kernel_rfl) #[.agg #[.string x.1, .bool x.2.1, .int .i64 x.2.2]] rfl rfl (by simp [Act.eval]) (fun _ _ => rfl) (sKey_any x V1) ?_
          rintro e V2 ⟨rfl, c2_⟩
          have b2 : Below V1.heap.size V1 V2 := c2_
          refine ⟨_, rfl, S1.trans (b2.mono S1.size), ?_⟩
          simp only [Act.put, List.setIfInBounds_toArray, List.set_cons_zero, List.set_cons_succ]
          refine anyH_more (fun V => Below V2.heap.size V2 V) (fun V hV => S1.trans ((b2.trans (hV.mono b2.size)).mono S1.size)) ?_
          have S2 : Below V2.heap.size V2 V2 := Below.refl _ _
          have B2 : Below wr.heap.size wr V2 := B1.trans (b2.mono B1.size)
          refine anyH_take (i := 14) (v := .bool true) rfl (some 28) rfl (by kernel_rfl) (by kernel_rfl) (by kernel_rfl) (fun _ _ _ h => by cases h.1) (by kernel_rfl) (fun _ _ => ex_lssS rfl rfl rfl hles) S2 ?_
          simp only [Act.put, List.setIfInBounds_toArray, List.set_cons_zero, List.set_cons_succ]
          refine anyH_val (i := 15) (by kernel_rfl) rfl (some 29) rfl (by kernel_rfl) (ex_pkT rfl rfl rfl) S2 ?_
          simp only [Act.put, List.setIfInBounds_toArray, List.set_cons_zero, List.set_cons_succ]
          exact wpAnyH_done (by kernel_rfl) ⟨rfl, fill (B2) (by kernel_rfl)⟩ _
        case fint =>
          rintro a W ⟨xx, hB, rfl⟩
          have HB := hide (And.intro hall2 (hbw.trans (hB.mono hbw.size)))
          clear hall2 hB B0 hV0 hgV c0 c1 c2 b0 b1 b2 hles hls hall
          go_wp2_with fail
          go_roundw
          case rel => exact ⟨k + 1, by omega, by simp, HB.out.1, HB.out.2⟩
          case measure => simp [intOf]; omega
      · have hles : Op.bytesLess y.1.toList x.1.toList = false := less_no hls
        rw [hge]
        go_wp2_with fail
        obtain ⟨V0, hV0⟩ : ∃ V0, wr.drew = V0 := ⟨_, rfl⟩
        have B0 : Below wr.heap.size wr V0 := by rw [← hV0]; exact (Below.refl _ wr).drew
        have hqV : q < V0.heap.size := Nat.lt_of_lt_of_le hqr B0.size
        have hgV : g < V0.heap.size := by have := hbw.size; have := B0.size; omega
        replace c0 := (B0.cell (p := ⟨g, _, none⟩) (Nat.lt_of_lt_of_le hgl hbw.size)).trans ((hbw.cell (p := ⟨g, _, none⟩) hgl).trans c0)
        replace c1 := (B0.cell (p := ⟨g, _, none⟩) (Nat.lt_of_lt_of_le hgl hbw.size)).trans ((hbw.cell (p := ⟨g, _, none⟩) hgl).trans c1)
        replace c2 := (B0.cell (p := ⟨g, _, none⟩) (Nat.lt_of_lt_of_le hgl hbw.size)).trans ((hbw.cell (p := ⟨g, _, none⟩) hgl).trans c2)
        replace b0 := (B0.cell (p := ⟨q, _, none⟩) hqr).trans b0
        replace b1 := (B0.cell (p := ⟨q, _, none⟩) hqr).trans b1
        replace b2 := (B0.cell (p := ⟨q, _, none⟩) hqr).trans b2
        refine region_rel (S := fun V => Below V0.heap.size V0 V) (fun a Wz => ∃ xx : Nat → Value, (Below wr.heap.size wr Wz) ∧ a = { tmps := #[.slice (some ⟨g, 0, none⟩) m gc, .func (.func 17) #[] #[], .agg #[.string x.1, .bool x.2.1, .int .i64 x.2.2], undef, undef, .pointer (some ⟨q, 0, none⟩), .slice none 0 0, .int .i64 k, .slice ao m0 cap0, .func (.func 17) #[] #[], .func (.func 17) #[] #[], .agg #[.string x.1, .bool x.2.1, .int .i64 x.2.2], .string x.1, .slice (some ⟨g, 0, none⟩) m gc, xx 14, xx 15, xx 16, xx 17, xx 18, xx 19, xx 20, xx 21, xx 22, xx 23, xx 24, xx 25, xx 26, xx 27, xx 28, .bool false, xx 30, xx 31, undef, undef, undef, undef, undef], defers := [] }) (by kernel_rfl) ?anyn ?finn
        case anyn =>
          rw [hV0]
          clear hV0
          have S0 : Below V0.heap.size V0 V0 := Below.refl _ _
          refine anyH_take (i := 0) (v := .int .i64 k) rfl (some 14) rfl (by kernel_rfl) (by kernel_rfl) (by kernel_rfl) (fun _ _ _ h => by cases h.1) (by kernel_rfl) (fun w0 hw0 => by first | rfl | kernel_rfl) S0 ?_
          simp only [Act.put, List.setIfInBounds_toArray, List.set_cons_zero, List.set_cons_succ]
          refine anyH_take (i := 1) (v := .slice (some ⟨g, 0, none⟩) m gc) rfl (some 15) rfl (by kernel_rfl) (by kernel_rfl) (by kernel_rfl) (fun _ _ _ h => by cases h.1) (by kernel_rfl) (fun w0 hw0 => by first | rfl | kernel_rfl) S0 ?_
          simp only [Act.put, List.setIfInBounds_toArray, List.set_cons_zero, List.set_cons_succ]
          refine anyH_take (i := 2) (v := .int .i64 m) rfl (some 16) rfl (by kernel_rfl) (by kernel_rfl) (by kernel_rfl) (fun _ _ _ h => by cases h.1) (by kernel_rfl) (fun w0 hw0 => by first | rfl | kernel_rfl) S0 ?_
          simp only [Act.put, List.setIfInBounds_toArray, List.set_cons_zero, List.set_cons_succ]
          refine anyH_take (i := 3) (v := .bool true) rfl (some 17) rfl (by kernel_rfl) (by kernel_rfl) (by kernel_rfl) (fun _ _ _ h => by cases h.1) (by kernel_rfl) (fun _ _ => ex_lssI rfl rfl rfl hcmp) S0 ?_
          simp only [Act.put, List.setIfInBounds_toArray, List.set_cons_zero, List.set_cons_succ]
          refine anyH_take (i := 4) (v := .bool true) rfl (some 18) rfl (by kernel_rfl) (by kernel_rfl) (by kernel_rfl) (fun _ _ _ h => by cases h.1) (by kernel_rfl) (fun w0 hw0 => by first | rfl | kernel_rfl) S0 ?_
          simp only [Act.put, List.setIfInBounds_toArray, List.set_cons_zero, List.set_cons_succ]
          refine anyH_take (i := 5) (v := .func (.func 17) #[] #[]) rfl (some 19) rfl (by kernel_rfl) (by kernel_rfl) (by kernel_rfl) (fun _ _ _ h => by cases h.1) (by kernel_rfl) (fun w0 hw0 => by first | rfl | kernel_rfl) S0 ?_
          simp only [Act.put, List.setIfInBounds_toArray, List.set_cons_zero, List.set_cons_succ]
          refine anyH_take (i := 6) (v := .slice (some ⟨g, 0, none⟩) m gc) rfl (some 20) rfl (by kernel_rfl) (by kernel_rfl) (by kernel_rfl) (fun _ _ _ h => by cases h.1) (by kernel_rfl) (fun w0 hw0 => by first | rfl | kernel_rfl) S0 ?_
          simp only [Act.put, List.setIfInBounds_toArray, List.set_cons_zero, List.set_cons_succ]
          refine anyH_take (i := 7) (v := .int .i64 k) rfl (some 21) rfl (by kernel_rfl) (by kernel_rfl) (by kernel_rfl) (fun _ _ _ h => by cases h.1) (by kernel_rfl) (fun w0 hw0 => by first | rfl | kernel_rfl) S0 ?_
          simp only [Act.put, List.setIfInBounds_toArray, List.set_cons_zero, List.set_cons_succ]
          refine anyH_take (i := 8) (v := .pointer (some ⟨g, 0 + k * 3, none⟩)) rfl (some 22) rfl (by kernel_rfl) (by kernel_rfl) (by kernel_rfl) (fun _ _ _ h => by cases h.1) (by kernel_rfl) (fun _ _ => ex_idxSub rfl rfl rfl hklt) S0 ?_
          simp only [Act.put, List.setIfInBounds_toArray, List.set_cons_zero, List.set_cons_succ]
          refine anyH_take (i := 9) (v := .agg #[.string y.1, .bool y.2.1, .int .i64 y.2.2]) rfl (some 23) rfl (by kernel_rfl) (by kernel_rfl) (by kernel_rfl) (fun _ _ _ h => by cases h.1) (by kernel_rfl) (fun w0 hw0 => ex_load rfl rfl (load_s ((hw0.cell (p := ⟨g, _, none⟩) hgV).trans c0) ((hw0.cell (p := ⟨g, _, none⟩) hgV).trans c1) ((hw0.cell (p := ⟨g, _, none⟩) hgV).trans c2))) S0 ?_
          simp only [Act.put, List.setIfInBounds_toArray, List.set_cons_zero, List.set_cons_succ]
          refine anyH_take (i := 11) (v := .func (.func 17) #[] #[]) rfl (some 25) rfl (by kernel_rfl) (by kernel_rfl) (by kernel_rfl) (fun _ _ _ h => by cases h.1) (by kernel_rfl) (fun w0 hw0 => by first | rfl | kernel_rfl) S0 ?_
          simp only [Act.put, List.setIfInBounds_toArray, List.set_cons_zero, List.set_cons_succ]
          refine anyH_take (i := 12) (v := .agg #[.string x.1, .bool x.2.1, .int .i64 x.2.2]) rfl (some 26) rfl (by kernel_rfl) (by kernel_rfl) (by kernel_rfl) (fun _ _ _ h => by cases h.1) (by kernel_rfl) (fun w0 hw0 => ex_load rfl rfl (load_s ((hw0.cell (p := ⟨q, 0, none⟩) hqV).trans b0) ((hw0.cell (p := ⟨q, 1, none⟩) hqV).trans b1) ((hw0.cell (p := ⟨q, 2, none⟩) hqV).trans b2))) S0 ?_
          simp only [Act.put, List.setIfInBounds_toArray, List.set_cons_zero, List.set_cons_succ]
          refine anyH_one (i := 10) (by kernel_rfl) ?_
          refine op_callv rfl (some 24) rfl (by kernel_rfl) #[.agg #[.string y.1, .bool y.2.1, .int .i64 y.2.2]] rfl rfl (by simp [Act.eval]) (fun _ _ => rfl) (sKey_any y V0) ?_
          rintro e V1 ⟨rfl, c1_⟩
          have b1 : Below V0.heap.size V0 V1 := c1_
          refine ⟨_, rfl, S0.trans (b1.mono S0.size), ?_⟩
          simp only [Act.put, List.setIfInBounds_toArray, List.set_cons_zero, List.set_cons_succ]
          refine anyH_more (fun V => Below V1.heap.size V1 V) (fun V hV => S0.trans ((b1.trans (hV.mono b1.size)).mono S0.size)) ?_
          have S1 : Below V1.heap.size V1 V1 := Below.refl _ _
          have B1 : Below wr.heap.size wr V1 := B0.trans (b1.mono B0.size)
          refine anyH_one (i := 13) (by kernel_rfl) ?_
          refine op_callv rfl (some 27) rfl (by kernel_rfl) #[.agg #[.string x.1, .bool x.2.1, .int .i64 x.2.2]] rfl rfl (by simp [Act.eval]) (fun _ _ => rfl) (sKey_any x V1) ?_
          rintro e V2 ⟨rfl, c2_⟩
          have b2 : Below V1.heap.size V1 V2 := c2_
          refine ⟨_, rfl, S1.trans (b2.mono S1.size), ?_⟩
          simp only [Act.put, List.setIfInBounds_toArray, List.set_cons_zero, List.set_cons_succ]
          refine anyH_more (fun V => Below V2.heap.size V2 V) (fun V hV => S1.trans ((b2.trans (hV.mono b2.size)).mono S1.size)) ?_
          have S2 : Below V2.heap.size V2 V2 := Below.refl _ _
          have B2 : Below wr.heap.size wr V2 := B1.trans (b2.mono B1.size)
          refine anyH_take (i := 14) (v := .bool false) rfl (some 28) rfl (by kernel_rfl) (by kernel_rfl) (by kernel_rfl) (fun _ _ _ h => by cases h.1) (by kernel_rfl) (fun _ _ => ex_lssS rfl rfl rfl hles) S2 ?_
          simp only [Act.put, List.setIfInBounds_toArray, List.set_cons_zero, List.set_cons_succ]
          refine anyH_val (i := 15) (by kernel_rfl) rfl (some 29) rfl (by kernel_rfl) (ex_pkT rfl rfl rfl) S2 ?_
          simp only [Act.put, List.setIfInBounds_toArray, List.set_cons_zero, List.set_cons_succ]
          exact wpAnyH_done (by kernel_rfl) ⟨rfl, fill (B2) (by kernel_rfl)⟩ _
        case finn =>
          rintro a W ⟨xx, hB, rfl⟩
          have htw := tw_at (p := fun y : ByteArray × Bool × Int => decide (y.1.toList < x.1.toList)) (F := F) (k := k) (fun y hy => decide_eq_true (hall y hy)) (fun y' hy' => by rw [hy] at hy'; cases hy'; exact decide_eq_false hls)
          have HT := hide htw
          have hown2' := H2.out.2.2.2.1
          rw [hge] at hown2'
          clear htw
          have HB := hide (And.intro (hbw.trans (hB.mono hbw.size)) ((hB.block _ hqr).trans fq))
          clear hB B0 hV0 hgV c0 c1 c2 b0 b1 b2 hbw fq hles hls hall hy
          obtain ⟨W3, hbs, f3, b3⟩ := one_s x W
          have hqW : q < W.heap.size := (Array.getElem?_eq_some_iff.1 HB.out.2).1
          have hown3 : W3.ownsRow w1.heap.size 43 3 (.slice (some ⟨g, 0, none⟩) F.length gc) F.length (sC F) := own_same hown2' (fun g e => (b3.block _ (Nat.lt_of_lt_of_le (own_lt hown2' g e) HB.out.1.size)).trans (HB.out.1.block _ (own_lt hown2' g e)))
          have hins := ins_s F x _ W.heap.size w1.heap.size k W3 hown3 f3 (fun g' e => by have h1 := own_lt hown2' g' e; have h2 := HB.out.1.size; omega) hFl (Nat.le_trans hbase (Nat.le_trans HB.out.1.size b3.size)) (by rw [H2.out.2.2.2.2.1]; exact hkm)
          rw [H2.out.2.2.2.2.1] at hins
          have HI := hide hins
          have Hb3 := hide b3
          obtain ⟨d0, d1, d2, _, _, _⟩ := cells_s HB.out.2
          have hl3 := load_s d0 d1 d2
          clear hown2' hins hown3 b3 f3 d0 d1 d2
          go_wp2_with (refine l_load _ hl3 rfl rfl rfl ?_; refine stopNd ?_)
          unfold Hid
          refine l_val rfl _ (ex_sliceI (us := #[(0, .agg #[.string x.1, .bool x.2.1, .int .i64 x.2.2])]) rfl (by simp [Act.eval]) hbs) ?_
          clear hl3 hbs
          go_wp2_with fail
          refine HI.out.mono ?_
          rintro e W4 ⟨v4, rfl, hown4, b4⟩
          have H4 := hide (And.intro (own_lowN hown4 (Nat.le_of_lt H2.out.2.2.2.2.2.1)) (H2.out.1.trans ((HB.out.1.mono H2.out.1.size).trans ((Hb3.out.mono (Nat.le_trans H2.out.1.size HB.out.1.size)).trans (b4.mono (Nat.le_of_lt H2.out.2.2.2.2.2.1))))))
          clear hown4 b4
          go_wp2_with fail
          go_ret
          rw [HT.out.1, HT.out.2]
          exact ⟨_, rfl, H4.out.1, H4.out.2⟩
    · have hkm' : k = m := by omega
      subst hkm'
      have hcmp : decide ((k : Int) < k) = false := decide_eq_false (by omega)
      go_wp2_with fail
      obtain ⟨V0, hV0⟩ : ∃ V0, wr.drew = V0 := ⟨_, rfl⟩
      have B0 : Below wr.heap.size wr V0 := by rw [← hV0]; exact (Below.refl _ wr).drew
      have hqV : q < V0.heap.size := Nat.lt_of_lt_of_le hqr B0.size
      replace b0 := (B0.cell (p := ⟨q, _, none⟩) hqr).trans b0
      replace b1 := (B0.cell (p := ⟨q, _, none⟩) hqr).trans b1
      replace b2 := (B0.cell (p := ⟨q, _, none⟩) hqr).trans b2
      refine region_rel (S := fun V => Below V0.heap.size V0 V) (fun a Wz => ∃ xx : Nat → Value, (Below wr.heap.size wr Wz) ∧ a = { tmps := #[.slice ga k gc, .func (.func 17) #[] #[], .agg #[.string x.1, .bool x.2.1, .int .i64 x.2.2], undef, undef, .pointer (some ⟨q, 0, none⟩), .slice none 0 0, .int .i64 k, .slice ao m0 cap0, .func (.func 17) #[] #[], .func (.func 17) #[] #[], .agg #[.string x.1, .bool x.2.1, .int .i64 x.2.2], .string x.1, .slice ga k gc, xx 14, xx 15, xx 16, xx 17, xx 18, xx 19, xx 20, xx 21, xx 22, xx 23, xx 24, xx 25, xx 26, xx 27, xx 28, .bool false, xx 30, xx 31, undef, undef, undef, undef, undef], defers := [] }) (by kernel_rfl) ?anyf ?finf
      case anyf =>
        rw [hV0]
        clear hV0
        have S0 : Below V0.heap.size V0 V0 := Below.refl _ _
        refine anyH_take (i := 0) (v := .int .i64 k) rfl (some 14) rfl (by kernel_rfl) (by kernel_rfl) (by kernel_rfl) (fun _ _ _ h => by cases h.1) (by kernel_rfl) (fun w0 hw0 => by first | rfl | kernel_rfl) S0 ?_
        simp only [Act.put, List.setIfInBounds_toArray, List.set_cons_zero, List.set_cons_succ]
        refine anyH_take (i := 1) (v := .slice ga k gc) rfl (some 15) rfl (by kernel_rfl) (by kernel_rfl) (by kernel_rfl) (fun _ _ _ h => by cases h.1) (by kernel_rfl) (fun w0 hw0 => by first | rfl | kernel_rfl) S0 ?_
        simp only [Act.put, List.setIfInBounds_toArray, List.set_cons_zero, List.set_cons_succ]
        refine anyH_take (i := 2) (v := .int .i64 k) rfl (some 16) rfl (by kernel_rfl) (by kernel_rfl) (by kernel_rfl) (fun _ _ _ h => by cases h.1) (by kernel_rfl) (fun w0 hw0 => by first | rfl | kernel_rfl) S0 ?_
        simp only [Act.put, List.setIfInBounds_toArray, List.set_cons_zero, List.set_cons_succ]
        refine anyH_take (i := 3) (v := .bool false) rfl (some 17) rfl (by kernel_rfl) (by kernel_rfl) (by kernel_rfl) (fun _ _ _ h => by cases h.1) (by kernel_rfl) (fun _ _ => ex_lssI rfl rfl rfl hcmp) S0 ?_
        simp only [Act.put, List.setIfInBounds_toArray, List.set_cons_zero, List.set_cons_succ]
        refine anyH_take (i := 4) (v := .bool false) rfl (some 18) rfl (by kernel_rfl) (by kernel_rfl) (by kernel_rfl) (fun _ _ _ h => by cases h.1) (by kernel_rfl) (fun w0 hw0 => by first | rfl | kernel_rfl) S0 ?_
        simp only [Act.put, List.setIfInBounds_toArray, List.set_cons_zero, List.set_cons_succ]
        refine anyH_off (i := 5) rfl (some 19) rfl (by kernel_rfl) (by kernel_rfl) (by kernel_rfl) (fun _ _ _ h => by cases h.1) (by kernel_rfl) S0 ?_
        simp only [Act.put, List.setIfInBounds_toArray, List.set_cons_zero, List.set_cons_succ]
        refine anyH_off (i := 6) rfl (some 20) rfl (by kernel_rfl) (by kernel_rfl) (by kernel_rfl) (fun _ _ _ h => by cases h.1) (by kernel_rfl) S0 ?_
        simp only [Act.put, List.setIfInBounds_toArray, List.set_cons_zero, List.set_cons_succ]
        refine anyH_off (i := 7) rfl (some 21) rfl (by kernel_rfl) (by kernel_rfl) (by kernel_rfl) (fun _ _ _ h => by cases h.1) (by kernel_rfl) S0 ?_
        simp only [Act.put, List.setIfInBounds_toArray, List.set_cons_zero, List.set_cons_succ]
        refine anyH_off (i := 8) rfl (some 22) rfl (by kernel_rfl) (by kernel_rfl) (by kernel_rfl) (fun _ _ _ h => by cases h.1) (by kernel_rfl) S0 ?_
        simp only [Act.put, List.setIfInBounds_toArray, List.set_cons_zero, List.set_cons_succ]
        refine anyH_off (i := 9) rfl (some 23) rfl (by kernel_rfl) (by kernel_rfl) (by kernel_rfl) (fun _ _ _ h => by cases h.1) (by kernel_rfl) S0 ?_
        simp only [Act.put, List.setIfInBounds_toArray, List.set_cons_zero, List.set_cons_succ]
        refine anyH_off (i := 11) rfl (some 25) rfl (by kernel_rfl) (by kernel_rfl) (by kernel_rfl) (fun _ _ _ h => by cases h.1) (by kernel_rfl) S0 ?_
        simp only [Act.put, List.setIfInBounds_toArray, List.set_cons_zero, List.set_cons_succ]
        refine anyH_off (i := 12) rfl (some 26) rfl (by kernel_rfl) (by kernel_rfl) (by kernel_rfl) (fun _ _ _ h => by cases h.1) (by kernel_rfl) S0 ?_
        simp only [Act.put, List.setIfInBounds_toArray, List.set_cons_zero, List.set_cons_succ]
        refine anyH_off (i := 10) rfl (some 24) rfl (by kernel_rfl) (by kernel_rfl) (by kernel_rfl) (fun _ _ _ h => by cases h.1) (by kernel_rfl) S0 ?_
        simp only [Act.put, List.setIfInBounds_toArray, List.set_cons_zero, List.set_cons_succ]
        refine anyH_off (i := 13) rfl (some 27) rfl (by kernel_rfl) (by kernel_rfl) (by kernel_rfl) (fun _ _ _ h => by cases h.1) (by kernel_rfl) S0 ?_
        simp only [Act.put, List.setIfInBounds_toArray, List.set_cons_zero, List.set_cons_succ]
        refine anyH_off (i := 14) rfl (some 28) rfl (by kernel_rfl) (by kernel_rfl) (by kernel_rfl) (fun _ _ _ h => by cases h.1) (by kernel_rfl) S0 ?_
        simp only [Act.put, List.setIfInBounds_toArray, List.set_cons_zero, List.set_cons_succ]
        refine anyH_val (i := 15) (by kernel_rfl) rfl (some 29) rfl (by kernel_rfl) (ex_pkF rfl rfl rfl) S0 ?_
        simp only [Act.put, List.setIfInBounds_toArray, List.set_cons_zero, List.set_cons_succ]
        exact wpAnyH_done (by kernel_rfl) ⟨rfl, fill (B0) (by kernel_rfl)⟩ _
      case finf =>
        rintro a W ⟨xx, hB, rfl⟩
        have htw := tw_at (p := fun y : ByteArray × Bool × Int => decide (y.1.toList < x.1.toList)) (F := F) (k := k) (fun y hy => decide_eq_true (hall y hy)) (fun y' hy' => by have := (List.getElem?_eq_some_iff.1 hy').1; have := H2.out.2.2.2.2.1; omega)
        have HT := hide htw
        have hown2' := H2.out.2.2.2.1
        clear htw
        have HB := hide (And.intro (hbw.trans (hB.mono hbw.size)) ((hB.block _ hqr).trans fq))
        clear hB B0 hV0 b0 b1 b2 hbw fq hall
        obtain ⟨W3, hbs, f3, b3⟩ := one_s x W
        have hqW : q < W.heap.size := (Array.getElem?_eq_some_iff.1 HB.out.2).1
        have hown3 : W3.ownsRow w1.heap.size 43 3 (.slice ga F.length gc) F.length (sC F) := own_same hown2' (fun g e => (b3.block _ (Nat.lt_of_lt_of_le (own_lt hown2' g e) HB.out.1.size)).trans (HB.out.1.block _ (own_lt hown2' g e)))
        have hins := ins_s F x _ W.heap.size w1.heap.size k W3 hown3 f3 (fun g' e => by have h1 := own_lt hown2' g' e; have h2 := HB.out.1.size; omega) hFl (Nat.le_trans hbase (Nat.le_trans HB.out.1.size b3.size)) (by rw [H2.out.2.2.2.2.1]; exact hkm)
        rw [H2.out.2.2.2.2.1] at hins
        have HI := hide hins
        have Hb3 := hide b3
        obtain ⟨d0, d1, d2, _, _, _⟩ := cells_s HB.out.2
        have hl3 := load_s d0 d1 d2
        clear hown2' hins hown3 b3 f3 d0 d1 d2
        go_wp2_with (refine l_load _ hl3 rfl rfl rfl ?_; refine stopNd ?_)
        unfold Hid
        refine l_val rfl _ (ex_sliceI (us := #[(0, .agg #[.string x.1, .bool x.2.1, .int .i64 x.2.2])]) rfl (by simp [Act.eval]) hbs) ?_
        clear hl3 hbs
        go_wp2_with fail
        refine HI.out.mono ?_
        rintro e W4 ⟨v4, rfl, hown4, b4⟩
        have H4 := hide (And.intro (own_lowN hown4 (Nat.le_of_lt H2.out.2.2.2.2.2.1)) (H2.out.1.trans ((HB.out.1.mono H2.out.1.size).trans ((Hb3.out.mono (Nat.le_trans H2.out.1.size HB.out.1.size)).trans (b4.mono (Nat.le_of_lt H2.out.2.2.2.2.2.1))))))
        clear hown4 b4
        go_wp2_with fail
        go_ret
        rw [HT.out.1, HT.out.2]
        exact ⟨_, rfl, H4.out.1, H4.out.2⟩
/-- Affiliations with this one in its place. -/
def inAff (x : ByteArray × Nat) (L : List (ByteArray × Nat)) : List (ByteArray × Nat) := (woAff x.1 L).takeWhile (fun y => decide (y.1.toList < x.1.toList)) ++ x :: (woAff x.1 L).dropWhile (fun y => decide (y.1.toList < x.1.toList))
theorem ins_a (L : List (ByteArray × Nat)) (x : ByteArray × Nat) (v : Value) (bx base i : Nat) (w : World) (hown : w.ownsRow base 25 2 v L.length (aC L)) (hx : w.heap[bx]? = some (.cells #[.string x.1, .int .u8 x.2] 25)) (hne : ∀ g, v.ownBlock = some g → g ≠ bx) (hl : L.length ≤ 1000000) (hb : base ≤ w.heap.size) (hi : i ≤ L.length) :
    Calls Tryz.prog 83 #[v, .int .i64 i, .slice (some ⟨bx, 0, none⟩) 1 1] w fun e w' => ∃ v', e = .returned v' ∧ w'.ownsRow base 25 2 v' (L.take i ++ x :: L.drop i).length (aC (L.take i ++ x :: L.drop i)) ∧ Below base w w' := by
  by_cases h : i = L.length
  · subst h
    have := insEnd_a L x v bx base w hown hx hl hb
    rw [List.take_length, List.drop_length]
    exact this
  · exact insMid_a L x v bx base i w hown hx hne hl hb (by omega)
set_option maxRecDepth 100000 in
set_option maxHeartbeats 4000000 in
theorem with_a (ao : Option Addr) (cap0 : Nat) (L : List (ByteArray × Nat)) (x : ByteArray × Nat) (w : World) (hm : AffMem w.heap.size w ao L) :
    Calls Tryz.prog 56 #[.slice ao L.length cap0, .func (.func 32) #[] #[], .agg #[.string x.1, .int .u8 x.2]] w fun e w' => ∃ v', e = .returned v' ∧ w'.ownsRow w.heap.size 25 2 v' (inAff x L).length (aC (inAff x L)) ∧ Below w.heap.size w w' := by
  have hl := hm.1
  obtain ⟨Wa, hWa⟩ : ∃ Wa, w.alloc (.cells #[.string x.1, .int .u8 x.2] 25) = Wa := ⟨_, rfl⟩
  have fa := World.alloc_heap_new w (.cells #[.string x.1, .int .u8 x.2] 25)
  have ba : Below w.heap.size w Wa := by rw [← hWa]; exact (Below.refl _ w).alloc (Nat.le_refl _) _
  have za : Wa.heap.size = w.heap.size + 1 := by rw [← hWa]; simp
  rw [hWa] at fa
  have HK := hide (aKey_any x Wa)
  have HH := hide (And.intro hm (And.intro fa (And.intro ba za)))
  have HW := hide hWa
  obtain ⟨m0, hml⟩ : ∃ m0, L.length = m0 := ⟨_, rfl⟩
  obtain ⟨F, hF⟩ : ∃ F, woAff x.1 L = F := ⟨_, rfl⟩
  have hFl : F.length ≤ 1000000 := by rw [← hF]; exact Nat.le_trans (List.length_filter_le _ _) hl
  have HF := hide (And.intro hF hml)
  have hin : inAff x L = F.takeWhile (fun y => decide (y.1.toList < x.1.toList)) ++ x :: F.dropWhile (fun y => decide (y.1.toList < x.1.toList)) := by rw [← hF]; rfl
  rw [hin]
  rw [hml]
  rw [← hWa] at HK
  clear hin hm fa ba za hF hWa hml hl
  go_enter Tryz.func56, Tryz.ntmps56
  go_wp2_with fail
  refine HK.out.mono ?_
  rintro e w1 ⟨rfl, b1⟩
  have B1 : Below w.heap.size w w1 := by
    have h : _ = Wa := HW.out
    rw [h] at b1
    exact HH.out.2.2.1.trans (b1.mono HH.out.2.2.1.size)
  have f1 : w1.heap[w.heap.size]? = some (.cells #[.string x.1, .int .u8 x.2] 25) := by
    have h : _ = Wa := HW.out
    rw [h] at b1
    exact (b1.block _ (by have := HH.out.2.2.2; omega)).trans HH.out.2.1
  have hwo := without_a ao cap0 L x.1 w1 ((HH.out.1.below B1).raise B1.size)
  rw [HF.out.1, HF.out.2] at hwo
  have HWo := hide hwo
  have H1 := hide (And.intro B1 f1)
  clear hwo B1 f1 b1 HK
  go_wp2_with fail
  refine HWo.out.mono ?_
  rintro e w2 ⟨v2, rfl, hown2, b2⟩
  have B2 : Below w.heap.size w w2 := H1.out.1.trans (b2.mono H1.out.1.size)
  have hq1 := (Array.getElem?_eq_some_iff.1 H1.out.2).1
  have f2 := (b2.block _ hq1).trans H1.out.2
  obtain ⟨ga, gc, rfl, hm2, hgc, _, hg2⟩ := own_a hown2 hFl
  obtain ⟨m, hmF⟩ : ∃ m, F.length = m := ⟨_, rfl⟩
  have hm6 : m ≤ 1000000 := by omega
  obtain ⟨q, hq⟩ : ∃ q, w.heap.size = q := ⟨_, rfl⟩
  have hbase := b2.size
  have hq2 : w.heap.size < w1.heap.size := hq1
  have H2 := hide (And.intro B2 (And.intro f2 (And.intro hm2 (And.intro hown2 (And.intro hmF (And.intro hq2 hg2))))))
  rw [hmF]
  clear B2 f2 hm2 hown2 b2 hq1 HWo hmF hg2 hq2
  go_wp2_with fail
  go_loopw [7] (fun iv wr => ∃ k : Nat, k ≤ m ∧ iv = .int .i64 k ∧ (∀ y ∈ F.take k, y.1.toList < x.1.toList) ∧ Below w2.heap.size w2 wr) (fun iv _ => m - (intOf iv).toNat)
  case atStart => exact ⟨0, Nat.zero_le _, rfl, by simp, Below.refl _ _⟩
  case round =>
    obtain ⟨k, hkm, rfl, hall, hbw⟩ := hrel
    have fq := (hbw.block _ (by have := H2.out.2.2.2.2.2.1; have := H2.out.1.size; omega)).trans H2.out.2.1
    rw [hq] at fq
    have hqr : q < wr.heap.size := (Array.getElem?_eq_some_iff.1 fq).1
    obtain ⟨b0, b1⟩ := cell01 fq
    by_cases hlt : (k : Int) < m
    · have hklt : k < m := by omega
      obtain ⟨y, hy⟩ : ∃ y, F[k]? = some y := ⟨_, List.getElem?_eq_getElem (by have := H2.out.2.2.2.2.1; omega)⟩
      obtain ⟨g, off, hge, hgl, c0, c1⟩ := H2.out.2.2.1.2 k y hy
      have hoff : off = 0 := (H2.out.2.2.2.2.2.2 _ hge).2
      subst hoff
      have hcmp : decide ((k : Int) < m) = true := decide_eq_true hlt
      by_cases hls : y.1.toList < x.1.toList
      · have hles : Op.bytesLess y.1.toList x.1.toList = true := less_yes hls
        have hall2 : ∀ z ∈ F.take (k + 1), z.1.toList < x.1.toList := fun z hz => by
          rw [List.take_add_one, hy] at hz
          rcases List.mem_append.1 hz with hz | hz
          · exact hall z hz
          · simp at hz
            rw [hz]
            exact hls
        rw [hge]
        go_wp2_with fail
        obtain ⟨V0, hV0⟩ : ∃ V0, wr.drew = V0 := ⟨_, rfl⟩
        have B0 : Below wr.heap.size wr V0 := by rw [← hV0]; exact (Below.refl _ wr).drew
        have hqV : q < V0.heap.size := Nat.lt_of_lt_of_le hqr B0.size
        have hgV : g < V0.heap.size := by have := hbw.size; have := B0.size; omega
        replace c0 := (B0.cell (p := ⟨g, _, none⟩) (Nat.lt_of_lt_of_le hgl hbw.size)).trans ((hbw.cell (p := ⟨g, _, none⟩) hgl).trans c0)
        replace c1 := (B0.cell (p := ⟨g, _, none⟩) (Nat.lt_of_lt_of_le hgl hbw.size)).trans ((hbw.cell (p := ⟨g, _, none⟩) hgl).trans c1)
        replace b0 := (B0.cell (p := ⟨q, _, none⟩) hqr).trans b0
        replace b1 := (B0.cell (p := ⟨q, _, none⟩) hqr).trans b1
        refine region_rel (S := fun V => Below V0.heap.size V0 V) (fun a Wz => ∃ xx : Nat → Value, (Below wr.heap.size wr Wz) ∧ a = { tmps := #[.slice (some ⟨g, 0, none⟩) m gc, .func (.func 32) #[] #[], .agg #[.string x.1, .int .u8 x.2], undef, undef, .pointer (some ⟨q, 0, none⟩), .slice none 0 0, .int .i64 k, .slice ao m0 cap0, .func (.func 32) #[] #[], .func (.func 32) #[] #[], .agg #[.string x.1, .int .u8 x.2], .string x.1, .slice (some ⟨g, 0, none⟩) m gc, xx 14, xx 15, xx 16, xx 17, xx 18, xx 19, xx 20, xx 21, xx 22, xx 23, xx 24, xx 25, xx 26, xx 27, xx 28, .bool true, xx 30, xx 31, undef, undef, undef, undef, undef], defers := [] }) (by kernel_rfl) ?anyt ?fint
        case anyt =>
          rw [hV0]
          clear hV0
          have S0 : Below V0.heap.size V0 V0 := Below.refl _ _
          refine anyH_take (i := 0) (v := .int .i64 k) rfl (some 14) rfl (by kernel_rfl) (by kernel_rfl) (by kernel_rfl) (fun _ _ _ h => by cases h.1) (by kernel_rfl) (fun w0 hw0 => by first | rfl | kernel_rfl) S0 ?_
          simp only [Act.put, List.setIfInBounds_toArray, List.set_cons_zero, List.set_cons_succ]
          refine anyH_take (i := 1) (v := .slice (some ⟨g, 0, none⟩) m gc) rfl (some 15) rfl (by kernel_rfl) (by kernel_rfl) (by kernel_rfl) (fun _ _ _ h => by cases h.1) (by kernel_rfl) (fun w0 hw0 => by first | rfl | kernel_rfl) S0 ?_
          simp only [Act.put, List.setIfInBounds_toArray, List.set_cons_zero, List.set_cons_succ]
          refine anyH_take (i := 2) (v := .int .i64 m) rfl (some 16) rfl (by kernel_rfl) (by kernel_rfl) (by kernel_rfl) (fun _ _ _ h => by cases h.1) (by kernel_rfl) (fun w0 hw0 => by first | rfl | kernel_rfl) S0 ?_
          simp only [Act.put, List.setIfInBounds_toArray, List.set_cons_zero, List.set_cons_succ]
          refine anyH_take (i := 3) (v := .bool true) rfl (some 17) rfl (by kernel_rfl) (by kernel_rfl) (by kernel_rfl) (fun _ _ _ h => by cases h.1) (by kernel_rfl) (fun _ _ => ex_lssI rfl rfl rfl hcmp) S0 ?_
          simp only [Act.put, List.setIfInBounds_toArray, List.set_cons_zero, List.set_cons_succ]
          refine anyH_take (i := 4) (v := .bool true) rfl (some 18) rfl (by kernel_rfl) (by kernel_rfl) (by kernel_rfl) (fun _ _ _ h => by cases h.1) (by kernel_rfl) (fun w0 hw0 => by first | rfl | kernel_rfl) S0 ?_
          simp only [Act.put, List.setIfInBounds_toArray, List.set_cons_zero, List.set_cons_succ]
          refine anyH_take (i := 5) (v := .func (.func 32) #[] #[]) rfl (some 19) rfl (by kernel_rfl) (by kernel_rfl) (by kernel_rfl) (fun _ _ _ h => by cases h.1) (by kernel_rfl) (fun w0 hw0 => by first | rfl | kernel_rfl) S0 ?_
          simp only [Act.put, List.setIfInBounds_toArray, List.set_cons_zero, List.set_cons_succ]
          refine anyH_take (i := 6) (v := .slice (some ⟨g, 0, none⟩) m gc) rfl (some 20) rfl (by kernel_rfl) (by kernel_rfl) (by kernel_rfl) (fun _ _ _ h => by cases h.1) (by kernel_rfl) (fun w0 hw0 => by first | rfl | kernel_rfl) S0 ?_
          simp only [Act.put, List.setIfInBounds_toArray, List.set_cons_zero, List.set_cons_succ]
          refine anyH_take (i := 7) (v := .int .i64 k) rfl (some 21) rfl (by kernel_rfl) (by kernel_rfl) (by kernel_rfl) (fun _ _ _ h => by cases h.1) (by kernel_rfl) (fun w0 hw0 => by first | rfl | kernel_rfl) S0 ?_
          simp only [Act.put, List.setIfInBounds_toArray, List.set_cons_zero, List.set_cons_succ]
          refine anyH_take (i := 8) (v := .pointer (some ⟨g, 0 + k * 2, none⟩)) rfl (some 22) rfl (by kernel_rfl) (by kernel_rfl) (by kernel_rfl) (fun _ _ _ h => by cases h.1) (by kernel_rfl) (fun _ _ => ex_idxAff rfl rfl rfl hklt) S0 ?_
          simp only [Act.put, List.setIfInBounds_toArray, List.set_cons_zero, List.set_cons_succ]
          refine anyH_take (i := 9) (v := .agg #[.string y.1, .int .u8 y.2]) rfl (some 23) rfl (by kernel_rfl) (by kernel_rfl) (by kernel_rfl) (fun _ _ _ h => by cases h.1) (by kernel_rfl) (fun w0 hw0 => ex_load rfl rfl (load_a ((hw0.cell (p := ⟨g, _, none⟩) hgV).trans c0) ((hw0.cell (p := ⟨g, _, none⟩) hgV).trans c1))) S0 ?_
          simp only [Act.put, List.setIfInBounds_toArray, List.set_cons_zero, List.set_cons_succ]
          refine anyH_take (i := 11) (v := .func (.func 32) #[] #[]) rfl (some 25) rfl (by kernel_rfl) (by kernel_rfl) (by kernel_rfl) (fun _ _ _ h => by cases h.1) (by kernel_rfl) (fun w0 hw0 => by first | rfl | kernel_rfl) S0 ?_
          simp only [Act.put, List.setIfInBounds_toArray, List.set_cons_zero, List.set_cons_succ]
          refine anyH_take (i := 12) (v := .agg #[.string x.1, .int .u8 x.2]) rfl (some 26) rfl (by kernel_rfl) (by kernel_rfl) (by kernel_rfl) (fun _ _ _ h => by cases h.1) (by kernel_rfl) (fun w0 hw0 => ex_load rfl rfl (load_a ((hw0.cell (p := ⟨q, 0, none⟩) hqV).trans b0) ((hw0.cell (p := ⟨q, 1, none⟩) hqV).trans b1))) S0 ?_
          simp only [Act.put, List.setIfInBounds_toArray, List.set_cons_zero, List.set_cons_succ]
          refine anyH_one (i := 10) (by kernel_rfl) ?_
          refine op_callv rfl (some 24) rfl (by kernel_rfl) #[.agg #[.string y.1, .int .u8 y.2]] rfl rfl (by simp [Act.eval]) (fun _ _ => rfl) (aKey_any y V0) ?_
          rintro e V1 ⟨rfl, c1_⟩
          have b1 : Below V0.heap.size V0 V1 := c1_
          refine ⟨_, rfl, S0.trans (b1.mono S0.size), ?_⟩
          simp only [Act.put, List.setIfInBounds_toArray, List.set_cons_zero, List.set_cons_succ]
          refine anyH_more (fun V => Below V1.heap.size V1 V) (fun V hV => S0.trans ((b1.trans (hV.mono b1.size)).mono S0.size)) ?_
          have S1 : Below V1.heap.size V1 V1 := Below.refl _ _
          have B1 : Below wr.heap.size wr V1 := B0.trans (b1.mono B0.size)
          refine anyH_one (i := 13) (by kernel_rfl) ?_
          refine op_callv rfl (some 27) rfl (by kernel_rfl) #[.agg #[.string x.1, .int .u8 x.2]] rfl rfl (by simp [Act.eval]) (fun _ _ => rfl) (aKey_any x V1) ?_
          rintro e V2 ⟨rfl, c2_⟩
          have b2 : Below V1.heap.size V1 V2 := c2_
          refine ⟨_, rfl, S1.trans (b2.mono S1.size), ?_⟩
          simp only [Act.put, List.setIfInBounds_toArray, List.set_cons_zero, List.set_cons_succ]
          refine anyH_more (fun V => Below V2.heap.size V2 V) (fun V hV => S1.trans ((b2.trans (hV.mono b2.size)).mono S1.size)) ?_
          have S2 : Below V2.heap.size V2 V2 := Below.refl _ _
          have B2 : Below wr.heap.size wr V2 := B1.trans (b2.mono B1.size)
          refine anyH_take (i := 14) (v := .bool true) rfl (some 28) rfl (by kernel_rfl) (by kernel_rfl) (by kernel_rfl) (fun _ _ _ h => by cases h.1) (by kernel_rfl) (fun _ _ => ex_lssS rfl rfl rfl hles) S2 ?_
          simp only [Act.put, List.setIfInBounds_toArray, List.set_cons_zero, List.set_cons_succ]
          refine anyH_val (i := 15) (by kernel_rfl) rfl (some 29) rfl (by kernel_rfl) (ex_pkT rfl rfl rfl) S2 ?_
          simp only [Act.put, List.setIfInBounds_toArray, List.set_cons_zero, List.set_cons_succ]
          exact wpAnyH_done (by kernel_rfl) ⟨rfl, fill (B2) (by kernel_rfl)⟩ _
        case fint =>
          rintro a W ⟨xx, hB, rfl⟩
          have HB := hide (And.intro hall2 (hbw.trans (hB.mono hbw.size)))
          clear hall2 hB B0 hV0 hgV c0 c1 b0 b1 hles hls hall
          go_wp2_with fail
          go_roundw
          case rel => exact ⟨k + 1, by omega, by simp, HB.out.1, HB.out.2⟩
          case measure => simp [intOf]; omega
      · have hles : Op.bytesLess y.1.toList x.1.toList = false := less_no hls
        rw [hge]
        go_wp2_with fail
        obtain ⟨V0, hV0⟩ : ∃ V0, wr.drew = V0 := ⟨_, rfl⟩
        have B0 : Below wr.heap.size wr V0 := by rw [← hV0]; exact (Below.refl _ wr).drew
        have hqV : q < V0.heap.size := Nat.lt_of_lt_of_le hqr B0.size
        have hgV : g < V0.heap.size := by have := hbw.size; have := B0.size; omega
        replace c0 := (B0.cell (p := ⟨g, _, none⟩) (Nat.lt_of_lt_of_le hgl hbw.size)).trans ((hbw.cell (p := ⟨g, _, none⟩) hgl).trans c0)
        replace c1 := (B0.cell (p := ⟨g, _, none⟩) (Nat.lt_of_lt_of_le hgl hbw.size)).trans ((hbw.cell (p := ⟨g, _, none⟩) hgl).trans c1)
        replace b0 := (B0.cell (p := ⟨q, _, none⟩) hqr).trans b0
        replace b1 := (B0.cell (p := ⟨q, _, none⟩) hqr).trans b1
        refine region_rel (S := fun V => Below V0.heap.size V0 V) (fun a Wz => ∃ xx : Nat → Value, (Below wr.heap.size wr Wz) ∧ a = { tmps := #[.slice (some ⟨g, 0, none⟩) m gc, .func (.func 32) #[] #[], .agg #[.string x.1, .int .u8 x.2], undef, undef, .pointer (some ⟨q, 0, none⟩), .slice none 0 0, .int .i64 k, .slice ao m0 cap0, .func (.func 32) #[] #[], .func (.func 32) #[] #[], .agg #[.string x.1, .int .u8 x.2], .string x.1, .slice (some ⟨g, 0, none⟩) m gc, xx 14, xx 15, xx 16, xx 17, xx 18, xx 19, xx 20, xx 21, xx 22, xx 23, xx 24, xx 25, xx 26, xx 27, xx 28, .bool false, xx 30, xx 31, undef, undef, undef, undef, undef], defers := [] }) (by kernel_rfl) ?anyn ?finn
        case anyn =>
          rw [hV0]
          clear hV0
          have S0 : Below V0.heap.size V0 V0 := Below.refl _ _
          refine anyH_take (i := 0) (v := .int .i64 k) rfl (some 14) rfl (by kernel_rfl) (by kernel_rfl) (by kernel_rfl) (fun _ _ _ h => by cases h.1) (by kernel_rfl) (fun w0 hw0 => by first | rfl | kernel_rfl) S0 ?_
          simp only [Act.put, List.setIfInBounds_toArray, List.set_cons_zero, List.set_cons_succ]
          refine anyH_take (i := 1) (v := .slice (some ⟨g, 0, none⟩) m gc) rfl (some 15) rfl (by kernel_rfl) (by kernel_rfl) (by kernel_rfl) (fun _ _ _ h => by cases h.1) (by kernel_rfl) (fun w0 hw0 => by first | rfl | kernel_rfl) S0 ?_
          simp only [Act.put, List.setIfInBounds_toArray, List.set_cons_zero, List.set_cons_succ]
          refine anyH_take (i := 2) (v := .int .i64 m) rfl (some 16) rfl (by kernel_rfl) (by kernel_rfl) (by kernel_rfl) (fun _ _ _ h => by cases h.1) (by kernel_rfl) (fun w0 hw0 => by first | rfl | kernel_rfl) S0 ?_
          simp only [Act.put, List.setIfInBounds_toArray, List.set_cons_zero, List.set_cons_succ]
          refine anyH_take (i := 3) (v := .bool true) rfl (some 17) rfl (by kernel_rfl) (by kernel_rfl) (by kernel_rfl) (fun _ _ _ h => by cases h.1) (by kernel_rfl) (fun _ _ => ex_lssI rfl rfl rfl hcmp) S0 ?_
          simp only [Act.put, List.setIfInBounds_toArray, List.set_cons_zero, List.set_cons_succ]
          refine anyH_take (i := 4) (v := .bool true) rfl (some 18) rfl (by kernel_rfl) (by kernel_rfl) (by kernel_rfl) (fun _ _ _ h => by cases h.1) (by kernel_rfl) (fun w0 hw0 => by first | rfl | kernel_rfl) S0 ?_
          simp only [Act.put, List.setIfInBounds_toArray, List.set_cons_zero, List.set_cons_succ]
          refine anyH_take (i := 5) (v := .func (.func 32) #[] #[]) rfl (some 19) rfl (by kernel_rfl) (by kernel_rfl) (by kernel_rfl) (fun _ _ _ h => by cases h.1) (by kernel_rfl) (fun w0 hw0 => by first | rfl | kernel_rfl) S0 ?_
          simp only [Act.put, List.setIfInBounds_toArray, List.set_cons_zero, List.set_cons_succ]
          refine anyH_take (i := 6) (v := .slice (some ⟨g, 0, none⟩) m gc) rfl (some 20) rfl (by kernel_rfl) (by kernel_rfl) (by kernel_rfl) (fun _ _ _ h => by cases h.1) (by kernel_rfl) (fun w0 hw0 => by first | rfl | kernel_rfl) S0 ?_
          simp only [Act.put, List.setIfInBounds_toArray, List.set_cons_zero, List.set_cons_succ]
          refine anyH_take (i := 7) (v := .int .i64 k) rfl (some 21) rfl (by kernel_rfl) (by kernel_rfl) (by kernel_rfl) (fun _ _ _ h => by cases h.1) (by kernel_rfl) (fun w0 hw0 => by first | rfl | kernel_rfl) S0 ?_
          simp only [Act.put, List.setIfInBounds_toArray, List.set_cons_zero, List.set_cons_succ]
          refine anyH_take (i := 8) (v := .pointer (some ⟨g, 0 + k * 2, none⟩)) rfl (some 22) rfl (by kernel_rfl) (by kernel_rfl) (by kernel_rfl) (fun _ _ _ h => by cases h.1) (by kernel_rfl) (fun _ _ => ex_idxAff rfl rfl rfl hklt) S0 ?_
          simp only [Act.put, List.setIfInBounds_toArray, List.set_cons_zero, List.set_cons_succ]
          refine anyH_take (i := 9) (v := .agg #[.string y.1, .int .u8 y.2]) rfl (some 23) rfl (by kernel_rfl) (by kernel_rfl) (by kernel_rfl) (fun _ _ _ h => by cases h.1) (by kernel_rfl) (fun w0 hw0 => ex_load rfl rfl (load_a ((hw0.cell (p := ⟨g, _, none⟩) hgV).trans c0) ((hw0.cell (p := ⟨g, _, none⟩) hgV).trans c1))) S0 ?_
          simp only [Act.put, List.setIfInBounds_toArray, List.set_cons_zero, List.set_cons_succ]
          refine anyH_take (i := 11) (v := .func (.func 32) #[] #[]) rfl (some 25) rfl (by kernel_rfl) (by kernel_rfl) (by kernel_rfl) (fun _ _ _ h => by cases h.1) (by kernel_rfl) (fun w0 hw0 => by first | rfl | kernel_rfl) S0 ?_
          simp only [Act.put, List.setIfInBounds_toArray, List.set_cons_zero, List.set_cons_succ]
          refine anyH_take (i := 12) (v := .agg #[.string x.1, .int .u8 x.2]) rfl (some 26) rfl (by kernel_rfl) (by kernel_rfl) (by kernel_rfl) (fun _ _ _ h => by cases h.1) (by kernel_rfl) (fun w0 hw0 => ex_load rfl rfl (load_a ((hw0.cell (p := ⟨q, 0, none⟩) hqV).trans b0) ((hw0.cell (p := ⟨q, 1, none⟩) hqV).trans b1))) S0 ?_
          simp only [Act.put, List.setIfInBounds_toArray, List.set_cons_zero, List.set_cons_succ]
          refine anyH_one (i := 10) (by kernel_rfl) ?_
          refine op_callv rfl (some 24) rfl (by kernel_rfl) #[.agg #[.string y.1, .int .u8 y.2]] rfl rfl (by simp [Act.eval]) (fun _ _ => rfl) (aKey_any y V0) ?_
          rintro e V1 ⟨rfl, c1_⟩
          have b1 : Below V0.heap.size V0 V1 := c1_
          refine ⟨_, rfl, S0.trans (b1.mono S0.size), ?_⟩
          simp only [Act.put, List.setIfInBounds_toArray, List.set_cons_zero, List.set_cons_succ]
          refine anyH_more (fun V => Below V1.heap.size V1 V) (fun V hV => S0.trans ((b1.trans (hV.mono b1.size)).mono S0.size)) ?_
          have S1 : Below V1.heap.size V1 V1 := Below.refl _ _
          have B1 : Below wr.heap.size wr V1 := B0.trans (b1.mono B0.size)
          refine anyH_one (i := 13) (by kernel_rfl) ?_
          refine op_callv rfl (some 27) rfl (by kernel_rfl) #[.agg #[.string x.1, .int .u8 x.2]] rfl rfl (by simp [Act.eval]) (fun _ _ => rfl) (aKey_any x V1) ?_
          rintro e V2 ⟨rfl, c2_⟩
          have b2 : Below V1.heap.size V1 V2 := c2_
          refine ⟨_, rfl, S1.trans (b2.mono S1.size), ?_⟩
          simp only [Act.put, List.setIfInBounds_toArray, List.set_cons_zero, List.set_cons_succ]
          refine anyH_more (fun V => Below V2.heap.size V2 V) (fun V hV => S1.trans ((b2.trans (hV.mono b2.size)).mono S1.size)) ?_
          have S2 : Below V2.heap.size V2 V2 := Below.refl _ _
          have B2 : Below wr.heap.size wr V2 := B1.trans (b2.mono B1.size)
          refine anyH_take (i := 14) (v := .bool false) rfl (some 28) rfl (by kernel_rfl) (by kernel_rfl) (by kernel_rfl) (fun _ _ _ h => by cases h.1) (by kernel_rfl) (fun _ _ => ex_lssS rfl rfl rfl hles) S2 ?_
          simp only [Act.put, List.setIfInBounds_toArray, List.set_cons_zero, List.set_cons_succ]
          refine anyH_val (i := 15) (by kernel_rfl) rfl (some 29) rfl (by kernel_rfl) (ex_pkT rfl rfl rfl) S2 ?_
          simp only [Act.put, List.setIfInBounds_toArray, List.set_cons_zero, List.set_cons_succ]
          exact wpAnyH_done (by kernel_rfl) ⟨rfl, fill (B2) (by kernel_rfl)⟩ _
        case finn =>
          rintro a W ⟨xx, hB, rfl⟩
          have htw := tw_at (p := fun y : ByteArray × Nat => decide (y.1.toList < x.1.toList)) (F := F) (k := k) (fun y hy => decide_eq_true (hall y hy)) (fun y' hy' => by rw [hy] at hy'; cases hy'; exact decide_eq_false hls)
          have HT := hide htw
          have hown2' := H2.out.2.2.2.1
          rw [hge] at hown2'
          clear htw
          have HB := hide (And.intro (hbw.trans (hB.mono hbw.size)) ((hB.block _ hqr).trans fq))
          clear hB B0 hV0 hgV c0 c1 b0 b1 hbw fq hles hls hall hy
          obtain ⟨W3, hbs, f3, b3⟩ := one_a x W
          have hqW : q < W.heap.size := (Array.getElem?_eq_some_iff.1 HB.out.2).1
          have hown3 : W3.ownsRow w1.heap.size 25 2 (.slice (some ⟨g, 0, none⟩) F.length gc) F.length (aC F) := own_same hown2' (fun g e => (b3.block _ (Nat.lt_of_lt_of_le (own_lt hown2' g e) HB.out.1.size)).trans (HB.out.1.block _ (own_lt hown2' g e)))
          have hins := ins_a F x _ W.heap.size w1.heap.size k W3 hown3 f3 (fun g' e => by have h1 := own_lt hown2' g' e; have h2 := HB.out.1.size; omega) hFl (Nat.le_trans hbase (Nat.le_trans HB.out.1.size b3.size)) (by rw [H2.out.2.2.2.2.1]; exact hkm)
          rw [H2.out.2.2.2.2.1] at hins
          have HI := hide hins
          have Hb3 := hide b3
          obtain ⟨d0, d1⟩ := cell01 HB.out.2
          have hl3 := load_a d0 d1
          clear hown2' hins hown3 b3 f3 d0 d1
          go_wp2_with (refine l_load _ hl3 rfl rfl rfl ?_; refine stopNd ?_)
          unfold Hid
          refine l_val rfl _ (ex_sliceI (us := #[(0, .agg #[.string x.1, .int .u8 x.2])]) rfl (by simp [Act.eval]) hbs) ?_
          clear hl3 hbs
          go_wp2_with fail
          refine HI.out.mono ?_
          rintro e W4 ⟨v4, rfl, hown4, b4⟩
          have H4 := hide (And.intro (own_lowN hown4 (Nat.le_of_lt H2.out.2.2.2.2.2.1)) (H2.out.1.trans ((HB.out.1.mono H2.out.1.size).trans ((Hb3.out.mono (Nat.le_trans H2.out.1.size HB.out.1.size)).trans (b4.mono (Nat.le_of_lt H2.out.2.2.2.2.2.1))))))
          clear hown4 b4
          go_wp2_with fail
          go_ret
          rw [HT.out.1, HT.out.2]
          exact ⟨_, rfl, H4.out.1, H4.out.2⟩
    · have hkm' : k = m := by omega
      subst hkm'
      have hcmp : decide ((k : Int) < k) = false := decide_eq_false (by omega)
      go_wp2_with fail
      obtain ⟨V0, hV0⟩ : ∃ V0, wr.drew = V0 := ⟨_, rfl⟩
      have B0 : Below wr.heap.size wr V0 := by rw [← hV0]; exact (Below.refl _ wr).drew
      have hqV : q < V0.heap.size := Nat.lt_of_lt_of_le hqr B0.size
      replace b0 := (B0.cell (p := ⟨q, _, none⟩) hqr).trans b0
      replace b1 := (B0.cell (p := ⟨q, _, none⟩) hqr).trans b1
      refine region_rel (S := fun V => Below V0.heap.size V0 V) (fun a Wz => ∃ xx : Nat → Value, (Below wr.heap.size wr Wz) ∧ a = { tmps := #[.slice ga k gc, .func (.func 32) #[] #[], .agg #[.string x.1, .int .u8 x.2], undef, undef, .pointer (some ⟨q, 0, none⟩), .slice none 0 0, .int .i64 k, .slice ao m0 cap0, .func (.func 32) #[] #[], .func (.func 32) #[] #[], .agg #[.string x.1, .int .u8 x.2], .string x.1, .slice ga k gc, xx 14, xx 15, xx 16, xx 17, xx 18, xx 19, xx 20, xx 21, xx 22, xx 23, xx 24, xx 25, xx 26, xx 27, xx 28, .bool false, xx 30, xx 31, undef, undef, undef, undef, undef], defers := [] }) (by kernel_rfl) ?anyf ?finf
      case anyf =>
        rw [hV0]
        clear hV0
        have S0 : Below V0.heap.size V0 V0 := Below.refl _ _
        refine anyH_take (i := 0) (v := .int .i64 k) rfl (some 14) rfl (by kernel_rfl) (by kernel_rfl) (by kernel_rfl) (fun _ _ _ h => by cases h.1) (by kernel_rfl) (fun w0 hw0 => by first | rfl | kernel_rfl) S0 ?_
        simp only [Act.put, List.setIfInBounds_toArray, List.set_cons_zero, List.set_cons_succ]
        refine anyH_take (i := 1) (v := .slice ga k gc) rfl (some 15) rfl (by kernel_rfl) (by kernel_rfl) (by kernel_rfl) (fun _ _ _ h => by cases h.1) (by kernel_rfl) (fun w0 hw0 => by first | rfl | kernel_rfl) S0 ?_
        simp only [Act.put, List.setIfInBounds_toArray, List.set_cons_zero, List.set_cons_succ]
        refine anyH_take (i := 2) (v := .int .i64 k) rfl (some 16) rfl (by kernel_rfl) (by kernel_rfl) (by kernel_rfl) (fun _ _ _ h => by cases h.1) (by kernel_rfl) (fun w0 hw0 => by first | rfl | kernel_rfl) S0 ?_
        simp only [Act.put, List.setIfInBounds_toArray, List.set_cons_zero, List.set_cons_succ]
        refine anyH_take (i := 3) (v := .bool false) rfl (some 17) rfl (by kernel_rfl) (by kernel_rfl) (by kernel_rfl) (fun _ _ _ h => by cases h.1) (by kernel_rfl) (fun _ _ => ex_lssI rfl rfl rfl hcmp) S0 ?_
        simp only [Act.put, List.setIfInBounds_toArray, List.set_cons_zero, List.set_cons_succ]
        refine anyH_take (i := 4) (v := .bool false) rfl (some 18) rfl (by kernel_rfl) (by kernel_rfl) (by kernel_rfl) (fun _ _ _ h => by cases h.1) (by kernel_rfl) (fun w0 hw0 => by first | rfl | kernel_rfl) S0 ?_
        simp only [Act.put, List.setIfInBounds_toArray, List.set_cons_zero, List.set_cons_succ]
        refine anyH_off (i := 5) rfl (some 19) rfl (by kernel_rfl) (by kernel_rfl) (by kernel_rfl) (fun _ _ _ h => by cases h.1) (by kernel_rfl) S0 ?_
        simp only [Act.put, List.setIfInBounds_toArray, List.set_cons_zero, List.set_cons_succ]
        refine anyH_off (i := 6) rfl (some 20) rfl (by kernel_rfl) (by kernel_rfl) (by kernel_rfl) (fun _ _ _ h => by cases h.1) (by kernel_rfl) S0 ?_
        simp only [Act.put, List.setIfInBounds_toArray, List.set_cons_zero, List.set_cons_succ]
        refine anyH_off (i := 7) rfl (some 21) rfl (by kernel_rfl) (by kernel_rfl) (by kernel_rfl) (fun _ _ _ h => by cases h.1) (by kernel_rfl) S0 ?_
        simp only [Act.put, List.setIfInBounds_toArray, List.set_cons_zero, List.set_cons_succ]
        refine anyH_off (i := 8) rfl (some 22) rfl (by kernel_rfl) (by kernel_rfl) (by kernel_rfl) (fun _ _ _ h => by cases h.1) (by kernel_rfl) S0 ?_
        simp only [Act.put, List.setIfInBounds_toArray, List.set_cons_zero, List.set_cons_succ]
        refine anyH_off (i := 9) rfl (some 23) rfl (by kernel_rfl) (by kernel_rfl) (by kernel_rfl) (fun _ _ _ h => by cases h.1) (by kernel_rfl) S0 ?_
        simp only [Act.put, List.setIfInBounds_toArray, List.set_cons_zero, List.set_cons_succ]
        refine anyH_off (i := 11) rfl (some 25) rfl (by kernel_rfl) (by kernel_rfl) (by kernel_rfl) (fun _ _ _ h => by cases h.1) (by kernel_rfl) S0 ?_
        simp only [Act.put, List.setIfInBounds_toArray, List.set_cons_zero, List.set_cons_succ]
        refine anyH_off (i := 12) rfl (some 26) rfl (by kernel_rfl) (by kernel_rfl) (by kernel_rfl) (fun _ _ _ h => by cases h.1) (by kernel_rfl) S0 ?_
        simp only [Act.put, List.setIfInBounds_toArray, List.set_cons_zero, List.set_cons_succ]
        refine anyH_off (i := 10) rfl (some 24) rfl (by kernel_rfl) (by kernel_rfl) (by kernel_rfl) (fun _ _ _ h => by cases h.1) (by kernel_rfl) S0 ?_
        simp only [Act.put, List.setIfInBounds_toArray, List.set_cons_zero, List.set_cons_succ]
        refine anyH_off (i := 13) rfl (some 27) rfl (by kernel_rfl) (by kernel_rfl) (by kernel_rfl) (fun _ _ _ h => by cases h.1) (by kernel_rfl) S0 ?_
        simp only [Act.put, List.setIfInBounds_toArray, List.set_cons_zero, List.set_cons_succ]
        refine anyH_off (i := 14) rfl (some 28) rfl (by kernel_rfl) (by kernel_rfl) (by kernel_rfl) (fun _ _ _ h => by cases h.1) (by kernel_rfl) S0 ?_
        simp only [Act.put, List.setIfInBounds_toArray, List.set_cons_zero, List.set_cons_succ]
        refine anyH_val (i := 15) (by kernel_rfl) rfl (some 29) rfl (by kernel_rfl) (ex_pkF rfl rfl rfl) S0 ?_
        simp only [Act.put, List.setIfInBounds_toArray, List.set_cons_zero, List.set_cons_succ]
        exact wpAnyH_done (by kernel_rfl) ⟨rfl, fill (B0) (by kernel_rfl)⟩ _
      case finf =>
        rintro a W ⟨xx, hB, rfl⟩
        have htw := tw_at (p := fun y : ByteArray × Nat => decide (y.1.toList < x.1.toList)) (F := F) (k := k) (fun y hy => decide_eq_true (hall y hy)) (fun y' hy' => by have := (List.getElem?_eq_some_iff.1 hy').1; have := H2.out.2.2.2.2.1; omega)
        have HT := hide htw
        have hown2' := H2.out.2.2.2.1
        clear htw
        have HB := hide (And.intro (hbw.trans (hB.mono hbw.size)) ((hB.block _ hqr).trans fq))
        clear hB B0 hV0 b0 b1 hbw fq hall
        obtain ⟨W3, hbs, f3, b3⟩ := one_a x W
        have hqW : q < W.heap.size := (Array.getElem?_eq_some_iff.1 HB.out.2).1
        have hown3 : W3.ownsRow w1.heap.size 25 2 (.slice ga F.length gc) F.length (aC F) := own_same hown2' (fun g e => (b3.block _ (Nat.lt_of_lt_of_le (own_lt hown2' g e) HB.out.1.size)).trans (HB.out.1.block _ (own_lt hown2' g e)))
        have hins := ins_a F x _ W.heap.size w1.heap.size k W3 hown3 f3 (fun g' e => by have h1 := own_lt hown2' g' e; have h2 := HB.out.1.size; omega) hFl (Nat.le_trans hbase (Nat.le_trans HB.out.1.size b3.size)) (by rw [H2.out.2.2.2.2.1]; exact hkm)
        rw [H2.out.2.2.2.2.1] at hins
        have HI := hide hins
        have Hb3 := hide b3
        obtain ⟨d0, d1⟩ := cell01 HB.out.2
        have hl3 := load_a d0 d1
        clear hown2' hins hown3 b3 f3 d0 d1
        go_wp2_with (refine l_load _ hl3 rfl rfl rfl ?_; refine stopNd ?_)
        unfold Hid
        refine l_val rfl _ (ex_sliceI (us := #[(0, .agg #[.string x.1, .int .u8 x.2])]) rfl (by simp [Act.eval]) hbs) ?_
        clear hl3 hbs
        go_wp2_with fail
        refine HI.out.mono ?_
        rintro e W4 ⟨v4, rfl, hown4, b4⟩
        have H4 := hide (And.intro (own_lowN hown4 (Nat.le_of_lt H2.out.2.2.2.2.2.1)) (H2.out.1.trans ((HB.out.1.mono H2.out.1.size).trans ((Hb3.out.mono (Nat.le_trans H2.out.1.size HB.out.1.size)).trans (b4.mono (Nat.le_of_lt H2.out.2.2.2.2.2.1))))))
        clear hown4 b4
        go_wp2_with fail
        go_ret
        rw [HT.out.1, HT.out.2]
        exact ⟨_, rfl, H4.out.1, H4.out.2⟩
end Go.Proofs.YtffjmkngdjbjlaaGreatDoor
namespace Go.Proofs.YtffjmkngdjbjlaaGreatDoor
open Go.RowKit

theorem withS_all (L : List (ByteArray × Bool × Int)) (x : ByteArray × Bool × Int) : WithS L x := fun ao cap w hm => with_s ao cap L x w hm
theorem Bx.other2 {w W : World} {n : Nd} {v : NdW} {q i : Nat} {x : Value} (h : Bx w n v W) (hr : (∀ a, v.aa = some a → a.block ≠ q) ∧ (∀ a, v.sa = some a → a.block ≠ q) ∧ ∀ a, v.ia = some a → a.block ≠ q) (hq : w.heap.size + 2 ≤ q) : Bx w n v (W.setCell ⟨q, i, none⟩ x) := by
  obtain ⟨m', x', hr'⟩ := h.r
  have hb := h.bel.setCell (p := ⟨q, i, none⟩) (by show w.heap.size ≤ q; omega) x
  exact ⟨(set_blk _ _ _ _ (by show w.heap.size ≠ q; omega)).trans h.a, ⟨m', x', (set_blk _ _ _ _ (by show w.heap.size + 1 ≠ q; omega)).trans hr'⟩, ndM_far (r := q) h.mem (size_set _ _ _) (fun k hk => set_blk _ _ _ _ hk) hr, hb, by rw [size_set]; exact h.size⟩
theorem inSub_fits {x : ByteArray × Bool × Int} {L : List (ByteArray × Bool × Int)} (hx : Fits x.1) (h : ∀ y ∈ L, Fits y.1) : ∀ y ∈ inSub x L, Fits y.1 := by
  intro y hy
  rcases inSub_mem hy with h1 | h1
  · rw [h1]; exact hx
  · exact h y h1
def UnsC (n : Nd) (s : ByteArray) (m : Nd) (c : Int) : Prop := (¬ RightN n ∧ c = 1 ∧ m = noN) ∨ (RightN n ∧ oldS n s = none ∧ c = 10 ∧ m = noN) ∨ (RightN n ∧ (oldS n s).isSome = true ∧ c = 0 ∧ m = { n with subs := woSub s n.subs })
def DecC (n : Nd) (by_ s : ByteArray) (yes : Bool) (m : Nd) (c : Int) : Prop := (OwnC n by_ c ∧ m = noN) ∨ (RightN n ∧ roleL n.affs by_ = 5 ∧ ((¬ (∃ d, oldS n s = some (s, true, d)) ∧ c = 4 ∧ m = noN) ∨ (∃ d, oldS n s = some (s, true, d) ∧ c = 0 ∧ m = { n with subs := if yes = true then inSub (s, false, d) n.subs else woSub s n.subs })))
set_option maxRecDepth 100000 in
set_option maxHeartbeats 4000000 in
theorem decide_any (n : Nd) (v : NdW) (by_ s : ByteArray) (yes : Bool) (w : World) (hm : NdM w.heap.size w n v) (hg : Glob w) (hs : Fits s) :
    Calls Tryz.prog 5 #[.agg (ndA n v), .string by_, .string s, .bool yes] w fun e w' => EditR w (DecC n by_ s yes) e w' := by
  have HGw := hide hg
  have HM := hide hm
  have HS := hide hs
  obtain ⟨W, hW, fa, fr, bw, zw⟩ := boxes w n v
  have bx : Bx w n v W := ⟨fa, ⟨_, _, fr⟩, hm.move bw, bw, by omega⟩
  have HX := hide bx
  have HG := hide (hg.below bw)
  have HW := hide hW
  have HA := hide fa
  rw [← hW] at HA
  have HSu := hide (sub_any n v s W bx.mem.ok)
  rw [← hW] at HSu
  rw [show (ndA noN noW : Array Value) = #[.string ⟨#[]⟩, .bool false, .int .u8 0, .int .i64 0, .slice none 0 0, .slice none 0 0, .slice none 0 0, .string ⟨#[]⟩] from rfl] at HSu
  have hZ : (ndA noN noW : Array Value) = #[.string ⟨#[]⟩, .bool false, .int .u8 0, .int .i64 0, .slice none 0 0, .slice none 0 0, .slice none 0 0, .string ⟨#[]⟩] := rfl
  rw [hZ] at HA
  clear hm hg hW fa fr bw zw bx hZ
  obtain ⟨C, hC⟩ : ∃ C, DecC n by_ s yes = C := ⟨_, rfl⟩
  rw [hC]
  have HC := hide hC
  clear hC
  go_enter Tryz.func5, Tryz.ntmps5
  go_wp2_with (refine l_load _ (load_nd HA.out) rfl rfl rfl ?_)
  refine HSu.out.mono ?_
  rintro e w2 ⟨hfs, b2⟩
  obtain ⟨ya, yp, yd, b, rfl, hold⟩ := firstSub_ex hfs
  have b2' : Below W.heap.size W w2 := by
    have h := HW.out
    change _ = W at h
    rw [← h]
    exact b2
  have bq := b2'.alloc b2'.size (.cells #[.string ya, .bool yp, .int .i64 yd] 43)
  have x2 := HX.out.call bq
  have fq := World.alloc_heap_new w2 (.cells #[.string ya, .bool yp, .int .i64 yd] 43)
  have hq2 : w.heap.size + 2 ≤ w2.heap.size := Nat.le_trans HX.out.size b2'.size
  have XA := hide x2.a
  have HOLD := hide hold
  clear hfs b2 b2' bq hold HSu HA
  go_wp2_with (refine l_load _ (load_nd XA.out) rfl rfl rfl ?_; refine stopNd ?_)
  unfold Hid
  obtain ⟨W2, hW2⟩ : ∃ W2, w2.alloc (.cells #[.string ya, .bool yp, .int .i64 yd] 43) = W2 := ⟨_, rfl⟩
  obtain ⟨q, hq⟩ : ∃ q, w2.heap.size = q := ⟨_, rfl⟩
  rw [hW2] at x2 fq ⊢
  rw [hq] at fq hq2 ⊢
  have X2 := hide x2
  have Q2 := hide fq
  have HQ2 := hide hq2
  clear hW2 hq XA x2 fq hq2
  have HRi := hide (rightN_any n v W2 X2.out.mem (HGw.out.below X2.out.bel))
  go_wp2_with fail
  refine HRi.out.mono ?_
  rintro e w3 ⟨⟨p, rfl, hp⟩, b3⟩
  have X3 := hide (X2.out.call b3)
  have Q3 := hide (q_call Q2.out b3)
  have HP := hide hp
  clear b3 hp HRi X2 Q2
  cases p with
  | false =>
    have HC2 := hide (show C noN 1 by rw [← HC.out]; exact .inl ⟨.inl ⟨fun h => (by have := HP.out.2 h; cases this), rfl⟩, rfl⟩)
    have HRf := hide (refuseN_any 1 w3)
    go_wp2_with fail
    refine HRf.out.mono ?_
    rintro e w8_ ⟨rfl, b2⟩
    have x2 := hide (X3.out.call b2)
    clear b2
    obtain ⟨m', x', hr⟩ := x2.out.r
    have HR := hide hr
    clear hr
    go_wp2_with (refine l_store _ (store_nd (n := noN) (u := noW) HR.out) rfl rfl rfl rfl ?_)
    exact bodyPost_ret (refuse_run x2.out rfl rfl rfl) rfl (refuse_ed x2.out HC2.out)
  | true =>
    have HT := hide (HP.out.1 rfl)
    have HRo := hide (role_any n v by_ w3 X3.out.mem.ok)
    obtain ⟨ro, hro⟩ : ∃ ro, roleL n.affs by_ = ro := ⟨_, rfl⟩
    rw [hro] at HRo
    have HROL := hide hro
    clear hro
    go_wp2_with (refine l_load _ (load_nd X3.out.a) rfl rfl rfl ?_)
    refine HRo.out.mono ?_
    rintro e w4 ⟨rfl, b4⟩
    have X4 := hide (X3.out.call b4)
    have Q4 := hide (q_call Q3.out b4)
    clear b4 HRo X3 Q3
    by_cases h5 : ro = 5
    · have h5e : ((ro : Int) != 5) = false := by rw [h5]; rfl
      have H5 := hide (show roleL n.affs by_ = 5 by rw [HROL.out, h5])
      clear h5
      obtain ⟨e0, e1, e2, z0, z1, z2⟩ := cells_s Q4.out
      cases b with
      | false =>
        have hold1 : oldS n s = none ∧ yp = false := by
          rcases HOLD.out with ⟨h, _⟩ | ⟨_, h1, _, h2, _⟩
          · cases h
          · exact ⟨h1, h2⟩
        obtain ⟨hfind, rfl⟩ := hold1
        have HF := hide hfind
        clear hfind
        have HC2 := hide (show C noN 4 by rw [← HC.out]; exact .inr ⟨HT.out, H5.out, .inl ⟨fun ⟨d, h⟩ => by (rw [HF.out] at h; cases h), rfl, rfl⟩⟩)
        have HRf := hide (refuseN_any 4 w4)
        go_wp2_with fail
        refine HRf.out.mono ?_
        rintro e w8_ ⟨rfl, b2⟩
        have x2 := hide (X4.out.call b2)
        clear b2
        obtain ⟨m', x', hr⟩ := x2.out.r
        have HR := hide hr
        clear hr
        go_wp2_with (refine l_store _ (store_nd (n := noN) (u := noW) HR.out) rfl rfl rfl rfl ?_)
        exact bodyPost_ret (refuse_run x2.out rfl rfl rfl) rfl (refuse_ed x2.out HC2.out)
      | true =>
        have hold1 : ya = s ∧ oldS n s = some (ya, yp, yd) := by
          rcases HOLD.out with ⟨_, h1, h2⟩ | ⟨h, _⟩
          · exact ⟨h1, h2⟩
          · cases h
        obtain ⟨hya, hfind⟩ := hold1
        rw [hya] at hfind
        have HF := hide hfind
        have HYA := hide hya
        clear hfind hya
        cases yp with
        | false =>
          have HC2 := hide (show C noN 4 by rw [← HC.out]; exact .inr ⟨HT.out, H5.out, .inl ⟨fun ⟨d, h⟩ => by (rw [HF.out] at h; cases h), rfl, rfl⟩⟩)
          have HRf := hide (refuseN_any 4 w4)
          go_wp2_with fail
          refine HRf.out.mono ?_
          rintro e w8_ ⟨rfl, b2⟩
          have x2 := hide (X4.out.call b2)
          clear b2
          obtain ⟨m', x', hr⟩ := x2.out.r
          have HR := hide hr
          clear hr
          go_wp2_with (refine l_store _ (store_nd (n := noN) (u := noW) HR.out) rfl rfl rfl rfl ?_)
          exact bodyPost_ret (refuse_run x2.out rfl rfl rfl) rfl (refuse_ed x2.out HC2.out)
        | true =>
          cases yes with
          | false =>
            have HFr := hide (fresh_any n v w4 X4.out.mem)
            go_wp2_with (refine l_load _ (load_nd X4.out.a) rfl rfl rfl ?_)
            refine HFr.out.mono ?_
            rintro e w5 ⟨u, rfl, hu, hfar, b5⟩
            have x5a := X4.out.call b5
            have hz2 := X4.out.size
            have x5 := x5a.put hu ⟨fun a e => by have := hfar.1 a e; omega, fun a e => by have := hfar.2.1 a e; omega, fun a e => by have := hfar.2.2 a e; omega⟩
            have HFar := hide (show Far w u from ⟨fun a e => by have := hfar.1 a e; omega, fun a e => by have := hfar.2.1 a e; omega, fun a e => by have := hfar.2.2 a e; omega⟩)
            have X5 := hide x5
            have HA5 := hide x5a.a
            clear hu hfar b5 x5a x5 hz2
            go_wp2_with (refine l_store _ (store_nd (n := n) (u := u) HA5.out) rfl rfl rfl rfl ?_; refine stopNd ?_)
            unfold Hid
            obtain ⟨W5, hW5⟩ : ∃ W5, setNd w5 w.heap.size n u = W5 := ⟨_, rfl⟩
            rw [hW5] at X5 ⊢
            clear hW5 HA5
            have c5 := (nd_box X5.out.a).2.2.2.2.2.1
            have HWo := hide (without_s u.sa u.sc n.subs s W5 X5.out.mem.ok.2.1)
            go_wp2_with fail
            refine HWo.out.mono ?_
            rintro e w7 ⟨v7, rfl, hown7, b7⟩
            have x7 := X5.out.call b7
            have hlast : (woSub s n.subs).length ≤ 16 := Nat.le_trans (List.length_filter_le _ _) (subs_right HT.out)
            obtain ⟨L7, hL7⟩ : ∃ L7, woSub s n.subs = L7 := ⟨_, rfl⟩
            have hfit : ∀ x ∈ L7, Fits x.1 := by
              intro x hx
              rw [← hL7] at hx
              exact X5.out.mem.fits.subs x (List.mem_filter.1 hx).1
            have HL7 := hide hL7
            rw [hL7] at hown7 hlast
            clear hL7
            obtain ⟨g7, c7, hv7, hm7, hc7, _, hb7⟩ := own_s hown7 (by omega)
            subst hv7
            have hz6 := X5.out.size
            have hx8 := x7.setSubs (sa := g7) (sc := c7) (L := L7) HFar.out hm7 hc7 hfit (fun a e => by have := (hb7 a e).1; omega)
            have z6 := (nd_box x7.a).2.2.2.2.2.1
            have zf6 : w7.frozen? ⟨w.heap.size, 5, none⟩ = false := by simp [World.frozen?, x7.a]
            have X8 := hide hx8
            have HCn := hide (show C { n with subs := L7 } 0 by
              rw [← HC.out, ← HL7.out]
              exact .inr ⟨HT.out, H5.out, .inr ⟨yd, HF.out, rfl, rfl⟩⟩)
            clear hx8 x7 hm7 hc7 hown7 b7 hb7 c5 hlast hfit
            go_wp2_with (refine l_store _ (store_any (size_one25 _) z6 zf6) rfl rfl rfl rfl ?_; refine stopNd ?_)
            unfold Hid
            obtain ⟨W8, hW8⟩ : ∃ W8, w7.setCell ⟨w.heap.size, 5, none⟩ (.slice g7 L7.length c7) = W8 := ⟨_, rfl⟩
            obtain ⟨N8, hN8⟩ : ∃ N8 : Nd, { n with subs := L7 } = N8 := ⟨_, rfl⟩
            obtain ⟨U8, hU8⟩ : ∃ U8 : NdW, { u with sa := g7, sc := c7 } = U8 := ⟨_, rfl⟩
            rw [hW8, hN8, hU8] at X8
            rw [hN8] at HCn
            rw [hW8]
            clear hW8 hN8 hU8 z6 zf6
            go_wp2_with (refine l_load _ (load_nd X8.out.1.a) rfl rfl rfl ?_; refine stopNd ?_)
            unfold Hid
            obtain ⟨m', x', hr⟩ := X8.out.1.r
            have HR := hide hr
            clear hr
            refine l_store _ (store_nd (n := N8) (u := U8) HR.out) rfl rfl rfl rfl ?_
            go_wp2_with fail
            exact bodyPost_ret (done_run X8.out.1 rfl rfl rfl) rfl (done_ed X8.out.1 HCn.out X8.out.2)
          | true =>
            have HFr := hide (fresh_any n v w4 X4.out.mem)
            go_wp2_with (refine l_load _ (load_nd X4.out.a) rfl rfl rfl ?_)
            refine HFr.out.mono ?_
            rintro e w5 ⟨u, rfl, hu, hfar, b5⟩
            have x5a := X4.out.call b5
            have hz2 := X4.out.size
            have x5 := x5a.put hu ⟨fun a e => by have := hfar.1 a e; omega, fun a e => by have := hfar.2.1 a e; omega, fun a e => by have := hfar.2.2 a e; omega⟩
            have HFar := hide (show Far w u from ⟨fun a e => by have := hfar.1 a e; omega, fun a e => by have := hfar.2.1 a e; omega, fun a e => by have := hfar.2.2 a e; omega⟩)
            have HFq := hide (show (∀ a, u.aa = some a → a.block ≠ q) ∧ (∀ a, u.sa = some a → a.block ≠ q) ∧ ∀ a, u.ia = some a → a.block ≠ q from ⟨fun a e => by have := hfar.1 a e; have := (Array.getElem?_eq_some_iff.1 Q4.out).1; omega, fun a e => by have := hfar.2.1 a e; have := (Array.getElem?_eq_some_iff.1 Q4.out).1; omega, fun a e => by have := hfar.2.2 a e; have := (Array.getElem?_eq_some_iff.1 Q4.out).1; omega⟩)
            have X5 := hide x5
            have HA5 := hide x5a.a
            clear hu hfar x5a x5 hz2
            go_wp2_with (refine l_store _ (store_nd (n := n) (u := u) HA5.out) rfl rfl rfl rfl ?_; refine stopNd ?_)
            unfold Hid
            have q5 : (setNd w5 w.heap.size n u).heap[q]? = _ := (setNd_far _ (by have := HQ2.out; omega)).trans (q_call Q4.out b5)
            obtain ⟨W5, hW5⟩ : ∃ W5, setNd w5 w.heap.size n u = W5 := ⟨_, rfl⟩
            rw [hW5] at X5 q5 ⊢
            clear hW5 HA5 b5 e0 e1 e2 z0 z1 z2
            have X6 := hide (X5.out.other2 (x := .bool false) (i := 1) HFq.out HQ2.out)
            have Q6 := hide (heap_setk (i := 1) (v := .bool false) q5)
            obtain ⟨e0, e1, e2, z0, z1, z2⟩ := cells_s q5
            have c5 := (nd_box X6.out.a).2.2.2.2.2.1
            obtain ⟨f0, f1, f2, _⟩ := cells_s Q6.out
            have hl3 := load_s (x := (ya, false, yd)) f0 f1 f2
            have hwi := with_s u.sa u.sc n.subs (ya, false, yd) _ X6.out.mem.ok.2.1
            obtain ⟨L5, hL5⟩ : ∃ L5, inSub (ya, false, yd) n.subs = L5 := ⟨_, rfl⟩
            have hlen : L5.length ≤ 17 := by rw [← hL5]; exact Nat.le_trans (inSub_len _ _) (Nat.succ_le_succ (subs_right HT.out))
            have hfit : ∀ x ∈ L5, Fits x.1 := by
              rw [← hL5]
              exact inSub_fits (by rw [HYA.out]; exact HS.out) X5.out.mem.fits.subs
            rw [hL5] at hwi
            have HL5 := hide hL5
            have HWi := hide hwi
            clear hwi f0 f1 f2 hL5 q5
            go_wp2_with (refine l_load _ hl3 rfl rfl rfl ?_)
            refine HWi.out.mono ?_
            rintro e w7 ⟨v7, rfl, hown7, b7⟩
            have x7 := X6.out.call b7
            obtain ⟨g7, c7, hv7, hm7, hc7, _, hb7⟩ := own_s hown7 (by omega)
            subst hv7
            have hz6 := X6.out.size
            have hx8 := x7.setSubs (sa := g7) (sc := c7) (L := L5) HFar.out hm7 hc7 hfit (fun a e => by have := (hb7 a e).1; omega)
            have z6 := (nd_box x7.a).2.2.2.2.2.1
            have zf6 : w7.frozen? ⟨w.heap.size, 5, none⟩ = false := by simp [World.frozen?, x7.a]
            have X8 := hide hx8
            have HCn := hide (show C { n with subs := L5 } 0 by
              rw [← HC.out, ← HL5.out, HYA.out]
              exact .inr ⟨HT.out, H5.out, .inr ⟨yd, HF.out, rfl, rfl⟩⟩)
            clear hx8 x7 hm7 hc7 hown7 b7 hb7 c5 hlen hfit hl3 e0 e1 e2 z0 z1 z2
            go_wp2_with (refine l_store _ (store_any (size_one25 _) z6 zf6) rfl rfl rfl rfl ?_; refine stopNd ?_)
            unfold Hid
            obtain ⟨W8, hW8⟩ : ∃ W8, w7.setCell ⟨w.heap.size, 5, none⟩ (.slice g7 L5.length c7) = W8 := ⟨_, rfl⟩
            obtain ⟨N8, hN8⟩ : ∃ N8 : Nd, { n with subs := L5 } = N8 := ⟨_, rfl⟩
            obtain ⟨U8, hU8⟩ : ∃ U8 : NdW, { u with sa := g7, sc := c7 } = U8 := ⟨_, rfl⟩
            rw [hW8, hN8, hU8] at X8
            rw [hN8] at HCn
            rw [hW8]
            clear hW8 hN8 hU8 z6 zf6
            go_wp2_with (refine l_load _ (load_nd X8.out.1.a) rfl rfl rfl ?_; refine stopNd ?_)
            unfold Hid
            obtain ⟨m', x', hr⟩ := X8.out.1.r
            have HR := hide hr
            clear hr
            refine l_store _ (store_nd (n := N8) (u := U8) HR.out) rfl rfl rfl rfl ?_
            go_wp2_with fail
            exact bodyPost_ret (done_run X8.out.1 rfl rfl rfl) rfl (done_ed X8.out.1 HCn.out X8.out.2)
    · have h5e : ((ro : Int) != 5) = true := by rw [bne_iff_ne]; omega
      have H5 := hide (show roleL n.affs by_ ≠ 5 by rw [HROL.out]; exact h5)
      clear h5
      have HC2 := hide (show C noN 3 by rw [← HC.out]; exact .inl ⟨.inr ⟨HT.out, H5.out, rfl⟩, rfl⟩)
      have HRf := hide (refuseN_any 3 w4)
      go_wp2_with fail
      refine HRf.out.mono ?_
      rintro e w8_ ⟨rfl, b2⟩
      have x2 := hide (X4.out.call b2)
      clear b2
      obtain ⟨m', x', hr⟩ := x2.out.r
      have HR := hide hr
      clear hr
      go_wp2_with (refine l_store _ (store_nd (n := noN) (u := noW) HR.out) rfl rfl rfl rfl ?_)
      exact bodyPost_ret (refuse_run x2.out rfl rfl rfl) rfl (refuse_ed x2.out HC2.out)
end Go.Proofs.YtffjmkngdjbjlaaGreatDoor
namespace Go.Proofs.YtffjmkngdjbjlaaGreatDoor
open Go.RowKit

theorem Bx.setAffs {w W : World} {n : Nd} {u : NdW} (h : Bx w n u W) (hf : Far w u) {aa : Option Addr} {ac : Nat} {L : List (ByteArray × Nat)} (hm : AffMem W.heap.size W aa L) (hl : L.length ≤ ac) (hfit : ∀ x ∈ L, Fits x.1) (haa : ∀ a, aa = some a → w.heap.size + 2 ≤ a.block) :
    Bx w { n with affs := L } { u with aa := aa, ac := ac } (W.setCell ⟨w.heap.size, 4, none⟩ (.slice aa L.length ac)) ∧ Far w { u with aa := aa, ac := ac } := by
  obtain ⟨m', x', hr⟩ := h.r
  have hm2 : NdM W.heap.size W { n with affs := L } { u with aa := aa, ac := ac } := ⟨⟨hm, h.mem.ok.2.1, hl, h.mem.ok.2.2.2⟩, h.mem.it, h.mem.ic, ⟨h.mem.fits.name, h.mem.fits.parent, hfit, h.mem.fits.subs, h.mem.fits.items⟩⟩
  have hf2 : Far w { u with aa := aa, ac := ac } := ⟨haa, hf.2.1, hf.2.2⟩
  have hh := heap_setk (i := 4) (v := .slice aa L.length ac) h.a
  refine ⟨⟨hh, ⟨m', x', (set_blk _ _ _ _ (by simp)).trans hr⟩, ndM_one hm2 hf2, h.bel.setCell (p := ⟨w.heap.size, 4, none⟩) (Nat.le_refl _) _, by rw [size_set]; exact h.size⟩, hf2⟩
theorem affMem_far {w w' : World} {r : Nat} {ao : Option Addr} {L : List (ByteArray × Nat)} (hm : AffMem w.heap.size w ao L) (hz : w'.heap.size = w.heap.size) (hb : ∀ k, k ≠ r → w'.heap[k]? = w.heap[k]?) (hr : ∀ a, ao = some a → a.block ≠ r) : AffMem w'.heap.size w' ao L := by
  refine ⟨hm.1, fun k x hk => ?_⟩
  obtain ⟨b, off, e, hb1, c0, c1⟩ := hm.2 k x hk
  have hne : b ≠ r := hr _ e
  exact ⟨b, off, e, by rw [hz]; exact hb1, (World.cell?_of_block (hb b hne)).trans c0, (World.cell?_of_block (hb b hne)).trans c1⟩
/-- Affiliations behind somebody's role. -/
def afL (s : ByteArray) (r : Nat) (l : List (ByteArray × Nat)) : List (ByteArray × Nat) := if r = 2 then woAff s l else inAff (s, r) l
theorem inAff_mem {x y : ByteArray × Nat} {L : List (ByteArray × Nat)} (h : y ∈ inAff x L) : y = x ∨ y ∈ L := by
  unfold inAff at h
  rcases List.mem_append.1 h with h | h
  · exact .inr (List.mem_filter.1 ((List.takeWhile_sublist _).subset h)).1
  · rcases List.mem_cons.1 h with h | h
    · exact .inl h
    · exact .inr (List.mem_filter.1 ((List.dropWhile_sublist _).subset h)).1
theorem inAff_len (x : ByteArray × Nat) (L : List (ByteArray × Nat)) : (inAff x L).length ≤ L.length + 1 := by
  unfold inAff
  have h1 : (woAff x.1 L).length ≤ L.length := List.length_filter_le _ _
  have h2 := congrArg List.length (List.takeWhile_append_dropWhile (p := fun y : ByteArray × Nat => decide (y.1.toList < x.1.toList)) (l := woAff x.1 L))
  rw [List.length_append] at h2
  rw [List.length_append, List.length_cons]
  omega
theorem afL_mem {s : ByteArray} {r : Nat} {y : ByteArray × Nat} {L : List (ByteArray × Nat)} (h : y ∈ afL s r L) : y = (s, r) ∨ y ∈ L := by
  unfold afL at h
  split at h
  · exact .inr (List.mem_filter.1 h).1
  · exact inAff_mem h
theorem afL_len (s : ByteArray) (r : Nat) (L : List (ByteArray × Nat)) : (afL s r L).length ≤ L.length + 1 := by
  unfold afL
  split
  · exact Nat.le_trans (List.length_filter_le _ _) (Nat.le_succ _)
  · exact inAff_len _ _
theorem affs_right {n : Nd} (h : RightN n) : n.affs.length ≤ 16 := h.2.2.2.2.1.1
set_option maxRecDepth 100000 in
set_option maxHeartbeats 4000000 in
theorem affiliated_any (ao : Option Addr) (cap : Nat) (L : List (ByteArray × Nat)) (s : ByteArray) (r : Nat) (w : World) (hm : AffMem w.heap.size w ao L) :
    Calls Tryz.prog 29 #[.slice ao L.length cap, .agg #[.string s, .int .u8 r]] w fun e w' => ∃ v, e = .returned v ∧ w'.ownsRow w.heap.size 25 2 v (afL s r L).length (aC (afL s r L)) ∧ Below w.heap.size w w' := by
  obtain ⟨W, hW⟩ : ∃ W, w.alloc (.cells #[.string s, .int .u8 r] 25) = W := ⟨_, rfl⟩
  have b1 : Below w.heap.size w W := by rw [← hW]; exact (Below.refl _ w).alloc (Nat.le_refl _) _
  have fb := World.alloc_heap_new w (.cells #[.string s, .int .u8 r] 25)
  rw [hW] at fb
  by_cases h2 : r = 2
  · have hwo := without_a ao cap L s W ((hm.below b1).raise b1.size)
    have e : afL s r L = woAff s L := by unfold afL; rw [if_pos h2]
    rw [e]
    subst h2
    obtain ⟨K, hK⟩ : ∃ K, woAff s L = K := ⟨_, rfl⟩
    rw [hK] at hwo ⊢
    rw [← hW] at hwo
    have HWo := hide hwo
    have HB := hide (And.intro b1 hW)
    clear hm b1 fb hW hwo hK e
    go_enter Tryz.func29, Tryz.ntmps29
    go_wp2_with fail
    refine HWo.out.mono ?_
    rintro e w2 ⟨v, rfl, hown, b2⟩
    obtain ⟨g, c, rfl⟩ := own_shape1 hown
    have H2 := hide (And.intro (own_lowN (b' := w.heap.size) hown (by simp)) (HB.out.1.trans ((HB.out.2 ▸ b2).mono HB.out.1.size)))
    clear hown b2
    go_wp2_with fail
    go_ret
    exact ⟨_, rfl, H2.out.1, H2.out.2⟩
  · have hwo := with_a ao cap L (s, r) W ((hm.below b1).raise b1.size)
    have e : afL s r L = inAff (s, r) L := by unfold afL; rw [if_neg h2]
    rw [e]
    obtain ⟨K, hK⟩ : ∃ K, inAff (s, r) L = K := ⟨_, rfl⟩
    rw [hK] at hwo ⊢
    rw [← hW] at hwo
    have hr2 : ((r : Int) == 2) = false := by rw [beq_eq_false_iff_ne]; omega
    have HWo := hide hwo
    have HB := hide (And.intro b1 hW)
    have HL := hide (load_a (w := W) (x := (s, r)) (cell01 fb).1 (cell01 fb).2)
    rw [← hW] at HL
    clear hm b1 fb hW hwo hK e h2
    go_enter Tryz.func29, Tryz.ntmps29
    go_wp2_with (refine l_load _ HL.out rfl rfl rfl ?_)
    refine HWo.out.mono ?_
    rintro e w2 ⟨v, rfl, hown, b2⟩
    obtain ⟨g, c, rfl⟩ := own_shape1 hown
    have H2 := hide (And.intro (own_lowN (b' := w.heap.size) hown (by simp)) (HB.out.1.trans ((HB.out.2 ▸ b2).mono HB.out.1.size)))
    clear hown b2
    go_wp2_with fail
    go_ret
    exact ⟨_, rfl, H2.out.1, H2.out.2⟩
def AflC (n : Nd) (by_ s : ByteArray) (r : Nat) (m : Nd) (c : Int) : Prop := (OwnC n by_ c ∧ m = noN) ∨ (RightN n ∧ roleL n.affs by_ = 5 ∧ ((¬ (addrOk s = true ∧ 1 ≤ r ∧ r ≤ 5) ∧ c = 1 ∧ m = noN) ∨ (addrOk s = true ∧ 1 ≤ r ∧ r ≤ 5 ∧
  (((afL s r n.affs).any (fun x => decide (x.2 = 5)) = false ∧ c = 2 ∧ m = noN) ∨ ((afL s r n.affs).any (fun x => decide (x.2 = 5)) = true ∧ 16 < (afL s r n.affs).length ∧ c = 8 ∧ m = noN) ∨ ((afL s r n.affs).any (fun x => decide (x.2 = 5)) = true ∧ (afL s r n.affs).length ≤ 16 ∧ c = 0 ∧ m = { n with affs := afL s r n.affs, subs := if r = 1 then woSub s n.subs else n.subs })))))
set_option maxRecDepth 100000 in
set_option maxHeartbeats 4000000 in
theorem affiliate_any (n : Nd) (v : NdW) (by_ s : ByteArray) (r : Nat) (w : World) (hm : NdM w.heap.size w n v) (hg : Glob w) (hs : Fits s) :
    Calls Tryz.prog 8 #[.agg (ndA n v), .string by_, .string s, .int .u8 r] w fun e w' => EditR w (AflC n by_ s r) e w' := by
  have HGw := hide hg
  have HS := hide hs
  clear hs
  obtain ⟨W, hW, fa, fr, bw, zw⟩ := boxes w n v
  have bx : Bx w n v W := ⟨fa, ⟨_, _, fr⟩, hm.move bw, bw, by omega⟩
  have HX := hide bx
  have HG := hide (hg.below bw)
  have HW := hide hW
  have HA := hide fa
  rw [← hW] at HA
  have HRi := hide (rightN_any n v W bx.mem HG.out)
  rw [← hW] at HRi
  rw [show (ndA noN noW : Array Value) = #[.string ⟨#[]⟩, .bool false, .int .u8 0, .int .i64 0, .slice none 0 0, .slice none 0 0, .slice none 0 0, .string ⟨#[]⟩] from rfl] at HRi
  have hZ : (ndA noN noW : Array Value) = #[.string ⟨#[]⟩, .bool false, .int .u8 0, .int .i64 0, .slice none 0 0, .slice none 0 0, .slice none 0 0, .string ⟨#[]⟩] := rfl
  rw [hZ] at HA
  clear hm hg hW fa fr bw zw bx hZ
  obtain ⟨C, hC⟩ : ∃ C, AflC n by_ s r = C := ⟨_, rfl⟩
  rw [hC]
  have HC := hide hC
  clear hC
  go_enter Tryz.func8, Tryz.ntmps8
  go_wp2_with (refine l_load _ (load_nd HA.out) rfl rfl rfl ?_)
  refine HRi.out.mono ?_
  rintro e w1 ⟨⟨p, rfl, hp⟩, b1⟩
  have x1 : Bx w n v w1 := by
    have h := HW.out
    change _ = W at h
    have b1' : Below W.heap.size W w1 := by
      rw [← h]
      exact b1
    exact HX.out.call b1'
  have X1 := hide x1
  have HP := hide hp
  clear x1 hp b1 HRi HA
  cases p with
  | false =>
    have HC2 := hide (show C noN 1 by rw [← HC.out]; exact .inl ⟨.inl ⟨fun h => (by have := HP.out.2 h; cases this), rfl⟩, rfl⟩)
    have HRf := hide (refuseN_any 1 w1)
    go_wp2_with fail
    refine HRf.out.mono ?_
    rintro e w8_ ⟨rfl, b2⟩
    have x2 := hide (X1.out.call b2)
    clear b2
    obtain ⟨m', x', hr⟩ := x2.out.r
    have HR := hide hr
    clear hr
    go_wp2_with (refine l_store _ (store_nd (n := noN) (u := noW) HR.out) rfl rfl rfl rfl ?_)
    exact bodyPost_ret (refuse_run x2.out rfl rfl rfl) rfl (refuse_ed x2.out HC2.out)
  | true =>
    have HT := hide (HP.out.1 rfl)
    have HRo := hide (role_any n v by_ w1 X1.out.mem.ok)
    obtain ⟨ro, hro⟩ : ∃ ro, roleL n.affs by_ = ro := ⟨_, rfl⟩
    rw [hro] at HRo
    have HROL := hide hro
    clear hro
    go_wp2_with (refine l_load _ (load_nd X1.out.a) rfl rfl rfl ?_)
    refine HRo.out.mono ?_
    rintro e w2 ⟨rfl, b2⟩
    have X2 := hide (X1.out.call b2)
    clear b2 HRo X1
    by_cases h5 : ro = 5
    · have h5e : ((ro : Int) != 5) = false := by rw [h5]; rfl
      have H5 := hide (show roleL n.affs by_ = 5 by rw [HROL.out, h5])
      clear h5
      have hG3 := HGw.out.below X2.out.bel
      have HAd := hide (addr_any s w2 HS.out hG3.max hG3.lt)
      obtain ⟨pa, hpa⟩ : ∃ pa, addrOk s = pa := ⟨_, rfl⟩
      rw [hpa] at HAd
      have HPA := hide hpa
      clear hG3 hpa
      go_wp2_with fail
      refine HAd.out.mono ?_
      rintro e w3 ⟨rfl, b3⟩
      have X3 := hide (X2.out.call b3)
      clear b3 HAd X2
      cases pa with
      | false =>
        have HC2 := hide (show C noN 1 by rw [← HC.out]; exact .inr ⟨HT.out, H5.out, .inl ⟨fun h => (by have := h.1; rw [HPA.out] at this; cases this), rfl, rfl⟩⟩)
        have HRf := hide (refuseN_any 1 w3)
        go_wp2_with fail
        refine HRf.out.mono ?_
        rintro e w8_ ⟨rfl, b2⟩
        have x2 := hide (X3.out.call b2)
        clear b2
        obtain ⟨m', x', hr⟩ := x2.out.r
        have HR := hide hr
        clear hr
        go_wp2_with (refine l_store _ (store_nd (n := noN) (u := noW) HR.out) rfl rfl rfl rfl ?_)
        exact bodyPost_ret (refuse_run x2.out rfl rfl rfl) rfl (refuse_ed x2.out HC2.out)
      | true =>
        have HDe := hide (isRole_any r w3)
        obtain ⟨pd, hpd⟩ : ∃ pd, (decide (1 ≤ (r : Int)) && decide ((r : Int) ≤ 5)) = pd := ⟨_, rfl⟩
        rw [hpd] at HDe
        have HPD := hide hpd
        clear hpd
        go_wp2_with fail
        refine HDe.out.mono ?_
        rintro e w4 ⟨rfl, hw4⟩
        rw [hw4]
        clear hw4 HDe
        cases pd with
        | false =>
          have HC2 := hide (show C noN 1 by rw [← HC.out]; exact .inr ⟨HT.out, H5.out, .inl ⟨fun h => (by have := HPD.out; simp at this; omega), rfl, rfl⟩⟩)
          have HRf := hide (refuseN_any 1 w3)
          go_wp2_with fail
          refine HRf.out.mono ?_
          rintro e w8_ ⟨rfl, b2⟩
          have x2 := hide (X3.out.call b2)
          clear b2
          obtain ⟨m', x', hr⟩ := x2.out.r
          have HR := hide hr
          clear hr
          go_wp2_with (refine l_store _ (store_nd (n := noN) (u := noW) HR.out) rfl rfl rfl rfl ?_)
          exact bodyPost_ret (refuse_run x2.out rfl rfl rfl) rfl (refuse_ed x2.out HC2.out)
        | true =>
          have HR15 := hide (show 1 ≤ r ∧ r ≤ 5 by have := HPD.out; simp at this; omega)
          have c4 := (nd_box X3.out.a).2.2.2.2.1
          have haf := affiliated_any v.aa v.ac n.affs s r w3 X3.out.mem.ok.1
          obtain ⟨K, hK⟩ : ∃ K, afL s r n.affs = K := ⟨_, rfl⟩
          have hKl : K.length ≤ 17 := by rw [← hK]; exact Nat.le_trans (afL_len _ _ _) (Nat.succ_le_succ (affs_right HT.out))
          have hKf : ∀ x ∈ K, Fits x.1 := by
            intro x hx
            rw [← hK] at hx
            rcases afL_mem hx with h | h
            · rw [h]; exact HS.out
            · exact X3.out.mem.fits.affs x h
          rw [hK] at haf
          have HAf := hide haf
          have HK := hide (And.intro hK hKf)
          clear haf hK hKf
          go_wp2_with fail
          refine HAf.out.mono ?_
          rintro e w4 ⟨vk, rfl, hownk, b4⟩
          have x4 := X3.out.call b4
          obtain ⟨gk, ck, hvk, hmk, hck, _, hbk⟩ := own_a hownk (by omega)
          subst hvk
          have hz3 := X3.out.size
          have HBK := hide (show ∀ a, gk = some a → w.heap.size + 2 ≤ a.block from fun a e => by have := (hbk a e).1; omega)
          have X4 := hide x4
          have HMK := hide (And.intro hmk hck)
          have HOw := hide (hasOwner_any gk ck K w4 hmk)
          obtain ⟨po, hpo⟩ : ∃ po, (K.any fun x => decide (x.2 = 5)) = po := ⟨_, rfl⟩
          rw [hpo] at HOw
          have HPO := hide hpo
          obtain ⟨kl, hkl⟩ : ∃ kl, K.length = kl := ⟨_, rfl⟩
          rw [hkl] at hKl HOw ⊢
          have HKL := hide hkl
          clear hownk b4 x4 hmk hck hbk hz3 hpo HAf X3 c4 hkl
          go_wp2_with fail
          refine HOw.out.mono ?_
          rintro e w5 ⟨rfl, b5⟩
          have X5 := hide (X4.out.call b5)
          have HMK5 := hide (And.intro ((HMK.out.1.below b5).raise b5.size) HMK.out.2)
          clear b5 HOw HMK X4
          cases po with
          | false =>
            have HC2 := hide (show C noN 2 by rw [← HC.out]; exact .inr ⟨HT.out, H5.out, .inr ⟨HPA.out, HR15.out.1, HR15.out.2, .inl ⟨by rw [HK.out.1]; exact HPO.out, rfl, rfl⟩⟩⟩)
            have HRf := hide (refuseN_any 2 w5)
            go_wp2_with fail
            refine HRf.out.mono ?_
            rintro e w8_ ⟨rfl, b2⟩
            have x2 := hide (X5.out.call b2)
            clear b2
            obtain ⟨m', x', hr⟩ := x2.out.r
            have HR := hide hr
            clear hr
            go_wp2_with (refine l_store _ (store_nd (n := noN) (u := noW) HR.out) rfl rfl rfl rfl ?_)
            exact bodyPost_ret (refuse_run x2.out rfl rfl rfl) rfl (refuse_ed x2.out HC2.out)
          | true =>
            by_cases h16 : (16 : Int) < (kl : Int)
            · have hh := h16
              have HC2 := hide (show C noN 8 by rw [← HC.out]; exact .inr ⟨HT.out, H5.out, .inr ⟨HPA.out, HR15.out.1, HR15.out.2, .inr (.inl ⟨by rw [HK.out.1]; exact HPO.out, by rw [HK.out.1, HKL.out]; omega, rfl, rfl⟩)⟩⟩)
              have HRf := hide (refuseN_any 8 w5)
              go_wp2_with fail
              refine HRf.out.mono ?_
              rintro e w8_ ⟨rfl, b2⟩
              have x2 := hide (X5.out.call b2)
              clear b2
              obtain ⟨m', x', hr⟩ := x2.out.r
              have HR := hide hr
              clear hr
              go_wp2_with (refine l_store _ (store_nd (n := noN) (u := noW) HR.out) rfl rfl rfl rfl ?_)
              exact bodyPost_ret (refuse_run x2.out rfl rfl rfl) rfl (refuse_ed x2.out HC2.out)
            · have h16n : (kl : Int) ≤ 16 := by omega
              have H16 := hide (show (afL s r n.affs).length ≤ 16 by rw [HK.out.1, HKL.out]; omega)
              have HFr := hide (fresh_any n v w5 X5.out.mem)
              go_wp2_with (refine l_load _ (load_nd X5.out.a) rfl rfl rfl ?_)
              refine HFr.out.mono ?_
              rintro e w6 ⟨u, rfl, hu, hfar, b6⟩
              have x6a := X5.out.call b6
              have hz2 := X5.out.size
              have x6 := x6a.put hu ⟨fun a e => by have := hfar.1 a e; omega, fun a e => by have := hfar.2.1 a e; omega, fun a e => by have := hfar.2.2 a e; omega⟩
              have HFar := hide (show Far w u from ⟨fun a e => by have := hfar.1 a e; omega, fun a e => by have := hfar.2.1 a e; omega, fun a e => by have := hfar.2.2 a e; omega⟩)
              have hms := HMK5.out.1.below b6
              have HMS := hide (show AffMem (setNd w6 w.heap.size n u).heap.size (setNd w6 w.heap.size n u) gk K from affMem_far (hms.raise b6.size) setNd_size setNd_far (fun a e => by have := HBK.out a e; omega))
              have X6 := hide x6
              have HA6 := hide x6a.a
              clear hms hu hfar b6 x6a x6 hz2
              go_wp2_with (refine l_store _ (store_nd (n := n) (u := u) HA6.out) rfl rfl rfl rfl ?_; refine stopNd ?_)
              unfold Hid
              obtain ⟨W6, hW6⟩ : ∃ W6, setNd w6 w.heap.size n u = W6 := ⟨_, rfl⟩
              rw [hW6] at X6 HMS ⊢
              clear hW6 HA6
              have x7 := X6.out
              have hx8 := x7.setAffs (aa := gk) (ac := ck) (L := K) HFar.out HMS.out HMK5.out.2 HK.out.2 HBK.out
              rw [HKL.out] at hx8
              have z6 := (nd_box x7.a).2.2.2.2.1
              have zf6 : W6.frozen? ⟨w.heap.size, 4, none⟩ = false := by simp [World.frozen?, x7.a]
              have X8 := hide hx8
              clear hx8 x7
              go_wp2_with (refine l_store _ (store_any (size_one24 _) z6 zf6) rfl rfl rfl rfl ?_; refine stopNd ?_)
              unfold Hid
              obtain ⟨W7, hW7⟩ : ∃ W7, W6.setCell ⟨w.heap.size, 4, none⟩ (.slice gk kl ck) = W7 := ⟨_, rfl⟩
              rw [hW7] at X8 ⊢
              clear hW7 z6 zf6
              by_cases h1 : r = 1
              · subst h1
                have c5 := (nd_box X8.out.1.a).2.2.2.2.2.1
                have HWo := hide (without_s u.sa u.sc n.subs s W7 X8.out.1.mem.ok.2.1)
                go_wp2_with fail
                refine HWo.out.mono ?_
                rintro e w9 ⟨v9, rfl, hown9, b9⟩
                have x9 := X8.out.1.call b9
                have hlast : (woSub s n.subs).length ≤ 16 := Nat.le_trans (List.length_filter_le _ _) (subs_right HT.out)
                obtain ⟨L7, hL7⟩ : ∃ L7, woSub s n.subs = L7 := ⟨_, rfl⟩
                have hfit : ∀ x ∈ L7, Fits x.1 := by
                  intro x hx
                  rw [← hL7] at hx
                  exact X6.out.mem.fits.subs x (List.mem_filter.1 hx).1
                have HL7 := hide hL7
                rw [hL7] at hown9 hlast
                clear hL7
                obtain ⟨g7, c7, hv7, hm7, hc7, _, hb7⟩ := own_s hown9 (by omega)
                subst hv7
                have hz6 := X8.out.1.size
                have hx8 := x9.setSubs (sa := g7) (sc := c7) (L := L7) X8.out.2 hm7 hc7 hfit (fun a e => by have := (hb7 a e).1; omega)
                have z6 := (nd_box x9.a).2.2.2.2.2.1
                have zf6 : w9.frozen? ⟨w.heap.size, 5, none⟩ = false := by simp [World.frozen?, x9.a]
                have X9 := hide hx8
                have HCn := hide (show C { n with affs := K, subs := L7 } 0 by
                  rw [← HC.out, ← HL7.out]
                  refine .inr ⟨HT.out, H5.out, .inr ⟨HPA.out, HR15.out.1, HR15.out.2, .inr (.inr ⟨by rw [HK.out.1]; exact HPO.out, H16.out, rfl, ?_⟩)⟩⟩
                  rw [HK.out.1]
                  rfl)
                clear hx8 x9 hm7 hc7 hown9 b9 hb7 c5 hlast hfit
                go_wp2_with (refine l_store _ (store_any (size_one25 _) z6 zf6) rfl rfl rfl rfl ?_; refine stopNd ?_)
                unfold Hid
                obtain ⟨W8, hW8⟩ : ∃ W8, w9.setCell ⟨w.heap.size, 5, none⟩ (.slice g7 L7.length c7) = W8 := ⟨_, rfl⟩
                obtain ⟨N8, hN8⟩ : ∃ N8 : Nd, { n with affs := K, subs := L7 } = N8 := ⟨_, rfl⟩
                obtain ⟨U8, hU8⟩ : ∃ U8 : NdW, { u with aa := gk, ac := ck, sa := g7, sc := c7 } = U8 := ⟨_, rfl⟩
                rw [hW8, hN8, hU8] at X9
                rw [hN8] at HCn
                rw [hW8]
                clear hW8 hN8 hU8 z6 zf6
                go_wp2_with (refine l_load _ (load_nd X9.out.1.a) rfl rfl rfl ?_; refine stopNd ?_)
                unfold Hid
                obtain ⟨m', x', hr⟩ := X9.out.1.r
                have HR := hide hr
                clear hr
                refine l_store _ (store_nd (n := N8) (u := U8) HR.out) rfl rfl rfl rfl ?_
                go_wp2_with fail
                exact bodyPost_ret (done_run X9.out.1 rfl rfl rfl) rfl (done_ed X9.out.1 HCn.out X9.out.2)
              · have h1e : ((r : Int) == 1) = false := by rw [beq_eq_false_iff_ne]; omega
                have HCn := hide (show C { n with affs := K } 0 by
                  rw [← HC.out]
                  refine .inr ⟨HT.out, H5.out, .inr ⟨HPA.out, HR15.out.1, HR15.out.2, .inr (.inr ⟨by rw [HK.out.1]; exact HPO.out, H16.out, rfl, ?_⟩)⟩⟩
                  rw [HK.out.1, if_neg h1])
                clear h1
                obtain ⟨N8, hN8⟩ : ∃ N8 : Nd, { n with affs := K } = N8 := ⟨_, rfl⟩
                obtain ⟨U8, hU8⟩ : ∃ U8 : NdW, { u with aa := gk, ac := ck } = U8 := ⟨_, rfl⟩
                rw [hN8, hU8] at X8
                rw [hN8] at HCn
                clear hN8 hU8
                go_wp2_with (refine l_load _ (load_nd X8.out.1.a) rfl rfl rfl ?_; refine stopNd ?_)
                unfold Hid
                obtain ⟨m', x', hr⟩ := X8.out.1.r
                have HR := hide hr
                clear hr
                refine l_store _ (store_nd (n := N8) (u := U8) HR.out) rfl rfl rfl rfl ?_
                go_wp2_with fail
                exact bodyPost_ret (done_run X8.out.1 rfl rfl rfl) rfl (done_ed X8.out.1 HCn.out X8.out.2)
    · have h5e : ((ro : Int) != 5) = true := by rw [bne_iff_ne]; omega
      have H5 := hide (show roleL n.affs by_ ≠ 5 by rw [HROL.out]; exact h5)
      clear h5
      have HC2 := hide (show C noN 3 by rw [← HC.out]; exact .inl ⟨.inr ⟨HT.out, H5.out, rfl⟩, rfl⟩)
      have HRf := hide (refuseN_any 3 w2)
      go_wp2_with fail
      refine HRf.out.mono ?_
      rintro e w8_ ⟨rfl, b2⟩
      have x2 := hide (X2.out.call b2)
      clear b2
      obtain ⟨m', x', hr⟩ := x2.out.r
      have HR := hide hr
      clear hr
      go_wp2_with (refine l_store _ (store_nd (n := noN) (u := noW) HR.out) rfl rfl rfl rfl ?_)
      exact bodyPost_ret (refuse_run x2.out rfl rfl rfl) rfl (refuse_ed x2.out HC2.out)
end Go.Proofs.YtffjmkngdjbjlaaGreatDoor
