/- A request's attributes: all of them. -/
import Derived.Test.YtimhkgpjfppkmaaDoorGG
namespace Go.Proofs.YtimhkgpjfppkmaaDoor
open Go.RowKit Go.Shelf

set_option maxRecDepth 100000 in
set_option maxHeartbeats 8000000 in
theorem attrs_any (r : Rq) (w : World) (hf : RqFits r) (hr : r.role < 16) (ha : r.acc < 16) (hg : GlobE w) : Calls Tryd.prog 17 #[.agg (rqA r)] w fun e w' => ∃ ga gc, e = .returned (.slice ga (attrsR r).length gc) ∧ w'.ownsRow w.heap.size 49 2 (.slice ga (attrsR r).length gc) (attrsR r).length (attrCells (attrsR r)) ∧ Below w.heap.size w w' := by
  obtain ⟨W1, hW1⟩ : ∃ W1, w.alloc (.cells (rqA r) 26) = W1 := ⟨_, rfl⟩
  have b1 : Below w.heap.size w W1 := by rw [← hW1]; exact (Below.refl _ w).alloc (Nat.le_refl _) _
  have f1 : W1.heap[w.heap.size]? = some (.cells (rqA r) 26) := by rw [← hW1]; exact World.alloc_heap_new _ _
  have HV := hide (named_any r.verb hf.verb W1)
  have H1 := hide (And.intro f1 b1)
  have HF := hide (And.intro hf (And.intro hr (And.intro ha hg)))
  have hc0 := (rq_box f1).1
  clear hf hr ha hg f1 b1
  go_enter Tryd.func17, Tryd.ntmps17
  go_wp2_with fail
  refine HV.out.mono ?_
  rintro e w2 ⟨rfl, b2⟩
  obtain ⟨nb, hnb⟩ : ∃ nb, w2.heap.size = nb := ⟨_, rfl⟩
  obtain ⟨X0, hX0⟩ : ∃ X, w2.alloc (.cells (thA r.verb) 57) = X := ⟨_, rfl⟩
  obtain ⟨lb, hlb⟩ : ∃ lb, X0.heap.size = lb := ⟨_, rfl⟩
  obtain ⟨X1, hX1⟩ : ∃ X, X0.alloc (.cells #[.slice none 0 0] 44) = X := ⟨_, rfl⟩
  have b3 : Below w2.heap.size w2 X0 := by rw [← hX0]; exact (Below.refl _ w2).alloc (Nat.le_refl _) _
  have b4 : Below lb X0 X1 := by rw [← hX1, ← hlb]; exact (Below.refl _ X0).alloc (Nat.le_refl _) _
  have fn0 : X0.heap[nb]? = some (.cells (thA r.verb) 57) := by rw [← hX0, ← hnb]; exact World.alloc_heap_new _ _
  have fl1 : X1.heap[lb]? = some (.cells #[.slice none 0 0] 44) := by rw [← hX1, ← hlb]; exact World.alloc_heap_new _ _
  have hrl0 : w.heap.size < W1.heap.size := (Array.getElem?_eq_some_iff.1 H1.out.1).1
  have hnl : nb < lb := by rw [← hlb]; exact (Array.getElem?_eq_some_iff.1 fn0).1
  have b02 := b2.trans (b3.mono b2.size)
  have hrl : w.heap.size < lb := by have := b02.size; omega
  have fr1 : X1.heap[w.heap.size]? = some (.cells (rqA r) 26) := (b4.block _ hrl).trans ((b02.block _ hrl0).trans H1.out.1)
  have fn1 := (b4.block _ hnl).trans fn0
  have B1 : Below w.heap.size w X1 := (H1.out.2.trans (b02.mono H1.out.2.size)).trans (b4.mono (by omega))
  have HR := hide (show ∀ X, Below lb X1 X → X.heap[w.heap.size]? = some (.cells (rqA r) 26) ∧ X.heap[nb]? = some (.cells (thA r.verb) 57) ∧ GlobE X ∧ Below w.heap.size w X from fun X hX => ⟨(hX.block _ hrl).trans fr1, (hX.block _ hnl).trans fn1, HF.out.2.2.2.below (B1.trans (hX.mono (by omega))), B1.trans (hX.mono (by omega))⟩)
  have hz1 : lb < X1.heap.size := (Array.getElem?_eq_some_iff.1 fl1).1
  have HA0 := hide (And.intro (show AtP lb (at0 r) X1 from ⟨none, 0, fl1, World.ownsRow_nil _ _ _ _⟩) (Below.refl lb X1))
  have hth : (thA r.verb : Array Value) = #[.bool (nodeB r.verb), .bool (itemB r.verb), .bool (jidB r.verb), .bool (roleB r.verb), .bool (accB r.verb), .bool (maxB r.verb), .bool (depthB r.verb), .bool (parB r.verb), .bool (kindB r.verb), .bool (textB r.verb)] := rfl
  rw [hth] at hX0 ⊢
  have HLb := hide (And.intro hrl hnl)
  clear b2 b3 b4 fn0 fl1 hrl0 hnl b02 hrl fr1 fn1 B1 hth hc0 HV H1
  have sz0 : lb < X1.heap.size := by
    obtain ⟨_, _, h, _⟩ := HA0.out.1
    exact (Array.getElem?_eq_some_iff.1 h).1
  have hadd := hide (add_any (nodeB r.verb) ⟨#[110, 111, 100, 101]⟩ r.node lb (at0 r) X1 HA0.out.1 (by have := len0 r; omega))
  have cr := (rq_box (HR.out X1 HA0.out.2).1).2.1
  have cn := (th_boxA (HR.out X1 HA0.out.2).2.1).1
  go_wp2_with fail
  clear hX0 hX1 hnb hlb
  refine hadd.out.mono ?_
  rintro e Y0 ⟨rfl, hA, hB⟩
  clear cr cn hadd
  have HA1 := hide (And.intro (show AtP lb (at1 r) Y0 from hA) (HA0.out.2.trans hB))
  clear hA hB
  have sz1 : lb < Y0.heap.size := by
    obtain ⟨_, _, h, _⟩ := HA1.out.1
    exact (Array.getElem?_eq_some_iff.1 h).1
  have hadd := hide (add_any (itemB r.verb) ⟨#[105, 116, 101, 109]⟩ r.item lb (at1 r) Y0 HA1.out.1 (by have := len1 r; omega))
  have cr := (rq_box (HR.out Y0 HA1.out.2).1).2.2.1
  have cn := (th_boxA (HR.out Y0 HA1.out.2).2.1).2.1
  go_wp2_with fail
  refine hadd.out.mono ?_
  rintro e Y1 ⟨rfl, hA, hB⟩
  clear cr cn hadd
  have HA2 := hide (And.intro (show AtP lb (at2 r) Y1 from hA) (HA1.out.2.trans hB))
  clear hA hB
  have sz2 : lb < Y1.heap.size := by
    obtain ⟨_, _, h, _⟩ := HA2.out.1
    exact (Array.getElem?_eq_some_iff.1 h).1
  have hadd := hide (add_any (jidB r.verb) ⟨#[106, 105, 100]⟩ r.jid lb (at2 r) Y1 HA2.out.1 (by have := len2 r; omega))
  have cr := (rq_box (HR.out Y1 HA2.out.2).1).2.2.2.1
  have cn := (th_boxA (HR.out Y1 HA2.out.2).2.1).2.2.1
  go_wp2_with fail
  refine hadd.out.mono ?_
  rintro e Y2 ⟨rfl, hA, hB⟩
  clear cr cn hadd
  have HA3 := hide (And.intro (show AtP lb (at3 r) Y2 from hA) (HA2.out.2.trans hB))
  clear hA hB
  have sz3 : lb < Y2.heap.size := by
    obtain ⟨_, _, h, _⟩ := HA3.out.1
    exact (Array.getElem?_eq_some_iff.1 h).1
  go_wp2_with fail
  obtain ⟨V0, hV0⟩ : ∃ V, Y2.drew = V := ⟨_, rfl⟩
  have B0 : Below lb X1 V0 := by rw [← hV0]; exact HA3.out.2.drew
  have A0 : AtP lb (at3 r) V0 := HA3.out.1.below (by rw [← hV0]; exact (Below.refl _ _).drew)
  have s0 : lb < V0.heap.size := by rw [← hV0]; exact sz3
  refine region_relA (S := fun V => V.heap[w.heap.size]? = some (.cells (rqA r) 26) ∧ V.heap[nb]? = some (.cells (thA r.verb) 57)) (fun a0 a W => ∃ xx : Nat → Value, (AtP lb (at4 r) W ∧ Below lb X1 W) ∧ a = ⟨putA a0.tmps [28, 29, 30, 31, 32, 33, 34, 35] xx, a0.defers⟩) (by kernel_rfl) ?any3 ?fin3
  case any3 =>
    rw [hV0]
    clear hV0
    refine anyH_take (i := 0) (v := .func (.func 35) #[] #[.pointer (some ⟨lb, 0, none⟩)]) rfl (some 28) rfl (by kernel_rfl) (by kernel_rfl) (by kernel_rfl) (fun _ _ _ h => by cases h.1) rfl (fun w0 hw0 => by first | rfl | kernel_rfl) ⟨(HR.out _ B0).1, (HR.out _ B0).2.1⟩ ?_
    simp only [Act.put, List.setIfInBounds_toArray, List.set_cons_zero, List.set_cons_succ]
    refine anyH_take (i := 1) (v := .pointer (some ⟨nb, 3, none⟩)) rfl (some 29) rfl (by kernel_rfl) (by kernel_rfl) (by kernel_rfl) (fun _ _ _ h => by cases h.1) rfl (fun w0 hw0 => by first | rfl | kernel_rfl) ⟨(HR.out _ B0).1, (HR.out _ B0).2.1⟩ ?_
    simp only [Act.put, List.setIfInBounds_toArray, List.set_cons_zero, List.set_cons_succ]
    refine anyH_take (i := 2) (v := .bool (roleB r.verb)) rfl (some 30) rfl (by kernel_rfl) (by kernel_rfl) (by kernel_rfl) (fun _ _ _ h => by cases h.1) rfl (fun w0 hw0 => ex_load rfl rfl (ldb (th_boxA hw0.2).2.2.2.1)) ⟨(HR.out _ B0).1, (HR.out _ B0).2.1⟩ ?_
    simp only [Act.put, List.setIfInBounds_toArray, List.set_cons_zero, List.set_cons_succ]
    refine anyH_take (i := 4) (v := .pointer (some ⟨w.heap.size, 4, none⟩)) rfl (some 32) rfl (by kernel_rfl) (by kernel_rfl) (by kernel_rfl) (fun _ _ _ h => by cases h.1) rfl (fun w0 hw0 => by first | rfl | kernel_rfl) ⟨(HR.out _ B0).1, (HR.out _ B0).2.1⟩ ?_
    simp only [Act.put, List.setIfInBounds_toArray, List.set_cons_zero, List.set_cons_succ]
    refine anyH_take (i := 5) (v := .int .u8 r.role) rfl (some 33) rfl (by kernel_rfl) (by kernel_rfl) (by kernel_rfl) (fun _ _ _ h => by cases h.1) rfl (fun w0 hw0 => ex_load rfl rfl (ldr (rq_box hw0.1).2.2.2.2.1)) ⟨(HR.out _ B0).1, (HR.out _ B0).2.1⟩ ?_
    simp only [Act.put, List.setIfInBounds_toArray, List.set_cons_zero, List.set_cons_succ]
    refine anyH_one (i := 3) (by kernel_rfl) ?_
    refine op_call rfl (some 31) rfl rfl #[] rfl (by simp) (fun _ _ => rfl) (roles_any V0) ?_
    rintro e V1 ⟨rfl, c1⟩
    have B1 : Below lb X1 V1 := B0.trans (c1.mono (Nat.le_of_lt s0))
    have A1 := A0.below c1
    have s1 : lb < V1.heap.size := Nat.lt_of_lt_of_le s0 c1.size
    refine ⟨_, rfl, ⟨(HR.out _ B1).1, (HR.out _ B1).2.1⟩, ?_⟩
    simp only [Act.put, List.setIfInBounds_toArray, List.set_cons_zero, List.set_cons_succ]
    refine anyH_take (i := 6) (v := .string (rolesL.getD r.role ⟨#[]⟩)) rfl (some 34) rfl (by kernel_rfl) (by kernel_rfl) (by kernel_rfl) (fun _ _ _ h => by cases h.1) rfl (fun w0 hw0 => ex_pickW rfl rfl rfl rfl HF.out.2.1) ⟨(HR.out _ B1).1, (HR.out _ B1).2.1⟩ ?_
    simp only [Act.put, List.setIfInBounds_toArray, List.set_cons_zero, List.set_cons_succ]
    refine anyH_one (i := 7) (by kernel_rfl) ?_
    refine op_callc rfl (some 35) rfl rfl #[.bool (roleB r.verb), .string ⟨#[114, 111, 108, 101]⟩, .string (rolesL.getD r.role ⟨#[]⟩)] rfl rfl (by simp [Act.eval]) (fun _ _ => rfl) (add_any (roleB r.verb) ⟨#[114, 111, 108, 101]⟩ (rolesL.getD r.role ⟨#[]⟩) lb (at3 r) V1 A1 (by have := len3 r; omega)) ?_
    rintro e V2 ⟨rfl, hA, hB⟩
    have B2 := B1.trans hB
    refine ⟨_, rfl, ⟨(HR.out _ B2).1, (HR.out _ B2).2.1⟩, ?_⟩
    simp only [Act.put, List.setIfInBounds_toArray, List.set_cons_zero, List.set_cons_succ]
    exact wpAnyH_done (by kernel_rfl) ⟨rfl, fill ⟨hA, B2⟩ (by kernel_rfl)⟩ _
  rintro a Y3 ⟨xx, ⟨hA, hB⟩, rfl⟩
  clear hV0 B0 A0 s0 V0
  simp only [putA, List.foldl_cons, List.foldl_nil, List.setIfInBounds_toArray, List.set_cons_zero, List.set_cons_succ]
  have HA4 := hide (And.intro hA hB)
  clear hA hB
  have sz4 : lb < Y3.heap.size := by
    obtain ⟨_, _, h, _⟩ := HA4.out.1
    exact (Array.getElem?_eq_some_iff.1 h).1
  go_wp2_with fail
  obtain ⟨V0, hV0⟩ : ∃ V, Y3.drew = V := ⟨_, rfl⟩
  have B0 : Below lb X1 V0 := by rw [← hV0]; exact HA4.out.2.drew
  have A0 : AtP lb (at4 r) V0 := HA4.out.1.below (by rw [← hV0]; exact (Below.refl _ _).drew)
  have s0 : lb < V0.heap.size := by rw [← hV0]; exact sz4
  refine region_relA (S := fun V => V.heap[w.heap.size]? = some (.cells (rqA r) 26) ∧ V.heap[nb]? = some (.cells (thA r.verb) 57)) (fun a0 a W => ∃ xx : Nat → Value, (AtP lb (at5 r) W ∧ Below lb X1 W) ∧ a = ⟨putA a0.tmps [36, 37, 38, 39, 40, 41, 42, 43] xx, a0.defers⟩) (by kernel_rfl) ?any4 ?fin4
  case any4 =>
    rw [hV0]
    clear hV0
    refine anyH_take (i := 0) (v := .func (.func 35) #[] #[.pointer (some ⟨lb, 0, none⟩)]) rfl (some 36) rfl (by kernel_rfl) (by kernel_rfl) (by kernel_rfl) (fun _ _ _ h => by cases h.1) rfl (fun w0 hw0 => by first | rfl | kernel_rfl) ⟨(HR.out _ B0).1, (HR.out _ B0).2.1⟩ ?_
    simp only [Act.put, List.setIfInBounds_toArray, List.set_cons_zero, List.set_cons_succ]
    refine anyH_take (i := 1) (v := .pointer (some ⟨nb, 4, none⟩)) rfl (some 37) rfl (by kernel_rfl) (by kernel_rfl) (by kernel_rfl) (fun _ _ _ h => by cases h.1) rfl (fun w0 hw0 => by first | rfl | kernel_rfl) ⟨(HR.out _ B0).1, (HR.out _ B0).2.1⟩ ?_
    simp only [Act.put, List.setIfInBounds_toArray, List.set_cons_zero, List.set_cons_succ]
    refine anyH_take (i := 2) (v := .bool (accB r.verb)) rfl (some 38) rfl (by kernel_rfl) (by kernel_rfl) (by kernel_rfl) (fun _ _ _ h => by cases h.1) rfl (fun w0 hw0 => ex_load rfl rfl (ldb (th_boxA hw0.2).2.2.2.2.1)) ⟨(HR.out _ B0).1, (HR.out _ B0).2.1⟩ ?_
    simp only [Act.put, List.setIfInBounds_toArray, List.set_cons_zero, List.set_cons_succ]
    refine anyH_take (i := 4) (v := .pointer (some ⟨w.heap.size, 5, none⟩)) rfl (some 40) rfl (by kernel_rfl) (by kernel_rfl) (by kernel_rfl) (fun _ _ _ h => by cases h.1) rfl (fun w0 hw0 => by first | rfl | kernel_rfl) ⟨(HR.out _ B0).1, (HR.out _ B0).2.1⟩ ?_
    simp only [Act.put, List.setIfInBounds_toArray, List.set_cons_zero, List.set_cons_succ]
    refine anyH_take (i := 5) (v := .int .u8 r.acc) rfl (some 41) rfl (by kernel_rfl) (by kernel_rfl) (by kernel_rfl) (fun _ _ _ h => by cases h.1) rfl (fun w0 hw0 => ex_load rfl rfl (lda (rq_box hw0.1).2.2.2.2.2.1)) ⟨(HR.out _ B0).1, (HR.out _ B0).2.1⟩ ?_
    simp only [Act.put, List.setIfInBounds_toArray, List.set_cons_zero, List.set_cons_succ]
    refine anyH_one (i := 3) (by kernel_rfl) ?_
    refine op_call rfl (some 39) rfl rfl #[] rfl (by simp) (fun _ _ => rfl) (accesses_any V0) ?_
    rintro e V1 ⟨rfl, c1⟩
    have B1 : Below lb X1 V1 := B0.trans (c1.mono (Nat.le_of_lt s0))
    have A1 := A0.below c1
    have s1 : lb < V1.heap.size := Nat.lt_of_lt_of_le s0 c1.size
    refine ⟨_, rfl, ⟨(HR.out _ B1).1, (HR.out _ B1).2.1⟩, ?_⟩
    simp only [Act.put, List.setIfInBounds_toArray, List.set_cons_zero, List.set_cons_succ]
    refine anyH_take (i := 6) (v := .string (accsL.getD r.acc ⟨#[]⟩)) rfl (some 42) rfl (by kernel_rfl) (by kernel_rfl) (by kernel_rfl) (fun _ _ _ h => by cases h.1) rfl (fun w0 hw0 => ex_pickW rfl rfl rfl rfl HF.out.2.2.1) ⟨(HR.out _ B1).1, (HR.out _ B1).2.1⟩ ?_
    simp only [Act.put, List.setIfInBounds_toArray, List.set_cons_zero, List.set_cons_succ]
    refine anyH_one (i := 7) (by kernel_rfl) ?_
    refine op_callc rfl (some 43) rfl rfl #[.bool (accB r.verb), .string ⟨#[97, 99, 99, 101, 115, 115]⟩, .string (accsL.getD r.acc ⟨#[]⟩)] rfl rfl (by simp [Act.eval]) (fun _ _ => rfl) (add_any (accB r.verb) ⟨#[97, 99, 99, 101, 115, 115]⟩ (accsL.getD r.acc ⟨#[]⟩) lb (at4 r) V1 A1 (by have := len4 r; omega)) ?_
    rintro e V2 ⟨rfl, hA, hB⟩
    have B2 := B1.trans hB
    refine ⟨_, rfl, ⟨(HR.out _ B2).1, (HR.out _ B2).2.1⟩, ?_⟩
    simp only [Act.put, List.setIfInBounds_toArray, List.set_cons_zero, List.set_cons_succ]
    exact wpAnyH_done (by kernel_rfl) ⟨rfl, fill ⟨hA, B2⟩ (by kernel_rfl)⟩ _
  rintro a Y4 ⟨xx, ⟨hA, hB⟩, rfl⟩
  clear hV0 B0 A0 s0 V0
  simp only [putA, List.foldl_cons, List.foldl_nil, List.setIfInBounds_toArray, List.set_cons_zero, List.set_cons_succ]
  have HA5 := hide (And.intro hA hB)
  clear hA hB
  have sz5 : lb < Y4.heap.size := by
    obtain ⟨_, _, h, _⟩ := HA5.out.1
    exact (Array.getElem?_eq_some_iff.1 h).1
  go_wp2_with fail
  obtain ⟨V0, hV0⟩ : ∃ V, Y4.drew = V := ⟨_, rfl⟩
  have B0 : Below lb X1 V0 := by rw [← hV0]; exact HA5.out.2.drew
  have A0 : AtP lb (at5 r) V0 := HA5.out.1.below (by rw [← hV0]; exact (Below.refl _ _).drew)
  have s0 : lb < V0.heap.size := by rw [← hV0]; exact sz5
  refine region_relA (S := fun V => V.heap[w.heap.size]? = some (.cells (rqA r) 26) ∧ V.heap[nb]? = some (.cells (thA r.verb) 57)) (fun a0 a W => ∃ xx : Nat → Value, (AtP lb (at6 r) W ∧ Below lb X1 W) ∧ a = ⟨putA a0.tmps [44, 45, 46, 47, 48, 49, 50] xx, a0.defers⟩) (by kernel_rfl) ?any5 ?fin5
  case any5 =>
    rw [hV0]
    clear hV0
    refine anyH_take (i := 0) (v := .func (.func 35) #[] #[.pointer (some ⟨lb, 0, none⟩)]) rfl (some 44) rfl (by kernel_rfl) (by kernel_rfl) (by kernel_rfl) (fun _ _ _ h => by cases h.1) rfl (fun w0 hw0 => by first | rfl | kernel_rfl) ⟨(HR.out _ B0).1, (HR.out _ B0).2.1⟩ ?_
    simp only [Act.put, List.setIfInBounds_toArray, List.set_cons_zero, List.set_cons_succ]
    refine anyH_take (i := 1) (v := .pointer (some ⟨nb, 5, none⟩)) rfl (some 45) rfl (by kernel_rfl) (by kernel_rfl) (by kernel_rfl) (fun _ _ _ h => by cases h.1) rfl (fun w0 hw0 => by first | rfl | kernel_rfl) ⟨(HR.out _ B0).1, (HR.out _ B0).2.1⟩ ?_
    simp only [Act.put, List.setIfInBounds_toArray, List.set_cons_zero, List.set_cons_succ]
    refine anyH_take (i := 2) (v := .bool (maxB r.verb)) rfl (some 46) rfl (by kernel_rfl) (by kernel_rfl) (by kernel_rfl) (fun _ _ _ h => by cases h.1) rfl (fun w0 hw0 => ex_load rfl rfl (ldb (th_boxA hw0.2).2.2.2.2.2.1)) ⟨(HR.out _ B0).1, (HR.out _ B0).2.1⟩ ?_
    simp only [Act.put, List.setIfInBounds_toArray, List.set_cons_zero, List.set_cons_succ]
    refine anyH_take (i := 3) (v := .pointer (some ⟨w.heap.size, 6, none⟩)) rfl (some 47) rfl (by kernel_rfl) (by kernel_rfl) (by kernel_rfl) (fun _ _ _ h => by cases h.1) rfl (fun w0 hw0 => by first | rfl | kernel_rfl) ⟨(HR.out _ B0).1, (HR.out _ B0).2.1⟩ ?_
    simp only [Act.put, List.setIfInBounds_toArray, List.set_cons_zero, List.set_cons_succ]
    refine anyH_take (i := 4) (v := .int .i64 r.max) rfl (some 48) rfl (by kernel_rfl) (by kernel_rfl) (by kernel_rfl) (fun _ _ _ h => by cases h.1) rfl (fun w0 hw0 => ex_load rfl rfl (ldi (rq_box hw0.1).2.2.2.2.2.2.1)) ⟨(HR.out _ B0).1, (HR.out _ B0).2.1⟩ ?_
    simp only [Act.put, List.setIfInBounds_toArray, List.set_cons_zero, List.set_cons_succ]
    refine anyH_one (i := 5) (by kernel_rfl) ?_
    refine op_call rfl (some 49) rfl rfl #[.int .i64 r.max] rfl (by simp [Act.eval]) (fun _ _ => rfl) (itoaW r.max HF.out.1.max0 HF.out.1.max1 V0 (HR.out V0 B0).2.2.1) ?_
    rintro e V1 ⟨rfl, c1⟩
    have B1 : Below lb X1 V1 := B0.trans (c1.mono (Nat.le_of_lt s0))
    have A1 := A0.below c1
    have s1 : lb < V1.heap.size := Nat.lt_of_lt_of_le s0 c1.size
    refine ⟨_, rfl, ⟨(HR.out _ B1).1, (HR.out _ B1).2.1⟩, ?_⟩
    simp only [Act.put, List.setIfInBounds_toArray, List.set_cons_zero, List.set_cons_succ]
    refine anyH_one (i := 6) (by kernel_rfl) ?_
    refine op_callc rfl (some 50) rfl rfl #[.bool (maxB r.verb), .string ⟨#[109, 97, 120]⟩, .string (itW r.max)] rfl rfl (by simp [Act.eval]) (fun _ _ => rfl) (add_any (maxB r.verb) ⟨#[109, 97, 120]⟩ (itW r.max) lb (at5 r) V1 A1 (by have := len5 r; omega)) ?_
    rintro e V2 ⟨rfl, hA, hB⟩
    have B2 := B1.trans hB
    refine ⟨_, rfl, ⟨(HR.out _ B2).1, (HR.out _ B2).2.1⟩, ?_⟩
    simp only [Act.put, List.setIfInBounds_toArray, List.set_cons_zero, List.set_cons_succ]
    exact wpAnyH_done (by kernel_rfl) ⟨rfl, fill ⟨hA, B2⟩ (by kernel_rfl)⟩ _
  rintro a Y5 ⟨xx, ⟨hA, hB⟩, rfl⟩
  clear hV0 B0 A0 s0 V0
  simp only [putA, List.foldl_cons, List.foldl_nil, List.setIfInBounds_toArray, List.set_cons_zero, List.set_cons_succ]
  have HA6 := hide (And.intro hA hB)
  clear hA hB
  have sz6 : lb < Y5.heap.size := by
    obtain ⟨_, _, h, _⟩ := HA6.out.1
    exact (Array.getElem?_eq_some_iff.1 h).1
  go_wp2_with fail
  obtain ⟨V0, hV0⟩ : ∃ V, Y5.drew = V := ⟨_, rfl⟩
  have B0 : Below lb X1 V0 := by rw [← hV0]; exact HA6.out.2.drew
  have A0 : AtP lb (at6 r) V0 := HA6.out.1.below (by rw [← hV0]; exact (Below.refl _ _).drew)
  have s0 : lb < V0.heap.size := by rw [← hV0]; exact sz6
  refine region_relA (S := fun V => V.heap[w.heap.size]? = some (.cells (rqA r) 26) ∧ V.heap[nb]? = some (.cells (thA r.verb) 57)) (fun a0 a W => ∃ xx : Nat → Value, (AtP lb (at7 r) W ∧ Below lb X1 W) ∧ a = ⟨putA a0.tmps [51, 52, 53, 54, 55, 56, 57] xx, a0.defers⟩) (by kernel_rfl) ?any6 ?fin6
  case any6 =>
    rw [hV0]
    clear hV0
    refine anyH_take (i := 0) (v := .func (.func 35) #[] #[.pointer (some ⟨lb, 0, none⟩)]) rfl (some 51) rfl (by kernel_rfl) (by kernel_rfl) (by kernel_rfl) (fun _ _ _ h => by cases h.1) rfl (fun w0 hw0 => by first | rfl | kernel_rfl) ⟨(HR.out _ B0).1, (HR.out _ B0).2.1⟩ ?_
    simp only [Act.put, List.setIfInBounds_toArray, List.set_cons_zero, List.set_cons_succ]
    refine anyH_take (i := 1) (v := .pointer (some ⟨nb, 6, none⟩)) rfl (some 52) rfl (by kernel_rfl) (by kernel_rfl) (by kernel_rfl) (fun _ _ _ h => by cases h.1) rfl (fun w0 hw0 => by first | rfl | kernel_rfl) ⟨(HR.out _ B0).1, (HR.out _ B0).2.1⟩ ?_
    simp only [Act.put, List.setIfInBounds_toArray, List.set_cons_zero, List.set_cons_succ]
    refine anyH_take (i := 2) (v := .bool (depthB r.verb)) rfl (some 53) rfl (by kernel_rfl) (by kernel_rfl) (by kernel_rfl) (fun _ _ _ h => by cases h.1) rfl (fun w0 hw0 => ex_load rfl rfl (ldb (th_boxA hw0.2).2.2.2.2.2.2.1)) ⟨(HR.out _ B0).1, (HR.out _ B0).2.1⟩ ?_
    simp only [Act.put, List.setIfInBounds_toArray, List.set_cons_zero, List.set_cons_succ]
    refine anyH_take (i := 3) (v := .pointer (some ⟨w.heap.size, 7, none⟩)) rfl (some 54) rfl (by kernel_rfl) (by kernel_rfl) (by kernel_rfl) (fun _ _ _ h => by cases h.1) rfl (fun w0 hw0 => by first | rfl | kernel_rfl) ⟨(HR.out _ B0).1, (HR.out _ B0).2.1⟩ ?_
    simp only [Act.put, List.setIfInBounds_toArray, List.set_cons_zero, List.set_cons_succ]
    refine anyH_take (i := 4) (v := .int .i64 r.depth) rfl (some 55) rfl (by kernel_rfl) (by kernel_rfl) (by kernel_rfl) (fun _ _ _ h => by cases h.1) rfl (fun w0 hw0 => ex_load rfl rfl (ldi (rq_box hw0.1).2.2.2.2.2.2.2.1)) ⟨(HR.out _ B0).1, (HR.out _ B0).2.1⟩ ?_
    simp only [Act.put, List.setIfInBounds_toArray, List.set_cons_zero, List.set_cons_succ]
    refine anyH_one (i := 5) (by kernel_rfl) ?_
    refine op_call rfl (some 56) rfl rfl #[.int .i64 r.depth] rfl (by simp [Act.eval]) (fun _ _ => rfl) (itoaW r.depth HF.out.1.depth0 HF.out.1.depth1 V0 (HR.out V0 B0).2.2.1) ?_
    rintro e V1 ⟨rfl, c1⟩
    have B1 : Below lb X1 V1 := B0.trans (c1.mono (Nat.le_of_lt s0))
    have A1 := A0.below c1
    have s1 : lb < V1.heap.size := Nat.lt_of_lt_of_le s0 c1.size
    refine ⟨_, rfl, ⟨(HR.out _ B1).1, (HR.out _ B1).2.1⟩, ?_⟩
    simp only [Act.put, List.setIfInBounds_toArray, List.set_cons_zero, List.set_cons_succ]
    refine anyH_one (i := 6) (by kernel_rfl) ?_
    refine op_callc rfl (some 57) rfl rfl #[.bool (depthB r.verb), .string ⟨#[100, 101, 112, 116, 104]⟩, .string (itW r.depth)] rfl rfl (by simp [Act.eval]) (fun _ _ => rfl) (add_any (depthB r.verb) ⟨#[100, 101, 112, 116, 104]⟩ (itW r.depth) lb (at6 r) V1 A1 (by have := len6 r; omega)) ?_
    rintro e V2 ⟨rfl, hA, hB⟩
    have B2 := B1.trans hB
    refine ⟨_, rfl, ⟨(HR.out _ B2).1, (HR.out _ B2).2.1⟩, ?_⟩
    simp only [Act.put, List.setIfInBounds_toArray, List.set_cons_zero, List.set_cons_succ]
    exact wpAnyH_done (by kernel_rfl) ⟨rfl, fill ⟨hA, B2⟩ (by kernel_rfl)⟩ _
  rintro a Y6 ⟨xx, ⟨hA, hB⟩, rfl⟩
  clear hV0 B0 A0 s0 V0
  simp only [putA, List.foldl_cons, List.foldl_nil, List.setIfInBounds_toArray, List.set_cons_zero, List.set_cons_succ]
  have HA7 := hide (And.intro hA hB)
  clear hA hB
  have sz7 : lb < Y6.heap.size := by
    obtain ⟨_, _, h, _⟩ := HA7.out.1
    exact (Array.getElem?_eq_some_iff.1 h).1
  have hadd := hide (add_any (parB r.verb) ⟨#[112, 97, 114, 101, 110, 116]⟩ r.parent lb (at7 r) Y6 HA7.out.1 (by have := len7 r; omega))
  have cr := (rq_box (HR.out Y6 HA7.out.2).1).2.2.2.2.2.2.2.2.1
  have cn := (th_boxA (HR.out Y6 HA7.out.2).2.1).2.2.2.2.2.2.2.1
  go_wp2_with fail
  refine hadd.out.mono ?_
  rintro e Y7 ⟨rfl, hA, hB⟩
  clear cr cn hadd
  have HA8 := hide (And.intro (show AtP lb (at8 r) Y7 from hA) (HA7.out.2.trans hB))
  clear hA hB
  have sz8 : lb < Y7.heap.size := by
    obtain ⟨_, _, h, _⟩ := HA8.out.1
    exact (Array.getElem?_eq_some_iff.1 h).1
  go_wp2_with fail
  obtain ⟨V0, hV0⟩ : ∃ V, Y7.drew = V := ⟨_, rfl⟩
  have B0 : Below lb X1 V0 := by rw [← hV0]; exact HA8.out.2.drew
  have A0 : AtP lb (at8 r) V0 := HA8.out.1.below (by rw [← hV0]; exact (Below.refl _ _).drew)
  have s0 : lb < V0.heap.size := by rw [← hV0]; exact sz8
  refine region_relA (S := fun V => V.heap[w.heap.size]? = some (.cells (rqA r) 26) ∧ V.heap[nb]? = some (.cells (thA r.verb) 57)) (fun a0 a W => ∃ xx : Nat → Value, (AtP lb (at9 r) W ∧ Below lb X1 W) ∧ a = ⟨putA a0.tmps [64, 65, 66, 67, 68, 69, 70, 71, 72] xx, a0.defers⟩) (by kernel_rfl) ?any8 ?fin8
  case any8 =>
    rw [hV0]
    clear hV0
    refine anyH_take (i := 0) (v := .func (.func 35) #[] #[.pointer (some ⟨lb, 0, none⟩)]) rfl (some 64) rfl (by kernel_rfl) (by kernel_rfl) (by kernel_rfl) (fun _ _ _ h => by cases h.1) rfl (fun w0 hw0 => by first | rfl | kernel_rfl) ⟨(HR.out _ B0).1, (HR.out _ B0).2.1⟩ ?_
    simp only [Act.put, List.setIfInBounds_toArray, List.set_cons_zero, List.set_cons_succ]
    refine anyH_take (i := 1) (v := .pointer (some ⟨nb, 8, none⟩)) rfl (some 65) rfl (by kernel_rfl) (by kernel_rfl) (by kernel_rfl) (fun _ _ _ h => by cases h.1) rfl (fun w0 hw0 => by first | rfl | kernel_rfl) ⟨(HR.out _ B0).1, (HR.out _ B0).2.1⟩ ?_
    simp only [Act.put, List.setIfInBounds_toArray, List.set_cons_zero, List.set_cons_succ]
    refine anyH_take (i := 2) (v := .bool (kindB r.verb)) rfl (some 66) rfl (by kernel_rfl) (by kernel_rfl) (by kernel_rfl) (fun _ _ _ h => by cases h.1) rfl (fun w0 hw0 => ex_load rfl rfl (ldb (th_boxA hw0.2).2.2.2.2.2.2.2.2.1)) ⟨(HR.out _ B0).1, (HR.out _ B0).2.1⟩ ?_
    simp only [Act.put, List.setIfInBounds_toArray, List.set_cons_zero, List.set_cons_succ]
    refine anyH_take (i := 4) (v := .pointer (some ⟨w.heap.size, 9, none⟩)) rfl (some 68) rfl (by kernel_rfl) (by kernel_rfl) (by kernel_rfl) (fun _ _ _ h => by cases h.1) rfl (fun w0 hw0 => by first | rfl | kernel_rfl) ⟨(HR.out _ B0).1, (HR.out _ B0).2.1⟩ ?_
    simp only [Act.put, List.setIfInBounds_toArray, List.set_cons_zero, List.set_cons_succ]
    refine anyH_take (i := 5) (v := .bool r.coll) rfl (some 69) rfl (by kernel_rfl) (by kernel_rfl) (by kernel_rfl) (fun _ _ _ h => by cases h.1) rfl (fun w0 hw0 => ex_load rfl rfl (ldb (rq_box hw0.1).2.2.2.2.2.2.2.2.2.1)) ⟨(HR.out _ B0).1, (HR.out _ B0).2.1⟩ ?_
    simp only [Act.put, List.setIfInBounds_toArray, List.set_cons_zero, List.set_cons_succ]
    refine anyH_one (i := 3) (by kernel_rfl) ?_
    refine op_call rfl (some 67) rfl rfl #[] rfl (by simp) (fun _ _ => rfl) (types_any V0) ?_
    rintro e V1 ⟨rfl, c1⟩
    have B1 : Below lb X1 V1 := B0.trans (c1.mono (Nat.le_of_lt s0))
    have A1 := A0.below c1
    have s1 : lb < V1.heap.size := Nat.lt_of_lt_of_le s0 c1.size
    refine ⟨_, rfl, ⟨(HR.out _ B1).1, (HR.out _ B1).2.1⟩, ?_⟩
    simp only [Act.put, List.setIfInBounds_toArray, List.set_cons_zero, List.set_cons_succ]
    refine anyH_one (i := 6) (by kernel_rfl) ?_
    refine op_call rfl (some 70) rfl rfl #[.bool r.coll] rfl (by simp [Act.eval]) (fun _ _ => rfl) (typeOf_any r.coll V1) ?_
    rintro e Vx ⟨rfl, hV⟩
    obtain rfl : V1 = Vx := hV.symm
    refine ⟨_, rfl, ⟨(HR.out _ B1).1, (HR.out _ B1).2.1⟩, ?_⟩
    simp only [Act.put, List.setIfInBounds_toArray, List.set_cons_zero, List.set_cons_succ]
    have hty : (if r.coll = true then (1 : Int) else 0) = ((if r.coll = true then 1 else 0 : Nat) : Int) := by cases r.coll <;> rfl
    have hty2 : (if r.coll = true then 1 else 0 : Nat) < 16 := by cases r.coll <;> decide
    refine anyH_take (i := 7) (v := .string (typesL.getD (if r.coll = true then 1 else 0) ⟨#[]⟩)) rfl (some 71) rfl (by kernel_rfl) (by kernel_rfl) (by kernel_rfl) (fun _ _ _ h => by cases h.1) rfl (fun w0 hw0 => ex_pickW rfl rfl (congrArg (Value.int .i64) hty) rfl hty2) ⟨(HR.out _ B1).1, (HR.out _ B1).2.1⟩ ?_
    simp only [Act.put, List.setIfInBounds_toArray, List.set_cons_zero, List.set_cons_succ]
    refine anyH_one (i := 8) (by kernel_rfl) ?_
    refine op_callc rfl (some 72) rfl rfl #[.bool (kindB r.verb), .string ⟨#[116, 121, 112, 101]⟩, .string (typesL.getD (if r.coll = true then 1 else 0) ⟨#[]⟩)] rfl rfl (by simp [Act.eval]) (fun _ _ => rfl) (add_any (kindB r.verb) ⟨#[116, 121, 112, 101]⟩ (typesL.getD (if r.coll = true then 1 else 0) ⟨#[]⟩) lb (at8 r) V1 A1 (by have := len8 r; omega)) ?_
    rintro e V2 ⟨rfl, hA, hB⟩
    have B2 := B1.trans hB
    refine ⟨_, rfl, ⟨(HR.out _ B2).1, (HR.out _ B2).2.1⟩, ?_⟩
    simp only [Act.put, List.setIfInBounds_toArray, List.set_cons_zero, List.set_cons_succ]
    exact wpAnyH_done (by kernel_rfl) ⟨rfl, fill ⟨hA, B2⟩ (by kernel_rfl)⟩ _
  rintro a Y8 ⟨xx, ⟨hA, hB⟩, rfl⟩
  clear hV0 B0 A0 s0 V0
  simp only [putA, List.foldl_cons, List.foldl_nil, List.setIfInBounds_toArray, List.set_cons_zero, List.set_cons_succ]
  have HA9 := hide (And.intro hA hB)
  clear hA hB
  obtain ⟨ga, gc, hl, ho⟩ := HA9.out.1
  have cl : Y8.cell? ⟨lb, 0, none⟩ = some (.slice ga (at9 r).length gc) := by simp [World.cell?, hl]
  have HO := hide ho
  clear ho hl
  go_wp2_with fail
  go_ret
  exact ⟨ga, gc, rfl, own_less HO.out (by have := HLb.out.1; omega), (HR.out Y8 HA9.out.2).2.2.2⟩
end Go.Proofs.YtimhkgpjfppkmaaDoor
