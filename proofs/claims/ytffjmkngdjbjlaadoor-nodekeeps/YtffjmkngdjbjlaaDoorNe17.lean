/- law11's do: an edit. -/
import Derived.Test.YtffjmkngdjbjlaaDoorQM
namespace Go.Proofs.YtffjmkngdjbjlaaDoor
open Go.RowKit

/-- An edit. -/
structure Ed where
  kind : Int
  by_ : ByteArray
  who : ByteArray
  depth : Int
  max : Int
  yes : Bool
  role : Nat
  acc : Nat
  item : ByteArray
  text : ByteArray
def edA (x : Ed) : Array Value := #[.int .i64 x.kind, .string x.by_, .string x.who, .int .i64 x.depth, .int .i64 x.max, .bool x.yes, .int .u8 x.role, .int .u8 x.acc, .string x.item, .string x.text]
structure EdFits (x : Ed) : Prop where
  by_ : Fits x.by_
  who : Fits x.who
  item : Fits x.item
  text : Fits x.text
theorem ed_box11 {w : World} {b : Nat} {x : Ed} {ty : TypeId} (h : w.heap[b]? = some (.cells (edA x) ty)) : w.cell? ⟨b, 0, none⟩ = some (.int .i64 x.kind) ∧ w.cell? ⟨b, 1, none⟩ = some (.string x.by_) ∧ w.cell? ⟨b, 2, none⟩ = some (.string x.who) ∧ w.cell? ⟨b, 3, none⟩ = some (.int .i64 x.depth) ∧ w.cell? ⟨b, 4, none⟩ = some (.int .i64 x.max) ∧ w.cell? ⟨b, 5, none⟩ = some (.bool x.yes) ∧ w.cell? ⟨b, 6, none⟩ = some (.int .u8 x.role) ∧ w.cell? ⟨b, 7, none⟩ = some (.int .u8 x.acc) ∧ w.cell? ⟨b, 8, none⟩ = some (.string x.item) ∧ w.cell? ⟨b, 9, none⟩ = some (.string x.text) := by
  unfold edA at h
  refine ⟨?_, ?_, ?_, ?_, ?_, ?_, ?_, ?_, ?_, ?_⟩ <;> simp [World.cell?, h]
theorem load_int {w : World} {b i : Nat} {v : Value} (hc : w.cell? ⟨b, i, none⟩ = some v) : (Instr.loadAt 3 (.pointer (some ⟨b, i, none⟩))).run Tryd.prog w = .ok v w := by
  have ha : (isAgg 3).run Tryd.prog w = .ok false w := by
    unfold isAgg
    rw [Sem.run_bind, run_underlying Tryd.underlying3 w]
    simp
  simp [Instr.loadAt, Instr.sureAddr, loadVar, ha, hc, go_sem]
/-- What an edit comes to. -/
def DoC (n : Nd) (x : Ed) : Nd → Int → Prop :=
  if x.kind = 0 then SbsC n x.who x.depth else
  if x.kind = 1 then UnsC n x.who else
  if x.kind = 2 then DecC n x.by_ x.who x.yes else
  if x.kind = 3 then AflC n x.by_ x.who x.role else
  if x.kind = 4 then PubC n x.by_ x.item x.text else
  if x.kind = 5 then RetC n x.by_ x.item else
  if x.kind = 6 then PurC n x.by_ else
  CfgC n x.by_ x.acc x.max
theorem do_end {w W w1 : World} {C : Nd → Int → Prop} {m : Nd} {u : NdW} {c : Int} (bW : Below w.heap.size w W) (zW : W.heap.size = w.heap.size + 3) (hC : C m c) (hm : NdM w1.heap.size w1 m u) (b : Below W.heap.size W w1) (ho : Own W u) : EditR w C (.returned (.tuple #[.agg (ndA m u), .int .i64 c])) (setNd w1 (w.heap.size + 2) m u) :=
  ⟨m, u, c, rfl, hC, ndM_far hm setNd_size setNd_far ⟨fun a e => by have := ho.1 a e; omega, fun a e => by have := ho.2.1 a e; omega, fun a e => by have := ho.2.2 a e; omega⟩, setNd_below (bW.trans (b.mono bW.size)) (by omega), ⟨fun a e => by have := ho.1 a e; omega, fun a e => by have := ho.2.1 a e; omega, fun a e => by have := ho.2.2 a e; omega⟩⟩
set_option maxRecDepth 100000 in
set_option maxHeartbeats 8000000 in
theorem do_any (n : Nd) (v : NdW) (x : Ed) (w : World) (hm : NdM w.heap.size w n v) (hg : Glob w) (hf : EdFits x) :
    Calls Tryd.prog 10 #[.agg (ndA n v), .agg (edA x)] w fun e w' => EditR w (DoC n x) e w' := by
  obtain ⟨Wa, hWa⟩ : ∃ Wa, w.alloc (.cells (ndA n v) 28) = Wa := ⟨_, rfl⟩
  have fa := World.alloc_heap_new w (.cells (ndA n v) 28)
  have ba : Below w.heap.size w Wa := by rw [← hWa]; exact (Below.refl _ w).alloc (Nat.le_refl _) _
  have za : Wa.heap.size = w.heap.size + 1 := by rw [← hWa]; simp
  obtain ⟨Wb, hWb⟩ : ∃ Wb, Wa.alloc (.cells (edA x) 35) = Wb := ⟨_, rfl⟩
  have fb := World.alloc_heap_new Wa (.cells (edA x) 35)
  have bb : Below Wa.heap.size Wa Wb := by rw [← hWb]; exact (Below.refl _ Wa).alloc (Nat.le_refl _) _
  have zb : Wb.heap.size = w.heap.size + 2 := by rw [← hWb, World.size_alloc, za]
  obtain ⟨W, hW⟩ : ∃ W, Wb.alloc (.cells #[.string ⟨#[]⟩, .bool false, .int .u8 0, .int .i64 0, .slice none 0 0, .slice none 0 0, .slice none 0 0, .string ⟨#[]⟩] 28) = W := ⟨_, rfl⟩
  have fc : W.heap[Wb.heap.size]? = some (.cells (ndA noN noW) 28) := by rw [← hW]; exact World.alloc_heap_new Wb _
  have bc : Below Wb.heap.size Wb W := by rw [← hW]; exact (Below.refl _ Wb).alloc (Nat.le_refl _) _
  have zc : W.heap.size = w.heap.size + 3 := by rw [← hW, World.size_alloc, zb]
  rw [hWa] at fa
  rw [hWb, za] at fb
  rw [zb] at fc
  have f0 := (bc.block _ (by omega)).trans ((bb.block _ (by omega)).trans fa)
  have f1 := (bc.block _ (by omega)).trans fb
  have bW : Below w.heap.size w W := (ba.trans (bb.mono ba.size)).trans (bc.mono (by omega))
  have HMW := hide (hm.move bW)
  have HGW := hide (hg.below bW)
  have HF := hide hf
  have HA := hide f0
  have HR := hide fc
  have HB := hide (And.intro bW zc)
  have HA0 := hide (load_nd f0)
  rw [← hWa] at hWb
  rw [← hWb] at hW
  obtain ⟨c0, c1, c2, c3, c4, c5, c6, c7, c8, c9⟩ := ed_box11 f1
  have c0' := c0
  rw [← hW] at c0
  have HW := hide hW
  clear hm hg hf fa ba za hWa hWb fb bb zb fc bc zc f0 f1 bW hW
  obtain ⟨C, hC⟩ : ∃ C, DoC n x = C := ⟨_, rfl⟩
  rw [hC]
  have HC := hide hC
  clear hC
  have H0 := hide c0
  have HL0 := hide (load_int c0)
  clear c0
  go_enter Tryd.func10, Tryd.ntmps10
  go_wp2_with (refine l_load _ HL0.out rfl rfl rfl ?_; refine stopNd ?_)
  unfold Hid
  have hW := HW.out
  rw [hW]
  clear hW HW H0 HL0
  by_cases h0 : x.kind = 0
  · have HK0 := hide h0
    have hk0 : (x.kind == 0) = true := by rw [h0]; rfl
    clear h0
    have hcall := subscribe_any n v x.who x.depth W HMW.out HGW.out HF.out.who (withS_all _ _)
    have hCe : SbsC n x.who x.depth = C := by rw [← HC.out]; unfold DoC; rw [if_pos HK0.out]
    rw [hCe] at hcall
    have HCa := hide hcall
    clear hcall hCe
    go_wp2_with (refine l_load _ (load_nd HA.out) rfl rfl rfl ?_)
    refine HCa.out.mono ?_
    rintro e w1 ⟨m, u, c, rfl, hC1, hm1, b1, ho1⟩
    have HR1 := hide ((b1.block _ (by have := HB.out.2; omega)).trans HR.out)
    have HE := hide (do_end HB.out.1 HB.out.2 hC1 hm1 b1 ho1)
    clear hC1 hm1 b1 ho1 HCa
    go_wp2_with (refine l_store _ (store_nd (n := m) (u := u) HR1.out) rfl rfl rfl rfl ?_)
    exact bodyPost_ret (results_nc rfl rfl rfl (setNd_heap HR1.out)) rfl HE.out
  · have HK0 := hide h0
    have hk0 : (x.kind == 0) = false := by rw [beq_eq_false_iff_ne]; exact h0
    clear h0
    by_cases h1 : x.kind = 1
    · have HK1 := hide h1
      have hk1 : (x.kind == 1) = true := by rw [h1]; rfl
      clear h1
      have hcall := unsubscribe_any n v x.who W HMW.out HGW.out
      have hCe : UnsC n x.who = C := by rw [← HC.out]; unfold DoC; rw [if_neg HK0.out, if_pos HK1.out]
      rw [hCe] at hcall
      have HCa := hide hcall
      clear hcall hCe
      go_wp2_with (refine l_load _ (load_nd HA.out) rfl rfl rfl ?_)
      refine HCa.out.mono ?_
      rintro e w1 ⟨m, u, c, rfl, hC1, hm1, b1, ho1⟩
      have HR1 := hide ((b1.block _ (by have := HB.out.2; omega)).trans HR.out)
      have HE := hide (do_end HB.out.1 HB.out.2 hC1 hm1 b1 ho1)
      clear hC1 hm1 b1 ho1 HCa
      go_wp2_with (refine l_store _ (store_nd (n := m) (u := u) HR1.out) rfl rfl rfl rfl ?_)
      exact bodyPost_ret (results_nc rfl rfl rfl (setNd_heap HR1.out)) rfl HE.out
    · have HK1 := hide h1
      have hk1 : (x.kind == 1) = false := by rw [beq_eq_false_iff_ne]; exact h1
      clear h1
      by_cases h2 : x.kind = 2
      · have HK2 := hide h2
        have hk2 : (x.kind == 2) = true := by rw [h2]; rfl
        clear h2
        have hcall := decide_any n v x.by_ x.who x.yes W HMW.out HGW.out HF.out.who
        have hCe : DecC n x.by_ x.who x.yes = C := by rw [← HC.out]; unfold DoC; rw [if_neg HK0.out, if_neg HK1.out, if_pos HK2.out]
        rw [hCe] at hcall
        have HCa := hide hcall
        clear hcall hCe
        go_wp2_with (refine l_load _ (load_nd HA.out) rfl rfl rfl ?_)
        refine HCa.out.mono ?_
        rintro e w1 ⟨m, u, c, rfl, hC1, hm1, b1, ho1⟩
        have HR1 := hide ((b1.block _ (by have := HB.out.2; omega)).trans HR.out)
        have HE := hide (do_end HB.out.1 HB.out.2 hC1 hm1 b1 ho1)
        clear hC1 hm1 b1 ho1 HCa
        go_wp2_with (refine l_store _ (store_nd (n := m) (u := u) HR1.out) rfl rfl rfl rfl ?_)
        exact bodyPost_ret (results_nc rfl rfl rfl (setNd_heap HR1.out)) rfl HE.out
      · have HK2 := hide h2
        have hk2 : (x.kind == 2) = false := by rw [beq_eq_false_iff_ne]; exact h2
        clear h2
        by_cases h3 : x.kind = 3
        · have HK3 := hide h3
          have hk3 : (x.kind == 3) = true := by rw [h3]; rfl
          clear h3
          have hcall := affiliate_any n v x.by_ x.who x.role W HMW.out HGW.out HF.out.who
          have hCe : AflC n x.by_ x.who x.role = C := by rw [← HC.out]; unfold DoC; rw [if_neg HK0.out, if_neg HK1.out, if_neg HK2.out, if_pos HK3.out]
          rw [hCe] at hcall
          have HCa := hide hcall
          clear hcall hCe
          go_wp2_with (refine l_load _ (load_nd HA.out) rfl rfl rfl ?_)
          refine HCa.out.mono ?_
          rintro e w1 ⟨m, u, c, rfl, hC1, hm1, b1, ho1⟩
          have HR1 := hide ((b1.block _ (by have := HB.out.2; omega)).trans HR.out)
          have HE := hide (do_end HB.out.1 HB.out.2 hC1 hm1 b1 ho1)
          clear hC1 hm1 b1 ho1 HCa
          go_wp2_with (refine l_store _ (store_nd (n := m) (u := u) HR1.out) rfl rfl rfl rfl ?_)
          exact bodyPost_ret (results_nc rfl rfl rfl (setNd_heap HR1.out)) rfl HE.out
        · have HK3 := hide h3
          have hk3 : (x.kind == 3) = false := by rw [beq_eq_false_iff_ne]; exact h3
          clear h3
          by_cases h4 : x.kind = 4
          · have HK4 := hide h4
            have hk4 : (x.kind == 4) = true := by rw [h4]; rfl
            clear h4
            have hcall := publish_any n v x.by_ x.item x.text W HMW.out HGW.out HF.out.by_ HF.out.item HF.out.text
            have hCe : PubC n x.by_ x.item x.text = C := by rw [← HC.out]; unfold DoC; rw [if_neg HK0.out, if_neg HK1.out, if_neg HK2.out, if_neg HK3.out, if_pos HK4.out]
            rw [hCe] at hcall
            have HCa := hide hcall
            clear hcall hCe
            go_wp2_with (refine l_load _ (load_nd HA.out) rfl rfl rfl ?_)
            refine HCa.out.mono ?_
            rintro e w1 ⟨m, u, c, rfl, hC1, hm1, b1, ho1⟩
            have HR1 := hide ((b1.block _ (by have := HB.out.2; omega)).trans HR.out)
            have HE := hide (do_end HB.out.1 HB.out.2 hC1 hm1 b1 ho1)
            clear hC1 hm1 b1 ho1 HCa
            go_wp2_with (refine l_store _ (store_nd (n := m) (u := u) HR1.out) rfl rfl rfl rfl ?_)
            exact bodyPost_ret (results_nc rfl rfl rfl (setNd_heap HR1.out)) rfl HE.out
          · have HK4 := hide h4
            have hk4 : (x.kind == 4) = false := by rw [beq_eq_false_iff_ne]; exact h4
            clear h4
            by_cases h5 : x.kind = 5
            · have HK5 := hide h5
              have hk5 : (x.kind == 5) = true := by rw [h5]; rfl
              clear h5
              have hcall := retract_any n v x.by_ x.item W HMW.out HGW.out
              have hCe : RetC n x.by_ x.item = C := by rw [← HC.out]; unfold DoC; rw [if_neg HK0.out, if_neg HK1.out, if_neg HK2.out, if_neg HK3.out, if_neg HK4.out, if_pos HK5.out]
              rw [hCe] at hcall
              have HCa := hide hcall
              clear hcall hCe
              go_wp2_with (refine l_load _ (load_nd HA.out) rfl rfl rfl ?_)
              refine HCa.out.mono ?_
              rintro e w1 ⟨m, u, c, rfl, hC1, hm1, b1, ho1⟩
              have HR1 := hide ((b1.block _ (by have := HB.out.2; omega)).trans HR.out)
              have HE := hide (do_end HB.out.1 HB.out.2 hC1 hm1 b1 ho1)
              clear hC1 hm1 b1 ho1 HCa
              go_wp2_with (refine l_store _ (store_nd (n := m) (u := u) HR1.out) rfl rfl rfl rfl ?_)
              exact bodyPost_ret (results_nc rfl rfl rfl (setNd_heap HR1.out)) rfl HE.out
            · have HK5 := hide h5
              have hk5 : (x.kind == 5) = false := by rw [beq_eq_false_iff_ne]; exact h5
              clear h5
              by_cases h6 : x.kind = 6
              · have HK6 := hide h6
                have hk6 : (x.kind == 6) = true := by rw [h6]; rfl
                clear h6
                have hcall := purge_any n v x.by_ W HMW.out HGW.out
                have hCe : PurC n x.by_ = C := by rw [← HC.out]; unfold DoC; rw [if_neg HK0.out, if_neg HK1.out, if_neg HK2.out, if_neg HK3.out, if_neg HK4.out, if_neg HK5.out, if_pos HK6.out]
                rw [hCe] at hcall
                have HCa := hide hcall
                clear hcall hCe
                go_wp2_with (refine l_load _ (load_nd HA.out) rfl rfl rfl ?_)
                refine HCa.out.mono ?_
                rintro e w1 ⟨m, u, c, rfl, hC1, hm1, b1, ho1⟩
                have HR1 := hide ((b1.block _ (by have := HB.out.2; omega)).trans HR.out)
                have HE := hide (do_end HB.out.1 HB.out.2 hC1 hm1 b1 ho1)
                clear hC1 hm1 b1 ho1 HCa
                go_wp2_with (refine l_store _ (store_nd (n := m) (u := u) HR1.out) rfl rfl rfl rfl ?_)
                exact bodyPost_ret (results_nc rfl rfl rfl (setNd_heap HR1.out)) rfl HE.out
              · have HK6 := hide h6
                have hk6 : (x.kind == 6) = false := by rw [beq_eq_false_iff_ne]; exact h6
                clear h6
                have hcall := configure_any n v x.by_ x.acc x.max W HMW.out HGW.out
                have hCe : CfgC n x.by_ x.acc x.max = C := by rw [← HC.out]; unfold DoC; rw [if_neg HK0.out, if_neg HK1.out, if_neg HK2.out, if_neg HK3.out, if_neg HK4.out, if_neg HK5.out, if_neg HK6.out]
                rw [hCe] at hcall
                have HCa := hide hcall
                clear hcall hCe
                go_wp2_with (refine l_load _ (load_nd HA.out) rfl rfl rfl ?_)
                refine HCa.out.mono ?_
                rintro e w1 ⟨m, u, c, rfl, hC1, hm1, b1, ho1⟩
                have HR1 := hide ((b1.block _ (by have := HB.out.2; omega)).trans HR.out)
                have HE := hide (do_end HB.out.1 HB.out.2 hC1 hm1 b1 ho1)
                clear hC1 hm1 b1 ho1 HCa
                go_wp2_with (refine l_store _ (store_nd (n := m) (u := u) HR1.out) rfl rfl rfl rfl ?_)
                exact bodyPost_ret (results_nc rfl rfl rfl (setNd_heap HR1.out)) rfl HE.out
end Go.Proofs.YtffjmkngdjbjlaaDoor
