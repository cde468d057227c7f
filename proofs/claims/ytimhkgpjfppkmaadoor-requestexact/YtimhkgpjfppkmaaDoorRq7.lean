/- A request's payload: Encode. -/
import Derived.Test.YtimhkgpjfppkmaaDoorGG
import Derived.Test.YtimhkgpjfppkmaaDoorRq6
import Derived.Test.YtimhkgpjfppkmaaDoorRq4
namespace Go.Proofs.YtimhkgpjfppkmaaDoor
open Go.RowKit Go.Shelf

theorem results_tt {a b : Nat} {fn : Func} {tmps : Array Value} {w : World} (h : fn.results = #[.tmp a, .tmp b]) : (results fn tmps).run Tryd.prog w = .ok (.tuple #[tmps[a]?.getD undef, tmps[b]?.getD undef]) w := by
  simp [results, h, go_sem]
theorem right_role {r : Rq} (h : RightRq r) : r.role < 16 ∧ r.acc < 16 := by
  have h1 := h.2.2.2.2.1
  have h2 := h.2.2.2.2.2.1
  unfold fitB at h1 h2
  constructor
  · split at h1
    · have := (Bool.and_eq_true _ _).mp h1 |>.2
      have := of_decide_eq_true this
      omega
    · have := of_decide_eq_true h1
      omega
  · split at h2
    · have := of_decide_eq_true h2
      omega
    · have := of_decide_eq_true h2
      omega
theorem ldVerb {w : World} {p : Addr} {x : Int} (hc : w.cell? p = some (.int .u8 x)) : (Instr.loadAt 22 (.pointer (some p))).run Tryd.prog w = .ok (.int .u8 x) w := by
  simp [Instr.loadAt, Instr.sureAddr, loadVar, Tryd.isAgg22, hc, go_sem]
theorem elRow_low {b b' : Nat} {w : World} {v : Value} {l : List TokV} (h : ElRow b w v l) (hb : b' ≤ b) : ElRow b' w v l := ⟨own_less h.1 hb, fun x hx => ⟨own_less (h.2 x hx).1 hb, (h.2 x hx).2⟩⟩
/-- How Encode ends: with the payload of a right request, or an error. -/
def EncR (r : Rq) (base : Nat) (e : Ending) (w' : World) : Prop := (RightRq r ∧ ∃ v l, e = .returned (.tuple #[v, .int .i64 0]) ∧ l.map (·.1) = encT r ∧ ElRow base w' v l) ∨ (¬ RightRq r ∧ e = .returned (.tuple #[.slice none 0 0, .int .i64 3]))
set_option maxRecDepth 100000 in
set_option maxHeartbeats 4000000 in
theorem encode_any (r : Rq) (w : World) (hf : RqFits r) (hG : GlbR w) : Calls Tryd.prog 7 #[.agg (rqA r)] w fun e w' => EncR r w.heap.size e w' ∧ Below w.heap.size w w' := by
  obtain ⟨W1, hW1⟩ : ∃ W1, w.alloc (.cells (rqA r) 26) = W1 := ⟨_, rfl⟩
  have b1 : Below w.heap.size w W1 := by rw [← hW1]; exact (Below.refl _ w).alloc (Nat.le_refl _) _
  have f1 : W1.heap[w.heap.size]? = some (.cells (rqA r) 26) := by rw [← hW1]; exact World.alloc_heap_new _ _
  have HR := hide (right_any r W1 hf (hG.below b1))
  have H1 := hide (And.intro f1 (And.intro b1 (hG.below b1)))
  have HF := hide hf
  have HL := hide (load_rq f1)
  clear b1 f1 hf hG
  go_enter Tryd.func7, Tryd.ntmps7
  go_wp2_with (refine l_load _ HL.out rfl rfl rfl ?_)
  refine HR.out.mono ?_
  rintro e w2 ⟨⟨bb, rfl, hbb⟩, b2⟩
  have B2 : Below w.heap.size w w2 := H1.out.2.1.trans (b2.mono H1.out.2.1.size)
  cases bb with
  | false =>
    have hr : ¬ RightRq r := fun h => by have := hbb.2 h; cases this
    have H2 := hide (And.intro hr B2)
    clear hr B2 b2 hbb
    go_wp2_with fail
    exact bodyPost_ret (results_tt (a := 2) (b := 3) rfl) rfl ⟨.inr ⟨H2.out.1, rfl⟩, H2.out.2⟩
  | true =>
    have hr : RightRq r := hbb.1 rfl
    have f2 := (b2.block _ (Array.getElem?_eq_some_iff.1 H1.out.1).1).trans H1.out.1
    have H2 := hide (And.intro hr (And.intro f2 (And.intro B2 (H1.out.2.2.below b2))))
    clear hr f2 B2 b2 hbb HL
    go_wp2_with fail
    obtain ⟨V0, hV0⟩ : ∃ V, w2.drew = V := ⟨_, rfl⟩
    have hd : w2.drew.heap = w2.heap := rfl
    rw [hV0] at hd
    have f0 := H2.out.2.1
    rw [← hd] at f0
    have B0 : Below w.heap.size w V0 := by rw [← hV0]; exact H2.out.2.2.1.drew
    have G0 : GlbR V0 := H2.out.2.2.2.below (by rw [← hV0]; exact (Below.refl _ _).drew)
    refine region_relA (S := fun V => V.heap[w.heap.size]? = some (.cells (rqA r) 26)) (fun a0 a W => ∃ (v : Value) (l : List TokV) (xx : Nat → Value), (l.map (·.1) = encT r ∧ ElRow w.heap.size W v l ∧ Below w.heap.size w W) ∧ a = ⟨((putA a0.tmps [7, 8, 9, 10, 11, 12, 13, 14, 15, 16] xx).setIfInBounds 2 v).setIfInBounds 3 (.int .i64 0), a0.defers⟩) (by kernel_rfl) ?any ?fin
    case any =>
      rw [hV0]
      clear hV0
      refine anyH_take (i := 0) (v := .pointer (some ⟨w.heap.size, 0, none⟩)) rfl (some 7) rfl (by kernel_rfl) (by kernel_rfl) (by kernel_rfl) (fun _ _ _ h => by cases h.1) rfl (fun w0 hw0 => by first | rfl | kernel_rfl) f0 ?_
      simp only [Act.put, List.setIfInBounds_toArray, List.set_cons_zero, List.set_cons_succ]
      refine anyH_take (i := 1) (v := .int .u8 r.verb) rfl (some 8) rfl (by kernel_rfl) (by kernel_rfl) (by kernel_rfl) (fun _ _ _ h => by cases h.1) rfl (fun w0 hw0 => ex_load rfl rfl (ldVerb (rq_box hw0).1)) f0 ?_
      simp only [Act.put, List.setIfInBounds_toArray, List.set_cons_zero, List.set_cons_succ]
      refine anyH_take (i := 3) (v := .agg (rqA r)) rfl (some 10) rfl (by kernel_rfl) (by kernel_rfl) (by kernel_rfl) (fun _ _ _ h => by cases h.1) rfl (fun w0 hw0 => ex_load rfl rfl (load_rq hw0)) f0 ?_
      simp only [Act.put, List.setIfInBounds_toArray, List.set_cons_zero, List.set_cons_succ]
      refine anyH_take (i := 5) (v := .pointer (some ⟨w.heap.size, 10, none⟩)) rfl (some 12) rfl (by kernel_rfl) (by kernel_rfl) (by kernel_rfl) (fun _ _ _ h => by cases h.1) rfl (fun w0 hw0 => by first | rfl | kernel_rfl) f0 ?_
      simp only [Act.put, List.setIfInBounds_toArray, List.set_cons_zero, List.set_cons_succ]
      refine anyH_take (i := 6) (v := .string r.text) rfl (some 13) rfl (by kernel_rfl) (by kernel_rfl) (by kernel_rfl) (fun _ _ _ h => by cases h.1) rfl (fun w0 hw0 => ex_load rfl rfl (ld9 (rq_box hw0).2.2.2.2.2.2.2.2.2.2)) f0 ?_
      simp only [Act.put, List.setIfInBounds_toArray, List.set_cons_zero, List.set_cons_succ]
      refine anyH_one (i := 2) (by kernel_rfl) ?_
      refine op_call rfl (some 9) rfl rfl #[.int .u8 r.verb] rfl (by simp [Act.eval]) (fun _ _ => rfl) (verb_any r.verb HF.out.verb V0) ?_
      rintro e V1 ⟨rfl, c1⟩
      have B1 := B0.trans (c1.mono B0.size)
      have f1 := (c1.block _ (Array.getElem?_eq_some_iff.1 f0).1).trans f0
      have G1 := G0.below c1
      refine ⟨_, rfl, f1, ?_⟩
      simp only [Act.put, List.setIfInBounds_toArray, List.set_cons_zero, List.set_cons_succ]
      refine anyH_one (i := 4) (by kernel_rfl) ?_
      refine op_call rfl (some 11) rfl rfl #[.agg (rqA r)] rfl (by simp [Act.eval]) (fun _ _ => rfl) (attrs_any r V1 HF.out (right_role H2.out.1).1 (right_role H2.out.1).2 G1.nums) ?_
      rintro e V2 ⟨ga, gc, rfl, ho, c2⟩
      obtain ⟨_, _, he, _, hA2⟩ := attrMem_own ho (by have := len9 r; unfold attrsR; omega) (attrs_size HF.out)
      injection he with h1 _ h2
      subst h1
      subst h2
      have B2 := B1.trans (c2.mono B1.size)
      have f2 := (c2.block _ (Array.getElem?_eq_some_iff.1 f1).1).trans f1
      have G2 := G1.below c2
      refine ⟨_, rfl, f2, ?_⟩
      simp only [Act.put, List.setIfInBounds_toArray, List.set_cons_zero, List.set_cons_succ]
      refine anyH_one (i := 7) (by kernel_rfl) ?_
      refine op_call rfl (some 14) rfl rfl #[.string r.text] rfl (by simp [Act.eval]) (fun _ _ => rfl) (charsT_any r.text V2 HF.out.text) ?_
      rintro e V3 ⟨⟨ao, cap, av, rfl, hT⟩, c3⟩
      have hA3 : AttrMem V3.heap.size V3 ga (attrsR r) := attrMem_raise (hA2.below c3) c3.size
      have B3 := B2.trans (c3.mono B2.size)
      have f3 := (c3.block _ (Array.getElem?_eq_some_iff.1 f2).1).trans f2
      have G3 := G2.below c3
      refine ⟨_, rfl, f3, ?_⟩
      simp only [Act.put, List.setIfInBounds_toArray, List.set_cons_zero, List.set_cons_succ]
      refine anyH_one (i := 8) (by kernel_rfl) ?_
      refine op_call rfl (some 15) rfl rfl #[.string (verbB r.verb), .slice ga (attrsR r).length gc, .slice ao (charsT r.text).length cap] rfl (by simp [Act.eval]) (fun _ _ => rfl) (element_row (verbB r.verb) ga gc (attrsR r) ao cap (charsT r.text) av V3 (verbB_size _) hA3 hT (by unfold charsT; split <;> simp)) ?_
      rintro e V4 ⟨v4, l4, rfl, hl4, hE4, c4⟩
      obtain ⟨ao4, cap4, rfl, hT4⟩ := tokMem_own hE4 (by have h := congrArg List.length hl4; rw [List.length_map] at h; rw [h]; simp only [elemT, List.length_append, List.length_cons, List.length_nil]; unfold charsT; split <;> simp)
      rw [hl4] at hT4
      have hn4 : l4.length = (elemT (verbB r.verb) (attrsR r) (charsT r.text)).length := by rw [← hl4, List.length_map]
      have B4 := B3.trans (c4.mono B3.size)
      have f4 := (c4.block _ (Array.getElem?_eq_some_iff.1 f3).1).trans f3
      have G4 := G3.below c4
      refine ⟨_, rfl, f4, ?_⟩
      simp only [Act.put, List.setIfInBounds_toArray, List.set_cons_zero, List.set_cons_succ]
      rw [hn4]
      refine anyH_one (i := 9) (by kernel_rfl) ?_
      refine op_call rfl (some 16) rfl rfl #[.string psB, .slice none 0 0, .slice ao4 (elemT (verbB r.verb) (attrsR r) (charsT r.text)).length cap4] rfl (by simp [Act.eval, psB]) (fun _ _ => rfl) (element_row psB none 0 [] ao4 cap4 (elemT (verbB r.verb) (attrsR r) (charsT r.text)) (avOf l4) V4 (by decide) ⟨by simp, fun a ha => by simp at ha, fun j a hj => by simp at hj⟩ hT4 (by simp only [elemT, List.length_append, List.length_cons, List.length_nil]; unfold charsT; split <;> simp)) ?_
      rintro e V5 ⟨v5, l5, rfl, hl5, hE5, c5⟩
      have B5 := B4.trans (c5.mono B4.size)
      have f5 := (c5.block _ (Array.getElem?_eq_some_iff.1 f4).1).trans f4
      have G5 := G4.below c5
      refine ⟨_, rfl, f5, ?_⟩
      simp only [Act.put, List.setIfInBounds_toArray, List.set_cons_zero, List.set_cons_succ]
      refine anyH_val (i := 10) (by kernel_rfl) rfl (some 2) rfl rfl (Jd.ex_anyv rfl rfl) f5 ?_
      simp only [Act.put, List.setIfInBounds_toArray, List.set_cons_zero, List.set_cons_succ]
      refine anyH_val (i := 11) (by kernel_rfl) rfl (some 3) rfl rfl (Jd.ex_anyv rfl rfl) f5 ?_
      simp only [Act.put, List.setIfInBounds_toArray, List.set_cons_zero, List.set_cons_succ]
      exact wpAnyH_done (by kernel_rfl) ⟨rfl, v5, l5, fill ⟨hl5, elRow_low hE5 (by have := B4.size; omega), B5⟩ (by kernel_rfl)⟩ _
    rintro a W ⟨v, l, xx, ⟨h1, h2, h3⟩, rfl⟩
    clear hV0 hd f0 B0 G0 V0
    simp only [putA, List.foldl_cons, List.foldl_nil, List.setIfInBounds_toArray, List.set_cons_zero, List.set_cons_succ]
    have HE := hide (And.intro h1 (And.intro h2 h3))
    clear h1 h2 h3
    go_wp2_with fail
    exact bodyPost_ret (results_tt (a := 2) (b := 3) rfl) rfl ⟨.inl ⟨H2.out.1, v, l, rfl, HE.out.1, HE.out.2.1⟩, HE.out.2.2⟩
end Go.Proofs.YtimhkgpjfppkmaaDoor
