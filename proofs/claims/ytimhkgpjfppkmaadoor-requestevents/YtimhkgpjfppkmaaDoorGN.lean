/- What is no payload: one attribute more or less, and what lies behind the first token: no program in it. An element about a text with two attributes. A notification of an item: happened, Event. RequestEvents: a notification of an item tells its node, its id and its text, and is right. -/
import Derived.Test.YtimhkgpjfppkmaaDoorRq15
import Derived.Test.YtimhkgpjfppkmaaDoorRefElem
namespace Go.Proofs.YtimhkgpjfppkmaaDoor
open Go.RowKit Go.Shelf

theorem verb_one : ∀ v v' : Fin 16, verbB v.val = verbB v'.val → v = v' ∨ v.val = 0 := by decide
theorem verb_inj {r r' : Rq} (h : RightRq r) (h' : RightRq r') (e : verbB r.verb = verbB r'.verb) : r.verb = r'.verb := by
  have hv := verb_range h
  have hv' := verb_range h'
  rcases verb_one ⟨r.verb, by omega⟩ ⟨r'.verb, by omega⟩ e with h | h
  · exact congrArg Fin.val h
  · have : r.verb = 0 := h
    omega
theorem verb_ps : ∀ v : Fin 16, verbB v.val ≠ psB := by decide
/-- A payload whose attributes are more or fewer is none of a right request. -/
theorem exact_attrs {r r' : Rq} {al : List (ByteArray × ByteArray)} (h : RightRq r) (h' : RightRq r') (hl : al.length ≠ (attrsR r).length) : encT r' ≠ elemT psB [] (elemT (verbB r.verb) al (charsT r.text)) := by
  intro e
  have h1 : (encT r')[1]? = (elemT psB [] (elemT (verbB r.verb) al (charsT r.text)))[1]? := by rw [e]
  have h2 : (encT r')[1]? = some ⟨1, verbB r'.verb, attrsR r', ⟨#[]⟩⟩ := rfl
  have h3 : (elemT psB [] (elemT (verbB r.verb) al (charsT r.text)))[1]? = some ⟨1, verbB r.verb, al, ⟨#[]⟩⟩ := rfl
  rw [h2, h3] at h1
  have h4 := Option.some.inj h1
  injection h4 with _ hv ha _
  have hvv := verb_inj h' h hv
  apply hl
  rw [← ha, attrs_len, attrs_len, hvv]
/-- What lies behind a payload's first token is no payload. -/
theorem exact_tail {r r' : Rq} (h : RightRq r) : encT r' ≠ (encT r).drop 1 := by
  intro e
  have h1 : (encT r')[0]? = ((encT r).drop 1)[0]? := by rw [e]
  have h2 : (encT r')[0]? = some ⟨1, psB, [], ⟨#[]⟩⟩ := rfl
  have h3 : ((encT r).drop 1)[0]? = some ⟨1, verbB r.verb, attrsR r, ⟨#[]⟩⟩ := rfl
  rw [h2, h3] at h1
  have h4 := Option.some.inj h1
  injection h4 with _ hv _ _
  have hr := verb_range h
  exact verb_ps ⟨r.verb, by omega⟩ hv.symm
theorem enc_four {r : Rq} : 4 ≤ (encT r).length := by
  unfold encT elemT
  simp
theorem enc_one {r : Rq} : (encT r)[1]? = some ⟨1, verbB r.verb, attrsR r, ⟨#[]⟩⟩ := rfl
theorem attrs_one {r : Rq} (h : RightRq r) : 1 ≤ (attrsR r).length := by
  rw [attrs_len]
  unfold cntA
  rw [show nodeB r.verb = true from h.1]
  show 1 ≤ 1 + _ + _ + _ + _ + _ + _ + _ + _
  omega
end Go.Proofs.YtimhkgpjfppkmaaDoor
namespace Go.Proofs.YtimhkgpjfppkmaaDoor
open Go.RowKit Go.Shelf


def two (p0 p1 p2 p3 : ByteArray) (k : Nat) : List (ByteArray × ByteArray) := match k with | 0 => [] | 1 => [(p0, p1)] | _ => [(p0, p1), (p2, p3)]
set_option maxRecDepth 100000 in
set_option maxHeartbeats 8000000 in
theorem relement_any (name text p0 p1 p2 p3 : ByteArray) (pb : Nat) (T : TypeId) (w : World) (hp : w.heap[pb]? = some (.cells #[.string p0, .string p1, .string p2, .string p3] T)) (hn : name.size ≤ 9223372036854775807) (ht : text.size ≤ 9223372036854775807) (hs : (p0.size ≤ 9223372036854775807 ∧ p1.size ≤ 9223372036854775807) ∧ p2.size ≤ 9223372036854775807 ∧ p3.size ≤ 9223372036854775807) :
    Calls Tryd.prog 52 #[.string name, .string text, .slice (some ⟨pb, 0, none⟩) 4 4] w fun e w' => ∃ v l, e = .returned v ∧ l.map (·.1) = elemT name [(p0, p1), (p2, p3)] (charsT text) ∧ ElRow w.heap.size w' v l ∧ Below w.heap.size w w' := by
  have HL := hide (And.intro hp (Array.getElem?_eq_some_iff.1 hp).1)
  have HN := hide (And.intro hn (And.intro ht hs))
  clear hp hn ht hs
  go_enter Tryd.func52, Tryd.ntmps52
  go_wp2_with fail
  go_loopw [7, 8] (fun va iv wr => ∃ (k : Nat) (ga : Option Addr) (gc : Nat), k ≤ 2 ∧ iv = .int .i64 (2 * (k : Int) + 1) ∧ va = .slice ga k gc ∧ wr.ownsRow w.heap.size 49 2 va (two p0 p1 p2 p3 k).length (attrCells (two p0 p1 p2 p3 k)) ∧ Below w.heap.size w wr) (fun _ iv _ => 5 - (intOf iv).toNat)
  case atStart => exact ⟨0, none, 0, by decide, rfl, rfl, World.ownsRow_nil _ _ _ _, Below.refl _ _⟩
  case round =>
    obtain ⟨k, ga, gc, hk, rfl, rfl, ho, hbel⟩ := hrel
    have HR := hide (And.intro ho hbel)
    clear ho hbel
    match k, hk with
    | 0, _ =>
      rw [show (2 * ((0 : Nat) : Int) + 1) = 1 from rfl]
      go_wp2_with fail
      obtain ⟨V0, hV0⟩ : ∃ V, wr.drew = V := ⟨_, rfl⟩
      have B0 : Below w.heap.size w V0 := by rw [← hV0]; exact HR.out.2.drew
      have s0 : V0.heap[pb]? = some (.cells #[.string p0, .string p1, .string p2, .string p3] T) := (B0.block pb HL.out.2).trans HL.out.1
      have O0 : V0.ownsRow w.heap.size 49 2 (.slice ga 0 gc) ([] : List (ByteArray × ByteArray)).length (attrCells []) := by rw [← hV0]; exact HR.out.1
      obtain ⟨g2, c2, W4, hap, hown, hbel⟩ := pushA (T := 44) p0 p1 O0 B0.size (by simp)
      have HO := hide (And.intro hown (B0.trans hbel))
      have hbs : (Instr.buildSlice 44 1 #[(0, .agg #[.string p0, .string p1])]).run Tryd.prog V0 = .ok (.slice (some ⟨V0.heap.size, 0, none⟩) 1 1) (V0.alloc (.cells #[.string p0, .string p1] 49)) := by kernel_rfl
      have s1 : (V0.alloc (.cells #[.string p0, .string p1] 49)).heap[pb]? = some (.cells #[.string p0, .string p1, .string p2, .string p3] T) := keep_alloc s0
      have s2 : W4.heap[pb]? = some (.cells #[.string p0, .string p1, .string p2, .string p3] T) := ((B0.trans hbel).block pb HL.out.2).trans HL.out.1
      clear O0 hown hbel
      refine region_relA (S := fun V => V.heap[pb]? = some (.cells #[.string p0, .string p1, .string p2, .string p3] T)) (fun a0 a W => ∃ (v : Value) (xx : Nat → Value), (∃ g2 c2, v = .slice g2 1 c2 ∧ W.ownsRow w.heap.size 49 2 (.slice g2 1 c2) ([(p0, p1)] : List (ByteArray × ByteArray)).length (attrCells [(p0, p1)]) ∧ Below w.heap.size w W) ∧ a = ⟨(putA a0.tmps [15, 16, 17, 18, 19, 20, 21, 22, 23, 24, 25, 26, 27] xx).setIfInBounds 7 v, a0.defers⟩) (by kernel_rfl) ?any0 ?fin0
      case any0 =>
        rw [hV0]
        clear hV0
        refine anyH_take (i := 0) (v := .slice ga 0 gc) rfl (some 15) rfl (by kernel_rfl) (by kernel_rfl) (by kernel_rfl) (fun _ _ _ h => by cases h.1) (by kernel_rfl) (fun w0 hw0 => by first | rfl | kernel_rfl) s0 ?_
        simp only [Act.put, List.setIfInBounds_toArray, List.set_cons_zero, List.set_cons_succ]
        refine anyH_take (i := 1) (v := .slice (some ⟨pb, 0, none⟩) 4 4) rfl (some 16) rfl (by kernel_rfl) (by kernel_rfl) (by kernel_rfl) (fun _ _ _ h => by cases h.1) (by kernel_rfl) (fun w0 hw0 => by first | rfl | kernel_rfl) s0 ?_
        simp only [Act.put, List.setIfInBounds_toArray, List.set_cons_zero, List.set_cons_succ]
        refine anyH_take (i := 2) (v := .int .i64 1) rfl (some 17) rfl (by kernel_rfl) (by kernel_rfl) (by kernel_rfl) (fun _ _ _ h => by cases h.1) (by kernel_rfl) (fun w0 hw0 => by first | rfl | kernel_rfl) s0 ?_
        simp only [Act.put, List.setIfInBounds_toArray, List.set_cons_zero, List.set_cons_succ]
        refine anyH_take (i := 3) (v := .int .i64 0) rfl (some 18) rfl (by kernel_rfl) (by kernel_rfl) (by kernel_rfl) (fun _ _ _ h => by cases h.1) (by kernel_rfl) (fun w0 hw0 => by first | rfl | kernel_rfl) s0 ?_
        simp only [Act.put, List.setIfInBounds_toArray, List.set_cons_zero, List.set_cons_succ]
        refine anyH_take (i := 4) (v := .pointer (some ⟨pb, 0, none⟩)) rfl (some 19) rfl (by kernel_rfl) (by kernel_rfl) (by kernel_rfl) (fun _ _ _ h => by cases h.1) (by kernel_rfl) (fun w0 hw0 => by first | rfl | kernel_rfl) s0 ?_
        simp only [Act.put, List.setIfInBounds_toArray, List.set_cons_zero, List.set_cons_succ]
        refine anyH_take (i := 5) (v := .string p0) rfl (some 20) rfl (by kernel_rfl) (by kernel_rfl) (by kernel_rfl) (fun _ _ _ h => by cases h.1) (by kernel_rfl) (fun w0 hw0 => ex_load rfl rfl (ld9 (by simp [World.cell?, hw0]))) s0 ?_
        simp only [Act.put, List.setIfInBounds_toArray, List.set_cons_zero, List.set_cons_succ]
        refine anyH_take (i := 6) (v := .slice (some ⟨pb, 0, none⟩) 4 4) rfl (some 21) rfl (by kernel_rfl) (by kernel_rfl) (by kernel_rfl) (fun _ _ _ h => by cases h.1) (by kernel_rfl) (fun w0 hw0 => by first | rfl | kernel_rfl) s0 ?_
        simp only [Act.put, List.setIfInBounds_toArray, List.set_cons_zero, List.set_cons_succ]
        refine anyH_take (i := 7) (v := .int .i64 1) rfl (some 22) rfl (by kernel_rfl) (by kernel_rfl) (by kernel_rfl) (fun _ _ _ h => by cases h.1) (by kernel_rfl) (fun w0 hw0 => by first | rfl | kernel_rfl) s0 ?_
        simp only [Act.put, List.setIfInBounds_toArray, List.set_cons_zero, List.set_cons_succ]
        refine anyH_take (i := 8) (v := .pointer (some ⟨pb, 1, none⟩)) rfl (some 23) rfl (by kernel_rfl) (by kernel_rfl) (by kernel_rfl) (fun _ _ _ h => by cases h.1) (by kernel_rfl) (fun w0 hw0 => by first | rfl | kernel_rfl) s0 ?_
        simp only [Act.put, List.setIfInBounds_toArray, List.set_cons_zero, List.set_cons_succ]
        refine anyH_take (i := 9) (v := .string p1) rfl (some 24) rfl (by kernel_rfl) (by kernel_rfl) (by kernel_rfl) (fun _ _ _ h => by cases h.1) (by kernel_rfl) (fun w0 hw0 => ex_load rfl rfl (ld9 (by simp [World.cell?, hw0]))) s0 ?_
        simp only [Act.put, List.setIfInBounds_toArray, List.set_cons_zero, List.set_cons_succ]
        refine anyH_take (i := 10) (v := .agg #[.string p0, .string p1]) rfl (some 25) rfl (by kernel_rfl) (by kernel_rfl) (by kernel_rfl) (fun _ _ _ h => by cases h.1) (by kernel_rfl) (fun w0 hw0 => by first | rfl | kernel_rfl) s0 ?_
        simp only [Act.put, List.setIfInBounds_toArray, List.set_cons_zero, List.set_cons_succ]
        refine anyH_val (i := 11) (by kernel_rfl) rfl (some 26) rfl (by kernel_rfl) (ex_sliceK (us := #[(0, .agg #[.string p0, .string p1])]) rfl (by simp [Act.eval]) hbs) s1 ?_
        simp only [Act.put, List.setIfInBounds_toArray, List.set_cons_zero, List.set_cons_succ]
        refine anyH_val (i := 12) (by kernel_rfl) rfl (some 27) rfl (by kernel_rfl) (ex_appN rfl rfl rfl hap) s2 ?_
        simp only [Act.put, List.setIfInBounds_toArray, List.set_cons_zero, List.set_cons_succ]
        refine anyH_val (i := 13) (by kernel_rfl) rfl (some 7) rfl (by kernel_rfl) (Jd.ex_anyv rfl rfl) s2 ?_
        simp only [Act.put, List.setIfInBounds_toArray, List.set_cons_zero, List.set_cons_succ]
        exact wpAnyH_done (by kernel_rfl) ⟨rfl, _, fill ⟨g2, c2, rfl, HO.out.1, HO.out.2⟩ (by kernel_rfl)⟩ _
      rintro a W ⟨v, xx, ⟨g3, c3, rfl, h1, h2⟩, rfl⟩
      clear hV0 B0 s0 hap HO hbs s1 s2 V0 W4 g2 c2
      simp only [putA, List.foldl_cons, List.foldl_nil, List.setIfInBounds_toArray, List.set_cons_zero, List.set_cons_succ]
      have HW := hide (And.intro h1 h2)
      clear h1 h2
      go_wp2_with fail
      go_roundw
      case rel => exact ⟨1, g3, c3, by decide, rfl, rfl, HW.out.1, HW.out.2⟩
      case measure => simp [intOf]
    | 1, _ =>
      rw [show (2 * ((1 : Nat) : Int) + 1) = 3 from rfl]
      go_wp2_with fail
      obtain ⟨V0, hV0⟩ : ∃ V, wr.drew = V := ⟨_, rfl⟩
      have B0 : Below w.heap.size w V0 := by rw [← hV0]; exact HR.out.2.drew
      have s0 : V0.heap[pb]? = some (.cells #[.string p0, .string p1, .string p2, .string p3] T) := (B0.block pb HL.out.2).trans HL.out.1
      have O0 : V0.ownsRow w.heap.size 49 2 (.slice ga 1 gc) ([(p0, p1)] : List (ByteArray × ByteArray)).length (attrCells [(p0, p1)]) := by rw [← hV0]; exact HR.out.1
      obtain ⟨g2, c2, W4, hap, hown, hbel⟩ := pushA (T := 44) p2 p3 O0 B0.size (by simp)
      have HO := hide (And.intro hown (B0.trans hbel))
      have hbs : (Instr.buildSlice 44 1 #[(0, .agg #[.string p2, .string p3])]).run Tryd.prog V0 = .ok (.slice (some ⟨V0.heap.size, 0, none⟩) 1 1) (V0.alloc (.cells #[.string p2, .string p3] 49)) := by kernel_rfl
      have s1 : (V0.alloc (.cells #[.string p2, .string p3] 49)).heap[pb]? = some (.cells #[.string p0, .string p1, .string p2, .string p3] T) := keep_alloc s0
      have s2 : W4.heap[pb]? = some (.cells #[.string p0, .string p1, .string p2, .string p3] T) := ((B0.trans hbel).block pb HL.out.2).trans HL.out.1
      clear O0 hown hbel
      refine region_relA (S := fun V => V.heap[pb]? = some (.cells #[.string p0, .string p1, .string p2, .string p3] T)) (fun a0 a W => ∃ (v : Value) (xx : Nat → Value), (∃ g2 c2, v = .slice g2 2 c2 ∧ W.ownsRow w.heap.size 49 2 (.slice g2 2 c2) ([(p0, p1), (p2, p3)] : List (ByteArray × ByteArray)).length (attrCells [(p0, p1), (p2, p3)]) ∧ Below w.heap.size w W) ∧ a = ⟨(putA a0.tmps [15, 16, 17, 18, 19, 20, 21, 22, 23, 24, 25, 26, 27] xx).setIfInBounds 7 v, a0.defers⟩) (by kernel_rfl) ?any1 ?fin1
      case any1 =>
        rw [hV0]
        clear hV0
        refine anyH_take (i := 0) (v := .slice ga 1 gc) rfl (some 15) rfl (by kernel_rfl) (by kernel_rfl) (by kernel_rfl) (fun _ _ _ h => by cases h.1) (by kernel_rfl) (fun w0 hw0 => by first | rfl | kernel_rfl) s0 ?_
        simp only [Act.put, List.setIfInBounds_toArray, List.set_cons_zero, List.set_cons_succ]
        refine anyH_take (i := 1) (v := .slice (some ⟨pb, 0, none⟩) 4 4) rfl (some 16) rfl (by kernel_rfl) (by kernel_rfl) (by kernel_rfl) (fun _ _ _ h => by cases h.1) (by kernel_rfl) (fun w0 hw0 => by first | rfl | kernel_rfl) s0 ?_
        simp only [Act.put, List.setIfInBounds_toArray, List.set_cons_zero, List.set_cons_succ]
        refine anyH_take (i := 2) (v := .int .i64 3) rfl (some 17) rfl (by kernel_rfl) (by kernel_rfl) (by kernel_rfl) (fun _ _ _ h => by cases h.1) (by kernel_rfl) (fun w0 hw0 => by first | rfl | kernel_rfl) s0 ?_
        simp only [Act.put, List.setIfInBounds_toArray, List.set_cons_zero, List.set_cons_succ]
        refine anyH_take (i := 3) (v := .int .i64 2) rfl (some 18) rfl (by kernel_rfl) (by kernel_rfl) (by kernel_rfl) (fun _ _ _ h => by cases h.1) (by kernel_rfl) (fun w0 hw0 => by first | rfl | kernel_rfl) s0 ?_
        simp only [Act.put, List.setIfInBounds_toArray, List.set_cons_zero, List.set_cons_succ]
        refine anyH_take (i := 4) (v := .pointer (some ⟨pb, 2, none⟩)) rfl (some 19) rfl (by kernel_rfl) (by kernel_rfl) (by kernel_rfl) (fun _ _ _ h => by cases h.1) (by kernel_rfl) (fun w0 hw0 => by first | rfl | kernel_rfl) s0 ?_
        simp only [Act.put, List.setIfInBounds_toArray, List.set_cons_zero, List.set_cons_succ]
        refine anyH_take (i := 5) (v := .string p2) rfl (some 20) rfl (by kernel_rfl) (by kernel_rfl) (by kernel_rfl) (fun _ _ _ h => by cases h.1) (by kernel_rfl) (fun w0 hw0 => ex_load rfl rfl (ld9 (by simp [World.cell?, hw0]))) s0 ?_
        simp only [Act.put, List.setIfInBounds_toArray, List.set_cons_zero, List.set_cons_succ]
        refine anyH_take (i := 6) (v := .slice (some ⟨pb, 0, none⟩) 4 4) rfl (some 21) rfl (by kernel_rfl) (by kernel_rfl) (by kernel_rfl) (fun _ _ _ h => by cases h.1) (by kernel_rfl) (fun w0 hw0 => by first | rfl | kernel_rfl) s0 ?_
        simp only [Act.put, List.setIfInBounds_toArray, List.set_cons_zero, List.set_cons_succ]
        refine anyH_take (i := 7) (v := .int .i64 3) rfl (some 22) rfl (by kernel_rfl) (by kernel_rfl) (by kernel_rfl) (fun _ _ _ h => by cases h.1) (by kernel_rfl) (fun w0 hw0 => by first | rfl | kernel_rfl) s0 ?_
        simp only [Act.put, List.setIfInBounds_toArray, List.set_cons_zero, List.set_cons_succ]
        refine anyH_take (i := 8) (v := .pointer (some ⟨pb, 3, none⟩)) rfl (some 23) rfl (by kernel_rfl) (by kernel_rfl) (by kernel_rfl) (fun _ _ _ h => by cases h.1) (by kernel_rfl) (fun w0 hw0 => by first | rfl | kernel_rfl) s0 ?_
        simp only [Act.put, List.setIfInBounds_toArray, List.set_cons_zero, List.set_cons_succ]
        refine anyH_take (i := 9) (v := .string p3) rfl (some 24) rfl (by kernel_rfl) (by kernel_rfl) (by kernel_rfl) (fun _ _ _ h => by cases h.1) (by kernel_rfl) (fun w0 hw0 => ex_load rfl rfl (ld9 (by simp [World.cell?, hw0]))) s0 ?_
        simp only [Act.put, List.setIfInBounds_toArray, List.set_cons_zero, List.set_cons_succ]
        refine anyH_take (i := 10) (v := .agg #[.string p2, .string p3]) rfl (some 25) rfl (by kernel_rfl) (by kernel_rfl) (by kernel_rfl) (fun _ _ _ h => by cases h.1) (by kernel_rfl) (fun w0 hw0 => by first | rfl | kernel_rfl) s0 ?_
        simp only [Act.put, List.setIfInBounds_toArray, List.set_cons_zero, List.set_cons_succ]
        refine anyH_val (i := 11) (by kernel_rfl) rfl (some 26) rfl (by kernel_rfl) (ex_sliceK (us := #[(0, .agg #[.string p2, .string p3])]) rfl (by simp [Act.eval]) hbs) s1 ?_
        simp only [Act.put, List.setIfInBounds_toArray, List.set_cons_zero, List.set_cons_succ]
        refine anyH_val (i := 12) (by kernel_rfl) rfl (some 27) rfl (by kernel_rfl) (ex_appN rfl rfl rfl hap) s2 ?_
        simp only [Act.put, List.setIfInBounds_toArray, List.set_cons_zero, List.set_cons_succ]
        refine anyH_val (i := 13) (by kernel_rfl) rfl (some 7) rfl (by kernel_rfl) (Jd.ex_anyv rfl rfl) s2 ?_
        simp only [Act.put, List.setIfInBounds_toArray, List.set_cons_zero, List.set_cons_succ]
        exact wpAnyH_done (by kernel_rfl) ⟨rfl, _, fill ⟨g2, c2, rfl, HO.out.1, HO.out.2⟩ (by kernel_rfl)⟩ _
      rintro a W ⟨v, xx, ⟨g3, c3, rfl, h1, h2⟩, rfl⟩
      clear hV0 B0 s0 hap HO hbs s1 s2 V0 W4 g2 c2
      simp only [putA, List.foldl_cons, List.foldl_nil, List.setIfInBounds_toArray, List.set_cons_zero, List.set_cons_succ]
      have HW := hide (And.intro h1 h2)
      clear h1 h2
      go_wp2_with fail
      go_roundw
      case rel => exact ⟨2, g3, c3, by decide, rfl, rfl, HW.out.1, HW.out.2⟩
      case measure => simp [intOf]
    | 2, _ =>
      rw [show (2 * ((2 : Nat) : Int) + 1) = 5 from rfl]
      have HC := hide (charsT_any text wr HN.out.2.1)
      go_wp2_with fail
      refine HC.out.mono ?_
      rintro e w2 ⟨⟨ao, cap, av, rfl, hT⟩, b2⟩
      obtain ⟨_, _, he, hcp, hA⟩ := attrMem_own HR.out.1 (by show ([(p0, p1), (p2, p3)] : List (ByteArray × ByteArray)).length ≤ 4398046510976; simp) (by
        intro a ha
        have ha' : a ∈ [(p0, p1), (p2, p3)] := ha
        simp at ha'
        rcases ha' with rfl | rfl
        · exact HN.out.2.2.1
        · exact HN.out.2.2.2)
      injection he with h1 hlen h2
      subst h1 h2
      clear hlen hcp
      have hA2 : AttrMem w2.heap.size w2 ga [(p0, p1), (p2, p3)] := attrMem_raise (AttrMem.below hA b2) b2.size
      have B2 := HR.out.2.trans (b2.mono HR.out.2.size)
      have hE := element_row name ga gc [(p0, p1), (p2, p3)] ao cap (charsT text) av w2 HN.out.1 hA2 hT (by unfold charsT; split <;> simp)
      obtain ⟨m, hm⟩ : ∃ m, (charsT text).length = m := ⟨_, rfl⟩
      rw [show ([(p0, p1), (p2, p3)] : List (ByteArray × ByteArray)).length = 2 from rfl, hm] at hE
      rw [hm]
      have HE := hide hE
      have HB := hide B2
      clear hE hA hA2 hT b2 B2 hm HC
      go_wp2_with fail
      refine HE.out.mono ?_
      rintro e w3 ⟨v, l, rfl, h1, h2, b3⟩
      have HF := hide (And.intro h1 (And.intro (elRow_low h2 HB.out.size) (HB.out.trans (b3.mono HB.out.size))))
      clear h1 h2 b3 HE
      go_wp2_with fail
      go_ret
      exact ⟨v, l, rfl, HF.out.1, HF.out.2.1, HF.out.2.2⟩
    | k + 3, hk => omega
end Go.Proofs.YtimhkgpjfppkmaaDoor
namespace Go.Proofs.YtimhkgpjfppkmaaDoor
open Go.RowKit Go.Shelf

def sNode : ByteArray := ⟨#[110, 111, 100, 101]⟩
def sId : ByteArray := ⟨#[105, 100]⟩
def sItem : ByteArray := ⟨#[105, 116, 101, 109]⟩
def sEvent : ByteArray := ⟨#[101, 118, 101, 110, 116]⟩
/-- An item's tokens. -/
def itemT (node item text : ByteArray) : List Tok := elemT sItem [(sNode, node), (sId, item)] (charsT text)
theorem item_len (node item text : ByteArray) : (itemT node item text).length ≤ 3 := by
  unfold itemT elemT charsT
  split <;> simp
set_option maxRecDepth 100000 in
set_option maxHeartbeats 4000000 in
theorem happened_any (tt node item text : ByteArray) (w : World) (h1 : node.size ≤ 9223372036854775807) (h2 : item.size ≤ 9223372036854775807) (h3 : text.size ≤ 9223372036854775807) :
    Calls Tryd.prog 32 #[.agg #[.string tt, .string node, .string item, .string text, .bool false]] w fun e w' => ∃ v l, e = .returned v ∧ l.map (·.1) = itemT node item text ∧ ElRow w.heap.size w' v l ∧ Below w.heap.size w w' := by
  obtain ⟨W1, hW1⟩ : ∃ W1, w.alloc (.cells #[.string tt, .string node, .string item, .string text, .bool false] 40) = W1 := ⟨_, rfl⟩
  obtain ⟨W2, hW2⟩ : ∃ W2, W1.alloc (.cells #[.string sNode, .string node, .string sId, .string item] 9) = W2 := ⟨_, rfl⟩
  have b1 : Below w.heap.size w W1 := by rw [← hW1]; exact (Below.refl _ w).alloc (Nat.le_refl _) _
  have b2 : Below W1.heap.size W1 W2 := by rw [← hW2]; exact (Below.refl _ W1).alloc (Nat.le_refl _) _
  have z1 : W1.heap.size = w.heap.size + 1 := by rw [← hW1]; simp
  have fb : W2.heap[w.heap.size + 1]? = some (.cells #[.string sNode, .string node, .string sId, .string item] 9) := by rw [← hW2, ← z1]; exact World.alloc_heap_new _ _
  have B2 : Below w.heap.size w W2 := b1.trans (b2.mono b1.size)
  have HE := hide (relement_any sItem text sNode node sId item (w.heap.size + 1) 9 W2 fb (by decide) h3 ⟨⟨by decide, h1⟩, by decide, h2⟩)
  have HB := hide B2
  rw [← hW1] at hW2
  have HW2 := hide hW2
  rw [← hW2] at HE
  unfold sNode sId sItem at HE
  clear hW1 hW2 b1 b2 z1 fb B2 h1 h2 h3
  go_enter Tryd.func32, Tryd.ntmps32
  go_wp2_with fail
  refine HE.out.mono ?_
  rintro e w3 ⟨v, l, rfl, hl, hE, b3⟩
  have hW2 := HW2.out
  unfold sNode sId at hW2
  rw [hW2] at b3 hE
  have HF := hide (And.intro hl (And.intro (elRow_low hE HB.out.size) (HB.out.trans (b3.mono HB.out.size))))
  clear hl hE b3 HE hW2
  go_wp2_with fail
  go_ret
  exact ⟨v, l, rfl, HF.out.1, HF.out.2.1, HF.out.2.2⟩
theorem infoNt : (Tryd.prog.info? 40).map (fun i => (i.zero, i.size, i.bytes)) = some (some (.agg #[.string ⟨#[]⟩, .string ⟨#[]⟩, .string ⟨#[]⟩, .string ⟨#[]⟩, .bool false]), 5, 72) := by kernel_rfl
/-- A notification's tokens. -/
def eventT (node item text : ByteArray) : List Tok := elemT sEvent [] (itemT node item text)
set_option maxRecDepth 100000 in
set_option maxHeartbeats 4000000 in
theorem event_any (tt node item text : ByteArray) (w : World) (h1 : node.size ≤ 9223372036854775807) (h2 : item.size ≤ 9223372036854775807) (h3 : text.size ≤ 9223372036854775807) :
    Calls Tryd.prog 13 #[.agg #[.string tt, .string node, .string item, .string text, .bool false]] w fun e w' => ∃ v l, e = .returned v ∧ l.map (·.1) = eventT node item text ∧ ElRow w.heap.size w' v l ∧ Below w.heap.size w w' := by
  obtain ⟨W1, hW1⟩ : ∃ W1, w.alloc (.cells #[.string tt, .string node, .string item, .string text, .bool false] 40) = W1 := ⟨_, rfl⟩
  have b1 : Below w.heap.size w W1 := by rw [← hW1]; exact (Below.refl _ w).alloc (Nat.le_refl _) _
  have f1 : W1.heap[w.heap.size]? = some (.cells #[.string tt, .string node, .string item, .string text, .bool false] 40) := by rw [← hW1]; exact World.alloc_heap_new _ _
  have HH := hide (happened_any tt node item text W1 h1 h2 h3)
  have HL := hide (run_load_row infoNt Tryd.underlying40 rfl rfl f1)
  have HB := hide b1
  have HW1 := hide hW1
  rw [← hW1] at HH HL
  clear hW1 b1 f1 h1 h2 h3
  go_enter Tryd.func13, Tryd.ntmps13
  go_wp2_with (refine l_load _ HL.out rfl rfl rfl ?_)
  refine HH.out.mono ?_
  rintro e w2 ⟨v, l, rfl, hl, hE, b2⟩
  rw [HW1.out] at b2 hE
  have hn : l.length = (itemT node item text).length := by rw [← hl, List.length_map]
  have hlen := item_len node item text
  obtain ⟨ao, cap, rfl, hT⟩ := tokMem_own hE (by omega)
  rw [hl] at hT
  rw [hn]
  have B2 : Below w.heap.size w w2 := HB.out.trans (b2.mono HB.out.size)
  have hEl := element_row sEvent none 0 [] ao cap (itemT node item text) (avOf l) w2 (by decide) ⟨by simp, fun a ha => by simp at ha, fun j a hj => by simp at hj⟩ hT (by omega)
  obtain ⟨m, hm⟩ : ∃ m, (itemT node item text).length = m := ⟨_, rfl⟩
  rw [hm] at hEl ⊢
  unfold sEvent at hEl
  have HE := hide hEl
  have HB2 := hide B2
  clear hEl B2 hm hT hn hlen hl hE b2 HH HL HW1
  go_wp2_with fail
  refine HE.out.mono ?_
  rintro e w3 ⟨v, l', rfl, h1, h2, b3⟩
  have HF := hide (And.intro h1 (And.intro (elRow_low h2 HB2.out.size) (HB2.out.trans (b3.mono HB2.out.size))))
  clear h1 h2 b3 HE
  go_wp2_with fail
  go_ret
  exact ⟨v, l', rfl, HF.out.1, HF.out.2.1, HF.out.2.2⟩
end Go.Proofs.YtimhkgpjfppkmaaDoor
namespace Go.Proofs.YtimhkgpjfppkmaaDoor
open Go.RowKit Go.Shelf

theorem ev_attrs {node item : ByteArray} (h1 : SmallT node) (h2 : SmallT item) : AttrsOk [(sNode, node), (sId, item)] := by
  refine ⟨by simp, fun i a h => ?_⟩
  match i, h with
  | 0, h => cases h; exact ⟨rfl, lowW_name (s := sNode) (by decide), h1⟩
  | 1, h => cases h; exact ⟨by simp [attrVal, sNode, sId], lowW_name (s := sId) (by decide), h2⟩
  | i + 2, h => simp at h
theorem ev_node (node item : ByteArray) : attrVal [(sNode, node), (sId, item)] sNode = some node := by simp [attrVal]
theorem ev_id (node item : ByteArray) : attrVal [(sNode, node), (sId, item)] sId = some item := by simp [attrVal, sNode, sId]
theorem ev_one (node item text : ByteArray) : (eventT node item text)[1]? = some ⟨1, sItem, [(sNode, node), (sId, item)], ⟨#[]⟩⟩ := rfl
theorem ev_whole {r : Rq} (h : RightRq r) (hv : r.verb = 9) : WholeT (eventT r.node r.item r.text) := by
  have hn : SmallT r.node := by
    have c1 := h.2.1
    unfold rnB at c1
    rcases Bool.or_eq_true _ _ ▸ c1 with c | c
    · exact small_name c
    · have hc := of_decide_eq_true ((Bool.and_eq_true _ _).mp c).1
      omega
  have hi : SmallT r.item := by
    have c2 := h.2.2.1
    rw [hv] at c2
    exact small_name (fit_yes (none := decide (r.item = ⟨#[]⟩)) c2)
  obtain ⟨h1, h2⟩ := right_text (nm := sItem) (lowW_name (by decide)) (ev_attrs hn hi) (text_small h)
  have hl := item_len r.node r.item r.text
  unfold itemT at hl
  exact (whole_elem h1 h2 (by omega)).2 (lowW_name (by decide))
set_option maxRecDepth 100000 in
set_option maxHeartbeats 8000000 in
theorem requestEvents_any (r : Rq) (w : World) (hr : RqFits r) (hG : GlbR w) :
    Calls Tryd.prog 4 #[.agg (rqA r)] w fun e w' => e = .returned (.bool true) ∧ Below w.heap.size w w' := by
  obtain ⟨W1, hW1⟩ : ∃ W1, w.alloc (.cells (rqA r) 26) = W1 := ⟨_, rfl⟩
  have b1 : Below w.heap.size w W1 := by rw [← hW1]; exact (Below.refl _ w).alloc (Nat.le_refl _) _
  have f1 : W1.heap[w.heap.size]? = some (.cells (rqA r) 26) := by rw [← hW1]; exact World.alloc_heap_new _ _
  have HR := hide (right_any r W1 hr (hG.below b1))
  have HL := hide (load_rq f1)
  have H1 := hide (And.intro f1 (And.intro b1 (And.intro (hG.below b1) hr)))
  have HW1 := hide hW1
  rw [← hW1] at HR HL
  clear hW1 b1 f1 hr hG
  go_enter Tryd.func4, Tryd.ntmps4
  go_wp2_with (refine l_load _ HL.out rfl rfl rfl ?_)
  refine HR.out.mono ?_
  rintro e w2 ⟨⟨bb, rfl, hbb⟩, b2⟩
  rw [HW1.out] at b2
  have B2 : Below w.heap.size w w2 := H1.out.2.1.trans (b2.mono H1.out.2.1.size)
  have f2 := (b2.block _ (Array.getElem?_eq_some_iff.1 H1.out.1).1).trans H1.out.1
  have G2 := H1.out.2.2.1.below b2
  cases bb with
  | false =>
    have HB := hide (And.intro B2 G2)
    clear hbb b2 B2 f2 G2 HR HL HW1
    go_wp2_with fail
    refine (live13_any w2 HB.out.2).mono ?_
    rintro e w3 ⟨rfl, b3⟩
    have HC := hide (HB.out.1.trans (b3.mono HB.out.1.size))
    clear b3
    go_wp2_with fail
    go_ret
    exact ⟨rfl, HC.out⟩
  | true =>
    have hra := hbb.1 rfl
    have y0 := (rq_box f2).1
    by_cases hv : r.verb = 9
    · rw [hv] at y0
      have y0' : w2.cell? ⟨w.heap.size, 0, none⟩ = some (.int .u8 9) := y0
      have y1 := (rq_box f2).2.1
      have y2 := (rq_box f2).2.2.1
      have y10 := (rq_box f2).2.2.2.2.2.2.2.2.2.2
      have HEv := hide (event_any ⟨#[97, 64, 100]⟩ r.node r.item r.text w2 H1.out.2.2.2.node H1.out.2.2.2.item H1.out.2.2.2.text)
      have H2 := hide (And.intro f2 (And.intro B2 (And.intro G2 (And.intro hra True.intro))))
      clear hbb b2 B2 f2 G2 hra y0 HR HL HW1
      go_wp2_with fail
      refine HEv.out.mono ?_
      rintro e w3 ⟨v, l, rfl, hl, hE, b3⟩
      clear y0' y1 y2 y10
      by_cases ht : r.text = ⟨#[]⟩
      · have hlen : (eventT r.node r.item r.text).length = 4 := by
          unfold eventT itemT elemT charsT
          rw [if_pos ht]
          simp
        have hn : l.length = 4 := by rw [← hlen, ← hl, List.length_map]
        obtain ⟨ao, cap, rfl, hT⟩ := tokMem_own hE (by omega)
        rw [hl] at hT
        rw [hn]
        have B3 : Below w.heap.size w w3 := H2.out.2.1.trans (b3.mono H2.out.2.1.size)
        have f3 := (b3.block _ (Array.getElem?_eq_some_iff.1 H2.out.1).1).trans H2.out.1
        have hT' := hT
        obtain ⟨_, _, _, hA, _, b, off, hao, hbl, q0, q1, q2, q3⟩ := hT'.2 1 _ (ev_one r.node r.item r.text)
        subst hao
        obtain ⟨ga, hga⟩ : ∃ ga, (avOf l 1).1 = ga := ⟨_, rfl⟩
        obtain ⟨gc, hgc⟩ : ∃ gc, (avOf l 1).2 = gc := ⟨_, rfl⟩
        have q2' : w3.cell? ⟨b, off + 1 * 4 + 2, none⟩ = some (.slice ga 2 gc) := by rw [← hga, ← hgc]; exact q2
        have hA' : AttrMem w3.heap.size w3 ga [(sNode, r.node), (sId, r.item)] := by rw [← hga]; exact hA
        have hWh := refWhole_any (some ⟨b, off, none⟩) cap (eventT r.node r.item r.text) (avOf l) w3 hT (H2.out.2.2.1.below b3).tabs
        rw [hlen] at hWh
        have HWh := hide hWh
        have HQ := hide (And.intro q0 (And.intro q1 (And.intro q2' (And.intro q3 (And.intro hbl (And.intro hA' True.intro))))))
        have H3 := hide (And.intro f3 (And.intro B3 (H2.out.2.2.1.below b3)))
        clear hT hT' hA hWh q0 q1 q2 q2' q3 hbl hA' hga hgc hn hlen hl hE B3 f3 b3 HEv
        go_wp2_with fail
        refine HWh.out.mono ?_
        rintro e w4 ⟨⟨_, rfl⟩ | ⟨hno, _⟩, b4⟩
        case inr => exact absurd (ev_whole H2.out.2.2.2.1 hv) hno
        have S4 : Below w3.heap.size w3 w4 := b4
        have p40 : w4.cell? ⟨b, off + 4, none⟩ = some (.int .u8 1) := (S4.cell (p := ⟨b, _, none⟩) HQ.out.2.2.2.2.1).trans HQ.out.1
        have p41 : w4.cell? ⟨b, off + 5, none⟩ = some (.string ⟨#[105, 116, 101, 109]⟩) := (S4.cell (p := ⟨b, _, none⟩) HQ.out.2.2.2.2.1).trans HQ.out.2.1
        have r41 : w4.cell? ⟨b, off + 4 + 1, none⟩ = some (.string ⟨#[105, 116, 101, 109]⟩) := (S4.cell (p := ⟨b, _, none⟩) HQ.out.2.2.2.2.1).trans HQ.out.2.1
        have p42 : w4.cell? ⟨b, off + 6, none⟩ = some (.slice ga 2 gc) := (S4.cell (p := ⟨b, _, none⟩) HQ.out.2.2.2.2.1).trans HQ.out.2.2.1
        have r42 : w4.cell? ⟨b, off + 4 + 2, none⟩ = some (.slice ga 2 gc) := (S4.cell (p := ⟨b, _, none⟩) HQ.out.2.2.2.2.1).trans HQ.out.2.2.1
        have p43 : w4.cell? ⟨b, off + 7, none⟩ = some (.string ⟨#[]⟩) := (S4.cell (p := ⟨b, _, none⟩) HQ.out.2.2.2.2.1).trans HQ.out.2.2.2.1
        have r43 : w4.cell? ⟨b, off + 4 + 3, none⟩ = some (.string ⟨#[]⟩) := (S4.cell (p := ⟨b, _, none⟩) HQ.out.2.2.2.2.1).trans HQ.out.2.2.2.1
        have hA1 := refAttr_any w4.heap.size ga gc 1 2 ⟨#[105, 116, 101, 109]⟩ ⟨#[]⟩ ⟨#[110, 111, 100, 101]⟩ [(sNode, r.node), (sId, r.item)] w4 (attrMem_raise (AttrMem.below HQ.out.2.2.2.2.2.1 S4) S4.size) (Nat.le_refl _) rfl
        rw [show attrVal [(sNode, r.node), (sId, r.item)] ⟨#[110, 111, 100, 101]⟩ = some r.node from ev_node _ _] at hA1
        have HA1 := hide hA1
        have HS4 := hide S4
        clear hA1 S4 b4 HWh
        go_wp2_with fail
        refine HA1.out.mono ?_
        rintro e w5 ⟨rfl, b5⟩
        clear p40 p41 p42 p43 r41 r42 r43
        have S5 : Below w3.heap.size w3 w5 := HS4.out.trans (b5.mono HS4.out.size)
        have p50 : w5.cell? ⟨b, off + 4, none⟩ = some (.int .u8 1) := (S5.cell (p := ⟨b, _, none⟩) HQ.out.2.2.2.2.1).trans HQ.out.1
        have p51 : w5.cell? ⟨b, off + 5, none⟩ = some (.string ⟨#[105, 116, 101, 109]⟩) := (S5.cell (p := ⟨b, _, none⟩) HQ.out.2.2.2.2.1).trans HQ.out.2.1
        have r51 : w5.cell? ⟨b, off + 4 + 1, none⟩ = some (.string ⟨#[105, 116, 101, 109]⟩) := (S5.cell (p := ⟨b, _, none⟩) HQ.out.2.2.2.2.1).trans HQ.out.2.1
        have p52 : w5.cell? ⟨b, off + 6, none⟩ = some (.slice ga 2 gc) := (S5.cell (p := ⟨b, _, none⟩) HQ.out.2.2.2.2.1).trans HQ.out.2.2.1
        have r52 : w5.cell? ⟨b, off + 4 + 2, none⟩ = some (.slice ga 2 gc) := (S5.cell (p := ⟨b, _, none⟩) HQ.out.2.2.2.2.1).trans HQ.out.2.2.1
        have p53 : w5.cell? ⟨b, off + 7, none⟩ = some (.string ⟨#[]⟩) := (S5.cell (p := ⟨b, _, none⟩) HQ.out.2.2.2.2.1).trans HQ.out.2.2.2.1
        have r53 : w5.cell? ⟨b, off + 4 + 3, none⟩ = some (.string ⟨#[]⟩) := (S5.cell (p := ⟨b, _, none⟩) HQ.out.2.2.2.2.1).trans HQ.out.2.2.2.1
        have hA2 := refAttr_any w5.heap.size ga gc 1 2 ⟨#[105, 116, 101, 109]⟩ ⟨#[]⟩ ⟨#[105, 100]⟩ [(sNode, r.node), (sId, r.item)] w5 (attrMem_raise (AttrMem.below HQ.out.2.2.2.2.2.1 S5) S5.size) (Nat.le_refl _) rfl
        rw [show attrVal [(sNode, r.node), (sId, r.item)] ⟨#[105, 100]⟩ = some r.item from ev_id _ _] at hA2
        have HA2 := hide hA2
        have HS5 := hide S5
        clear hA2 S5 b5 HA1 HS4
        simp only [Option.getD_some, Option.isSome_some]
        go_wp2_with fail
        refine HA2.out.mono ?_
        rintro e w6 ⟨rfl, b6⟩
        clear p50 p51 p52 p53 r51 r52 r53
        have S6 : Below w3.heap.size w3 w6 := HS5.out.trans (b6.mono HS5.out.size)
        -- no text
        -- no text
        have HLv := hide (live13_any w6 (H3.out.2.2.below S6))
        have HS6 := hide S6
        clear S6 b6 HA2 HS5
        simp only [Option.getD_some, Option.isSome_some]
        go_wp2_with fail
        refine HLv.out.mono ?_
        rintro e w7 ⟨rfl, b7⟩
        -- no text
        have S7 : Below w3.heap.size w3 w7 := HS6.out.trans (b7.mono HS6.out.size)
        have p70 : w7.cell? ⟨b, off + 4, none⟩ = some (.int .u8 1) := (S7.cell (p := ⟨b, _, none⟩) HQ.out.2.2.2.2.1).trans HQ.out.1
        have p71 : w7.cell? ⟨b, off + 5, none⟩ = some (.string ⟨#[105, 116, 101, 109]⟩) := (S7.cell (p := ⟨b, _, none⟩) HQ.out.2.2.2.2.1).trans HQ.out.2.1
        have r71 : w7.cell? ⟨b, off + 4 + 1, none⟩ = some (.string ⟨#[105, 116, 101, 109]⟩) := (S7.cell (p := ⟨b, _, none⟩) HQ.out.2.2.2.2.1).trans HQ.out.2.1
        have p72 : w7.cell? ⟨b, off + 6, none⟩ = some (.slice ga 2 gc) := (S7.cell (p := ⟨b, _, none⟩) HQ.out.2.2.2.2.1).trans HQ.out.2.2.1
        have r72 : w7.cell? ⟨b, off + 4 + 2, none⟩ = some (.slice ga 2 gc) := (S7.cell (p := ⟨b, _, none⟩) HQ.out.2.2.2.2.1).trans HQ.out.2.2.1
        have p73 : w7.cell? ⟨b, off + 7, none⟩ = some (.string ⟨#[]⟩) := (S7.cell (p := ⟨b, _, none⟩) HQ.out.2.2.2.2.1).trans HQ.out.2.2.2.1
        have r73 : w7.cell? ⟨b, off + 4 + 3, none⟩ = some (.string ⟨#[]⟩) := (S7.cell (p := ⟨b, _, none⟩) HQ.out.2.2.2.2.1).trans HQ.out.2.2.2.1
        have f7 := (S7.block _ (Array.getElem?_eq_some_iff.1 H3.out.1).1).trans H3.out.1
        have y1 := (rq_box f7).2.1
        have y2 := (rq_box f7).2.2.1
        have y10 := (rq_box f7).2.2.2.2.2.2.2.2.2.2
        rw [ht] at y10
        have HB := hide (H3.out.2.1.trans (S7.mono H3.out.2.1.size))
        have e1 : (r.node.toList == r.node.toList) = true := by simp
        have e2 : (r.item.toList == r.item.toList) = true := by simp
        have e3 : (r.text.toList == r.text.toList) = true := by simp
        clear S7 b7 HLv HS6 f7
        go_wp2_with fail
        go_ret
        exact ⟨rfl, HB.out⟩
      · have hlen : (eventT r.node r.item r.text).length = 5 := by
          unfold eventT itemT elemT charsT
          rw [if_neg ht]
          simp
        have hn : l.length = 5 := by rw [← hlen, ← hl, List.length_map]
        obtain ⟨ao, cap, rfl, hT⟩ := tokMem_own hE (by omega)
        rw [hl] at hT
        rw [hn]
        have B3 : Below w.heap.size w w3 := H2.out.2.1.trans (b3.mono H2.out.2.1.size)
        have f3 := (b3.block _ (Array.getElem?_eq_some_iff.1 H2.out.1).1).trans H2.out.1
        have hT' := hT
        obtain ⟨_, _, _, hA, _, b, off, hao, hbl, q0, q1, q2, q3⟩ := hT'.2 1 _ (ev_one r.node r.item r.text)
        have hx2 : (eventT r.node r.item r.text)[2]? = some ⟨3, ⟨#[]⟩, [], r.text⟩ := by
          unfold eventT itemT elemT charsT
          rw [if_neg ht]
          rfl
        obtain ⟨_, _, _, _, _, b', off', hao', _, _, _, _, q4⟩ := hT'.2 2 _ hx2
        rw [hao] at hao'
        cases hao'
        subst hao
        obtain ⟨ga, hga⟩ : ∃ ga, (avOf l 1).1 = ga := ⟨_, rfl⟩
        obtain ⟨gc, hgc⟩ : ∃ gc, (avOf l 1).2 = gc := ⟨_, rfl⟩
        have q2' : w3.cell? ⟨b, off + 1 * 4 + 2, none⟩ = some (.slice ga 2 gc) := by rw [← hga, ← hgc]; exact q2
        have hA' : AttrMem w3.heap.size w3 ga [(sNode, r.node), (sId, r.item)] := by rw [← hga]; exact hA
        have hWh := refWhole_any (some ⟨b, off, none⟩) cap (eventT r.node r.item r.text) (avOf l) w3 hT (H2.out.2.2.1.below b3).tabs
        rw [hlen] at hWh
        have HWh := hide hWh
        have HQ := hide (And.intro q0 (And.intro q1 (And.intro q2' (And.intro q3 (And.intro hbl (And.intro hA' q4))))))
        have H3 := hide (And.intro f3 (And.intro B3 (H2.out.2.2.1.below b3)))
        clear hT hT' hA hWh q0 q1 q2 q2' q3 q4 hx2 hbl hA' hga hgc hn hlen hl hE B3 f3 b3 HEv
        go_wp2_with fail
        refine HWh.out.mono ?_
        rintro e w4 ⟨⟨_, rfl⟩ | ⟨hno, _⟩, b4⟩
        case inr => exact absurd (ev_whole H2.out.2.2.2.1 hv) hno
        have S4 : Below w3.heap.size w3 w4 := b4
        have p40 : w4.cell? ⟨b, off + 4, none⟩ = some (.int .u8 1) := (S4.cell (p := ⟨b, _, none⟩) HQ.out.2.2.2.2.1).trans HQ.out.1
        have p41 : w4.cell? ⟨b, off + 5, none⟩ = some (.string ⟨#[105, 116, 101, 109]⟩) := (S4.cell (p := ⟨b, _, none⟩) HQ.out.2.2.2.2.1).trans HQ.out.2.1
        have r41 : w4.cell? ⟨b, off + 4 + 1, none⟩ = some (.string ⟨#[105, 116, 101, 109]⟩) := (S4.cell (p := ⟨b, _, none⟩) HQ.out.2.2.2.2.1).trans HQ.out.2.1
        have p42 : w4.cell? ⟨b, off + 6, none⟩ = some (.slice ga 2 gc) := (S4.cell (p := ⟨b, _, none⟩) HQ.out.2.2.2.2.1).trans HQ.out.2.2.1
        have r42 : w4.cell? ⟨b, off + 4 + 2, none⟩ = some (.slice ga 2 gc) := (S4.cell (p := ⟨b, _, none⟩) HQ.out.2.2.2.2.1).trans HQ.out.2.2.1
        have p43 : w4.cell? ⟨b, off + 7, none⟩ = some (.string ⟨#[]⟩) := (S4.cell (p := ⟨b, _, none⟩) HQ.out.2.2.2.2.1).trans HQ.out.2.2.2.1
        have r43 : w4.cell? ⟨b, off + 4 + 3, none⟩ = some (.string ⟨#[]⟩) := (S4.cell (p := ⟨b, _, none⟩) HQ.out.2.2.2.2.1).trans HQ.out.2.2.2.1
        have hA1 := refAttr_any w4.heap.size ga gc 1 2 ⟨#[105, 116, 101, 109]⟩ ⟨#[]⟩ ⟨#[110, 111, 100, 101]⟩ [(sNode, r.node), (sId, r.item)] w4 (attrMem_raise (AttrMem.below HQ.out.2.2.2.2.2.1 S4) S4.size) (Nat.le_refl _) rfl
        rw [show attrVal [(sNode, r.node), (sId, r.item)] ⟨#[110, 111, 100, 101]⟩ = some r.node from ev_node _ _] at hA1
        have HA1 := hide hA1
        have HS4 := hide S4
        clear hA1 S4 b4 HWh
        go_wp2_with fail
        refine HA1.out.mono ?_
        rintro e w5 ⟨rfl, b5⟩
        clear p40 p41 p42 p43 r41 r42 r43
        have S5 : Below w3.heap.size w3 w5 := HS4.out.trans (b5.mono HS4.out.size)
        have p50 : w5.cell? ⟨b, off + 4, none⟩ = some (.int .u8 1) := (S5.cell (p := ⟨b, _, none⟩) HQ.out.2.2.2.2.1).trans HQ.out.1
        have p51 : w5.cell? ⟨b, off + 5, none⟩ = some (.string ⟨#[105, 116, 101, 109]⟩) := (S5.cell (p := ⟨b, _, none⟩) HQ.out.2.2.2.2.1).trans HQ.out.2.1
        have r51 : w5.cell? ⟨b, off + 4 + 1, none⟩ = some (.string ⟨#[105, 116, 101, 109]⟩) := (S5.cell (p := ⟨b, _, none⟩) HQ.out.2.2.2.2.1).trans HQ.out.2.1
        have p52 : w5.cell? ⟨b, off + 6, none⟩ = some (.slice ga 2 gc) := (S5.cell (p := ⟨b, _, none⟩) HQ.out.2.2.2.2.1).trans HQ.out.2.2.1
        have r52 : w5.cell? ⟨b, off + 4 + 2, none⟩ = some (.slice ga 2 gc) := (S5.cell (p := ⟨b, _, none⟩) HQ.out.2.2.2.2.1).trans HQ.out.2.2.1
        have p53 : w5.cell? ⟨b, off + 7, none⟩ = some (.string ⟨#[]⟩) := (S5.cell (p := ⟨b, _, none⟩) HQ.out.2.2.2.2.1).trans HQ.out.2.2.2.1
        have r53 : w5.cell? ⟨b, off + 4 + 3, none⟩ = some (.string ⟨#[]⟩) := (S5.cell (p := ⟨b, _, none⟩) HQ.out.2.2.2.2.1).trans HQ.out.2.2.2.1
        have hA2 := refAttr_any w5.heap.size ga gc 1 2 ⟨#[105, 116, 101, 109]⟩ ⟨#[]⟩ ⟨#[105, 100]⟩ [(sNode, r.node), (sId, r.item)] w5 (attrMem_raise (AttrMem.below HQ.out.2.2.2.2.2.1 S5) S5.size) (Nat.le_refl _) rfl
        rw [show attrVal [(sNode, r.node), (sId, r.item)] ⟨#[105, 100]⟩ = some r.item from ev_id _ _] at hA2
        have HA2 := hide hA2
        have HS5 := hide S5
        clear hA2 S5 b5 HA1 HS4
        simp only [Option.getD_some, Option.isSome_some]
        go_wp2_with fail
        refine HA2.out.mono ?_
        rintro e w6 ⟨rfl, b6⟩
        clear p50 p51 p52 p53 r51 r52 r53
        have S6 : Below w3.heap.size w3 w6 := HS5.out.trans (b6.mono HS5.out.size)
        have p6t : w6.cell? ⟨b, off + 11, none⟩ = some (.string r.text) := (S6.cell (p := ⟨b, _, none⟩) HQ.out.2.2.2.2.1).trans HQ.out.2.2.2.2.2.2
        have r6t : w6.cell? ⟨b, off + 8 + 3, none⟩ = some (.string r.text) := (S6.cell (p := ⟨b, _, none⟩) HQ.out.2.2.2.2.1).trans HQ.out.2.2.2.2.2.2
        have HLv := hide (live13_any w6 (H3.out.2.2.below S6))
        have HS6 := hide S6
        clear S6 b6 HA2 HS5
        simp only [Option.getD_some, Option.isSome_some]
        go_wp2_with fail
        refine HLv.out.mono ?_
        rintro e w7 ⟨rfl, b7⟩
        clear p6t r6t
        have S7 : Below w3.heap.size w3 w7 := HS6.out.trans (b7.mono HS6.out.size)
        have p70 : w7.cell? ⟨b, off + 4, none⟩ = some (.int .u8 1) := (S7.cell (p := ⟨b, _, none⟩) HQ.out.2.2.2.2.1).trans HQ.out.1
        have p71 : w7.cell? ⟨b, off + 5, none⟩ = some (.string ⟨#[105, 116, 101, 109]⟩) := (S7.cell (p := ⟨b, _, none⟩) HQ.out.2.2.2.2.1).trans HQ.out.2.1
        have r71 : w7.cell? ⟨b, off + 4 + 1, none⟩ = some (.string ⟨#[105, 116, 101, 109]⟩) := (S7.cell (p := ⟨b, _, none⟩) HQ.out.2.2.2.2.1).trans HQ.out.2.1
        have p72 : w7.cell? ⟨b, off + 6, none⟩ = some (.slice ga 2 gc) := (S7.cell (p := ⟨b, _, none⟩) HQ.out.2.2.2.2.1).trans HQ.out.2.2.1
        have r72 : w7.cell? ⟨b, off + 4 + 2, none⟩ = some (.slice ga 2 gc) := (S7.cell (p := ⟨b, _, none⟩) HQ.out.2.2.2.2.1).trans HQ.out.2.2.1
        have p73 : w7.cell? ⟨b, off + 7, none⟩ = some (.string ⟨#[]⟩) := (S7.cell (p := ⟨b, _, none⟩) HQ.out.2.2.2.2.1).trans HQ.out.2.2.2.1
        have r73 : w7.cell? ⟨b, off + 4 + 3, none⟩ = some (.string ⟨#[]⟩) := (S7.cell (p := ⟨b, _, none⟩) HQ.out.2.2.2.2.1).trans HQ.out.2.2.2.1
        have f7 := (S7.block _ (Array.getElem?_eq_some_iff.1 H3.out.1).1).trans H3.out.1
        have y1 := (rq_box f7).2.1
        have y2 := (rq_box f7).2.2.1
        have y10 := (rq_box f7).2.2.2.2.2.2.2.2.2.2
        -- a text
        have HB := hide (H3.out.2.1.trans (S7.mono H3.out.2.1.size))
        have e1 : (r.node.toList == r.node.toList) = true := by simp
        have e2 : (r.item.toList == r.item.toList) = true := by simp
        have e3 : (r.text.toList == r.text.toList) = true := by simp
        clear S7 b7 HLv HS6 f7
        go_wp2_with fail
        go_ret
        exact ⟨rfl, HB.out⟩
    · have hv' : ¬ ((r.verb : Int) = 9) := by omega
      have hv2 : ((r.verb : Int) == 9) = false := by rw [beq_eq_false_iff_ne]; exact hv'
      have HB := hide (And.intro B2 G2)
      clear hbb b2 B2 f2 G2 hra HR HL HW1
      go_wp2_with fail
      refine (live13_any w2 HB.out.2).mono ?_
      rintro e w3 ⟨rfl, b3⟩
      have HC := hide (HB.out.1.trans (b3.mono HB.out.1.size))
      clear b3
      go_wp2_with fail
      go_ret
      exact ⟨rfl, HC.out⟩
end Go.Proofs.YtimhkgpjfppkmaaDoor
