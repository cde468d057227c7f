/- Which requests are right: the function Right. -/
import Derived.Test.YtimhkgpjfppkmaaDoorRq4b
namespace Go.Proofs.YtimhkgpjfppkmaaDoor
open Go.RowKit Go.Shelf

set_option maxRecDepth 100000 in
set_option maxHeartbeats 4000000 in
theorem right_any (r : Rq) (w : World) (hf : RqFits r) (hG : GlbR w) : Calls Tryd.prog 12 #[.agg (rqA r)] w fun e w' => Yes (RightRq r) e ∧ Below w.heap.size w w' := by
  obtain ⟨P, hP⟩ : ∃ P, RightRq r = P := ⟨_, rfl⟩
  rw [hP]
  have HNo : ¬ RightRq r → ¬ P := fun h h2 => h (by rw [hP]; exact h2)
  have HYes : RightRq r → P := fun h => by rw [← hP]; exact h
  obtain ⟨W1, hW1⟩ : ∃ W1, w.alloc (.cells (rqA r) 26) = W1 := ⟨_, rfl⟩
  have b1 : Below w.heap.size w W1 := by rw [← hW1]; exact (Below.refl _ w).alloc (Nat.le_refl _) _
  have f1 : W1.heap[w.heap.size]? = some (.cells (rqA r) 26) := by rw [← hW1]; exact World.alloc_heap_new _ _
  have HF := hide hf
  have HG := hide (hG.below b1)
  have HV := hide (named_any r.verb hf.verb W1)
  have H1 := hide (And.intro f1 b1)
  have HN := hide (And.intro HNo HYes)
  have hc0 := (rq_box f1).1
  clear hP hf hG f1 b1 HNo HYes
  go_enter Tryd.func12, Tryd.ntmps12
  go_wp2_with fail
  refine HV.out.mono ?_
  rintro e w2 ⟨rfl, b2⟩
  obtain ⟨X0, hX0⟩ : ∃ X, w2.alloc (.cells (thA r.verb) 57) = X := ⟨_, rfl⟩
  have b3 : Below w2.heap.size w2 X0 := by rw [← hX0]; exact (Below.refl _ w2).alloc (Nat.le_refl _) _
  have fn : X0.heap[w2.heap.size]? = some (.cells (thA r.verb) 57) := by rw [← hX0]; exact World.alloc_heap_new _ _
  have b13 := b2.trans (b3.mono b2.size)
  have fr := (b13.block _ (Array.getElem?_eq_some_iff.1 H1.out.1).1).trans H1.out.1
  have HX := hide (And.intro fr (And.intro fn (And.intro (H1.out.2.trans (b13.mono H1.out.2.size)) (HG.out.below b13))))
  have hth : (thA r.verb : Array Value) = #[.bool (nodeB r.verb), .bool (itemB r.verb), .bool (jidB r.verb), .bool (roleB r.verb), .bool (accB r.verb), .bool (maxB r.verb), .bool (depthB r.verb), .bool (parB r.verb), .bool (kindB r.verb), .bool (textB r.verb)] := rfl
  rw [hth] at hX0 ⊢
  clear hth b2 b3 b13 fn fr hc0 HV HG
  go_wp2_with fail
  change Code.wp _ (Code.region 2 rightOps true) _ _ _
  obtain ⟨HNo, HYes⟩ := HN.out
  obtain ⟨V0, hV0⟩ : ∃ V, X0.drew = V := ⟨_, rfl⟩
  have hd : X0.drew.heap = X0.heap := rfl
  rw [hV0] at hd
  have fr0 : V0.heap[w.heap.size]? = some (.cells (rqA r) 26) := by rw [hd]; exact HX.out.1
  have fn0 : V0.heap[w2.heap.size]? = some (.cells (thA r.verb) 57) := by rw [hd]; exact HX.out.2.1
  have B0 : Below w.heap.size w V0 := by rw [← hV0]; exact HX.out.2.2.1.drew
  have G0 : GlbR V0 := HX.out.2.2.2.below (by rw [← hV0]; exact (Below.refl _ X0).drew)
  refine region_rel (S := RightS r w w2.heap.size) (fun a W => ∃ (b : Bool) (xx : Nat → Value), ((b = true ↔ P) ∧ Below w.heap.size w W) ∧ a = { tmps := #[xx 0, xx 1, .bool b, xx 3, xx 4, xx 5, xx 6, xx 7, xx 8, xx 9, xx 10, xx 11, xx 12, xx 13, xx 14, xx 15, xx 16, xx 17, xx 18, xx 19, xx 20, xx 21, xx 22, xx 23, xx 24, xx 25, xx 26, xx 27, xx 28, xx 29, xx 30, xx 31, xx 32, xx 33, xx 34, xx 35, xx 36, xx 37, xx 38, xx 39, xx 40, xx 41, xx 42, xx 43, xx 44, xx 45, xx 46, xx 47, xx 48, xx 49, xx 50, xx 51, xx 52, xx 53, xx 54, xx 55, xx 56, xx 57, xx 58, xx 59, xx 60, xx 61, xx 62, xx 63, xx 64, xx 65, xx 66, xx 67, xx 68, xx 69, xx 70, xx 71, xx 72, xx 73, xx 74, xx 75, xx 76, xx 77, xx 78, xx 79, xx 80, xx 81, xx 82, xx 83, xx 84, xx 85, xx 86, xx 87, xx 88, xx 89, xx 90, xx 91, xx 92, xx 93, xx 94, xx 95, xx 96, xx 97, xx 98, xx 99, xx 100, xx 101, xx 102, xx 103, xx 104, xx 105, xx 106, xx 107, xx 108, xx 109, xx 110, xx 111, xx 112, xx 113, xx 114, xx 115, xx 116, xx 117, xx 118, xx 119, xx 120], defers := [] }) (by kernel_rfl) ?any ?fin
  case any =>
    rw [hV0]
    exact rT0 r w w2.heap.size P HNo HYes HF V0 fr0 fn0 B0 G0 (fun k => (#[.agg (rqA r), undef, .bool false, undef, .pointer (some ⟨w.heap.size, 0, none⟩), .int .u8 r.verb, .agg #[.bool (nodeB r.verb), .bool (itemB r.verb), .bool (jidB r.verb), .bool (roleB r.verb), .bool (accB r.verb), .bool (maxB r.verb), .bool (depthB r.verb), .bool (parB r.verb), .bool (kindB r.verb), .bool (textB r.verb)], undef, undef, undef, undef, undef, undef, undef, undef, undef, undef, undef, undef, undef, undef, undef, undef, undef, undef, undef, undef, undef, undef, undef, undef, undef, undef, undef, undef, undef, undef, undef, undef, undef, undef, undef, undef, undef, undef, undef, undef, undef, undef, undef, undef, undef, undef, undef, undef, undef, undef, undef, undef, undef, undef, undef, undef, undef, undef, undef, undef, undef, undef, undef, undef, undef, undef, undef, undef, undef, undef, undef, undef, undef, undef, undef, undef, undef, undef, undef, undef, undef, undef, undef, undef, undef, undef, undef, undef, undef, undef, undef, undef, undef, undef, undef, undef, undef, undef, undef, undef, undef, undef, undef, undef, undef, undef, undef, undef, undef, undef, undef, undef, undef, undef] : Array Value)[k]?.getD undef) _ (by kernel_rfl)
  case fin =>
    rintro a W ⟨b, xx, ⟨hb, hbel⟩, rfl⟩
    have HE := hide (And.intro hb hbel)
    clear hb hbel hV0 fr0 fn0 B0 G0 hd
    go_wp2_with fail
    go_ret
    exact ⟨⟨b, rfl, HE.out.1⟩, HE.out.2⟩
end Go.Proofs.YtimhkgpjfppkmaaDoor
