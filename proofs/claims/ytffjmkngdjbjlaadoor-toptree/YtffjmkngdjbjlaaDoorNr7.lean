/- Nodes: which are right. -/
import Derived.Test.YtffjmkngdjbjlaaDoorNr6
namespace Go.Proofs.YtffjmkngdjbjlaaDoor
open Go.RowKit

/-- A node's texts are no longer than texts may be. -/
structure NdFits (n : Nd) : Prop where
  name : Fits n.name
  parent : Fits n.parent
  affs : ∀ x ∈ n.affs, Fits x.1
  subs : ∀ x ∈ n.subs, Fits x.1
  items : ∀ x ∈ n.items, Fits x.1 ∧ Fits x.2.1 ∧ Fits x.2.2
/-- A node's lists lie there, its items too. -/
structure NdM (n₀ : Nat) (w : World) (n : Nd) (v : NdW) : Prop where
  ok : NdOk n₀ w n v
  it : ItMem n₀ w v.ia n.items
  ic : n.items.length ≤ v.ic
  fits : NdFits n
theorem NdM.below {n₀ : Nat} {w w' : World} {n : Nd} {v : NdW} (h : NdM n₀ w n v) (hb : Below n₀ w w') : NdM n₀ w' n v := ⟨h.ok.below hb, h.it.below hb, h.ic, h.fits⟩
theorem NdM.raise {n₀ n₁ : Nat} {w : World} {n : Nd} {v : NdW} (h : NdM n₀ w n v) (hn : n₀ ≤ n₁) : NdM n₁ w n v := ⟨h.ok.raise hn, h.it.raise hn, h.ic, h.fits⟩
theorem NdM.move {w w' : World} {n : Nd} {v : NdW} (h : NdM w.heap.size w n v) (hb : Below w.heap.size w w') : NdM w'.heap.size w' n v := (h.below hb).raise hb.size
def RightN (n : Nd) : Prop := nameOk n.name = true ∧ n.acc ≤ 2 ∧ maxOk n.max n.coll = true ∧ (n.parent = ⟨#[]⟩ ∨ nameOk n.parent = true) ∧ AffsOk n.affs ∧ SubsOk n.subs ∧ ItemsOk n.items n.max
set_option maxRecDepth 100000 in
set_option maxHeartbeats 4000000 in
theorem rightN_any (n : Nd) (v : NdW) (w : World) (hm : NdM w.heap.size w n v) (hg : Glob w) :
    Calls Tryd.prog 11 #[.agg (ndA n v)] w fun e w' => Yes (RightN n) e ∧ Below w.heap.size w w' := by
  obtain ⟨P, hP⟩ : ∃ P, RightN n = P := ⟨_, rfl⟩
  rw [hP]
  have b0 : Below w.heap.size w (w.alloc (.cells (ndA n v) 28)) := (Below.refl _ w).alloc (Nat.le_refl _) _
  have f0 := World.alloc_heap_new w (.cells (ndA n v) 28)
  have hl0 : w.heap.size < (w.alloc (.cells (ndA n v) 28)).heap.size := by simp
  have HN := hide (name_any n.name (w.alloc (.cells (ndA n v) 28)) (by have := hm.fits.name; unfold Fits at this; omega))
  have HH := hide (And.intro hm (And.intro hg (And.intro b0 (And.intro f0 hl0))))
  have HP := hide hP
  have bad : ∀ (hne : ¬ RightN n), ¬ P := fun hne h => hne (by rw [HP.out]; exact h)
  have HBad := hide bad
  obtain ⟨c0, c1, c2, c3, c4, c5, c6, c7⟩ := nd_box f0
  clear hP hm hg b0 f0 hl0 bad
  unfold ndA at c0 c1 c2 c3 c4 c5 c6 c7 HN HH ⊢
  obtain ⟨p1, hp1⟩ : ∃ p, nameOk n.name = p := ⟨_, rfl⟩
  rw [hp1] at HN
  have HP1 := hide hp1
  clear hp1
  go_enter Tryd.func11, Tryd.ntmps11
  go_wp2_with fail
  refine HN.out.mono ?_
  rintro e w1 ⟨rfl, hw1⟩
  rw [hw1]
  clear hw1
  cases p1 with
  | false =>
    have hne : ¬ RightN n := fun h => by have := h.1; rw [HP1.out] at this; cases this
    have HNE := hide hne
    clear hne
    go_wp2_with fail
    go_ret
    exact ⟨.f (HBad.out HNE.out), HH.out.2.2.1⟩
  | true =>
    have HA := hide (isAccess_any n.acc (w.alloc (.cells #[.string n.name, .bool n.coll, .int .u8 n.acc, .int .i64 n.max, .slice v.aa n.affs.length v.ac, .slice v.sa n.subs.length v.sc, .slice v.ia n.items.length v.ic, .string n.parent] 28)))
    obtain ⟨p2, hp2⟩ : ∃ p, decide (n.acc ≤ 2) = p := ⟨_, rfl⟩
    rw [hp2] at HA
    have HP2 := hide hp2
    clear hp2
    go_wp2_with fail
    refine HA.out.mono ?_
    rintro e w1 ⟨rfl, hw1⟩
    rw [hw1]
    clear hw1
    cases p2 with
    | false =>
      have hne : ¬ RightN n := fun h => of_decide_eq_false HP2.out h.2.1
      have HNE := hide hne
      clear hne
      go_wp2_with fail
      go_ret
      exact ⟨.f (HBad.out HNE.out), HH.out.2.2.1⟩
    | true =>
      have HM := hide (isMax_any n.max n.coll (w.alloc (.cells #[.string n.name, .bool n.coll, .int .u8 n.acc, .int .i64 n.max, .slice v.aa n.affs.length v.ac, .slice v.sa n.subs.length v.sc, .slice v.ia n.items.length v.ic, .string n.parent] 28)))
      obtain ⟨p3, hp3⟩ : ∃ p, maxOk n.max n.coll = p := ⟨_, rfl⟩
      rw [hp3] at HM
      have HP3 := hide hp3
      clear hp3
      go_wp2_with fail
      refine HM.out.mono ?_
      rintro e w1 ⟨rfl, hw1⟩
      rw [hw1]
      clear hw1
      cases p3 with
      | false =>
        have hne : ¬ RightN n := fun h => by have := h.2.2.1; rw [HP3.out] at this; cases this
        have HNE := hide hne
        clear hne
        go_wp2_with fail
        go_ret
        exact ⟨.f (HBad.out HNE.out), HH.out.2.2.1⟩
      | true =>
        have HR := hide (rightAffs_any v.aa v.ac n.affs (w.alloc (.cells #[.string n.name, .bool n.coll, .int .u8 n.acc, .int .i64 n.max, .slice v.aa n.affs.length v.ac, .slice v.sa n.subs.length v.sc, .slice v.ia n.items.length v.ic, .string n.parent] 28)) ((HH.out.1.ok.1.below HH.out.2.2.1).raise HH.out.2.2.1.size) HH.out.1.fits.affs (HH.out.2.1.below HH.out.2.2.1))
        by_cases hpar : n.parent = ⟨#[]⟩
        · have hpe : n.parent.toList.isEmpty = true := by rw [hpar]; rw [Lib.toList_data]; rfl
          have HPar := hide (show n.parent = ⟨#[]⟩ ∨ nameOk n.parent = true from .inl hpar)
          clear hpar
          go_wp2_with fail
          refine HR.out.mono ?_
          rintro e w2 ⟨⟨p5, rfl, hp5⟩, b2⟩
          have bw2 := HH.out.2.2.1.trans (b2.mono HH.out.2.2.1.size)
          have f2 := (b2.block _ HH.out.2.2.2.2).trans HH.out.2.2.2.1
          have HP5 := hide hp5
          have H2 := hide (And.intro bw2 f2)
          have HS := hide (rightSubs_any v.sa v.sc n.subs w2 ((HH.out.1.ok.2.1.below bw2).raise bw2.size) HH.out.1.fits.subs (HH.out.2.1.below bw2))
          clear hp5 b2 bw2 c0 c1 c2 c3 c4 c5 c6 c7
          obtain ⟨c0, c1, c2, c3, c4, c5, c6, c7⟩ := nd_box f2
          clear f2
          cases p5 with
          | false =>
            have hne : ¬ RightN n := fun h => by have := HP5.out.2 h.2.2.2.2.1; cases this
            have HNE := hide hne
            clear hne
            go_wp2_with fail
            go_ret
            exact ⟨.f (HBad.out HNE.out), H2.out.1⟩
          | true =>
            go_wp2_with fail
            refine HS.out.mono ?_
            rintro e w3 ⟨⟨p6, rfl, hp6⟩, b3⟩
            have bw3 := H2.out.1.trans (b3.mono H2.out.1.size)
            have f3 := (b3.block _ (Array.getElem?_eq_some_iff.1 H2.out.2).1).trans H2.out.2
            have HP6 := hide hp6
            have H3 := hide (And.intro bw3 f3)
            have HI := hide (rightItems_any v.ia v.ic n.items n.max w3 ((HH.out.1.it.below bw3).raise bw3.size) HH.out.1.ic HH.out.1.fits.items (HH.out.2.1.below bw3))
            clear hp6 b3 bw3 c0 c1 c2 c3 c4 c5 c6 c7
            obtain ⟨c0, c1, c2, c3, c4, c5, c6, c7⟩ := nd_box f3
            clear f3
            cases p6 with
            | false =>
              have hne : ¬ RightN n := fun h => by have := HP6.out.2 h.2.2.2.2.2.1; cases this
              have HNE := hide hne
              clear hne
              go_wp2_with fail
              go_ret
              exact ⟨.f (HBad.out HNE.out), H3.out.1⟩
            | true =>
              go_wp2_with fail
              refine HI.out.mono ?_
              rintro e w4 ⟨⟨p7, rfl, hp7⟩, b4⟩
              have HP7 := hide hp7
              have H4 := hide (H3.out.1.trans (b4.mono H3.out.1.size))
              clear hp7 b4 c0 c1 c2 c3 c4 c5 c6 c7
              go_wp2_with fail
              go_ret
              refine ⟨⟨_, rfl, ?_⟩, H4.out⟩
              rw [HP7.out, ← HP.out]
              exact ⟨fun h => ⟨HP1.out, of_decide_eq_true HP2.out, HP3.out, HPar.out, (by first | exact HP5.out.1 rfl | exact HP5.out.1 trivial), (by first | exact HP6.out.1 rfl | exact HP6.out.1 trivial), h⟩, fun h => h.2.2.2.2.2.2⟩
        · have hpe : n.parent.toList.isEmpty = false := str_full (fun h => hpar (ByteArray.size_eq_zero_iff.1 h))
          have HN2 := hide (name_any n.parent (w.alloc (.cells #[.string n.name, .bool n.coll, .int .u8 n.acc, .int .i64 n.max, .slice v.aa n.affs.length v.ac, .slice v.sa n.subs.length v.sc, .slice v.ia n.items.length v.ic, .string n.parent] 28)) (by have := HH.out.1.fits.parent; unfold Fits at this; omega))
          obtain ⟨p4, hp4⟩ : ∃ p, nameOk n.parent = p := ⟨_, rfl⟩
          rw [hp4] at HN2
          have HP4 := hide (And.intro hp4 hpar)
          clear hp4 hpar
          go_wp2_with fail
          refine HN2.out.mono ?_
          rintro e w1 ⟨rfl, hw1⟩
          rw [hw1]
          clear hw1
          cases p4 with
          | false =>
            have hne : ¬ RightN n := fun h => by
              rcases h.2.2.2.1 with h | h
              · exact HP4.out.2 h
              · rw [HP4.out.1] at h; cases h
            have HNE := hide hne
            clear hne
            go_wp2_with fail
            go_ret
            exact ⟨.f (HBad.out HNE.out), HH.out.2.2.1⟩
          | true =>
            have HPar := hide (show n.parent = ⟨#[]⟩ ∨ nameOk n.parent = true from .inr HP4.out.1)
            go_wp2_with fail
            refine HR.out.mono ?_
            rintro e w2 ⟨⟨p5, rfl, hp5⟩, b2⟩
            have bw2 := HH.out.2.2.1.trans (b2.mono HH.out.2.2.1.size)
            have f2 := (b2.block _ HH.out.2.2.2.2).trans HH.out.2.2.2.1
            have HP5 := hide hp5
            have H2 := hide (And.intro bw2 f2)
            have HS := hide (rightSubs_any v.sa v.sc n.subs w2 ((HH.out.1.ok.2.1.below bw2).raise bw2.size) HH.out.1.fits.subs (HH.out.2.1.below bw2))
            clear hp5 b2 bw2 c0 c1 c2 c3 c4 c5 c6 c7
            obtain ⟨c0, c1, c2, c3, c4, c5, c6, c7⟩ := nd_box f2
            clear f2
            cases p5 with
            | false =>
              have hne : ¬ RightN n := fun h => by have := HP5.out.2 h.2.2.2.2.1; cases this
              have HNE := hide hne
              clear hne
              go_wp2_with fail
              go_ret
              exact ⟨.f (HBad.out HNE.out), H2.out.1⟩
            | true =>
              go_wp2_with fail
              refine HS.out.mono ?_
              rintro e w3 ⟨⟨p6, rfl, hp6⟩, b3⟩
              have bw3 := H2.out.1.trans (b3.mono H2.out.1.size)
              have f3 := (b3.block _ (Array.getElem?_eq_some_iff.1 H2.out.2).1).trans H2.out.2
              have HP6 := hide hp6
              have H3 := hide (And.intro bw3 f3)
              have HI := hide (rightItems_any v.ia v.ic n.items n.max w3 ((HH.out.1.it.below bw3).raise bw3.size) HH.out.1.ic HH.out.1.fits.items (HH.out.2.1.below bw3))
              clear hp6 b3 bw3 c0 c1 c2 c3 c4 c5 c6 c7
              obtain ⟨c0, c1, c2, c3, c4, c5, c6, c7⟩ := nd_box f3
              clear f3
              cases p6 with
              | false =>
                have hne : ¬ RightN n := fun h => by have := HP6.out.2 h.2.2.2.2.2.1; cases this
                have HNE := hide hne
                clear hne
                go_wp2_with fail
                go_ret
                exact ⟨.f (HBad.out HNE.out), H3.out.1⟩
              | true =>
                go_wp2_with fail
                refine HI.out.mono ?_
                rintro e w4 ⟨⟨p7, rfl, hp7⟩, b4⟩
                have HP7 := hide hp7
                have H4 := hide (H3.out.1.trans (b4.mono H3.out.1.size))
                clear hp7 b4 c0 c1 c2 c3 c4 c5 c6 c7
                go_wp2_with fail
                go_ret
                refine ⟨⟨_, rfl, ?_⟩, H4.out⟩
                rw [HP7.out, ← HP.out]
                exact ⟨fun h => ⟨HP1.out, of_decide_eq_true HP2.out, HP3.out, HPar.out, (by first | exact HP5.out.1 rfl | exact HP5.out.1 trivial), (by first | exact HP6.out.1 rfl | exact HP6.out.1 trivial), h⟩, fun h => h.2.2.2.2.2.2⟩
end Go.Proofs.YtffjmkngdjbjlaaDoor
