/- The document's parser: a beginning (no attribute). The document's parser: a beginning (no attribute). -/
import Derived.Test.YthmidlmknkbdaaaDoorWD
import Derived.Deep.RegionHeld3
import Derived.Deep.RegionLawGrows
import Derived.Deep.RegionWith
namespace Go.Proofs.YthmidlmknkbdaaaDoor.Xm
open Go.RowKit

set_option maxRecDepth 100000 in
set_option maxHeartbeats 4000000 in
theorem rfBegin_b0 (base p bt : Nat) (st : PS) (vw vo : Value) (nm : ByteArray) (al : List AttrL) (w : World) (hP : IsF base p st vw vo w) (hn : nmB nm.data.toList = true) (hal : ∀ a ∈ al, nmB a.1 = true) (hl : (60 :: (nm.data.toList ++ (atsB al ++ endsB false)) ++ [62]).length ≤ 2048) (hbt : bt ≤ w.heap.size) (_hb4 : base ≤ w.heap.size) (h8 : al.length ≤ 8) (hno : NoRep (toB al)) (hop : st.op.length = 0) (hro : st.rooted = false) (hae : al = []) :
    Calls Tryd.prog 62 #[.pointer (some ⟨p, 0, none⟩), .string ⟨(60 :: (nm.data.toList ++ (atsB al ++ endsB false)) ++ [62]).toArray⟩] w fun e w' => RfEnds bt base p { st with rooted := true, op := st.op ++ [nm] } vw [⟨1, nm, toB al, ⟨#[]⟩⟩] w e w' := by
  obtain ⟨c0, c1, c2, c3, c4, c5, cf⟩ := hP.cells
  have cf2 := cf 2 (by omega)
  have cf3 := cf 3 (by omega)
  obtain ⟨ga, gc, rfl⟩ := own_shape hP.2.2.2
  obtain ⟨s, s1, r, A, k, C⟩ := bcuts nm al false hn hal hl
  rw [C.se]
  have hna := rfName_is s1 k w (by have := C.z; have := C.z1; omega) C.n1
  have hny := fun w => refName_yes nm w (by have := C.zn; omega) hn
  have hat := fun w => rfAttrs_any al w hal (by have := C.za; have := C.z; omega)
  rw [C.ae] at hat
  have e1 := C.e1
  have ex := C.ex
  have er := C.er
  have i1 : (1 : Int) ≤ s.size := by have := C.z1; omega
  have i2 : IntKind.i64.wrap (1 + (k : Int)) = 1 + k := by have := C.zk; have := C.z; rw [IntKind.wrap_i64]; omega
  have i3 : (1 : Int) + k ≤ s.size := by have := C.zk; omega
  have i4 : IntKind.i64.wrap ((s.size : Int) - 1) = (s.size : Int) - 1 := by have := C.z; rw [IntKind.wrap_i64]; omega
  have i5 : ((s.size : Int) - 1).toNat = s.size - 1 := by have := C.z1; omega
  have i6 : (1 : Int) + k ≤ (s.size : Int) - 1 := by have := C.zk; omega
  have i7 : (1 : Int) ≤ 1 + k := by omega
  have i8 : ¬ ((1 : Int) + k < 1) := by omega
  have i9 : (0 : Int) ≤ 1 + k := by omega
  have i10 : (1 + (k : Int)).toNat = 1 + k := by omega
  have i11 : ¬ ((s.size : Int) - 1 < 1 + k) := by omega
  have i12 : (s.size : Int) - 1 ≤ s.size := by omega
  have i13 : (0 : Int) ≤ (s.size : Int) - 1 := by omega
  have rz : r.size = 0 := by rw [C.rb, ← C.ae, hae]; rfl
  have r1 : ¬ ((0 : Int) < r.size) := by omega
  have rA := C.rb
  subst rA
  clear hae
  rw [hop] at c2
  rw [hro] at c3
  have HB := hide (And.intro hna (And.intro hny hat))
  have HP := hide (And.intro hP (And.intro hno h8))
  have HC := hide C
  have hkn : nm.size ≤ 32 := C.zn
  have HOP := hide (And.intro hop hro)
  have hpl := hP.lt
  clear hna hny hat hP hno C cf hop hro hl hn hal
  go_enter Tryd.func62, Tryd.ntmps62
  go_wp2_with fail
  refine HB.out.1.mono ?_
  rintro e w1 ⟨rfl, hw1⟩
  rw [hw1]
  clear hw1 w1
  go_wp2_with fail
  refine (HB.out.2.2 _).mono ?_
  rintro e w1 ⟨v1, rfl, hown1, hb1⟩
  have hz1 := hb1.size
  have hP1 := HP.out.1.below hb1
  obtain ⟨d0, d1, d2, d3, d4, d5, df⟩ := hP1.cells
  have df2 := df 2 (by omega)
  have df3 := df 3 (by omega)
  rw [HOP.out.1] at d2
  rw [HOP.out.2] at d3
  obtain ⟨va, vc, rfl⟩ := own_shape hown1
  have H1 := hide (And.intro hown1 (And.intro hb1 hP1))
  clear hown1 hb1 hP1 df c0 c1 c2 c3 c4 c5 cf2 cf3
  go_wp2_with fail
  refine (HB.out.2.1 _).mono ?_
  rintro e w2 ⟨rfl, hw2⟩
  rw [hw2]
  clear hw2 w2
  obtain ⟨n, hnn⟩ : ∃ n, (toB al).length = n := ⟨_, rfl⟩
  rw [hnn]
  have hn8 : (n : Int) ≤ 8 := by rw [← hnn]; simp [toB]; exact_mod_cast h8
  have n1 : ¬ ((8 : Int) < n) := by omega
  have HN := hide hnn
  clear hnn
  have n2 : n ≤ 8 := by omega
  have HA := hide (H1.out.1.attrs)
  go_wp2_with fail
  go_loopw [12] (fun i wr => ∃ q : Nat, q ≤ n ∧ i = .int .i64 q ∧ Below w1.heap.size w1 wr) (fun i _ => n - (intOf i).toNat)
  case atStart => exact ⟨0, Nat.zero_le _, rfl, Below.refl _ _⟩
  case round =>
    obtain ⟨q, hq, rfl, hbw⟩ := hrel
    have HW := hide hbw
    have hzw := hbw.size
    clear hbw
    by_cases hlt : (q : Int) < n
    · go_wp2_with fail
      go_loopw [13] (fun j wq => ∃ q2 : Nat, q2 ≤ q ∧ j = .int .i64 q2 ∧ Below w1.heap.size w1 wq) (fun j _ => q - (intOf j).toNat)
      case atStart => exact ⟨0, Nat.zero_le _, rfl, HW.out⟩
      case round =>
        obtain ⟨q2, hq2, rfl, hbw2⟩ := hrel
        have HW2 := hide hbw2
        clear hbw2
        by_cases hlt2 : (q2 : Int) < q
        · have hlq : q < (toB al).length := by rw [HN.out]; omega
          have hlq2 : q2 < (toB al).length := by omega
          have hx := HP.out.2.1 q q2 _ _ (by omega) (List.getElem?_eq_getElem hlq) (List.getElem?_eq_getElem hlq2)
          obtain ⟨x, hxe⟩ : ∃ x, (toB al)[q] = x := ⟨_, rfl⟩
          obtain ⟨y, hye⟩ : ∃ y, (toB al)[q2] = y := ⟨_, rfl⟩
          rw [hxe, hye] at hx
          obtain ⟨g, hva, hgl, fx⟩ := HA.out q x (by rw [List.getElem?_eq_getElem hlq, hxe])
          obtain ⟨g', hva', _, fy⟩ := HA.out q2 y (by rw [List.getElem?_eq_getElem hlq2, hye])
          subst hva
          cases hva'
          have fx1 := (HW2.out.cell (p := ⟨g, _, none⟩) hgl).trans fx
          have fy1 := (HW2.out.cell (p := ⟨g, _, none⟩) hgl).trans fy
          have hne : (y.1.toList == x.1.toList) = false := str_ne (fun e => hx e.symm)
          have k1 : (q : Int) < n := hlt
          have k2 : (q2 : Int) < n := by omega
          have k3 : (0 : Int) ≤ q := by omega
          have k4 : (0 : Int) ≤ q2 := by omega
          clear fx fy hxe hye hx
          go_wp2_with fail
          go_region
          all_goals
            go_wp2_with fail
            go_roundw
            case rel => exact ⟨q2 + 1, by omega, by simp, HW2.out.drew⟩
            case measure => simp [intOf]; omega
        · go_wp2_with fail
          go_roundw
          case rel => exact ⟨q + 1, by omega, by simp, HW2.out⟩
          case measure => simp [intOf]; omega
    · have hPr := H1.out.2.2.below HW.out
      obtain ⟨t0, t1, t2, t3, t4, t5, tf⟩ := hPr.cells
      have tf2 := tf 2 (by omega)
      have tf3 := tf 3 (by omega)
      rw [HOP.out.1] at t2
      have hown2 : wr.ownsRow bt 65 2 (.slice va n vc) (toB al).length (attrCells (toB al)) := by
        rw [← HN.out]
        exact own_lower (own_same H1.out.1 (fun g hg => HW.out.block g (own_lt H1.out.1 g hg))) hbt
      have hza : (atsB al).length ≤ 2048 := by have := HC.out.za; have := HC.out.z; omega
      obtain ⟨hP3, hE3, hO3, hz3⟩ := rf_begun (nm := nm) hPr hown2 HN.out (by omega) hkn hza
      obtain ⟨W3, hW3⟩ : ∃ W3, (wr.setCell ⟨p, 3, none⟩ (.bool true)).alloc (.cells #[.int .u8 1, .string nm, .slice va n vc, .string ⟨#[]⟩] 55) = W3 := ⟨_, rfl⟩
      rw [hW3] at hP3 hE3 hO3 hz3
      have hOw : Only p w W3 := (Only.of_below (H1.out.2.1.trans (HW.out.mono hz1)) (by omega)).trans hO3
      have hb3a := (Below.refl W3.heap.size W3).alloc (Nat.le_refl _) (.cells #[] 9)
      have hpl3 := hP3.lt
      have u2 : (W3.alloc (.cells #[] 9)).cell? ⟨p, 2, none⟩ = some (.slice ga 0 gc) := by
        rw [hb3a.cell (p := ⟨p, 2, none⟩) hpl3, ← HOP.out.1]
        exact hP3.cells.2.2.1
      rw [← hW3] at u2
      have HPr := hide (And.intro hP3 (And.intro hE3 (And.intro hOw hz3)))
      have HW3 := hide hW3
      have hol : st.op.length ≤ 8 := by rw [HOP.out.1]; omega
      clear hPr tf d0 d1 d2 d3 d4 d5 df2 df3 hP3 hE3 hO3 hz3 hOw hW3 hown2 hb3a
      go_wp2_with (at_builtin; refine stopHere ?_)
      unfold Hid
      rw [HW3.out]
      have hE2 : (W3.alloc (.cells #[] 9)).ownsRow base 9 1 (.slice ga 0 gc) st.op.length (nameCells st.op) := by
        rw [← HOP.out.1]
        exact own_same HPr.out.1.2.2.2 (fun g hg => Below.heap_alloc _ _ _ (own_lt HPr.out.1.2.2.2 g hg))
      have hE0 : (W3.alloc (.cells #[] 9)).ownsRow W3.heap.size 9 1 (.slice (some ⟨wr.heap.size + 1, 0, none⟩) 0 0) 0 [] := by
        have h := empty_own (w := W3) (e := 9) (Nat.le_refl W3.heap.size)
        rw [HPr.out.2.2.2] at h ⊢
        exact h
      refine append_nms _ rfl _ _ rfl W3.heap.size base _ _ [] st.op rfl rfl hE0 hE2 (by simp) (by omega) (by simp) ?_
      intro v5 w5 hown5 hgr5
      simp only [List.nil_append] at hown5
      have hb5 : Below W3.heap.size W3 w5 := ((Below.refl W3.heap.size W3).alloc (Nat.le_refl _) _).grown hgr5 (by simp) (fun g hg => own_base hE0 g hg)
      obtain ⟨g5, c5, hv5⟩ := own_shape hown5
      rw [hv5] at hown5 ⊢
      clear hv5 v5
      have hz5 := hb5.size
      have H5 := hide (And.intro hown5 hb5)
      clear hown5 hb5 hgr5 hE2 hE0
      go_wp2_with (at_builtin; refine stopHere ?_)
      unfold Hid
      refine append_nms _ rfl _ _ rfl W3.heap.size w5.heap.size _ _ st.op [nm] rfl rfl (own_same H5.out.1 (fun g hg => Below.heap_alloc _ _ _ (own_lt H5.out.1 g hg))) (one_own (Nat.le_refl _)) (by omega) (by simp) (by simp; omega) ?_
      intro v7 w7 hown7 hgr7
      have hb7 : Below W3.heap.size W3 w7 := (H5.out.2.alloc hz5 _).grown hgr7 (by simp; omega) (fun g hg => own_base H5.out.1 g hg)
      have hP7 := HPr.out.1.below hb7
      obtain ⟨_, _, x2, _, _, _, xf⟩ := hP7.cells
      have xf2 := xf 2 (by omega)
      have hE7 := HPr.out.2.1.below hb7
      have hO7 := (HPr.out.2.2.1.trans (Only.of_below hb7 (Nat.le_of_lt hpl3))).set (i := 2) v7
      have hF7 := hP7.set (st' := { st with rooted := true, op := st.op ++ [nm] }) (vw' := vw) (vo' := v7) (v := v7) 2 (by omega) hP7.2.2.1 (own_lower hown7 (by have := HPr.out.1.1; omega)) rfl
      have hE8 := hE7.setF (i := 2) (x := v7) hP7.2.1
      obtain ⟨g7, c7, hv7⟩ := own_shape hown7
      rw [hv7] at hO7 hF7 hE8 ⊢
      obtain ⟨nq, hnq⟩ : ∃ nq, (st.op ++ [nm]).length = nq := ⟨_, rfl⟩
      rw [hnq] at hO7 hF7 hE8 ⊢
      have H7 := hide (And.intro hE8 (And.intro hF7 hO7))
      clear hE7 hO7 hF7 hP7 hown7 hgr7 hb7 hE8 xf hv7 hnq
      go_wp2_with fail
      go_ret2
      exact ⟨.slice (some ⟨wr.heap.size, 0, none⟩) 1 1, [(⟨1, nm, toB al, ⟨#[]⟩⟩, va, vc)], .slice g7 nq c7, rfl, rfl, H7.out.1, H7.out.2.1, H7.out.2.2⟩
end Go.Proofs.YthmidlmknkbdaaaDoor.Xm
namespace Go.Proofs.YthmidlmknkbdaaaDoor.Xm
open Go.RowKit

set_option maxRecDepth 100000 in
set_option maxHeartbeats 4000000 in
theorem rfBegin_b1 (base p bt : Nat) (st : PS) (vw vo : Value) (nm : ByteArray) (al : List AttrL) (w : World) (hP : IsF base p st vw vo w) (hn : nmB nm.data.toList = true) (hal : ∀ a ∈ al, nmB a.1 = true) (hl : (60 :: (nm.data.toList ++ (atsB al ++ endsB false)) ++ [62]).length ≤ 2048) (hbt : bt ≤ w.heap.size) (_hb4 : base ≤ w.heap.size) (h8 : al.length ≤ 8) (hno : NoRep (toB al)) (hop : 0 < st.op.length) (hop8 : st.op.length < 8) (hae : al = []) :
    Calls Tryd.prog 62 #[.pointer (some ⟨p, 0, none⟩), .string ⟨(60 :: (nm.data.toList ++ (atsB al ++ endsB false)) ++ [62]).toArray⟩] w fun e w' => RfEnds bt base p { st with rooted := true, op := st.op ++ [nm] } vw [⟨1, nm, toB al, ⟨#[]⟩⟩] w e w' := by
  obtain ⟨c0, c1, c2, c3, c4, c5, cf⟩ := hP.cells
  have cf2 := cf 2 (by omega)
  have cf3 := cf 3 (by omega)
  obtain ⟨ga, gc, rfl⟩ := own_shape hP.2.2.2
  obtain ⟨s, s1, r, A, k, C⟩ := bcuts nm al false hn hal hl
  rw [C.se]
  have hna := rfName_is s1 k w (by have := C.z; have := C.z1; omega) C.n1
  have hny := fun w => refName_yes nm w (by have := C.zn; omega) hn
  have hat := fun w => rfAttrs_any al w hal (by have := C.za; have := C.z; omega)
  rw [C.ae] at hat
  have e1 := C.e1
  have ex := C.ex
  have er := C.er
  have i1 : (1 : Int) ≤ s.size := by have := C.z1; omega
  have i2 : IntKind.i64.wrap (1 + (k : Int)) = 1 + k := by have := C.zk; have := C.z; rw [IntKind.wrap_i64]; omega
  have i3 : (1 : Int) + k ≤ s.size := by have := C.zk; omega
  have i4 : IntKind.i64.wrap ((s.size : Int) - 1) = (s.size : Int) - 1 := by have := C.z; rw [IntKind.wrap_i64]; omega
  have i5 : ((s.size : Int) - 1).toNat = s.size - 1 := by have := C.z1; omega
  have i6 : (1 : Int) + k ≤ (s.size : Int) - 1 := by have := C.zk; omega
  have i7 : (1 : Int) ≤ 1 + k := by omega
  have i8 : ¬ ((1 : Int) + k < 1) := by omega
  have i9 : (0 : Int) ≤ 1 + k := by omega
  have i10 : (1 + (k : Int)).toNat = 1 + k := by omega
  have i11 : ¬ ((s.size : Int) - 1 < 1 + k) := by omega
  have i12 : (s.size : Int) - 1 ≤ s.size := by omega
  have i13 : (0 : Int) ≤ (s.size : Int) - 1 := by omega
  have rz : r.size = 0 := by rw [C.rb, ← C.ae, hae]; rfl
  have r1 : ¬ ((0 : Int) < r.size) := by omega
  have rA := C.rb
  subst rA
  clear hae
  obtain ⟨no, hnoe⟩ : ∃ no, st.op.length = no := ⟨_, rfl⟩
  rw [hnoe] at c2
  have o1 : ¬ ((no : Int) = 0) := by omega
  have o1' : ¬ (no = 0) := by omega
  have o2 : ¬ ((8 : Int) ≤ no) := by omega
  have HNO := hide hnoe
  have HB := hide (And.intro hna (And.intro hny hat))
  have HP := hide (And.intro hP (And.intro hno h8))
  have HC := hide C
  have hkn : nm.size ≤ 32 := C.zn
  have HOP := hide (And.intro hop hop8)
  have hpl := hP.lt
  clear hna hny hat hP hno C cf hop hop8 hnoe hl hn hal
  go_enter Tryd.func62, Tryd.ntmps62
  go_wp2_with fail
  refine HB.out.1.mono ?_
  rintro e w1 ⟨rfl, hw1⟩
  rw [hw1]
  clear hw1 w1
  go_wp2_with fail
  refine (HB.out.2.2 _).mono ?_
  rintro e w1 ⟨v1, rfl, hown1, hb1⟩
  have hz1 := hb1.size
  have hP1 := HP.out.1.below hb1
  obtain ⟨d0, d1, d2, d3, d4, d5, df⟩ := hP1.cells
  have df2 := df 2 (by omega)
  have df3 := df 3 (by omega)
  obtain ⟨va, vc, rfl⟩ := own_shape hown1
  rw [HNO.out] at d2
  have H1 := hide (And.intro hown1 (And.intro hb1 hP1))
  clear hown1 hb1 hP1 df c0 c1 c2 c3 c4 c5 cf2 cf3
  go_wp2_with fail
  refine (HB.out.2.1 _).mono ?_
  rintro e w2 ⟨rfl, hw2⟩
  rw [hw2]
  clear hw2 w2
  obtain ⟨n, hnn⟩ : ∃ n, (toB al).length = n := ⟨_, rfl⟩
  rw [hnn]
  have hn8 : (n : Int) ≤ 8 := by rw [← hnn]; simp [toB]; exact_mod_cast h8
  have n1 : ¬ ((8 : Int) < n) := by omega
  have HN := hide hnn
  clear hnn
  have n2 : n ≤ 8 := by omega
  have HA := hide (H1.out.1.attrs)
  go_wp2_with fail
  go_loopw [12] (fun i wr => ∃ q : Nat, q ≤ n ∧ i = .int .i64 q ∧ Below w1.heap.size w1 wr) (fun i _ => n - (intOf i).toNat)
  case atStart => exact ⟨0, Nat.zero_le _, rfl, Below.refl _ _⟩
  case round =>
    obtain ⟨q, hq, rfl, hbw⟩ := hrel
    have HW := hide hbw
    have hzw := hbw.size
    clear hbw
    by_cases hlt : (q : Int) < n
    · go_wp2_with fail
      go_loopw [13] (fun j wq => ∃ q2 : Nat, q2 ≤ q ∧ j = .int .i64 q2 ∧ Below w1.heap.size w1 wq) (fun j _ => q - (intOf j).toNat)
      case atStart => exact ⟨0, Nat.zero_le _, rfl, HW.out⟩
      case round =>
        obtain ⟨q2, hq2, rfl, hbw2⟩ := hrel
        have HW2 := hide hbw2
        clear hbw2
        by_cases hlt2 : (q2 : Int) < q
        · have hlq : q < (toB al).length := by rw [HN.out]; omega
          have hlq2 : q2 < (toB al).length := by omega
          have hx := HP.out.2.1 q q2 _ _ (by omega) (List.getElem?_eq_getElem hlq) (List.getElem?_eq_getElem hlq2)
          obtain ⟨x, hxe⟩ : ∃ x, (toB al)[q] = x := ⟨_, rfl⟩
          obtain ⟨y, hye⟩ : ∃ y, (toB al)[q2] = y := ⟨_, rfl⟩
          rw [hxe, hye] at hx
          obtain ⟨g, hva, hgl, fx⟩ := HA.out q x (by rw [List.getElem?_eq_getElem hlq, hxe])
          obtain ⟨g', hva', _, fy⟩ := HA.out q2 y (by rw [List.getElem?_eq_getElem hlq2, hye])
          subst hva
          cases hva'
          have fx1 := (HW2.out.cell (p := ⟨g, _, none⟩) hgl).trans fx
          have fy1 := (HW2.out.cell (p := ⟨g, _, none⟩) hgl).trans fy
          have hne : (y.1.toList == x.1.toList) = false := str_ne (fun e => hx e.symm)
          have k1 : (q : Int) < n := hlt
          have k2 : (q2 : Int) < n := by omega
          have k3 : (0 : Int) ≤ q := by omega
          have k4 : (0 : Int) ≤ q2 := by omega
          clear fx fy hxe hye hx
          go_wp2_with fail
          go_region
          all_goals
            go_wp2_with fail
            go_roundw
            case rel => exact ⟨q2 + 1, by omega, by simp, HW2.out.drew⟩
            case measure => simp [intOf]; omega
        · go_wp2_with fail
          go_roundw
          case rel => exact ⟨q + 1, by omega, by simp, HW2.out⟩
          case measure => simp [intOf]; omega
    · have hPr := H1.out.2.2.below HW.out
      obtain ⟨t0, t1, t2, t3, t4, t5, tf⟩ := hPr.cells
      have tf2 := tf 2 (by omega)
      have tf3 := tf 3 (by omega)
      rw [HNO.out] at t2
      have hown2 : wr.ownsRow bt 65 2 (.slice va n vc) (toB al).length (attrCells (toB al)) := by
        rw [← HN.out]
        exact own_lower (own_same H1.out.1 (fun g hg => HW.out.block g (own_lt H1.out.1 g hg))) hbt
      have hza : (atsB al).length ≤ 2048 := by have := HC.out.za; have := HC.out.z; omega
      obtain ⟨hP3, hE3, hO3, hz3⟩ := rf_begun (nm := nm) hPr hown2 HN.out (by omega) hkn hza
      obtain ⟨W3, hW3⟩ : ∃ W3, (wr.setCell ⟨p, 3, none⟩ (.bool true)).alloc (.cells #[.int .u8 1, .string nm, .slice va n vc, .string ⟨#[]⟩] 55) = W3 := ⟨_, rfl⟩
      rw [hW3] at hP3 hE3 hO3 hz3
      have hOw : Only p w W3 := (Only.of_below (H1.out.2.1.trans (HW.out.mono hz1)) (by omega)).trans hO3
      have hb3a := (Below.refl W3.heap.size W3).alloc (Nat.le_refl _) (.cells #[] 9)
      have hpl3 := hP3.lt
      have u2 : (W3.alloc (.cells #[] 9)).cell? ⟨p, 2, none⟩ = some (.slice ga no gc) := by
        rw [hb3a.cell (p := ⟨p, 2, none⟩) hpl3, ← HNO.out]
        exact hP3.cells.2.2.1
      rw [← hW3] at u2
      have HPr := hide (And.intro hP3 (And.intro hE3 (And.intro hOw hz3)))
      have HW3 := hide hW3
      have hol : st.op.length ≤ 8 := by rw [HNO.out]; omega
      clear hPr tf d0 d1 d2 d3 d4 d5 df2 df3 hP3 hE3 hO3 hz3 hOw hW3 hown2 hb3a
      go_wp2_with (at_builtin; refine stopHere ?_)
      unfold Hid
      rw [HW3.out]
      have hE2 : (W3.alloc (.cells #[] 9)).ownsRow base 9 1 (.slice ga no gc) st.op.length (nameCells st.op) := by
        rw [← HNO.out]
        exact own_same HPr.out.1.2.2.2 (fun g hg => Below.heap_alloc _ _ _ (own_lt HPr.out.1.2.2.2 g hg))
      have hE0 : (W3.alloc (.cells #[] 9)).ownsRow W3.heap.size 9 1 (.slice (some ⟨wr.heap.size + 1, 0, none⟩) 0 0) 0 [] := by
        have h := empty_own (w := W3) (e := 9) (Nat.le_refl W3.heap.size)
        rw [HPr.out.2.2.2] at h ⊢
        exact h
      refine append_nms _ rfl _ _ rfl W3.heap.size base _ _ [] st.op rfl rfl hE0 hE2 (by simp) (by omega) (by simp) ?_
      intro v5 w5 hown5 hgr5
      simp only [List.nil_append] at hown5
      have hb5 : Below W3.heap.size W3 w5 := ((Below.refl W3.heap.size W3).alloc (Nat.le_refl _) _).grown hgr5 (by simp) (fun g hg => own_base hE0 g hg)
      obtain ⟨g5, c5, hv5⟩ := own_shape hown5
      rw [hv5] at hown5 ⊢
      clear hv5 v5
      have hz5 := hb5.size
      have H5 := hide (And.intro hown5 hb5)
      clear hown5 hb5 hgr5 hE2 hE0
      go_wp2_with (at_builtin; refine stopHere ?_)
      unfold Hid
      refine append_nms _ rfl _ _ rfl W3.heap.size w5.heap.size _ _ st.op [nm] rfl rfl (own_same H5.out.1 (fun g hg => Below.heap_alloc _ _ _ (own_lt H5.out.1 g hg))) (one_own (Nat.le_refl _)) (by omega) (by simp) (by simp; omega) ?_
      intro v7 w7 hown7 hgr7
      have hb7 : Below W3.heap.size W3 w7 := (H5.out.2.alloc hz5 _).grown hgr7 (by simp; omega) (fun g hg => own_base H5.out.1 g hg)
      have hP7 := HPr.out.1.below hb7
      obtain ⟨_, _, x2, _, _, _, xf⟩ := hP7.cells
      have xf2 := xf 2 (by omega)
      have hE7 := HPr.out.2.1.below hb7
      have hO7 := (HPr.out.2.2.1.trans (Only.of_below hb7 (Nat.le_of_lt hpl3))).set (i := 2) v7
      have hF7 := hP7.set (st' := { st with rooted := true, op := st.op ++ [nm] }) (vw' := vw) (vo' := v7) (v := v7) 2 (by omega) hP7.2.2.1 (own_lower hown7 (by have := HPr.out.1.1; omega)) rfl
      have hE8 := hE7.setF (i := 2) (x := v7) hP7.2.1
      obtain ⟨g7, c7, hv7⟩ := own_shape hown7
      rw [hv7] at hO7 hF7 hE8 ⊢
      obtain ⟨nq, hnq⟩ : ∃ nq, (st.op ++ [nm]).length = nq := ⟨_, rfl⟩
      rw [hnq] at hO7 hF7 hE8 ⊢
      have H7 := hide (And.intro hE8 (And.intro hF7 hO7))
      clear hE7 hO7 hF7 hP7 hown7 hgr7 hb7 hE8 xf hv7 hnq
      go_wp2_with fail
      go_ret2
      exact ⟨.slice (some ⟨wr.heap.size, 0, none⟩) 1 1, [(⟨1, nm, toB al, ⟨#[]⟩⟩, va, vc)], .slice g7 nq c7, rfl, rfl, H7.out.1, H7.out.2.1, H7.out.2.2⟩
end Go.Proofs.YthmidlmknkbdaaaDoor.Xm
