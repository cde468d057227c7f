/- WriteElements, whatever its arguments. -/
import Derived.Test.YtaglbikjnaahnabDoorLive4
import Derived.Test.YtaglbikjnaahnabDoorFew
import Derived.Test.YtaglbikjnaahnabDoorElemM
import Derived.Test.YtaglbikjnaahnabDoorRefElem
import Derived.Test.YtaglbikjnaahnabDoorRefSame
namespace Go.Proofs.YtaglbikjnaahnabDoor
open Go.RowKit

set_option maxRecDepth 100000 in
set_option maxHeartbeats 4000000 in
theorem writeElements_any (name : ByteArray) (aa : Option Addr) (ac : Nat) (al : List (ByteArray × ByteArray)) (ao : Option Addr) (cap : Nat) (us : List Tok) (av : Nat → Option Addr × Nat) (w : World) (hn : name.size ≤ 9223372036854775807)
    (hc1 : al.length ≤ ac) (hA : AttrMem w.heap.size w aa al) (hz1 : aa = none → ac = 0) (hc2 : us.length ≤ cap) (hT : TokMem w.heap.size w ao us av) (hz2 : ∀ k t, us[k]? = some t → (av k).1 = none → (av k).2 = 0) (hU : Tabs w) (hl : EntLaid w) :
    Calls Tryd.prog 8 #[.string name, .slice aa al.length ac, .slice ao us.length cap] w fun e w' => e = .returned (.bool true) ∧ Below w.heap.size w w' := by
  have f1 := few_any ao cap us w hc2 hT.1
  have g1 := hT.take 70
  have hz2' : ∀ k t, (us.take 70)[k]? = some t → (av k).1 = none → (av k).2 = 0 := fun k t hk => by
    have hlt := (List.getElem?_eq_some_iff.1 hk).1
    simp at hlt
    rw [List.getElem?_take_of_lt (by omega)] at hk
    exact hz2 k t hk
  have hxl : (us.take 70).length ≤ 70 := by simp; omega
  obtain ⟨ts, hxs⟩ : ∃ ts, us.take 70 = ts := ⟨_, rfl⟩
  rw [hxs] at f1 g1 hxl hz2'
  have hlen := hA.1
  have HF := hide f1
  have HG := hide (And.intro g1 hz2')
  have HU := hide hU
  have HL := hide hl
  clear hU hl hT hc2 f1 g1 hxs hz2 hz2'
  by_cases h40 : 40 < (al.length : Int)
  · obtain ⟨bl, hbl⟩ : ∃ bl, al.take 40 = bl := ⟨_, rfl⟩
    have hl40 : bl.length = 40 := by rw [← hbl]; simp; omega
    have HA : Hid (AttrMem w.heap.size w aa bl ∧ (aa = none → ac = 0)) := hide ⟨by rw [← hbl]; exact hA.take 40, hz1⟩
    clear hA hz1 hbl
    go_enter Tryd.func8, Tryd.ntmps8
    go_wp2_with fail
    refine HF.out.mono ?_
    rintro e w0 ⟨rfl, hw0⟩
    subst hw0
    go_wp2_with fail
    rw [← hl40]
    refine (element_row name aa ac bl ao cap ts av w0 hn HA.out.1 HG.out.1 (by omega)).mono ?_
    rintro e w1 ⟨v1, l1, rfl, hl1, hE1, hb1⟩
    have hl1' : l1.length = ts.length + 2 := by have h := congrArg List.length hl1; simpa [elemT] using h
    obtain ⟨ao1, cap1, rfl, hT1⟩ := tokMem_own hE1 (by omega)
    rw [hl1] at hT1
    rw [hl1']
    have HB1 := hide hb1
    have HT1 := hide hT1
    have HAV := hide hl1
    clear hT1 hb1 hE1 hl1 hl1'
    have hre := refElement_row name aa ac bl ao cap ts av w1 hn ((HA.out.1.below HB1.out).mono HB1.out.size) HA.out.2 ((HG.out.1.below HB1.out).mono HB1.out.size) HG.out.2 (by omega)
    rw [hl40] at hre
    have HRE := hide hre
    clear hre
    go_wp2_with fail
    refine HRE.out.mono ?_
    rintro e w2 ⟨v2, l2, rfl, hl2, hE2, hb2⟩
    have hl2' : l2.length = ts.length + 2 := by have h := congrArg List.length hl2; simpa [elemT] using h
    obtain ⟨ao2, cap2, rfl, hT2⟩ := tokMem_own hE2 (by omega)
    rw [hl2] at hT2
    rw [hl2']
    have HB2 := hide (HB1.out.trans (hb2.mono HB1.out.size))
    have HS2 := hide hb2
    have HT2 := hide hT2
    clear hT2 hb2 hE2 hl2 hl2' HRE
    obtain ⟨_, _, _, x1, _, b1, o1, hx1, hb1, p1, p2, p3, p4⟩ := HT1.out.2 0 _ (elemT_zero name bl ts)
    obtain ⟨_, _, _, y1, _, b2, o2, hx2, hb2, q1, q2, q3, q4⟩ := HT2.out.2 0 _ (elemT_zero name bl ts)
    subst hx1
    subst hx2
    simp only [Nat.zero_mul, Nat.add_zero] at p1 p2 p3 p4 q1 q2 q3 q4
    obtain ⟨pa, hpa⟩ : ∃ pa, (avOf l1 0).1 = pa := ⟨_, rfl⟩
    obtain ⟨pc, hpc⟩ : ∃ pc, (avOf l1 0).2 = pc := ⟨_, rfl⟩
    obtain ⟨qa, hqa⟩ : ∃ qa, (avOf l2 0).1 = qa := ⟨_, rfl⟩
    obtain ⟨qc, hqc⟩ : ∃ qc, (avOf l2 0).2 = qc := ⟨_, rfl⟩
    rw [hpa, hpc] at p3
    rw [hqa, hqc] at q3
    rw [hpa] at x1
    rw [hqa] at y1
    obtain ⟨nb, hnb⟩ : ∃ nb, bl.length = nb := ⟨_, rfl⟩
    rw [hnb] at p3 q3
    have r1 := (HS2.out.cell (p := ⟨b1, _, none⟩) hb1).trans p1
    have r2 := (HS2.out.cell (p := ⟨b1, _, none⟩) hb1).trans p2
    have r3 := (HS2.out.cell (p := ⟨b1, _, none⟩) hb1).trans p3
    have r4 := (HS2.out.cell (p := ⟨b1, _, none⟩) hb1).trans p4
    clear p1 p2 p3 p4
    have hat := attr_len w2.heap.size pa pc 1 nb name ⟨#[]⟩ ⟨#[116, 111]⟩ bl w2 ((x1.below HS2.out).mono HS2.out.size) (Nat.le_refl _) hnb
    obtain ⟨sv, hsv⟩ : ∃ sv, (attrVal bl ⟨#[116, 111]⟩).getD ⟨#[]⟩ = sv := ⟨_, rfl⟩
    obtain ⟨bv, hbv⟩ : ∃ bv, (attrVal bl ⟨#[116, 111]⟩).isSome = bv := ⟨_, rfl⟩
    rw [hsv, hbv] at hat
    have HAT := hide hat
    have HY := hide (And.intro y1 (And.intro hnb (And.intro hsv hbv)))
    clear hat x1 y1 hsv hbv
    have hl0 : ¬ ((ts.length : Int) + 2 = 0) := by omega
    have hl0' : ((ts.length : Int) + 2 == 0) = false := by rw [beq_eq_false_iff_ne]; omega
    have hi0 : (0 : Int) < (ts.length : Int) + 2 := by omega
    go_wp2_with fail
    refine HAT.out.mono ?_
    rintro e w3 ⟨rfl, hb3⟩
    have HB3 := hide (HB2.out.trans (hb3.mono HB2.out.size))
    have HS3 := hide hb3
    clear hb3 HAT
    have t1 := (HS3.out.cell (p := ⟨b2, _, none⟩) hb2).trans q1
    have t2 := (HS3.out.cell (p := ⟨b2, _, none⟩) hb2).trans q2
    have t3 := (HS3.out.cell (p := ⟨b2, _, none⟩) hb2).trans q3
    have t4 := (HS3.out.cell (p := ⟨b2, _, none⟩) hb2).trans q4
    clear q1 q2 q3 q4 r1 r2 r3 r4
    have hrt := refAttr_any w3.heap.size qa qc 1 nb name ⟨#[]⟩ ⟨#[116, 111]⟩ bl w3 ((HY.out.1.below HS3.out).mono HS3.out.size) (Nat.le_refl _) HY.out.2.1
    rw [HY.out.2.2.1, HY.out.2.2.2] at hrt
    have HRT := hide hrt
    clear hrt
    go_wp2_with fail
    refine HRT.out.mono ?_
    rintro e w4 ⟨rfl, hb4⟩
    have HB4 := hide (HB3.out.trans (hb4.mono HB3.out.size))
    have HS4 := hide (HS3.out.trans (hb4.mono HS3.out.size))
    clear hb4 HRT
    go_wp2_with fail
    refine (live4_any w4 (tabs_below HU.out HB4.out) (HL.out.below HB4.out HL.out.size)).mono ?_
    rintro e w5 ⟨rfl, hb5⟩
    have HB5 := hide (HB4.out.trans (hb5.mono HB4.out.size))
    have HS5 := hide (HS4.out.trans (hb5.mono HS4.out.size))
    clear hb5
    have hss := refSame_any (some ⟨b1, o1, none⟩) (some ⟨b2, o2, none⟩) cap1 cap2 (elemT name bl ts) (elemT name bl ts) (avOf l1) (avOf l2) w5 ((HT1.out.below (HS2.out.trans (HS5.out.mono HS2.out.size))).mono (HS2.out.trans (HS5.out.mono HS2.out.size)).size) ((HT2.out.below HS5.out).mono HS5.out.size)
    rw [elemT_length] at hss
    have HSS := hide hss
    clear hss
    have hsq : (sv.toList == sv.toList) = true := by simp
    have hbq : (bv == bv) = true := by simp
    go_wp2_with fail
    refine HSS.out.mono ?_
    rintro e w6 ⟨⟨_, rfl⟩ | ⟨h, _⟩, hb6⟩
    case inr => exact absurd trivial h
    have HB6 := hide (HB5.out.trans (hb6.mono HB5.out.size))
    clear hb6
    go_wp2_with fail
    go_ret
    exact ⟨rfl, HB6.out⟩
  · have HA : Hid (AttrMem w.heap.size w aa al ∧ (aa = none → ac = 0)) := hide ⟨hA, hz1⟩
    obtain ⟨bl, hbl⟩ : ∃ bl, al = bl := ⟨_, rfl⟩
    subst hbl
    clear hA hz1
    go_enter Tryd.func8, Tryd.ntmps8
    go_wp2_with fail
    refine HF.out.mono ?_
    rintro e w0 ⟨rfl, hw0⟩
    subst hw0
    go_wp2_with fail
    refine (element_row name aa ac al ao cap ts av w0 hn HA.out.1 HG.out.1 (by omega)).mono ?_
    rintro e w1 ⟨v1, l1, rfl, hl1, hE1, hb1⟩
    have hl1' : l1.length = ts.length + 2 := by have h := congrArg List.length hl1; simpa [elemT] using h
    obtain ⟨ao1, cap1, rfl, hT1⟩ := tokMem_own hE1 (by omega)
    rw [hl1] at hT1
    rw [hl1']
    have HB1 := hide hb1
    have HT1 := hide hT1
    have HAV := hide hl1
    clear hT1 hb1 hE1 hl1 hl1'
    have hre := refElement_row name aa ac al ao cap ts av w1 hn ((HA.out.1.below HB1.out).mono HB1.out.size) HA.out.2 ((HG.out.1.below HB1.out).mono HB1.out.size) HG.out.2 (by omega)
    have HRE := hide hre
    clear hre
    go_wp2_with fail
    refine HRE.out.mono ?_
    rintro e w2 ⟨v2, l2, rfl, hl2, hE2, hb2⟩
    have hl2' : l2.length = ts.length + 2 := by have h := congrArg List.length hl2; simpa [elemT] using h
    obtain ⟨ao2, cap2, rfl, hT2⟩ := tokMem_own hE2 (by omega)
    rw [hl2] at hT2
    rw [hl2']
    have HB2 := hide (HB1.out.trans (hb2.mono HB1.out.size))
    have HS2 := hide hb2
    have HT2 := hide hT2
    clear hT2 hb2 hE2 hl2 hl2' HRE
    obtain ⟨_, _, _, x1, _, b1, o1, hx1, hb1, p1, p2, p3, p4⟩ := HT1.out.2 0 _ (elemT_zero name al ts)
    obtain ⟨_, _, _, y1, _, b2, o2, hx2, hb2, q1, q2, q3, q4⟩ := HT2.out.2 0 _ (elemT_zero name al ts)
    subst hx1
    subst hx2
    simp only [Nat.zero_mul, Nat.add_zero] at p1 p2 p3 p4 q1 q2 q3 q4
    obtain ⟨pa, hpa⟩ : ∃ pa, (avOf l1 0).1 = pa := ⟨_, rfl⟩
    obtain ⟨pc, hpc⟩ : ∃ pc, (avOf l1 0).2 = pc := ⟨_, rfl⟩
    obtain ⟨qa, hqa⟩ : ∃ qa, (avOf l2 0).1 = qa := ⟨_, rfl⟩
    obtain ⟨qc, hqc⟩ : ∃ qc, (avOf l2 0).2 = qc := ⟨_, rfl⟩
    rw [hpa, hpc] at p3
    rw [hqa, hqc] at q3
    rw [hpa] at x1
    rw [hqa] at y1
    obtain ⟨nb, hnb⟩ : ∃ nb, al.length = nb := ⟨_, rfl⟩
    rw [hnb] at p3 q3
    have r1 := (HS2.out.cell (p := ⟨b1, _, none⟩) hb1).trans p1
    have r2 := (HS2.out.cell (p := ⟨b1, _, none⟩) hb1).trans p2
    have r3 := (HS2.out.cell (p := ⟨b1, _, none⟩) hb1).trans p3
    have r4 := (HS2.out.cell (p := ⟨b1, _, none⟩) hb1).trans p4
    clear p1 p2 p3 p4
    have hat := attr_len w2.heap.size pa pc 1 nb name ⟨#[]⟩ ⟨#[116, 111]⟩ al w2 ((x1.below HS2.out).mono HS2.out.size) (Nat.le_refl _) hnb
    obtain ⟨sv, hsv⟩ : ∃ sv, (attrVal al ⟨#[116, 111]⟩).getD ⟨#[]⟩ = sv := ⟨_, rfl⟩
    obtain ⟨bv, hbv⟩ : ∃ bv, (attrVal al ⟨#[116, 111]⟩).isSome = bv := ⟨_, rfl⟩
    rw [hsv, hbv] at hat
    have HAT := hide hat
    have HY := hide (And.intro y1 (And.intro hnb (And.intro hsv hbv)))
    clear hat x1 y1 hsv hbv
    have hl0 : ¬ ((ts.length : Int) + 2 = 0) := by omega
    have hl0' : ((ts.length : Int) + 2 == 0) = false := by rw [beq_eq_false_iff_ne]; omega
    have hi0 : (0 : Int) < (ts.length : Int) + 2 := by omega
    go_wp2_with fail
    refine HAT.out.mono ?_
    rintro e w3 ⟨rfl, hb3⟩
    have HB3 := hide (HB2.out.trans (hb3.mono HB2.out.size))
    have HS3 := hide hb3
    clear hb3 HAT
    have t1 := (HS3.out.cell (p := ⟨b2, _, none⟩) hb2).trans q1
    have t2 := (HS3.out.cell (p := ⟨b2, _, none⟩) hb2).trans q2
    have t3 := (HS3.out.cell (p := ⟨b2, _, none⟩) hb2).trans q3
    have t4 := (HS3.out.cell (p := ⟨b2, _, none⟩) hb2).trans q4
    clear q1 q2 q3 q4 r1 r2 r3 r4
    have hrt := refAttr_any w3.heap.size qa qc 1 nb name ⟨#[]⟩ ⟨#[116, 111]⟩ al w3 ((HY.out.1.below HS3.out).mono HS3.out.size) (Nat.le_refl _) HY.out.2.1
    rw [HY.out.2.2.1, HY.out.2.2.2] at hrt
    have HRT := hide hrt
    clear hrt
    go_wp2_with fail
    refine HRT.out.mono ?_
    rintro e w4 ⟨rfl, hb4⟩
    have HB4 := hide (HB3.out.trans (hb4.mono HB3.out.size))
    have HS4 := hide (HS3.out.trans (hb4.mono HS3.out.size))
    clear hb4 HRT
    go_wp2_with fail
    refine (live4_any w4 (tabs_below HU.out HB4.out) (HL.out.below HB4.out HL.out.size)).mono ?_
    rintro e w5 ⟨rfl, hb5⟩
    have HB5 := hide (HB4.out.trans (hb5.mono HB4.out.size))
    have HS5 := hide (HS4.out.trans (hb5.mono HS4.out.size))
    clear hb5
    have hss := refSame_any (some ⟨b1, o1, none⟩) (some ⟨b2, o2, none⟩) cap1 cap2 (elemT name al ts) (elemT name al ts) (avOf l1) (avOf l2) w5 ((HT1.out.below (HS2.out.trans (HS5.out.mono HS2.out.size))).mono (HS2.out.trans (HS5.out.mono HS2.out.size)).size) ((HT2.out.below HS5.out).mono HS5.out.size)
    rw [elemT_length] at hss
    have HSS := hide hss
    clear hss
    have hsq : (sv.toList == sv.toList) = true := by simp
    have hbq : (bv == bv) = true := by simp
    go_wp2_with fail
    refine HSS.out.mono ?_
    rintro e w6 ⟨⟨_, rfl⟩ | ⟨h, _⟩, hb6⟩
    case inr => exact absurd trivial h
    have HB6 := hide (HB5.out.trans (hb6.mono HB5.out.size))
    clear hb6
    go_wp2_with fail
    go_ret
    exact ⟨rfl, HB6.out⟩
end Go.Proofs.YtaglbikjnaahnabDoor
