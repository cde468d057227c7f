/- Stanzas: the kind of a name. Stanzas: what a tag says. -/
import Derived.Test.YthmidlmknkbdaaaDoorXC
namespace Go.Proofs.YthmidlmknkbdaaaDoor
open Go.RowKit

/-- The kind of an element's name; none is 0. -/
def kNum (name : ByteArray) : Int := if name = kindB 1 then 1 else if name = kindB 2 then 2 else if name = kindB 3 then 3 else 0
theorem cells3k {w : World} {b : Nat} {x y z : Value} {T : TypeId} (h : w.heap[b]? = some (.cells #[x, y, z] T)) : w.cell? ⟨b, 0, none⟩ = some x ∧ w.cell? ⟨b, 1, none⟩ = some y ∧ w.cell? ⟨b, 2, none⟩ = some z := by
  refine ⟨by simp [World.cell?, h], by simp [World.cell?, h], by simp [World.cell?, h]⟩
set_option maxRecDepth 100000 in
set_option maxHeartbeats 1000000 in
theorem kindNamed_any (name : ByteArray) (w : World) : Calls Tryd.prog 53 #[.string name] w fun e w' => e = .returned (.int .u8 (kNum name)) ∧ Below w.heap.size w w' := by
  obtain ⟨rb, hrb⟩ : ∃ rb, kNum name = rb := ⟨_, rfl⟩
  rw [hrb]
  have HRB := hide hrb
  clear hrb
  obtain ⟨W1, hW1, a1, b1, z1⟩ := newV w 36 #[.int .u8 1, .int .u8 2, .int .u8 3]
  obtain ⟨c0, c1, c2⟩ := cells3k a1
  have H0 := hide b1
  clear a1 b1
  go_enter Tryd.func53, Tryd.ntmps53
  go_wp2_with fail
  go_loop [7] (fun i => ∃ k : Nat, k ≤ 3 ∧ i = .int .i64 k ∧ ∀ j : Nat, j < k → kindB (j + 1) ≠ name) (fun i => 3 - (intOf i).toNat)
  case atStart => exact ⟨0, Nat.zero_le _, rfl, fun j hj => by omega⟩
  case round =>
    obtain ⟨k, hk, rfl, hpre⟩ := hrel
    have Hpre := hide hpre
    clear hpre
    rcases (show k = 0 ∨ k = 1 ∨ k = 2 ∨ k = 3 by omega) with rfl | rfl | rfl | rfl
    · have hkn := hide (kindName_any 1 W1)
      by_cases he : kindB 1 = name
      · have HV := hide (HRB.out.symm.trans (show kNum name = 1 by unfold kNum; rw [if_pos he.symm]))
        go_wp2_with fail
        refine hkn.out.mono ?_
        rintro e w2 ⟨rfl, hw⟩
        subst hw
        rw [he]
        clear he
        go_wp2_with fail
        go_ret
        rw [HV.out]
        exact ⟨rfl, H0.out⟩
      · have hne := str_ne he
        have HE := hide he
        obtain ⟨kb, hkb⟩ : ∃ kb, kindB 1 = kb := ⟨_, rfl⟩
        rw [hkb] at hkn hne
        clear he
        go_wp2_with fail
        refine hkn.out.mono ?_
        rintro e w2 ⟨rfl, hw⟩
        subst hw
        go_wp2_with fail
        refine ⟨⟨1, by omega, by simp, fun j hj => ?_⟩, by simp [intOf]⟩
        rcases (show j < 0 ∨ j = 0 by omega) with h | rfl
        · exact Hpre.out j h
        · exact HE.out
    · have hkn := hide (kindName_any 2 W1)
      by_cases he : kindB 2 = name
      · have HV := hide (HRB.out.symm.trans (show kNum name = 2 by unfold kNum; rw [if_neg (fun h => Hpre.out 0 (by omega) h.symm)]; rw [if_pos he.symm]))
        go_wp2_with fail
        refine hkn.out.mono ?_
        rintro e w2 ⟨rfl, hw⟩
        subst hw
        rw [he]
        clear he
        go_wp2_with fail
        go_ret
        rw [HV.out]
        exact ⟨rfl, H0.out⟩
      · have hne := str_ne he
        have HE := hide he
        obtain ⟨kb, hkb⟩ : ∃ kb, kindB 2 = kb := ⟨_, rfl⟩
        rw [hkb] at hkn hne
        clear he
        go_wp2_with fail
        refine hkn.out.mono ?_
        rintro e w2 ⟨rfl, hw⟩
        subst hw
        go_wp2_with fail
        refine ⟨⟨2, by omega, by simp, fun j hj => ?_⟩, by simp [intOf]⟩
        rcases (show j < 1 ∨ j = 1 by omega) with h | rfl
        · exact Hpre.out j h
        · exact HE.out
    · have hkn := hide (kindName_any 3 W1)
      by_cases he : kindB 3 = name
      · have HV := hide (HRB.out.symm.trans (show kNum name = 3 by unfold kNum; rw [if_neg (fun h => Hpre.out 0 (by omega) h.symm)]; rw [if_neg (fun h => Hpre.out 1 (by omega) h.symm)]; rw [if_pos he.symm]))
        go_wp2_with fail
        refine hkn.out.mono ?_
        rintro e w2 ⟨rfl, hw⟩
        subst hw
        rw [he]
        clear he
        go_wp2_with fail
        go_ret
        rw [HV.out]
        exact ⟨rfl, H0.out⟩
      · have hne := str_ne he
        have HE := hide he
        obtain ⟨kb, hkb⟩ : ∃ kb, kindB 3 = kb := ⟨_, rfl⟩
        rw [hkb] at hkn hne
        clear he
        go_wp2_with fail
        refine hkn.out.mono ?_
        rintro e w2 ⟨rfl, hw⟩
        subst hw
        go_wp2_with fail
        refine ⟨⟨3, by omega, by simp, fun j hj => ?_⟩, by simp [intOf]⟩
        rcases (show j < 2 ∨ j = 2 by omega) with h | rfl
        · exact Hpre.out j h
        · exact HE.out
    · have HV := hide (HRB.out.symm.trans (show kNum name = 0 by unfold kNum; rw [if_neg (fun h => Hpre.out 0 (by omega) h.symm), if_neg (fun h => Hpre.out 1 (by omega) h.symm), if_neg (fun h => Hpre.out 2 (by omega) h.symm)]))
      go_wp2_with fail
      go_ret
      rw [HV.out]
      exact ⟨rfl, H0.out⟩
end Go.Proofs.YthmidlmknkbdaaaDoor
namespace Go.Proofs.YthmidlmknkbdaaaDoor
open Go.RowKit

/-- What the attributes of a stanza's tag say. -/
structure D4 where
  ty : ByteArray
  fr : ByteArray
  tt : ByteArray
  id : ByteArray
def putA (d : D4) (a : ByteArray × ByteArray) : Option D4 := if a.1 = ⟨#[116, 121, 112, 101]⟩ then some { d with ty := a.2 } else if a.1 = ⟨#[102, 114, 111, 109]⟩ then some { d with fr := a.2 } else if a.1 = ⟨#[116, 111]⟩ then some { d with tt := a.2 } else if a.1 = ⟨#[105, 100]⟩ then some { d with id := a.2 } else none
def decA : D4 → List (ByteArray × ByteArray) → Option D4
  | d, [] => some d
  | d, a :: l => (putA d a).bind fun d' => decA d' l
def d0 : D4 := ⟨⟨#[]⟩, ⟨#[]⟩, ⟨#[]⟩, ⟨#[]⟩⟩
theorem dec_app : ∀ (l m : List (ByteArray × ByteArray)) (d : D4), decA d (l ++ m) = (decA d l).bind fun d' => decA d' m
  | [], _, _ => rfl
  | a :: l, m, d => by
    simp only [List.cons_append, decA]
    cases putA d a with
    | none => rfl
    | some d' => exact dec_app l m d'
theorem dec_succ {al : List (ByteArray × ByteArray)} {j : Nat} {x : ByteArray × ByteArray} {d : D4} (hx : al[j]? = some x) (h : decA d0 (al.take j) = some d) : decA d0 (al.take (j + 1)) = putA d x := by
  rw [List.take_add_one, hx, dec_app, h]
  simp [decA]
theorem dec_bad {al : List (ByteArray × ByteArray)} {j : Nat} {x : ByteArray × ByteArray} {d : D4} (hx : al[j]? = some x) (h : decA d0 (al.take j) = some d) (hp : putA d x = none) : decA d0 al = none := by
  have h1 := dec_succ hx h
  rw [hp] at h1
  have h2 := dec_app (al.take (j + 1)) (al.drop (j + 1)) d0
  rw [List.take_append_drop, h1] at h2
  exact h2
theorem set6 {w : World} {b : Nat} {v0 v1 v2 v3 v4 v5 : Value} {T : TypeId} (h : w.heap[b]? = some (.cells #[v0, v1, v2, v3, v4, v5] T)) (a0 a1 a2 a3 a4 a5 : Value) : ((((((w.setCell ⟨b, 0, none⟩ a0).setCell ⟨b, 1, none⟩ a1).setCell ⟨b, 2, none⟩ a2).setCell ⟨b, 3, none⟩ a3).setCell ⟨b, 4, none⟩ a4).setCell ⟨b, 5, none⟩ a5).heap[b]? = some (.cells #[a0, a1, a2, a3, a4, a5] T) :=
  heap_setCell_same _ _ 5 _ _ a5 (heap_setCell_same _ _ 4 _ _ a4 (heap_setCell_same _ _ 3 _ _ a3 (heap_setCell_same _ _ 2 _ _ a2 (heap_setCell_same _ _ 1 _ _ a1 (heap_setCell_same _ _ 0 _ _ a0 h)))))
theorem results_st {fn : Func} {tmps : Array Value} {w : World} {b : Nat} {v0 v1 v2 v3 v4 v5 r : Value} (h : fn.results = #[.cell 2 38, .tmp 3]) (hp : tmps[2]?.getD undef = .pointer (some ⟨b, 0, none⟩)) (hr : tmps[3]?.getD undef = r) (hc : w.heap[b]? = some (.cells #[v0, v1, v2, v3, v4, v5] 38)) : (results fn tmps).run Tryd.prog w = .ok (.tuple #[.agg #[v0, v1, v2, v3, v4, v5], r]) w := by
  obtain ⟨c0, c1, c2, c3, c4, c5⟩ := cells6 hc
  simp [results, h, hp, hr, c0, c1, c2, c3, c4, c5, go_sem, Tryd.isAgg38, Tryd.sizeOf38]
theorem frozen6 {w : World} {b : Nat} {v0 v1 v2 v3 v4 v5 : Value} {T : TypeId} (h : w.heap[b]? = some (.cells #[v0, v1, v2, v3, v4, v5] T)) : ∀ i, w.frozen? ⟨b, i, none⟩ = false := fun i => by simp [World.frozen?, h]
set_option maxRecDepth 100000 in
set_option maxHeartbeats 1000000 in
theorem decodeBegin_any (kd : Nat) (nm tx : ByteArray) (aa : Option Addr) (ac : Nat) (al : List (ByteArray × ByteArray)) (w : World) (hA : AttrMem w.heap.size w aa al) :
    Calls Tryd.prog 34 #[.agg #[.int .u8 kd, .string nm, .slice aa al.length ac, .string tx]] w fun e w' => ((∃ d, decA d0 al = some d ∧ e = .returned (.tuple #[.agg #[.int .u8 (kNum nm), .string d.ty, .string d.fr, .string d.tt, .string d.id, .slice none 0 0], .bool true])) ∨ (decA d0 al = none ∧ e = .returned (.tuple #[.agg #[.int .u8 0, .string ⟨#[]⟩, .string ⟨#[]⟩, .string ⟨#[]⟩, .string ⟨#[]⟩, .slice none 0 0], .bool false]))) ∧ Below w.heap.size w w' := by
  obtain ⟨Wa, hWa, aa1, ba, za⟩ := newV w 55 #[.int .u8 kd, .string nm, .slice aa al.length ac, .string tx]
  obtain ⟨Wb, hWb, ab, bb, zb⟩ := newV Wa 38 #[.int .u8 0, .string ⟨#[]⟩, .string ⟨#[]⟩, .string ⟨#[]⟩, .string ⟨#[]⟩, .slice none 0 0]
  rw [za] at ab
  have hbb := ba.trans (bb.mono (by omega))
  have hall := hA.1
  have a1 : Wb.cell? ⟨w.heap.size, 1, none⟩ = some (.string nm) := by simp [World.cell?, (bb.block w.heap.size (by omega)).trans aa1]
  have hkn := hide (kindNamed_any nm Wb)
  have H0 := hide (And.intro ((bb.block w.heap.size (by omega)).trans aa1) (And.intro ab (And.intro hbb hA)))
  clear aa1 ba ab bb hbb hA
  go_enter Tryd.func34, Tryd.ntmps34
  go_wp2_with fail
  refine hkn.out.mono ?_
  rintro e w1 ⟨rfl, hb1⟩
  have hz1 := hb1.size
  have g0 := (hb1.block w.heap.size (by omega)).trans H0.out.1
  have g1 := (hb1.block (w.heap.size + 1) (by omega)).trans H0.out.2.1
  have gb := H0.out.2.2.1.trans (hb1.mono (by omega))
  obtain ⟨W2, hW2, a2, b2, z2⟩ := newV w1 38 #[.int .u8 (kNum nm), .string ⟨#[]⟩, .string ⟨#[]⟩, .string ⟨#[]⟩, .string ⟨#[]⟩, .slice none 0 0]
  have c2 : w1.cell? ⟨w.heap.size, 2, none⟩ = some (.slice aa al.length ac) := by simp [World.cell?, g0]
  have hne : ¬ w.heap.size = w1.heap.size := by omega
  have hlt1 : w.heap.size < w1.heap.size := by omega
  have H1 := hide (And.intro a2 (And.intro ((b2.block (w.heap.size + 1) (by omega)).trans g1) (gb.trans (b2.mono (by omega)))))
  have HW2 := hide hW2
  clear hb1 g0 g1 gb a2 b2 a1 hW2
  go_wp2_with fail
  rw [HW2.out]
  go_loopw [14] (fun i wr => ∃ (j : Nat) (d : D4), j ≤ al.length ∧ i = .int .i64 j ∧ decA d0 (al.take j) = some d ∧ wr.heap[w1.heap.size]? = some (.cells #[.int .u8 (kNum nm), .string d.ty, .string d.fr, .string d.tt, .string d.id, .slice none 0 0] 38) ∧ wr.heap[w.heap.size + 1]? = some (.cells #[.int .u8 0, .string ⟨#[]⟩, .string ⟨#[]⟩, .string ⟨#[]⟩, .string ⟨#[]⟩, .slice none 0 0] 38) ∧ Below w.heap.size w wr) (fun i _ => al.length - (intOf i).toNat)
  case atStart => exact ⟨0, d0, Nat.zero_le _, rfl, rfl, H1.out.1, H1.out.2.1, H1.out.2.2⟩
  case round =>
    obtain ⟨j, d, hj, rfl, hd, gB, gR, gb⟩ := hrel
    have hszB := (Array.getElem?_eq_some_iff.1 gB).1
    obtain ⟨y0, y1, y2, y3, y4, y5⟩ := cells6 gB
    have fB := frozen6 gB
    have fz1 := fB 1
    have fz2 := fB 2
    have fz3 := fB 3
    have fz4 := fB 4
    obtain ⟨r0, r1, r2, r3, r4, r5⟩ := cells6 gR
    have fR := frozen6 gR
    have fr0 := fR 0
    have fr1 := fR 1
    have fr2 := fR 2
    have fr3 := fR 3
    have fr4 := fR 4
    have fr5 := fR 5
    have hneB : ¬ w1.heap.size = wr.heap.size := by omega
    have hneR : ¬ w.heap.size + 1 = wr.heap.size := by omega
    have hltR : w.heap.size + 1 < wr.heap.size := by omega
    have HJ := hide (And.intro hd (And.intro gB (And.intro gR gb)))
    clear fB fR
    by_cases hlt : (j : Int) < al.length
    · obtain ⟨x, hx⟩ : ∃ x, al[j]? = some x := ⟨_, List.getElem?_eq_getElem (by omega)⟩
      obtain ⟨b, off, hae, hbl, hk0, hk1⟩ := H0.out.2.2.2.2.2 j x hx
      have hk0 := (gb.cell (p := ⟨b, _, none⟩) hbl).trans hk0
      have hk1 := (gb.cell (p := ⟨b, _, none⟩) hbl).trans hk1
      subst hae
      clear hd gB gR gb
      by_cases e0 : x.1 = ⟨#[116, 121, 112, 101]⟩
      · have HP := hide (show putA d x = some { d with ty := x.2 } by unfold putA; rw [if_pos e0])
        
        rw [e0] at hk0
        clear e0
        go_wp2_with fail
        refine ⟨⟨j + 1, { d with ty := x.2 }, by omega, by simp, by rw [dec_succ hx HJ.out.1, HP.out], ?_, ?_, ?_⟩, by first | (simp [intOf]; omega) | simp [intOf]⟩
        · exact (Below.heap_alloc _ _ _ (by rw [World.size_setCell]; omega)).trans (heap_setCell_same _ _ 1 _ _ _ HJ.out.2.1)
        · exact (Below.heap_alloc _ _ _ (by rw [World.size_setCell]; omega)).trans ((Below.heap_setCell _ _ _ _ (by show w.heap.size + 1 ≠ w1.heap.size; omega)).trans HJ.out.2.2.1)
        · exact (HJ.out.2.2.2.setCell (p := ⟨_, 1, none⟩) (by show w.heap.size ≤ w1.heap.size; omega) _).alloc (by rw [World.size_setCell]; omega) _
      · have n0 : (x.1.toList == [116, 121, 112, 101]) = false := by rw [show ([116, 121, 112, 101] : List UInt8) = ((⟨#[116, 121, 112, 101]⟩ : ByteArray)).toList by rw [ByteArray.toList_eq]]; exact str_ne e0
        by_cases e1 : x.1 = ⟨#[102, 114, 111, 109]⟩
        · have HP := hide (show putA d x = some { d with fr := x.2 } by unfold putA; rw [if_neg e0]; rw [if_pos e1])
          clear e0
          rw [e1] at hk0
          clear e1
          go_wp2_with fail
          refine ⟨⟨j + 1, { d with fr := x.2 }, by omega, by simp, by rw [dec_succ hx HJ.out.1, HP.out], ?_, ?_, ?_⟩, by first | (simp [intOf]; omega) | simp [intOf]⟩
          · exact (Below.heap_alloc _ _ _ (by rw [World.size_setCell]; omega)).trans (heap_setCell_same _ _ 2 _ _ _ HJ.out.2.1)
          · exact (Below.heap_alloc _ _ _ (by rw [World.size_setCell]; omega)).trans ((Below.heap_setCell _ _ _ _ (by show w.heap.size + 1 ≠ w1.heap.size; omega)).trans HJ.out.2.2.1)
          · exact (HJ.out.2.2.2.setCell (p := ⟨_, 2, none⟩) (by show w.heap.size ≤ w1.heap.size; omega) _).alloc (by rw [World.size_setCell]; omega) _
        · have n1 : (x.1.toList == [102, 114, 111, 109]) = false := by rw [show ([102, 114, 111, 109] : List UInt8) = ((⟨#[102, 114, 111, 109]⟩ : ByteArray)).toList by rw [ByteArray.toList_eq]]; exact str_ne e1
          by_cases e2 : x.1 = ⟨#[116, 111]⟩
          · have HP := hide (show putA d x = some { d with tt := x.2 } by unfold putA; rw [if_neg e0]; rw [if_neg e1]; rw [if_pos e2])
            clear e0 e1
            rw [e2] at hk0
            clear e2
            go_wp2_with fail
            refine ⟨⟨j + 1, { d with tt := x.2 }, by omega, by simp, by rw [dec_succ hx HJ.out.1, HP.out], ?_, ?_, ?_⟩, by first | (simp [intOf]; omega) | simp [intOf]⟩
            · exact (Below.heap_alloc _ _ _ (by rw [World.size_setCell]; omega)).trans (heap_setCell_same _ _ 3 _ _ _ HJ.out.2.1)
            · exact (Below.heap_alloc _ _ _ (by rw [World.size_setCell]; omega)).trans ((Below.heap_setCell _ _ _ _ (by show w.heap.size + 1 ≠ w1.heap.size; omega)).trans HJ.out.2.2.1)
            · exact (HJ.out.2.2.2.setCell (p := ⟨_, 3, none⟩) (by show w.heap.size ≤ w1.heap.size; omega) _).alloc (by rw [World.size_setCell]; omega) _
          · have n2 : (x.1.toList == [116, 111]) = false := by rw [show ([116, 111] : List UInt8) = ((⟨#[116, 111]⟩ : ByteArray)).toList by rw [ByteArray.toList_eq]]; exact str_ne e2
            by_cases e3 : x.1 = ⟨#[105, 100]⟩
            · have HP := hide (show putA d x = some { d with id := x.2 } by unfold putA; rw [if_neg e0]; rw [if_neg e1]; rw [if_neg e2]; rw [if_pos e3])
              clear e0 e1 e2
              rw [e3] at hk0
              clear e3
              go_wp2_with fail
              refine ⟨⟨j + 1, { d with id := x.2 }, by omega, by simp, by rw [dec_succ hx HJ.out.1, HP.out], ?_, ?_, ?_⟩, by first | (simp [intOf]; omega) | simp [intOf]⟩
              · exact (Below.heap_alloc _ _ _ (by rw [World.size_setCell]; omega)).trans (heap_setCell_same _ _ 4 _ _ _ HJ.out.2.1)
              · exact (Below.heap_alloc _ _ _ (by rw [World.size_setCell]; omega)).trans ((Below.heap_setCell _ _ _ _ (by show w.heap.size + 1 ≠ w1.heap.size; omega)).trans HJ.out.2.2.1)
              · exact (HJ.out.2.2.2.setCell (p := ⟨_, 4, none⟩) (by show w.heap.size ≤ w1.heap.size; omega) _).alloc (by rw [World.size_setCell]; omega) _
            · have n3 : (x.1.toList == [105, 100]) = false := by rw [show ([105, 100] : List UInt8) = ((⟨#[105, 100]⟩ : ByteArray)).toList by rw [ByteArray.toList_eq]]; exact str_ne e3
              have HP := hide (show putA d x = none by unfold putA; rw [if_neg e0, if_neg e1, if_neg e2, if_neg e3])
              clear e0 e1 e2 e3
              go_wp2_with fail
              refine bodyPost_ret (results_st (v0 := .int .u8 0) (v1 := .string ⟨#[]⟩) (v2 := .string ⟨#[]⟩) (v3 := .string ⟨#[]⟩) (v4 := .string ⟨#[]⟩) (v5 := .slice none 0 0) rfl rfl rfl ?_) rfl ⟨.inr ⟨dec_bad hx HJ.out.1 HP.out, rfl⟩, ?_⟩
              · exact (Below.heap_alloc _ _ _ (by rw [World.size_setCell, World.size_setCell, World.size_setCell, World.size_setCell, World.size_setCell, World.size_setCell]; omega)).trans (set6 HJ.out.2.2.1 _ _ _ _ _ _)
              · exact ((((((HJ.out.2.2.2.setCell (p := ⟨_, 0, none⟩) (by show w.heap.size ≤ w.heap.size + 1; omega) _).setCell (p := ⟨_, 1, none⟩) (by show w.heap.size ≤ w.heap.size + 1; omega) _).setCell (p := ⟨_, 2, none⟩) (by show w.heap.size ≤ w.heap.size + 1; omega) _).setCell (p := ⟨_, 3, none⟩) (by show w.heap.size ≤ w.heap.size + 1; omega) _).setCell (p := ⟨_, 4, none⟩) (by show w.heap.size ≤ w.heap.size + 1; omega) _).setCell (p := ⟨_, 5, none⟩) (by show w.heap.size ≤ w.heap.size + 1; omega) _).alloc (by rw [World.size_setCell, World.size_setCell, World.size_setCell, World.size_setCell, World.size_setCell, World.size_setCell]; omega) _
    · obtain rfl : j = al.length := by omega
      rw [List.take_length] at hd
      have HD := hide hd
      clear hd gB gR gb
      go_wp2_with fail
      have q := set6 HJ.out.2.2.1 (.int .u8 (kNum nm)) (.string d.ty) (.string d.fr) (.string d.tt) (.string d.id) (.slice none 0 0)
      exact bodyPost_ret (results_st rfl rfl rfl q) rfl ⟨.inl ⟨d, HD.out, rfl⟩, ((((((HJ.out.2.2.2.setCell (p := ⟨_, 0, none⟩) (by show w.heap.size ≤ w.heap.size + 1; omega) _).setCell (p := ⟨_, 1, none⟩) (by show w.heap.size ≤ w.heap.size + 1; omega) _).setCell (p := ⟨_, 2, none⟩) (by show w.heap.size ≤ w.heap.size + 1; omega) _).setCell (p := ⟨_, 3, none⟩) (by show w.heap.size ≤ w.heap.size + 1; omega) _).setCell (p := ⟨_, 4, none⟩) (by show w.heap.size ≤ w.heap.size + 1; omega) _).setCell (p := ⟨_, 5, none⟩) (by show w.heap.size ≤ w.heap.size + 1; omega) _)⟩
end Go.Proofs.YthmidlmknkbdaaaDoor
