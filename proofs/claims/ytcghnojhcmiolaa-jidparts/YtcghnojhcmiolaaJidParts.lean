/- JidParts: a text's parts make it: whatever the numbers of letters. -/
import Derived.Test.YtcghnojhcmiolaaJ6
namespace Go.Proofs.Ytcghnojhcmiolaa
open Go.RowKit

def Caps (l : List UInt8) : Prop := ∀ b ∈ l, capB b = true
theorem newT (w : World) (T : TypeId) (x y z : Value) : ∃ W, w.alloc (.cells #[x, y, z] T) = W ∧ W.heap[w.heap.size]? = some (.cells #[x, y, z] T) ∧ Below w.heap.size w W ∧ W.heap.size = w.heap.size + 1 :=
  ⟨_, rfl, World.alloc_heap_new _ _, (Below.refl _ _).alloc (Nat.le_refl _) _, by simp⟩
def capL (x : Int) : UInt8 := UInt8.ofNat (65 + (x % 26).toNat)
theorem capL_nat (x : Int) : ((capL x).toNat : Int) = 65 + x % 26 := by
  unfold capL
  rw [UInt8.toNat_ofNat']
  omega
theorem capL_cap (x : Int) : capB (capL x) = true := by
  have h := capL_nat x
  unfold capB
  rw [decide_eq_true (by omega), decide_eq_true (by omega)]
  rfl
theorem conv_cap (x : Int) (w : World) : (convert 36 9 (.slice (some ⟨w.heap.size, 0, none⟩) 1 1)).run Try.prog (w.alloc (.cells #[.int .u8 (65 + x % 26)] 5)).drew = .ok (.string ⟨[capL x].toArray⟩) (w.alloc (.cells #[.int .u8 (65 + x % 26)] 5)).drew :=
  run_convert_bytes_back (P := Try.prog) _ 36 9 5 ⟨w.heap.size, 0, none⟩ 1 [capL x] Try.underlying36 Try.underlying5 Try.underlying9 (fun j hj => by
    have hj0 : j = 0 := by simpa using hj
    subst hj0
    have h : ∀ W : World, W.heap[w.heap.size]? = some (.cells #[.int .u8 (65 + x % 26)] 5) → W.cell? ⟨w.heap.size, 0, none⟩ = some (.int .u8 ((capL x).toNat : Int)) := fun W hW => by
      rw [capL_nat]
      simp [World.cell?, hW]
    exact h _ (World.alloc_heap_new w _))
theorem add_two (a b : List UInt8) (h : a.length + b.length ≤ 100000) : ∀ w : World, (Op.stringOp .add ⟨a.toArray⟩ ⟨b.toArray⟩).run Try.prog w = .ok (.string ⟨(a ++ b).toArray⟩) w := fun w => by
  rw [run_string_add_sum w _ _ (by show a.toArray.size + b.toArray.size ≤ _; simp; omega), ByteArray.mk_append_mk]

theorem caps_more {l : List UInt8} (h : Caps l) {c : UInt8} (hc : capB c = true) : Caps (l ++ [c]) := by
  intro b hb
  rcases List.mem_append.1 hb with hb | hb
  · exact h b hb
  · rw [List.mem_singleton.1 hb]; exact hc
theorem fw_off {w : World} {b c i : Nat} {o : Obj} (h : w.heap[c]? = some o) (hn : c ≠ b) (hlt : c < w.heap.size) (v : Value) (C : Obj) : ((w.setCell ⟨b, i, none⟩ v).alloc C).drew.heap[c]? = some o :=
  (Below.heap_alloc _ _ _ (by rw [World.size_setCell]; exact hlt)).trans ((Below.heap_setCell _ _ _ _ hn).trans h)
theorem fw_at0 {w : World} {b : Nat} {x y z : Value} {T : TypeId} (h : w.heap[b]? = some (.cells #[x, y, z] T)) (hlt : b < w.heap.size) (v : Value) (C : Obj) : ((w.setCell ⟨b, 0, none⟩ v).alloc C).drew.heap[b]? = some (.cells #[v, y, z] T) :=
  (Below.heap_alloc _ _ _ (by rw [World.size_setCell]; exact hlt)).trans (heap_setCell_same _ _ 0 _ _ v h)
theorem fw_at1 {w : World} {b : Nat} {x y z : Value} {T : TypeId} (h : w.heap[b]? = some (.cells #[x, y, z] T)) (hlt : b < w.heap.size) (v : Value) (C : Obj) : ((w.setCell ⟨b, 1, none⟩ v).alloc C).drew.heap[b]? = some (.cells #[x, v, z] T) :=
  (Below.heap_alloc _ _ _ (by rw [World.size_setCell]; exact hlt)).trans (heap_setCell_same _ _ 1 _ _ v h)
theorem fw_at2 {w : World} {b : Nat} {x y z : Value} {T : TypeId} (h : w.heap[b]? = some (.cells #[x, y, z] T)) (hlt : b < w.heap.size) (v : Value) (C : Obj) : ((w.setCell ⟨b, 2, none⟩ v).alloc C).drew.heap[b]? = some (.cells #[x, y, v] T) :=
  (Below.heap_alloc _ _ _ (by rw [World.size_setCell]; exact hlt)).trans (heap_setCell_same _ _ 2 _ _ v h)
theorem caps_part {l : List UInt8} (h : Caps l) (hne : l ≠ []) : partL l = true := by
  unfold partL
  rw [Bool.and_eq_true, List.all_eq_true]
  refine ⟨fun b hb => ?_, by cases l with | nil => exact absurd rfl hne | cons a l => rfl⟩
  unfold ptB
  rw [h b hb]
  simp

set_option maxRecDepth 100000 in
set_option maxHeartbeats 1000000 in
theorem jidParts_any (n0 n1 n2 d0 d1 d2 : Int) (w : World) (hn : (0 ≤ n0 ∧ n0 ≤ 255) ∧ (0 ≤ n1 ∧ n1 ≤ 255) ∧ (0 ≤ n2 ∧ n2 ≤ 255)) (hd : (0 ≤ d0 ∧ d0 ≤ 255) ∧ (0 ≤ d1 ∧ d1 ≤ 255) ∧ (0 ≤ d2 ∧ d2 ≤ 255)) (hm : MaxG w) (h1 : 0 < w.heap.size) :
    Calls Try.prog 8 #[.agg #[.int .u8 n0, .int .u8 n1, .int .u8 n2], .agg #[.int .u8 d0, .int .u8 d1, .int .u8 d2]] w fun e w' => e = .returned (.bool true) ∧ Below w.heap.size w w' := by
  have HM := hide hm
  clear hm
  obtain ⟨Wa, hWa, aa, ba, za⟩ := newT w 34 (.int .u8 n0) (.int .u8 n1) (.int .u8 n2)
  obtain ⟨Wb, hWb, ab, bb, zb⟩ := newT Wa 34 (.int .u8 d0) (.int .u8 d1) (.int .u8 d2)
  obtain ⟨Wc, hWc, ac, bc, zc⟩ := newT Wb 35 (.string ⟨#[]⟩) (.string ⟨#[]⟩) (.string ⟨#[]⟩)
  rw [za] at ab
  rw [zb, za] at ac
  have a1 := (bc.block w.heap.size (by omega)).trans ((bb.block w.heap.size (by omega)).trans aa)
  have a2 := (bc.block (w.heap.size + 1) (by omega)).trans ab
  have a4 := (ba.trans (bb.mono (by omega))).trans (bc.mono (by omega))
  have H0 := hide (And.intro ac (And.intro a1 (And.intro a2 a4)))
  clear aa ba ab bb ac bc a1 a2 a4
  obtain ⟨⟨hn0, hn0'⟩, ⟨hn1, hn1'⟩, hn2, hn2'⟩ := hn
  obtain ⟨⟨hd0, hd0'⟩, ⟨hd1, hd1'⟩, hd2, hd2'⟩ := hd
  go_enter Try.func8, Try.ntmps8
  go_wp2_with fail
  go_loopw [6] (fun i wr => ∃ (k : Nat) (L0 L1 L2 : List UInt8), k ≤ 3 ∧ i = .int .i64 k ∧ Caps L0 ∧ Caps L1 ∧ Caps L2 ∧ ((L0.length : Int) = if 0 < k then n0 % 30 else 0) ∧ ((L1.length : Int) = if 1 < k then n1 % 30 else 0) ∧ ((L2.length : Int) = if 2 < k then n2 % 30 else 0) ∧ wr.heap[w.heap.size + 1 + 1]? = some (.cells #[.string ⟨L0.toArray⟩, .string ⟨L1.toArray⟩, .string ⟨L2.toArray⟩] 35) ∧ wr.heap[w.heap.size]? = some (.cells #[.int .u8 n0, .int .u8 n1, .int .u8 n2] 34) ∧ wr.heap[w.heap.size + 1]? = some (.cells #[.int .u8 d0, .int .u8 d1, .int .u8 d2] 34) ∧ Below w.heap.size w wr) (fun i _ => 3 - (intOf i).toNat)
  case atStart => exact ⟨0, [], [], [], Nat.zero_le _, rfl, fun b hb => by simp at hb, fun b hb => by simp at hb, fun b hb => by simp at hb, rfl, rfl, rfl, H0.out.1, H0.out.2.1, H0.out.2.2.1, H0.out.2.2.2⟩
  case round =>
    obtain ⟨k, L0, L1, L2, hk, rfl, hp0, hp1, hp2, hl0, hl1, hl2, g2, g0, g1, gb⟩ := hrel
    obtain ⟨x0, x1, x2, _⟩ := cells3 g0
    obtain ⟨y0, y1, y2, _⟩ := cells3 g1
    obtain ⟨z0, z1, z2, f0, f1, f2⟩ := cells3 g2
    have HI := hide (And.intro g2 (And.intro g0 (And.intro g1 (And.intro gb (And.intro hp0 (And.intro hp1 hp2))))))
    clear g0 g1 g2 gb hp0 hp1 hp2
    by_cases hk3 : k = 3
    · subst hk3
      have hszr := (Array.getElem?_eq_some_iff.1 HI.out.1).1
      rw [if_pos (by omega)] at hl0 hl1 hl2
      have hb0 : L0.length ≤ 29 := by omega
      have hb1 : L1.length ≤ 29 := by omega
      have hb2' : L2.length ≤ 29 := by omega
      clear hl0 hl1 hl2
      by_cases e0 : L0 = [] <;> by_cases e2 : L2 = []
      · subst e0
        subst e2
        have htl : (textJ ⟨[], L1, []⟩).length = L1.length := by unfold textJ; simp <;> omega
        obtain ⟨Wj, hWj, aj, bj, zj⟩ := newJ wr (.string ⟨([] : List UInt8).toArray⟩) (.string ⟨L1.toArray⟩) (.string ⟨([] : List UInt8).toArray⟩)
        have aj2 := (bj.block (w.heap.size + 1 + 1) hszr).trans HI.out.1
        have hbj := HI.out.2.2.2.1.trans (bj.mono (by omega))
        have hpr := print_any ⟨([] : List UInt8).toArray⟩ ⟨L1.toArray⟩ ⟨([] : List UInt8).toArray⟩ Wj (by show (_ : Nat) + _ + _ + 2 ≤ _; simp [ByteArray.size]; omega) (HM.out.below hbj h1) (by omega)
        have HPR := hide hpr
        have HZ := hide (And.intro aj (And.intro aj2 hbj))
        have HWj := hide hWj
        clear aj bj aj2 hbj hpr f0 f1 f2 hWj
        by_cases e1 : L1 = []
        · have HNR := hide (show ¬ RightJ (jl ⟨([] : List UInt8).toArray⟩ ⟨L1.toArray⟩ ⟨([] : List UInt8).toArray⟩) from fun h => part_ne (l := L1) h.2.1 e1)
          subst e1
          go_wp2_with fail
          rw [HWj.out]
          refine HPR.out.mono ?_
          rintro e w2 ⟨⟨hR, _⟩ | ⟨_, rfl⟩, hb2⟩
          · exact absurd hR HNR.out
          · have hz2 := hb2.size
            obtain ⟨z0, z1, z2, _⟩ := cells3 ((hb2.block (w.heap.size + 1 + 1) (by omega)).trans HZ.out.2.1)
            have hbw := HZ.out.2.2.trans (hb2.mono (by omega))
            have hlv := hide (live_any w2 (HM.out.below hbw h1) (by omega))
            have H2 := hide hbw
            clear hb2 hbw
            unfold emp
            go_wp2_with fail
            refine hlv.out.mono ?_
            rintro e w3 ⟨rfl, hb3⟩
            have H3 := hide (H2.out.trans (hb3.mono (by omega)))
            clear hb3
            go_wp2_with fail
            go_ret
            exact ⟨rfl, H3.out⟩
        · have i1 := ne_empty (s := ⟨L1.toArray⟩) (fun h => e1 ((emp_iff _).1 h))
          have j1 : L1.isEmpty = false := by cases L1 with | nil => exact absurd rfl e1 | cons a l => rfl
          obtain ⟨mn, hmn⟩ : ∃ mn : Nat, L1.length = mn := ⟨_, rfl⟩
          by_cases hbig : 64 < mn
          · exfalso
            omega
          · have HR := hide (show RightJ (jl ⟨([] : List UInt8).toArray⟩ ⟨L1.toArray⟩ ⟨([] : List UInt8).toArray⟩) from ⟨.inl rfl, caps_part HI.out.2.2.2.2.2.1 e1, .inl rfl, show (textJ ⟨[], L1, []⟩).length ≤ 64 by omega⟩)
            have hbi : ¬ 64 < (L1.length : Int) := by omega
            obtain ⟨jb, hjb⟩ : ∃ jb, joinB ⟨([] : List UInt8).toArray⟩ ⟨L1.toArray⟩ ⟨([] : List UInt8).toArray⟩ = jb := ⟨_, rfl⟩
            have hjl := joinB_list ⟨([] : List UInt8).toArray⟩ ⟨L1.toArray⟩ ⟨([] : List UInt8).toArray⟩
            have hjz : (jb.size : Int) = (L1.length : Int) := by
              have h := congrArg List.length hjl
              rw [size_list, hjb] at h
              have h2 : jb.size = (textJ ⟨[], L1, []⟩).length := h
              omega
            have hps : parseL jb.data.toList = some (jl ⟨([] : List UInt8).toArray⟩ ⟨L1.toArray⟩ ⟨([] : List UInt8).toArray⟩) := by rw [← hjb, hjl]; exact parse_text HR.out
            rw [hjb] at HPR
            have HPS := hide hps
            clear hjb hjl hps hmn
            go_wp2_with fail
            rw [HWj.out]
            refine HPR.out.mono ?_
            rintro e w2 ⟨⟨_, rfl⟩ | ⟨hno, _⟩, hb2⟩
            · have hz2 := hb2.size
              have q1 := (hb2.block (w.heap.size + 1 + 1) (by omega)).trans HZ.out.2.1
              have q2 := (hb2.block wr.heap.size (by omega)).trans HZ.out.1
              have hbw := HZ.out.2.2.trans (hb2.mono (by omega))
              obtain ⟨y0, y1, y2, _⟩ := cells3 q1
              have hpa := parse_any jb w2 (by omega) (HM.out.below hbw h1) (by omega)
              rw [HPS.out] at hpa
              have H2 := hide (And.intro hpa (And.intro q2 hbw))
              clear hb2 hbw q1 q2 hpa
              go_wp2_with fail
              refine H2.out.1.mono ?_
              rintro e w3 ⟨⟨j, hj, rfl⟩ | ⟨hj, _⟩, hb3⟩
              · cases hj
                rw [jv_jl]
                have hz3 := hb3.size
                obtain ⟨W4, hW4, a4, b4, z4⟩ := newJ w3 (.string ⟨([] : List UInt8).toArray⟩) (.string ⟨L1.toArray⟩) (.string ⟨([] : List UInt8).toArray⟩)
                have q3 := (b4.block wr.heap.size (by omega)).trans ((hb3.block wr.heap.size (by omega)).trans H2.out.2.1)
                have hbw4 := (H2.out.2.2.trans (hb3.mono (by omega))).trans (b4.mono (by omega))
                have hlv := hide (live_any W4 (HM.out.below hbw4 h1) (by omega))
                have H4 := hide (And.intro a4 (And.intro q3 hbw4))
                have HW4 := hide hW4
                clear hb3 a4 b4 q3 hbw4 hW4
                go_wp2_with fail
                rw [HW4.out]
                refine hlv.out.mono ?_
                rintro e w5 ⟨rfl, hb5⟩
                obtain ⟨r0, r1, r2, _⟩ := cells3 ((hb5.block w3.heap.size (by omega)).trans H4.out.1)
                obtain ⟨t0, t1, t2, _⟩ := cells3 ((hb5.block wr.heap.size (by omega)).trans H4.out.2.1)
                have H5 := hide (H4.out.2.2.trans (hb5.mono (by omega)))
                clear hb5
                go_wp2_with fail
                go_ret
                exact ⟨by simp, H5.out⟩
              · cases hj
            · exact absurd HR.out hno
      · subst e0
        have i2 := ne_empty (s := ⟨L2.toArray⟩) (fun h => e2 ((emp_iff _).1 h))
        have j2 : L2.isEmpty = false := by cases L2 with | nil => exact absurd rfl e2 | cons a l => rfl
        have htl : (textJ ⟨[], L1, L2⟩).length = L1.length + L2.length + 1 := by unfold textJ; simp [e2] <;> omega
        obtain ⟨Wj, hWj, aj, bj, zj⟩ := newJ wr (.string ⟨([] : List UInt8).toArray⟩) (.string ⟨L1.toArray⟩) (.string ⟨(L2 : List UInt8).toArray⟩)
        have aj2 := (bj.block (w.heap.size + 1 + 1) hszr).trans HI.out.1
        have hbj := HI.out.2.2.2.1.trans (bj.mono (by omega))
        have hpr := print_any ⟨([] : List UInt8).toArray⟩ ⟨L1.toArray⟩ ⟨(L2 : List UInt8).toArray⟩ Wj (by show (_ : Nat) + _ + _ + 2 ≤ _; simp [ByteArray.size]; omega) (HM.out.below hbj h1) (by omega)
        have HPR := hide hpr
        have HZ := hide (And.intro aj (And.intro aj2 hbj))
        have HWj := hide hWj
        clear aj bj aj2 hbj hpr f0 f1 f2 hWj
        by_cases e1 : L1 = []
        · have HNR := hide (show ¬ RightJ (jl ⟨([] : List UInt8).toArray⟩ ⟨L1.toArray⟩ ⟨(L2 : List UInt8).toArray⟩) from fun h => part_ne (l := L1) h.2.1 e1)
          subst e1
          go_wp2_with fail
          rw [HWj.out]
          refine HPR.out.mono ?_
          rintro e w2 ⟨⟨hR, _⟩ | ⟨_, rfl⟩, hb2⟩
          · exact absurd hR HNR.out
          · have hz2 := hb2.size
            obtain ⟨z0, z1, z2, _⟩ := cells3 ((hb2.block (w.heap.size + 1 + 1) (by omega)).trans HZ.out.2.1)
            have hbw := HZ.out.2.2.trans (hb2.mono (by omega))
            have hlv := hide (live_any w2 (HM.out.below hbw h1) (by omega))
            have H2 := hide hbw
            clear hb2 hbw
            unfold emp
            go_wp2_with fail
            refine hlv.out.mono ?_
            rintro e w3 ⟨rfl, hb3⟩
            have H3 := hide (H2.out.trans (hb3.mono (by omega)))
            clear hb3
            go_wp2_with fail
            go_ret
            exact ⟨rfl, H3.out⟩
        · have i1 := ne_empty (s := ⟨L1.toArray⟩) (fun h => e1 ((emp_iff _).1 h))
          have j1 : L1.isEmpty = false := by cases L1 with | nil => exact absurd rfl e1 | cons a l => rfl
          obtain ⟨mn, hmn⟩ : ∃ mn : Nat, L1.length + L2.length + 1 = mn := ⟨_, rfl⟩
          by_cases hbig : 64 < mn
          · exfalso
            omega
          · have HR := hide (show RightJ (jl ⟨([] : List UInt8).toArray⟩ ⟨L1.toArray⟩ ⟨(L2 : List UInt8).toArray⟩) from ⟨.inl rfl, caps_part HI.out.2.2.2.2.2.1 e1, .inr (caps_part HI.out.2.2.2.2.2.2 e2), show (textJ ⟨[], L1, L2⟩).length ≤ 64 by omega⟩)
            have hbi : ¬ 64 < (L1.length : Int) + (L2.length : Int) + 1 := by omega
            obtain ⟨jb, hjb⟩ : ∃ jb, joinB ⟨([] : List UInt8).toArray⟩ ⟨L1.toArray⟩ ⟨(L2 : List UInt8).toArray⟩ = jb := ⟨_, rfl⟩
            have hjl := joinB_list ⟨([] : List UInt8).toArray⟩ ⟨L1.toArray⟩ ⟨(L2 : List UInt8).toArray⟩
            have hjz : (jb.size : Int) = (L1.length : Int) + (L2.length : Int) + 1 := by
              have h := congrArg List.length hjl
              rw [size_list, hjb] at h
              have h2 : jb.size = (textJ ⟨[], L1, L2⟩).length := h
              omega
            have hps : parseL jb.data.toList = some (jl ⟨([] : List UInt8).toArray⟩ ⟨L1.toArray⟩ ⟨(L2 : List UInt8).toArray⟩) := by rw [← hjb, hjl]; exact parse_text HR.out
            rw [hjb] at HPR
            have HPS := hide hps
            clear hjb hjl hps hmn
            go_wp2_with fail
            rw [HWj.out]
            refine HPR.out.mono ?_
            rintro e w2 ⟨⟨_, rfl⟩ | ⟨hno, _⟩, hb2⟩
            · have hz2 := hb2.size
              have q1 := (hb2.block (w.heap.size + 1 + 1) (by omega)).trans HZ.out.2.1
              have q2 := (hb2.block wr.heap.size (by omega)).trans HZ.out.1
              have hbw := HZ.out.2.2.trans (hb2.mono (by omega))
              obtain ⟨y0, y1, y2, _⟩ := cells3 q1
              have hpa := parse_any jb w2 (by omega) (HM.out.below hbw h1) (by omega)
              rw [HPS.out] at hpa
              have H2 := hide (And.intro hpa (And.intro q2 hbw))
              clear hb2 hbw q1 q2 hpa
              go_wp2_with fail
              refine H2.out.1.mono ?_
              rintro e w3 ⟨⟨j, hj, rfl⟩ | ⟨hj, _⟩, hb3⟩
              · cases hj
                rw [jv_jl]
                have hz3 := hb3.size
                obtain ⟨W4, hW4, a4, b4, z4⟩ := newJ w3 (.string ⟨([] : List UInt8).toArray⟩) (.string ⟨L1.toArray⟩) (.string ⟨(L2 : List UInt8).toArray⟩)
                have q3 := (b4.block wr.heap.size (by omega)).trans ((hb3.block wr.heap.size (by omega)).trans H2.out.2.1)
                have hbw4 := (H2.out.2.2.trans (hb3.mono (by omega))).trans (b4.mono (by omega))
                have hlv := hide (live_any W4 (HM.out.below hbw4 h1) (by omega))
                have H4 := hide (And.intro a4 (And.intro q3 hbw4))
                have HW4 := hide hW4
                clear hb3 a4 b4 q3 hbw4 hW4
                go_wp2_with fail
                rw [HW4.out]
                refine hlv.out.mono ?_
                rintro e w5 ⟨rfl, hb5⟩
                obtain ⟨r0, r1, r2, _⟩ := cells3 ((hb5.block w3.heap.size (by omega)).trans H4.out.1)
                obtain ⟨t0, t1, t2, _⟩ := cells3 ((hb5.block wr.heap.size (by omega)).trans H4.out.2.1)
                have H5 := hide (H4.out.2.2.trans (hb5.mono (by omega)))
                clear hb5
                go_wp2_with fail
                go_ret
                exact ⟨by simp, H5.out⟩
              · cases hj
            · exact absurd HR.out hno
      · have i0 := ne_empty (s := ⟨L0.toArray⟩) (fun h => e0 ((emp_iff _).1 h))
        have j0 : L0.isEmpty = false := by cases L0 with | nil => exact absurd rfl e0 | cons a l => rfl
        subst e2
        have htl : (textJ ⟨L0, L1, []⟩).length = L0.length + L1.length + 1 := by unfold textJ; simp [e0] <;> omega
        obtain ⟨Wj, hWj, aj, bj, zj⟩ := newJ wr (.string ⟨(L0 : List UInt8).toArray⟩) (.string ⟨L1.toArray⟩) (.string ⟨([] : List UInt8).toArray⟩)
        have aj2 := (bj.block (w.heap.size + 1 + 1) hszr).trans HI.out.1
        have hbj := HI.out.2.2.2.1.trans (bj.mono (by omega))
        have hpr := print_any ⟨(L0 : List UInt8).toArray⟩ ⟨L1.toArray⟩ ⟨([] : List UInt8).toArray⟩ Wj (by show (_ : Nat) + _ + _ + 2 ≤ _; simp [ByteArray.size]; omega) (HM.out.below hbj h1) (by omega)
        have HPR := hide hpr
        have HZ := hide (And.intro aj (And.intro aj2 hbj))
        have HWj := hide hWj
        clear aj bj aj2 hbj hpr f0 f1 f2 hWj
        by_cases e1 : L1 = []
        · have HNR := hide (show ¬ RightJ (jl ⟨(L0 : List UInt8).toArray⟩ ⟨L1.toArray⟩ ⟨([] : List UInt8).toArray⟩) from fun h => part_ne (l := L1) h.2.1 e1)
          subst e1
          go_wp2_with fail
          rw [HWj.out]
          refine HPR.out.mono ?_
          rintro e w2 ⟨⟨hR, _⟩ | ⟨_, rfl⟩, hb2⟩
          · exact absurd hR HNR.out
          · have hz2 := hb2.size
            obtain ⟨z0, z1, z2, _⟩ := cells3 ((hb2.block (w.heap.size + 1 + 1) (by omega)).trans HZ.out.2.1)
            have hbw := HZ.out.2.2.trans (hb2.mono (by omega))
            have hlv := hide (live_any w2 (HM.out.below hbw h1) (by omega))
            have H2 := hide hbw
            clear hb2 hbw
            unfold emp
            go_wp2_with fail
            refine hlv.out.mono ?_
            rintro e w3 ⟨rfl, hb3⟩
            have H3 := hide (H2.out.trans (hb3.mono (by omega)))
            clear hb3
            go_wp2_with fail
            go_ret
            exact ⟨rfl, H3.out⟩
        · have i1 := ne_empty (s := ⟨L1.toArray⟩) (fun h => e1 ((emp_iff _).1 h))
          have j1 : L1.isEmpty = false := by cases L1 with | nil => exact absurd rfl e1 | cons a l => rfl
          obtain ⟨mn, hmn⟩ : ∃ mn : Nat, L0.length + L1.length + 1 = mn := ⟨_, rfl⟩
          by_cases hbig : 64 < mn
          · exfalso
            omega
          · have HR := hide (show RightJ (jl ⟨(L0 : List UInt8).toArray⟩ ⟨L1.toArray⟩ ⟨([] : List UInt8).toArray⟩) from ⟨.inr (caps_part HI.out.2.2.2.2.1 e0), caps_part HI.out.2.2.2.2.2.1 e1, .inl rfl, show (textJ ⟨L0, L1, []⟩).length ≤ 64 by omega⟩)
            have hbi : ¬ 64 < (L0.length : Int) + (L1.length : Int) + 1 := by omega
            obtain ⟨jb, hjb⟩ : ∃ jb, joinB ⟨(L0 : List UInt8).toArray⟩ ⟨L1.toArray⟩ ⟨([] : List UInt8).toArray⟩ = jb := ⟨_, rfl⟩
            have hjl := joinB_list ⟨(L0 : List UInt8).toArray⟩ ⟨L1.toArray⟩ ⟨([] : List UInt8).toArray⟩
            have hjz : (jb.size : Int) = (L0.length : Int) + (L1.length : Int) + 1 := by
              have h := congrArg List.length hjl
              rw [size_list, hjb] at h
              have h2 : jb.size = (textJ ⟨L0, L1, []⟩).length := h
              omega
            have hps : parseL jb.data.toList = some (jl ⟨(L0 : List UInt8).toArray⟩ ⟨L1.toArray⟩ ⟨([] : List UInt8).toArray⟩) := by rw [← hjb, hjl]; exact parse_text HR.out
            rw [hjb] at HPR
            have HPS := hide hps
            clear hjb hjl hps hmn
            go_wp2_with fail
            rw [HWj.out]
            refine HPR.out.mono ?_
            rintro e w2 ⟨⟨_, rfl⟩ | ⟨hno, _⟩, hb2⟩
            · have hz2 := hb2.size
              have q1 := (hb2.block (w.heap.size + 1 + 1) (by omega)).trans HZ.out.2.1
              have q2 := (hb2.block wr.heap.size (by omega)).trans HZ.out.1
              have hbw := HZ.out.2.2.trans (hb2.mono (by omega))
              obtain ⟨y0, y1, y2, _⟩ := cells3 q1
              have hpa := parse_any jb w2 (by omega) (HM.out.below hbw h1) (by omega)
              rw [HPS.out] at hpa
              have H2 := hide (And.intro hpa (And.intro q2 hbw))
              clear hb2 hbw q1 q2 hpa
              go_wp2_with fail
              refine H2.out.1.mono ?_
              rintro e w3 ⟨⟨j, hj, rfl⟩ | ⟨hj, _⟩, hb3⟩
              · cases hj
                rw [jv_jl]
                have hz3 := hb3.size
                obtain ⟨W4, hW4, a4, b4, z4⟩ := newJ w3 (.string ⟨(L0 : List UInt8).toArray⟩) (.string ⟨L1.toArray⟩) (.string ⟨([] : List UInt8).toArray⟩)
                have q3 := (b4.block wr.heap.size (by omega)).trans ((hb3.block wr.heap.size (by omega)).trans H2.out.2.1)
                have hbw4 := (H2.out.2.2.trans (hb3.mono (by omega))).trans (b4.mono (by omega))
                have hlv := hide (live_any W4 (HM.out.below hbw4 h1) (by omega))
                have H4 := hide (And.intro a4 (And.intro q3 hbw4))
                have HW4 := hide hW4
                clear hb3 a4 b4 q3 hbw4 hW4
                go_wp2_with fail
                rw [HW4.out]
                refine hlv.out.mono ?_
                rintro e w5 ⟨rfl, hb5⟩
                obtain ⟨r0, r1, r2, _⟩ := cells3 ((hb5.block w3.heap.size (by omega)).trans H4.out.1)
                obtain ⟨t0, t1, t2, _⟩ := cells3 ((hb5.block wr.heap.size (by omega)).trans H4.out.2.1)
                have H5 := hide (H4.out.2.2.trans (hb5.mono (by omega)))
                clear hb5
                go_wp2_with fail
                go_ret
                exact ⟨by simp, H5.out⟩
              · cases hj
            · exact absurd HR.out hno
      · have i0 := ne_empty (s := ⟨L0.toArray⟩) (fun h => e0 ((emp_iff _).1 h))
        have j0 : L0.isEmpty = false := by cases L0 with | nil => exact absurd rfl e0 | cons a l => rfl
        have i2 := ne_empty (s := ⟨L2.toArray⟩) (fun h => e2 ((emp_iff _).1 h))
        have j2 : L2.isEmpty = false := by cases L2 with | nil => exact absurd rfl e2 | cons a l => rfl
        have htl : (textJ ⟨L0, L1, L2⟩).length = L0.length + L1.length + L2.length + 1 + 1 := by unfold textJ; simp [e0, e2] <;> omega
        obtain ⟨Wj, hWj, aj, bj, zj⟩ := newJ wr (.string ⟨(L0 : List UInt8).toArray⟩) (.string ⟨L1.toArray⟩) (.string ⟨(L2 : List UInt8).toArray⟩)
        have aj2 := (bj.block (w.heap.size + 1 + 1) hszr).trans HI.out.1
        have hbj := HI.out.2.2.2.1.trans (bj.mono (by omega))
        have hpr := print_any ⟨(L0 : List UInt8).toArray⟩ ⟨L1.toArray⟩ ⟨(L2 : List UInt8).toArray⟩ Wj (by show (_ : Nat) + _ + _ + 2 ≤ _; simp [ByteArray.size]; omega) (HM.out.below hbj h1) (by omega)
        have HPR := hide hpr
        have HZ := hide (And.intro aj (And.intro aj2 hbj))
        have HWj := hide hWj
        clear aj bj aj2 hbj hpr f0 f1 f2 hWj
        by_cases e1 : L1 = []
        · have HNR := hide (show ¬ RightJ (jl ⟨(L0 : List UInt8).toArray⟩ ⟨L1.toArray⟩ ⟨(L2 : List UInt8).toArray⟩) from fun h => part_ne (l := L1) h.2.1 e1)
          subst e1
          go_wp2_with fail
          rw [HWj.out]
          refine HPR.out.mono ?_
          rintro e w2 ⟨⟨hR, _⟩ | ⟨_, rfl⟩, hb2⟩
          · exact absurd hR HNR.out
          · have hz2 := hb2.size
            obtain ⟨z0, z1, z2, _⟩ := cells3 ((hb2.block (w.heap.size + 1 + 1) (by omega)).trans HZ.out.2.1)
            have hbw := HZ.out.2.2.trans (hb2.mono (by omega))
            have hlv := hide (live_any w2 (HM.out.below hbw h1) (by omega))
            have H2 := hide hbw
            clear hb2 hbw
            unfold emp
            go_wp2_with fail
            refine hlv.out.mono ?_
            rintro e w3 ⟨rfl, hb3⟩
            have H3 := hide (H2.out.trans (hb3.mono (by omega)))
            clear hb3
            go_wp2_with fail
            go_ret
            exact ⟨rfl, H3.out⟩
        · have i1 := ne_empty (s := ⟨L1.toArray⟩) (fun h => e1 ((emp_iff _).1 h))
          have j1 : L1.isEmpty = false := by cases L1 with | nil => exact absurd rfl e1 | cons a l => rfl
          obtain ⟨mn, hmn⟩ : ∃ mn : Nat, L0.length + L1.length + L2.length + 1 + 1 = mn := ⟨_, rfl⟩
          by_cases hbig : 64 < mn
          · have HNR := hide (show ¬ RightJ (jl ⟨(L0 : List UInt8).toArray⟩ ⟨L1.toArray⟩ ⟨(L2 : List UInt8).toArray⟩) from fun h => by have h5 : (textJ ⟨L0, L1, L2⟩).length ≤ 64 := h.2.2.2; omega)
            have hbi : 64 < (L0.length : Int) + (L1.length : Int) + (L2.length : Int) + 1 + 1 := by omega
            clear hmn
            go_wp2_with fail
            rw [HWj.out]
            refine HPR.out.mono ?_
            rintro e w2 ⟨⟨hR, _⟩ | ⟨_, rfl⟩, hb2⟩
            · exact absurd hR HNR.out
            · have hz2 := hb2.size
              obtain ⟨z0, z1, z2, _⟩ := cells3 ((hb2.block (w.heap.size + 1 + 1) (by omega)).trans HZ.out.2.1)
              have hbw := HZ.out.2.2.trans (hb2.mono (by omega))
              have hlv := hide (live_any w2 (HM.out.below hbw h1) (by omega))
              have H2 := hide hbw
              clear hb2 hbw
              unfold emp
              go_wp2_with fail
              refine hlv.out.mono ?_
              rintro e w3 ⟨rfl, hb3⟩
              have H3 := hide (H2.out.trans (hb3.mono (by omega)))
              clear hb3
              go_wp2_with fail
              go_ret
              exact ⟨rfl, H3.out⟩
          · have HR := hide (show RightJ (jl ⟨(L0 : List UInt8).toArray⟩ ⟨L1.toArray⟩ ⟨(L2 : List UInt8).toArray⟩) from ⟨.inr (caps_part HI.out.2.2.2.2.1 e0), caps_part HI.out.2.2.2.2.2.1 e1, .inr (caps_part HI.out.2.2.2.2.2.2 e2), show (textJ ⟨L0, L1, L2⟩).length ≤ 64 by omega⟩)
            have hbi : ¬ 64 < (L0.length : Int) + (L1.length : Int) + (L2.length : Int) + 1 + 1 := by omega
            obtain ⟨jb, hjb⟩ : ∃ jb, joinB ⟨(L0 : List UInt8).toArray⟩ ⟨L1.toArray⟩ ⟨(L2 : List UInt8).toArray⟩ = jb := ⟨_, rfl⟩
            have hjl := joinB_list ⟨(L0 : List UInt8).toArray⟩ ⟨L1.toArray⟩ ⟨(L2 : List UInt8).toArray⟩
            have hjz : (jb.size : Int) = (L0.length : Int) + (L1.length : Int) + (L2.length : Int) + 1 + 1 := by
              have h := congrArg List.length hjl
              rw [size_list, hjb] at h
              have h2 : jb.size = (textJ ⟨L0, L1, L2⟩).length := h
              omega
            have hps : parseL jb.data.toList = some (jl ⟨(L0 : List UInt8).toArray⟩ ⟨L1.toArray⟩ ⟨(L2 : List UInt8).toArray⟩) := by rw [← hjb, hjl]; exact parse_text HR.out
            rw [hjb] at HPR
            have HPS := hide hps
            clear hjb hjl hps hmn
            go_wp2_with fail
            rw [HWj.out]
            refine HPR.out.mono ?_
            rintro e w2 ⟨⟨_, rfl⟩ | ⟨hno, _⟩, hb2⟩
            · have hz2 := hb2.size
              have q1 := (hb2.block (w.heap.size + 1 + 1) (by omega)).trans HZ.out.2.1
              have q2 := (hb2.block wr.heap.size (by omega)).trans HZ.out.1
              have hbw := HZ.out.2.2.trans (hb2.mono (by omega))
              obtain ⟨y0, y1, y2, _⟩ := cells3 q1
              have hpa := parse_any jb w2 (by omega) (HM.out.below hbw h1) (by omega)
              rw [HPS.out] at hpa
              have H2 := hide (And.intro hpa (And.intro q2 hbw))
              clear hb2 hbw q1 q2 hpa
              go_wp2_with fail
              refine H2.out.1.mono ?_
              rintro e w3 ⟨⟨j, hj, rfl⟩ | ⟨hj, _⟩, hb3⟩
              · cases hj
                rw [jv_jl]
                have hz3 := hb3.size
                obtain ⟨W4, hW4, a4, b4, z4⟩ := newJ w3 (.string ⟨(L0 : List UInt8).toArray⟩) (.string ⟨L1.toArray⟩) (.string ⟨(L2 : List UInt8).toArray⟩)
                have q3 := (b4.block wr.heap.size (by omega)).trans ((hb3.block wr.heap.size (by omega)).trans H2.out.2.1)
                have hbw4 := (H2.out.2.2.trans (hb3.mono (by omega))).trans (b4.mono (by omega))
                have hlv := hide (live_any W4 (HM.out.below hbw4 h1) (by omega))
                have H4 := hide (And.intro a4 (And.intro q3 hbw4))
                have HW4 := hide hW4
                clear hb3 a4 b4 q3 hbw4 hW4
                go_wp2_with fail
                rw [HW4.out]
                refine hlv.out.mono ?_
                rintro e w5 ⟨rfl, hb5⟩
                obtain ⟨r0, r1, r2, _⟩ := cells3 ((hb5.block w3.heap.size (by omega)).trans H4.out.1)
                obtain ⟨t0, t1, t2, _⟩ := cells3 ((hb5.block wr.heap.size (by omega)).trans H4.out.2.1)
                have H5 := hide (H4.out.2.2.trans (hb5.mono (by omega)))
                clear hb5
                go_wp2_with fail
                go_ret
                exact ⟨by simp, H5.out⟩
              · cases hj
            · exact absurd HR.out hno
    · have hk4 : k = 0 ∨ k = 1 ∨ k = 2 := by omega
      rcases hk4 with rfl | rfl | rfl
      · have hL0 : L0 = [] := List.eq_nil_of_length_eq_zero (by simpa using hl0)
        subst hL0
        go_wp2_with fail
        go_loopw [7] (fun m wv => ∃ (t : Nat) (L : List UInt8), (t : Int) ≤ n0 % 30 ∧ m = .int .i64 t ∧ Caps L ∧ L.length = t ∧ wv.heap[w.heap.size]? = some (.cells #[.int .u8 n0, .int .u8 n1, .int .u8 n2] 34) ∧ wv.heap[w.heap.size + 1]? = some (.cells #[.int .u8 d0, .int .u8 d1, .int .u8 d2] 34) ∧ wv.heap[w.heap.size + 1 + 1]? = some (.cells #[.string ⟨L.toArray⟩, .string ⟨L1.toArray⟩, .string ⟨L2.toArray⟩] 35) ∧ Below w.heap.size w wv) (fun m _ => 30 - (intOf m).toNat)
        case atStart => exact ⟨0, [], by omega, rfl, fun b hb => by simp at hb, rfl, HI.out.2.1, HI.out.2.2.1, HI.out.1, HI.out.2.2.2.1⟩
        case round =>
          obtain ⟨t, L, ht, rfl, hcp, hln, g0, g1, g2, gb⟩ := hrel
          obtain ⟨x0, x1, x2, _⟩ := cells3 g0
          obtain ⟨y0, y1, y2, _⟩ := cells3 g1
          obtain ⟨z0, z1, z2, f0, f1, f2⟩ := cells3 g2
          have hszv := (Array.getElem?_eq_some_iff.1 g2).1
          have HJ := hide (And.intro hcp (And.intro hln (And.intro g0 (And.intro g1 (And.intro g2 gb)))))
          clear hcp g0 g1 g2 gb
          by_cases hlt : (t : Int) < n0 % 30
          · have cv := conv_cap ((d0 + t) % 256) wr
            have ad := add_two L [capL ((d0 + t) % 256)] (by simp; omega)
            go_wp2_with fail
            go_region
            all_goals
              go_wp2_with fail
              refine ⟨⟨t + 1, L ++ [capL ((d0 + t) % 256)], by omega, by simp, caps_more HJ.out.1 (capL_cap _), by rw [List.length_append, HJ.out.2.1]; rfl, ?_, ?_, ?_, ?_⟩, by simp [intOf]; omega⟩
              · exact fw_off HJ.out.2.2.1 (by omega) (by omega) _ _
              · exact fw_off HJ.out.2.2.2.1 (by omega) (by omega) _ _
              · exact fw_at0 HJ.out.2.2.2.2.1 hszv _ _
              · exact ((HJ.out.2.2.2.2.2.setCell (p := ⟨_, 0, none⟩) (by show w.heap.size ≤ w.heap.size + 1 + 1; omega) _).alloc (by rw [World.size_setCell]; omega) _).drew
          · have htn : (t : Int) = n0 % 30 := by omega
            go_wp2_with fail
            refine ⟨⟨1, L, L1, L2, by omega, by simp, HJ.out.1, HI.out.2.2.2.2.2.1, HI.out.2.2.2.2.2.2, ?_, ?_, ?_, HJ.out.2.2.2.2.1, HJ.out.2.2.1, HJ.out.2.2.2.1, HJ.out.2.2.2.2.2⟩, by simp [intOf]⟩
            · rw [if_pos (by omega), HJ.out.2.1]
              exact htn
            · rw [if_neg (by omega)] at hl1 ⊢
              exact hl1
            · rw [if_neg (by omega)] at hl2 ⊢
              exact hl2
      · have hL1 : L1 = [] := List.eq_nil_of_length_eq_zero (by simpa using hl1)
        subst hL1
        go_wp2_with fail
        go_loopw [7] (fun m wv => ∃ (t : Nat) (L : List UInt8), (t : Int) ≤ n1 % 30 ∧ m = .int .i64 t ∧ Caps L ∧ L.length = t ∧ wv.heap[w.heap.size]? = some (.cells #[.int .u8 n0, .int .u8 n1, .int .u8 n2] 34) ∧ wv.heap[w.heap.size + 1]? = some (.cells #[.int .u8 d0, .int .u8 d1, .int .u8 d2] 34) ∧ wv.heap[w.heap.size + 1 + 1]? = some (.cells #[.string ⟨L0.toArray⟩, .string ⟨L.toArray⟩, .string ⟨L2.toArray⟩] 35) ∧ Below w.heap.size w wv) (fun m _ => 30 - (intOf m).toNat)
        case atStart => exact ⟨0, [], by omega, rfl, fun b hb => by simp at hb, rfl, HI.out.2.1, HI.out.2.2.1, HI.out.1, HI.out.2.2.2.1⟩
        case round =>
          obtain ⟨t, L, ht, rfl, hcp, hln, g0, g1, g2, gb⟩ := hrel
          obtain ⟨x0, x1, x2, _⟩ := cells3 g0
          obtain ⟨y0, y1, y2, _⟩ := cells3 g1
          obtain ⟨z0, z1, z2, f0, f1, f2⟩ := cells3 g2
          have hszv := (Array.getElem?_eq_some_iff.1 g2).1
          have HJ := hide (And.intro hcp (And.intro hln (And.intro g0 (And.intro g1 (And.intro g2 gb)))))
          clear hcp g0 g1 g2 gb
          by_cases hlt : (t : Int) < n1 % 30
          · have cv := conv_cap ((d1 + t) % 256) wr
            have ad := add_two L [capL ((d1 + t) % 256)] (by simp; omega)
            go_wp2_with fail
            go_region
            all_goals
              go_wp2_with fail
              refine ⟨⟨t + 1, L ++ [capL ((d1 + t) % 256)], by omega, by simp, caps_more HJ.out.1 (capL_cap _), by rw [List.length_append, HJ.out.2.1]; rfl, ?_, ?_, ?_, ?_⟩, by simp [intOf]; omega⟩
              · exact fw_off HJ.out.2.2.1 (by omega) (by omega) _ _
              · exact fw_off HJ.out.2.2.2.1 (by omega) (by omega) _ _
              · exact fw_at1 HJ.out.2.2.2.2.1 hszv _ _
              · exact ((HJ.out.2.2.2.2.2.setCell (p := ⟨_, 1, none⟩) (by show w.heap.size ≤ w.heap.size + 1 + 1; omega) _).alloc (by rw [World.size_setCell]; omega) _).drew
          · have htn : (t : Int) = n1 % 30 := by omega
            go_wp2_with fail
            refine ⟨⟨2, L0, L, L2, by omega, by simp, HI.out.2.2.2.2.1, HJ.out.1, HI.out.2.2.2.2.2.2, ?_, ?_, ?_, HJ.out.2.2.2.2.1, HJ.out.2.2.1, HJ.out.2.2.2.1, HJ.out.2.2.2.2.2⟩, by simp [intOf]⟩
            · rw [if_pos (by omega)] at hl0 ⊢
              exact hl0
            · rw [if_pos (by omega), HJ.out.2.1]
              exact htn
            · rw [if_neg (by omega)] at hl2 ⊢
              exact hl2
      · have hL2 : L2 = [] := List.eq_nil_of_length_eq_zero (by simpa using hl2)
        subst hL2
        go_wp2_with fail
        go_loopw [7] (fun m wv => ∃ (t : Nat) (L : List UInt8), (t : Int) ≤ n2 % 30 ∧ m = .int .i64 t ∧ Caps L ∧ L.length = t ∧ wv.heap[w.heap.size]? = some (.cells #[.int .u8 n0, .int .u8 n1, .int .u8 n2] 34) ∧ wv.heap[w.heap.size + 1]? = some (.cells #[.int .u8 d0, .int .u8 d1, .int .u8 d2] 34) ∧ wv.heap[w.heap.size + 1 + 1]? = some (.cells #[.string ⟨L0.toArray⟩, .string ⟨L1.toArray⟩, .string ⟨L.toArray⟩] 35) ∧ Below w.heap.size w wv) (fun m _ => 30 - (intOf m).toNat)
        case atStart => exact ⟨0, [], by omega, rfl, fun b hb => by simp at hb, rfl, HI.out.2.1, HI.out.2.2.1, HI.out.1, HI.out.2.2.2.1⟩
        case round =>
          obtain ⟨t, L, ht, rfl, hcp, hln, g0, g1, g2, gb⟩ := hrel
          obtain ⟨x0, x1, x2, _⟩ := cells3 g0
          obtain ⟨y0, y1, y2, _⟩ := cells3 g1
          obtain ⟨z0, z1, z2, f0, f1, f2⟩ := cells3 g2
          have hszv := (Array.getElem?_eq_some_iff.1 g2).1
          have HJ := hide (And.intro hcp (And.intro hln (And.intro g0 (And.intro g1 (And.intro g2 gb)))))
          clear hcp g0 g1 g2 gb
          by_cases hlt : (t : Int) < n2 % 30
          · have cv := conv_cap ((d2 + t) % 256) wr
            have ad := add_two L [capL ((d2 + t) % 256)] (by simp; omega)
            go_wp2_with fail
            go_region
            all_goals
              go_wp2_with fail
              refine ⟨⟨t + 1, L ++ [capL ((d2 + t) % 256)], by omega, by simp, caps_more HJ.out.1 (capL_cap _), by rw [List.length_append, HJ.out.2.1]; rfl, ?_, ?_, ?_, ?_⟩, by simp [intOf]; omega⟩
              · exact fw_off HJ.out.2.2.1 (by omega) (by omega) _ _
              · exact fw_off HJ.out.2.2.2.1 (by omega) (by omega) _ _
              · exact fw_at2 HJ.out.2.2.2.2.1 hszv _ _
              · exact ((HJ.out.2.2.2.2.2.setCell (p := ⟨_, 2, none⟩) (by show w.heap.size ≤ w.heap.size + 1 + 1; omega) _).alloc (by rw [World.size_setCell]; omega) _).drew
          · have htn : (t : Int) = n2 % 30 := by omega
            go_wp2_with fail
            refine ⟨⟨3, L0, L1, L, by omega, by simp, HI.out.2.2.2.2.1, HI.out.2.2.2.2.2.1, HJ.out.1, ?_, ?_, ?_, HJ.out.2.2.2.2.1, HJ.out.2.2.1, HJ.out.2.2.2.1, HJ.out.2.2.2.2.2⟩, by simp [intOf]⟩
            · rw [if_pos (by omega)] at hl0 ⊢
              exact hl0
            · rw [if_pos (by omega)] at hl1 ⊢
              exact hl1
            · rw [if_pos (by omega), HJ.out.2.1]
              exact htn
end Go.Proofs.Ytcghnojhcmiolaa
