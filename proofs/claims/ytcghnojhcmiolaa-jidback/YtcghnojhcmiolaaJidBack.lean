/- JidBack: read of printed, and printed of read: whatever the address and the text. -/
import Derived.Test.YtcghnojhcmiolaaJ5
namespace Go.Proofs.Ytcghnojhcmiolaa
open Go.RowKit

theorem str_ext {a b : ByteArray} (h : a.data.toList = b.data.toList) : a = b := by
  rw [← arr_self a, ← arr_self b, h]
theorem right_sum {x y z : ByteArray} (h : RightJ (jl x y z)) : x.size + y.size + z.size ≤ 64 := by
  have h4 : ((if x.data.toList = [] then [] else x.data.toList ++ [64]) ++ (y.data.toList ++ (if z.data.toList = [] then [] else 47 :: z.data.toList))).length ≤ 64 := h.2.2.2
  rw [List.length_append, List.length_append] at h4
  have e1 : x.size ≤ (if x.data.toList = [] then [] else x.data.toList ++ [64]).length := by
    split
    · rename_i h; rw [← size_list, h]; simp
    · rw [List.length_append, size_list]; simp
  have e2 : z.size ≤ (if z.data.toList = [] then [] else 47 :: z.data.toList).length := by
    split
    · rename_i h; rw [← size_list, h]; simp
    · rw [List.length_cons, size_list]; omega
  have e3 : y.data.toList.length = y.size := size_list y
  omega

set_option maxRecDepth 100000 in
set_option maxHeartbeats 4000000 in
theorem jidBack_any (lo dom res s : ByteArray) (w : World) (hs : lo.size + dom.size + res.size + 2 ≤ 9223372036854775807) (hss : s.size ≤ 9223372036854775807) (hm : MaxG w) (h1 : 0 < w.heap.size) :
    Calls Try.prog 6 #[.agg #[.string lo, .string dom, .string res], .string s] w fun e w' => e = .returned (.bool true) ∧ Below w.heap.size w w' := by
  have HM := hide hm
  clear hm
  obtain ⟨W0, hW0, a0, b0, z0⟩ := newJ w (.string lo) (.string dom) (.string res)
  obtain ⟨x0, x1, x2, _⟩ := cells3 a0
  have hpr := hide (print_any lo dom res W0 hs (HM.out.below b0 h1) (by omega))
  have H0 := hide (And.intro a0 b0)
  clear a0 b0
  go_enter Try.func6, Try.ntmps6
  go_wp2_with fail
  refine hpr.out.mono ?_
  rintro e w1 ⟨⟨hR, rfl⟩ | ⟨hR, rfl⟩, hb1⟩
  · have hb1' := H0.out.2.trans (hb1.mono (by omega))
    have hz1 := hb1.size
    have a1 := (hb1.block w.heap.size (by omega)).trans H0.out.1
    have hp := parse_any (joinB lo dom res) w1 (Nat.le_trans (joinB_size lo dom res) hs) (HM.out.below hb1' h1) (by omega)
    rw [joinB_list, parse_text hR] at hp
    have HP1 := hide hp
    have H1 := hide (And.intro a1 hb1')
    clear hb1 hb1' hp a1 hR x0 x1 x2
    go_wp2_with fail
    refine HP1.out.mono ?_
    rintro e w2 ⟨⟨j, hj, rfl⟩ | ⟨hj, rfl⟩, hb2⟩
    · cases hj
      rw [jv_jl]
      have hb2' := H1.out.2.trans (hb2.mono (by omega))
      have hz2 := hb2.size
      have a2 := (hb2.block w.heap.size (by omega)).trans H1.out.1
      obtain ⟨W3, hW3, a3, b3, z3⟩ := newJ w2 (.string lo) (.string dom) (.string res)
      obtain ⟨c0, c1, c2, _⟩ := cells3 a3
      obtain ⟨d0, d1, d2, _⟩ := cells3 ((b3.block w.heap.size (by omega)).trans a2)
      have HB := hide (hb2'.trans (b3.mono (by omega)))
      clear hb2 hb2' a2 a3 b3 HP1
      have HP := hide (parse_any s W3 hss (HM.out.below HB.out h1) (by omega))
      go_wp2_with fail
      refine HP.out.mono ?_
      rintro e w5 ⟨⟨j, hj, rfl⟩ | ⟨hj, rfl⟩, hb5⟩
      · obtain ⟨hR, ht⟩ := parse_right hj
        have hb5' := HB.out.trans (hb5.mono (by omega))
        have hz5 := hb5.size
        unfold jv
        obtain ⟨x, hx⟩ : ∃ x, (⟨j.lo.toArray⟩ : ByteArray) = x := ⟨_, rfl⟩
        obtain ⟨y, hy⟩ : ∃ y, (⟨j.dom.toArray⟩ : ByteArray) = y := ⟨_, rfl⟩
        obtain ⟨z, hz⟩ : ∃ z, (⟨j.res.toArray⟩ : ByteArray) = z := ⟨_, rfl⟩
        obtain rfl := jl_ext hx hy hz
        rw [hx, hy, hz]
        have hjs : joinB x y z = s := str_ext (by rw [joinB_list]; exact ht)
        have hle : (s.size : Int) ≤ 64 := by have := hR.2.2.2; rw [ht, size_list] at this; omega
        have hsum : x.size + y.size + z.size + 2 ≤ 9223372036854775807 := by have := right_sum hR; omega
        obtain ⟨W6, hW6, a6, b6, z6⟩ := newJ w5 (.string x) (.string y) (.string z)
        obtain ⟨c0, c1, c2, _⟩ := cells3 a6
        have hb6 := hb5'.trans (b6.mono (by omega))
        have hpr := print_any x y z W6 hsum (HM.out.below hb6 h1) (by omega)
        have HPR := hide hpr
        have H6 := hide (And.intro hR hb6)
        rw [hjs] at HPR
        clear hb5 hb5' b6 hb6 a6 hpr HP hx hy hz hR ht hj hjs
        go_wp2_with fail
        refine HPR.out.mono ?_
        rintro e w7 ⟨⟨_, rfl⟩ | ⟨hno, rfl⟩, hb7⟩
        · have hb7' := H6.out.2.trans (hb7.mono (by omega))
          have hz7 := hb7.size
          have hlv := hide (live_any w7 (HM.out.below hb7' h1) (by omega))
          have H7 := hide hb7'
          clear hb7 hb7' HPR
          go_wp2_with fail
          refine hlv.out.mono ?_
          rintro e w8 ⟨rfl, hb8⟩
          have H8 := hide (H7.out.trans (hb8.mono (by omega)))
          have hdl : decide ((s.size : Int) ≤ 64) = true := decide_eq_true hle
          clear hb8
          go_wp2_with fail
          go_ret
          refine ⟨?_, H8.out⟩
          simp
        · exact absurd H6.out.1 hno
      · have hb5' := HB.out.trans (hb5.mono (by omega))
        have hz5 := hb5.size
        unfold jv noJ
        obtain ⟨W6, hW6, a6, b6, z6⟩ := newJ w5 (.string ⟨#[]⟩) (.string ⟨#[]⟩) (.string ⟨#[]⟩)
        have hb6 := hb5'.trans (b6.mono (by omega))
        have hlv := hide (live_any W6 (HM.out.below hb6 h1) (by omega))
        have H6 := hide (And.intro a6 hb6)
        have HW6 := hide hW6
        clear hb5 hb5' b6 hb6 a6 HP hj hW6
        go_wp2_with fail
        rw [HW6.out]
        refine hlv.out.mono ?_
        rintro e w8 ⟨rfl, hb8⟩
        have a8 := (hb8.block w5.heap.size (by omega)).trans H6.out.1
        obtain ⟨c0, c1, c2, _⟩ := cells3 a8
        have H8 := hide (H6.out.2.trans (hb8.mono (by omega)))
        clear hb8 a8
        go_wp2_with fail
        go_ret
        exact ⟨rfl, H8.out⟩
    · cases hj
  · have HB := hide (H0.out.2.trans (hb1.mono (by omega)))
    have hz1 := hb1.size
    clear hb1 hR
    have HP := hide (parse_any s w1 hss (HM.out.below HB.out h1) (by omega))
    go_wp2_with fail
    refine HP.out.mono ?_
    rintro e w5 ⟨⟨j, hj, rfl⟩ | ⟨hj, rfl⟩, hb5⟩
    · obtain ⟨hR, ht⟩ := parse_right hj
      have hb5' := HB.out.trans (hb5.mono (by omega))
      have hz5 := hb5.size
      unfold jv
      obtain ⟨x, hx⟩ : ∃ x, (⟨j.lo.toArray⟩ : ByteArray) = x := ⟨_, rfl⟩
      obtain ⟨y, hy⟩ : ∃ y, (⟨j.dom.toArray⟩ : ByteArray) = y := ⟨_, rfl⟩
      obtain ⟨z, hz⟩ : ∃ z, (⟨j.res.toArray⟩ : ByteArray) = z := ⟨_, rfl⟩
      obtain rfl := jl_ext hx hy hz
      rw [hx, hy, hz]
      have hjs : joinB x y z = s := str_ext (by rw [joinB_list]; exact ht)
      have hle : (s.size : Int) ≤ 64 := by have := hR.2.2.2; rw [ht, size_list] at this; omega
      have hsum : x.size + y.size + z.size + 2 ≤ 9223372036854775807 := by have := right_sum hR; omega
      obtain ⟨W6, hW6, a6, b6, z6⟩ := newJ w5 (.string x) (.string y) (.string z)
      obtain ⟨c0, c1, c2, _⟩ := cells3 a6
      have hb6 := hb5'.trans (b6.mono (by omega))
      have hpr := print_any x y z W6 hsum (HM.out.below hb6 h1) (by omega)
      have HPR := hide hpr
      have H6 := hide (And.intro hR hb6)
      rw [hjs] at HPR
      clear hb5 hb5' b6 hb6 a6 hpr HP hx hy hz hR ht hj hjs
      go_wp2_with fail
      refine HPR.out.mono ?_
      rintro e w7 ⟨⟨_, rfl⟩ | ⟨hno, rfl⟩, hb7⟩
      · have hb7' := H6.out.2.trans (hb7.mono (by omega))
        have hz7 := hb7.size
        have hlv := hide (live_any w7 (HM.out.below hb7' h1) (by omega))
        have H7 := hide hb7'
        clear hb7 hb7' HPR
        go_wp2_with fail
        refine hlv.out.mono ?_
        rintro e w8 ⟨rfl, hb8⟩
        have H8 := hide (H7.out.trans (hb8.mono (by omega)))
        have hdl : decide ((s.size : Int) ≤ 64) = true := decide_eq_true hle
        clear hb8
        go_wp2_with fail
        go_ret
        refine ⟨?_, H8.out⟩
        simp
      · exact absurd H6.out.1 hno
    · have hb5' := HB.out.trans (hb5.mono (by omega))
      have hz5 := hb5.size
      unfold jv noJ
      obtain ⟨W6, hW6, a6, b6, z6⟩ := newJ w5 (.string ⟨#[]⟩) (.string ⟨#[]⟩) (.string ⟨#[]⟩)
      have hb6 := hb5'.trans (b6.mono (by omega))
      have hlv := hide (live_any W6 (HM.out.below hb6 h1) (by omega))
      have H6 := hide (And.intro a6 hb6)
      have HW6 := hide hW6
      clear hb5 hb5' b6 hb6 a6 HP hj hW6
      go_wp2_with fail
      rw [HW6.out]
      refine hlv.out.mono ?_
      rintro e w8 ⟨rfl, hb8⟩
      have a8 := (hb8.block w5.heap.size (by omega)).trans H6.out.1
      obtain ⟨c0, c1, c2, _⟩ := cells3 a8
      have H8 := hide (H6.out.2.trans (hb8.mono (by omega)))
      clear hb8 a8
      go_wp2_with fail
      go_ret
      exact ⟨rfl, H8.out⟩
end Go.Proofs.Ytcghnojhcmiolaa
