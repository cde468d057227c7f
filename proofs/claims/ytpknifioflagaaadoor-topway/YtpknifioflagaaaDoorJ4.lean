/- Addresses: whether they are right. -/
import Derived.Test.YtpknifioflagaaaDoorJ3
import Derived.Laws.StructEq
namespace Go.Proofs.YtpknifioflagaaaDoor.Jd
open Go.RowKit

theorem joinB_size (lo dom res : ByteArray) : (joinB lo dom res).size ≤ lo.size + dom.size + res.size + 2 := by
  unfold joinB
  have h1 : (⟨#[64]⟩ : ByteArray).size = 1 := rfl
  have h2 : (⟨#[47]⟩ : ByteArray).size = 1 := rfl
  by_cases a : lo = emp <;> by_cases b : res = emp
  · rw [if_pos a, if_pos b]; omega
  · rw [if_pos a, if_neg b, size_app, size_app]; omega
  · rw [if_neg a, if_pos b, size_app, size_app]; omega
  · rw [if_neg a, if_neg b, size_app, size_app, size_app, size_app]; omega
theorem jv_jl (lo dom res : ByteArray) : jv (jl lo dom res) = .agg #[.string lo, .string dom, .string res] := by
  unfold jv jl
  rw [arr_self, arr_self, arr_self]
theorem jl_ext {j : JL} {lo dom res : ByteArray} (h1 : (⟨j.lo.toArray⟩ : ByteArray) = lo) (h2 : (⟨j.dom.toArray⟩ : ByteArray) = dom) (h3 : (⟨j.res.toArray⟩ : ByteArray) = res) : j = jl lo dom res := by
  subst h1 h2 h3
  rfl
theorem str_iff (a b : ByteArray) : (a.toList == b.toList) = decide (a = b) := by
  by_cases h : a = b
  · rw [decide_eq_true h, h]
    simp
  · rw [decide_eq_false h]
    exact str_ne h
theorem right_no {j : JL} {lo dom res : ByteArray} (h : parseL (textJ (jl lo dom res)) = some j) : decide (RightJ (jl lo dom res)) = (decide ((⟨j.lo.toArray⟩ : ByteArray) = lo) && (decide ((⟨j.dom.toArray⟩ : ByteArray) = dom) && decide ((⟨j.res.toArray⟩ : ByteArray) = res))) := by
  rw [Bool.eq_iff_iff, decide_eq_true_eq, ← right_iff, h]
  simp only [Bool.and_eq_true, decide_eq_true_eq, Option.some.injEq]
  constructor
  · intro e
    subst e
    unfold jl
    exact ⟨arr_self _, arr_self _, arr_self _⟩
  · rintro ⟨h1, h2, h3⟩
    exact jl_ext h1 h2 h3
set_option maxRecDepth 100000 in
set_option maxHeartbeats 2000000 in
theorem right_any (lo dom res : ByteArray) (w : World) (hs : lo.size + dom.size + res.size + 2 ≤ 9223372036854775807) (hm : MaxG w) (h1 : 3 < w.heap.size) : Calls Tryd.prog 28 #[.agg #[.string lo, .string dom, .string res]] w fun e w' => e = .returned (.bool (decide (RightJ (jl lo dom res)))) ∧ Below w.heap.size w w' := by
  obtain ⟨rb, hrb⟩ : ∃ rb, decide (RightJ (jl lo dom res)) = rb := ⟨_, rfl⟩
  rw [hrb]
  have HRB := hide hrb
  clear hrb
  obtain ⟨W0, hW0⟩ : ∃ W0, w.alloc (.cells #[.string lo, .string dom, .string res] 47) = W0 := ⟨_, rfl⟩
  have n0 : W0.heap[w.heap.size]? = some (.cells #[.string lo, .string dom, .string res] 47) := by rw [← hW0]; exact World.alloc_heap_new _ _
  have z0 : W0.heap.size = w.heap.size + 1 := by rw [← hW0]; simp
  have b0 : Below w.heap.size w W0 := by rw [← hW0]; exact (Below.refl _ w).alloc (Nat.le_refl _) _
  obtain ⟨x0, x1, x2, _⟩ := cells3 n0
  have hj := hide (join_any lo dom res W0 hs)
  have HM := hide hm
  have HN := hide (And.intro n0 b0)
  clear hm n0 b0
  go_enter Tryd.func28, Tryd.ntmps28
  go_wp2_with fail
  refine hj.out.mono ?_
  rintro e w1 ⟨rfl, hb1⟩
  have g0 := (hb1.block w.heap.size (by omega)).trans HN.out.1
  have hb1' := HN.out.2.trans (hb1.mono (by omega))
  have hz1 := hb1.size
  have hp := parse_any (joinB lo dom res) w1 (Nat.le_trans (joinB_size lo dom res) hs) (HM.out.below hb1' h1) (by omega)
  rw [joinB_list] at hp
  have HP := hide hp
  have H1 := hide (And.intro g0 hb1')
  obtain ⟨y0, y1, y2, _⟩ := cells3 g0
  clear hb1 g0 hb1' hp hj x0 x1 x2
  go_wp2_with fail
  refine HP.out.mono ?_
  rintro e w2 ⟨⟨j, hpj, rfl⟩ | ⟨hpj, rfl⟩, hb2⟩
  · have g2 := (hb2.block w.heap.size (by omega)).trans H1.out.1
    have H2 := hide (And.intro g2 (H1.out.2.trans (hb2.mono (by omega))))
    have hR := HRB.out.symm.trans (right_no hpj)
    have hz2 := hb2.size
    unfold jv
    obtain ⟨x, hx⟩ : ∃ x, (⟨j.lo.toArray⟩ : ByteArray) = x := ⟨_, rfl⟩
    obtain ⟨y, hy⟩ : ∃ y, (⟨j.dom.toArray⟩ : ByteArray) = y := ⟨_, rfl⟩
    obtain ⟨z, hz⟩ : ∃ z, (⟨j.res.toArray⟩ : ByteArray) = z := ⟨_, rfl⟩
    rw [hx, hy, hz] at hR ⊢
    clear hb2 HP hpj y0 y1 y2 hx hy hz
    obtain ⟨W3, hW3⟩ : ∃ W3, w2.alloc (.cells #[.string x, .string y, .string z] 47) = W3 := ⟨_, rfl⟩
    have a3 : W3.heap[w2.heap.size]? = some (.cells #[.string x, .string y, .string z] 47) := by rw [← hW3]; exact World.alloc_heap_new _ _
    have b3 : Below w2.heap.size w2 W3 := by rw [← hW3]; exact (Below.refl _ _).alloc (Nat.le_refl _) _
    have g3 := (b3.block w.heap.size (by omega)).trans g2
    obtain ⟨c0, c1, c2, _⟩ := cells3 g3
    obtain ⟨d0, d1, d2, _⟩ := cells3 a3
    have H3 := hide (H2.out.2.trans (b3.mono (by omega)))
    clear a3 b3 g3 g2
    by_cases e1 : x = lo
    · subst e1
      rw [decide_eq_true rfl, Bool.true_and] at hR
      by_cases e2 : y = dom
      · subst e2
        rw [decide_eq_true rfl, Bool.true_and] at hR
        by_cases e3 : z = res
        · subst e3
          rw [decide_eq_true rfl] at hR
          have HR := hide hR
          clear hR
          go_wp2_with fail
          go_ret
          rw [HR.out]
          exact ⟨rfl, H3.out⟩
        · rw [decide_eq_false e3] at hR
          have n3 := str_ne e3
          have HR := hide hR
          clear hR e3
          go_wp2_with fail
          go_ret
          rw [HR.out]
          exact ⟨rfl, H3.out⟩
      · rw [decide_eq_false e2, Bool.false_and] at hR
        have n2 := str_ne e2
        have HR := hide hR
        clear hR e2
        go_wp2_with fail
        go_ret
        rw [HR.out]
        exact ⟨rfl, H3.out⟩
    · rw [decide_eq_false e1, Bool.false_and] at hR
      have n1 := str_ne e1
      have HR := hide hR
      clear hR e1
      go_wp2_with fail
      go_ret
      rw [HR.out]
      exact ⟨rfl, H3.out⟩
  · have hd : decide (RightJ (jl lo dom res)) = false := decide_eq_false (fun h => by rw [parse_text h] at hpj; cases hpj)
    have HR := hide (HRB.out.symm.trans hd)
    have H2 := hide (H1.out.2.trans (hb2.mono (by omega)))
    have hz2 := hb2.size
    clear hb2 HP hpj hd
    unfold jv noJ
    go_wp2_with fail
    go_ret
    rw [HR.out]
    exact ⟨rfl, H2.out.alloc (by omega) _⟩

set_option maxRecDepth 100000 in
theorem print_any (lo dom res : ByteArray) (w : World) (hs : lo.size + dom.size + res.size + 2 ≤ 9223372036854775807) (hm : MaxG w) (h1 : 3 < w.heap.size) : Calls Tryd.prog 27 #[.agg #[.string lo, .string dom, .string res]] w fun e w' => ((RightJ (jl lo dom res) ∧ e = .returned (.tuple #[.string (joinB lo dom res), .int .i64 0])) ∨ (¬ RightJ (jl lo dom res) ∧ e = .returned (.tuple #[.string emp, .int .i64 3]))) ∧ Below w.heap.size w w' := by
  obtain ⟨W0, hW0⟩ : ∃ W0, w.alloc (.cells #[.string lo, .string dom, .string res] 47) = W0 := ⟨_, rfl⟩
  have n0 : W0.heap[w.heap.size]? = some (.cells #[.string lo, .string dom, .string res] 47) := by rw [← hW0]; exact World.alloc_heap_new _ _
  have z0 : W0.heap.size = w.heap.size + 1 := by rw [← hW0]; simp
  have b0 : Below w.heap.size w W0 := by rw [← hW0]; exact (Below.refl _ w).alloc (Nat.le_refl _) _
  obtain ⟨x0, x1, x2, _⟩ := cells3 n0
  have hr := hide (right_any lo dom res W0 hs (hm.below b0 h1) (by omega))
  have HN := hide (And.intro n0 b0)
  clear hm n0 b0
  go_enter Tryd.func27, Tryd.ntmps27
  go_wp2_with fail
  refine hr.out.mono ?_
  rintro e w1 ⟨rfl, hb1⟩
  have g0 := (hb1.block w.heap.size (by omega)).trans HN.out.1
  obtain ⟨y0, y1, y2, _⟩ := cells3 g0
  have hb1' := HN.out.2.trans (hb1.mono (by omega))
  have hz1 := hb1.size
  have hj := hide (join_any lo dom res w1 hs)
  have H1 := hide hb1'
  clear hb1 g0 hb1' hr x0 x1 x2
  by_cases hR : RightJ (jl lo dom res)
  · rw [decide_eq_true hR]
    have HR := hide hR
    clear hR
    go_wp2_with fail
    refine hj.out.mono ?_
    rintro e w2 ⟨rfl, hb2⟩
    have H2 := hide (H1.out.trans (hb2.mono (by omega)))
    clear hb2
    go_wp2_with fail
    go_ret2
    exact ⟨.inl ⟨HR.out, rfl⟩, H2.out⟩
  · rw [decide_eq_false hR]
    have HR := hide hR
    clear hR
    go_wp2_with fail
    go_ret2
    exact ⟨.inr ⟨HR.out, rfl⟩, H1.out⟩
end Go.Proofs.YtpknifioflagaaaDoor.Jd
