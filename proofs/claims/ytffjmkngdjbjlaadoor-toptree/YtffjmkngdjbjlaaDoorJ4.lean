/- Addresses: whether they are right. -/
import Derived.Test.YtffjmkngdjbjlaaDoorJ3
import Derived.Laws.StructEq
namespace Go.Proofs.YtffjmkngdjbjlaaDoor
open Go.RowKit

theorem joinB_size (lo dom res : ByteArray) : (joinB lo dom res).size ≤ lo.size + dom.size + res.size + 2 := by
  unfold joinB
  have h1 : (⟨#[64]⟩ : ByteArray).size = 1 := rfl
  have h2 : (⟨#[47]⟩ : ByteArray).size = 1 := rfl
  by_cases a : lo = emp <;> by_cases b : res = emp
  · rw [if_pos a, if_pos b]; omega
  · rw [if_pos a, if_neg b, size_app, size_app]; omega
  · rw [if_neg a, if_pos b, size_app, size_app]; omega
  · rw [if_neg a, if_neg b, size_app, size_app, size_app, size_app]; omega
theorem jv_jl (lo dom res : ByteArray) : jv (jl lo dom res) = .agg #[.string lo, .string dom, .string res] := by
  unfold jv jl
  rw [arr_self, arr_self, arr_self]
theorem jl_ext {j : JL} {lo dom res : ByteArray} (h1 : (⟨j.lo.toArray⟩ : ByteArray) = lo) (h2 : (⟨j.dom.toArray⟩ : ByteArray) = dom) (h3 : (⟨j.res.toArray⟩ : ByteArray) = res) : j = jl lo dom res := by
  subst h1 h2 h3
  rfl
theorem str_iff (a b : ByteArray) : (a.toList == b.toList) = decide (a = b) := by
  by_cases h : a = b
  · rw [decide_eq_true h, h]
    simp
  · rw [decide_eq_false h]
    exact str_ne h
theorem right_no {j : JL} {lo dom res : ByteArray} (h : parseL (textJ (jl lo dom res)) = some j) : decide (RightJ (jl lo dom res)) = (decide ((⟨j.lo.toArray⟩ : ByteArray) = lo) && (decide ((⟨j.dom.toArray⟩ : ByteArray) = dom) && decide ((⟨j.res.toArray⟩ : ByteArray) = res))) := by
  rw [Bool.eq_iff_iff, decide_eq_true_eq, ← right_iff, h]
  simp only [Bool.and_eq_true, decide_eq_true_eq, Option.some.injEq]
  constructor
  · intro e
    subst e
    unfold jl
    exact ⟨arr_self _, arr_self _, arr_self _⟩
  · rintro ⟨h1, h2, h3⟩
    exact jl_ext h1 h2 h3
end Go.Proofs.YtffjmkngdjbjlaaDoor
