/- What is no payload: one attribute more or less, and what lies behind the first token: no program in it. -/
import Derived.Test.YtimhkgpjfppkmaaDoorRq15
namespace Go.Proofs.YtimhkgpjfppkmaaDoor
open Go.RowKit Go.Shelf

theorem verb_one : ∀ v v' : Fin 16, verbB v.val = verbB v'.val → v = v' ∨ v.val = 0 := by decide
theorem verb_inj {r r' : Rq} (h : RightRq r) (h' : RightRq r') (e : verbB r.verb = verbB r'.verb) : r.verb = r'.verb := by
  have hv := verb_range h
  have hv' := verb_range h'
  rcases verb_one ⟨r.verb, by omega⟩ ⟨r'.verb, by omega⟩ e with h | h
  · exact congrArg Fin.val h
  · have : r.verb = 0 := h
    omega
theorem verb_ps : ∀ v : Fin 16, verbB v.val ≠ psB := by decide
/-- A payload whose attributes are more or fewer is none of a right request. -/
theorem exact_attrs {r r' : Rq} {al : List (ByteArray × ByteArray)} (h : RightRq r) (h' : RightRq r') (hl : al.length ≠ (attrsR r).length) : encT r' ≠ elemT psB [] (elemT (verbB r.verb) al (charsT r.text)) := by
  intro e
  have h1 : (encT r')[1]? = (elemT psB [] (elemT (verbB r.verb) al (charsT r.text)))[1]? := by rw [e]
  have h2 : (encT r')[1]? = some ⟨1, verbB r'.verb, attrsR r', ⟨#[]⟩⟩ := rfl
  have h3 : (elemT psB [] (elemT (verbB r.verb) al (charsT r.text)))[1]? = some ⟨1, verbB r.verb, al, ⟨#[]⟩⟩ := rfl
  rw [h2, h3] at h1
  have h4 := Option.some.inj h1
  injection h4 with _ hv ha _
  have hvv := verb_inj h' h hv
  apply hl
  rw [← ha, attrs_len, attrs_len, hvv]
/-- What lies behind a payload's first token is no payload. -/
theorem exact_tail {r r' : Rq} (h : RightRq r) : encT r' ≠ (encT r).drop 1 := by
  intro e
  have h1 : (encT r')[0]? = ((encT r).drop 1)[0]? := by rw [e]
  have h2 : (encT r')[0]? = some ⟨1, psB, [], ⟨#[]⟩⟩ := rfl
  have h3 : ((encT r).drop 1)[0]? = some ⟨1, verbB r.verb, attrsR r, ⟨#[]⟩⟩ := rfl
  rw [h2, h3] at h1
  have h4 := Option.some.inj h1
  injection h4 with _ hv _ _
  have hr := verb_range h
  exact verb_ps ⟨r.verb, by omega⟩ hv.symm
theorem enc_four {r : Rq} : 4 ≤ (encT r).length := by
  unfold encT elemT
  simp
theorem enc_one {r : Rq} : (encT r)[1]? = some ⟨1, verbB r.verb, attrsR r, ⟨#[]⟩⟩ := rfl
theorem attrs_one {r : Rq} (h : RightRq r) : 1 ≤ (attrsR r).length := by
  rw [attrs_len]
  unfold cntA
  rw [show nodeB r.verb = true from h.1]
  show 1 ≤ 1 + _ + _ + _ + _ + _ + _ + _ + _
  omega
end Go.Proofs.YtimhkgpjfppkmaaDoor
