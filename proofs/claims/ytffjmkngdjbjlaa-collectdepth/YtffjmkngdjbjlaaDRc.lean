/- Regions that draw their order and hold calls, inside of a loop's round. -/
import Derived.Test.YtffjmkngdjbjlaaDR
namespace Go.Proofs.Ytffjmkngdjbjlaa
open Go Go.RowKit
variable {P : Program} {n l : Nat}

/-- Nothing is put off. -/
def noDefer (ops : Array Oper) : Bool := ops.all fun o => match o.op with | .defer _ => false | _ => true
theorem noDefer_at {ops : Array Oper} (h : noDefer ops = true) {i : Nat} {o : Oper} (hi : ops[i]? = some o) : ∀ c, o.op ≠ .defer c := by
  have := Array.all_eq_true_iff_forall_mem.1 h o (Array.mem_of_getElem? hi)
  exact fun c e => by simp [e] at this
theorem opIn_of_opD {o : Oper} {a : Act} {w : World} {K : Act → World → Prop} {Q : Exit → Act → World → Prop} (hd : ∀ c, o.op ≠ .defer c) (h : o.wp P a w K Q) : o.wpIn (Fence.wide.inRound l) n P a w K Q := by
  refine ⟨fun f _ => trivial, ?_⟩
  rw [Oper.semAt_plain _ _ _ hd]
  unfold Oper.wp at h
  cases hr : (execOp a.eval o).run P w with
  | halt x w' =>
    rw [hr] at h
    cases x <;> first | exact h | exact h.elim
  | ok x w' =>
    rw [hr] at h
    cases x with
    | value v => exact h
    | skip => exact h
    | defer d => exact h
    | enter f args => exact ⟨fun e => by simp [Fence.inRound, Fence.wide] at e, CallsIn.inRound l (callsIn_wide.2 h)⟩
    | row r args => exact ⟨fun e => by simp [Fence.inRound, Fence.wide] at e, fun c cs _ => let ⟨v, w', r, s⟩ := h c cs; ⟨v, w', r, stepsIn_wide.2 s⟩⟩
    | _ => exact h.elim
theorem anyIn_of_anyD {md : Region.Mode} {ops : Array Oper} {Q : Exit → Act → World → Prop} (hp : noDefer ops = true) (hQ : ¬ LetsOut Q) : ∀ (fuel : Nat) (listed : Array Bool) (a : Act) (w : World), wpAny P md ops Q fuel listed a w → wpAnyIn (Fence.wide.inRound l) n P md ops Q fuel listed a w
  | 0, _, _, _, h => h
  | fuel + 1, listed, a, w, h => by
    refine ⟨h.1, fun i hi => ?_⟩
    have h1 := h.2 i hi
    unfold wpOp at h1
    unfold wpOpIn
    cases ho : ops[i]? with
    | none =>
      simp only [ho] at h1
      exact anyIn_of_anyD hp hQ fuel _ _ _ h1
    | some o =>
      simp only [ho] at h1
      simp only
      by_cases hw : Region.wanted o (yielded ops a.tmps) = true
      · simp only [hw, if_true] at h1 ⊢
        rcases h1 with h1 | h1
        · exact opIn_of_opD (noDefer_at hp ho) (Oper.wp_mono (fun a w => anyIn_of_anyD hp hQ fuel _ a w) h1)
        · exact absurd h1.2 hQ
      · simp only [hw, if_false, Bool.false_eq_true] at h1 ⊢
        exact ⟨fun f _ => trivial, anyIn_of_anyD hp hQ fuel _ _ _ h1⟩
/-- A region that draws, inside of a round. -/
theorem region_roundR {id : Nat} {ops : Array Oper} {Q : Exit → Act → World → Prop} {S : World → Prop} {a : Act} {w : World} (R : Act → World → Prop) (hm : P.follows .mixedOrders = true) (hp : noDefer ops = true)
    (h : wpAnyH P .any ops (fun e a w' => e = .normal ∧ R a w') S ops.size (Array.replicate ops.size false) a w.drew) (hq : ∀ a w', R a w' → Q .normal a w') : (Code.region id ops true).wpIn (Fence.wide.inRound l) n P Q a w :=
  wpIn_mono (wpIn_region_any hm (anyIn_of_anyD hp (by rintro ⟨a, w, e, _⟩; cases e) _ _ _ _ (wpAny_of_held _ _ _ _ h))) (by rintro e a w ⟨rfl, h⟩; exact hq _ _ h)
end Go.Proofs.Ytffjmkngdjbjlaa
