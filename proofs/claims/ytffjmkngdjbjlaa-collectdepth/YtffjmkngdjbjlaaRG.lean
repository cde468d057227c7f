/- Regions that draw: more steps. -/
import Derived.Test.YtffjmkngdjbjlaaDR
namespace Go.Proofs.Ytffjmkngdjbjlaa
open Go Go.RowKit
variable {P : Program} {ops : Array Oper} {Q : Exit → Act → World → Prop} {S S' : World → Prop} {md : Region.Mode}

/-- What is asked of the world may be more from here on. -/
theorem anyH_mono (hS : ∀ w, S' w → S w) : ∀ (fuel : Nat) (listed : Array Bool) (a : Act) (w : World), wpAnyH P md ops Q S' fuel listed a w → wpAnyH P md ops Q S fuel listed a w
  | 0, _, _, _, h => h
  | fuel + 1, _, _, _, h => ⟨h.1, fun i hi => wpOp_mono (fun a' w' h' => ⟨hS _ h'.1, anyH_mono hS fuel _ a' w' h'.2⟩) (h.2 i hi)⟩
theorem anyH_more {fuel : Nat} {listed : Array Bool} {a : Act} {w : World} (S' : World → Prop) (hS : ∀ w, S' w → S w) (h : wpAnyH P md ops Q S' fuel listed a w) : wpAnyH P md ops Q S fuel listed a w := anyH_mono hS _ _ _ _ h
/-- One alone may come up, and it is a call or the like. -/
theorem anyH_one {i fuel : Nat} {listed : Array Bool} {a : Act} {w : World} (hr : Region.ready md ops listed = [i]) (h1 : wpOp P ops Q i (fun a' w' => S w' ∧ wpAnyH P md ops Q S fuel (listed.setIfInBounds i true) a' w') a w) : wpAnyH P md ops Q S (fuel + 1) listed a w := by
  refine wpAnyH_all hr (by simp) fun k hk => ?_
  obtain rfl : k = i := by simpa using hk
  exact h1
/-- What is not wanted may come first. -/
theorem anyH_off {i fuel : Nat} {o : Oper} {listed : Array Bool} {a : Act} {w : World} (hi : ops[i]? = some o) (dst : Option Tmp) (hdst : o.dst = dst) (hs : Region.noSelect ops = true) (hf : Region.free .any ops listed i = true) (hr : (Region.ready .any ops listed).contains i = true) (hQ : ∀ c a w, ¬ Q (.panic c) a w) (hw : Region.wanted o (yielded ops a.tmps) = false) (hS : S w) (h : wpAnyH P .any ops Q S fuel (listed.setIfInBounds i true) (a.put dst undef) w) : wpAnyH P .any ops Q S (fuel + 1) listed a w :=
  wpAnyH_take hi hs hf hr (fun _ _ _ h => absurd h (hQ _ _ _)) (.inr ⟨hw, rfl⟩) hS (hdst ▸ h)
/-- A call that may come up. -/
theorem op_call {i f : Nat} {o : Oper} {a : Act} {w : World} {K : Act → World → Prop} {args : Array Operand} {tys : Array TypeId} {R : Ending → World → Prop} (hi : ops[i]? = some o) (dst : Option Tmp) (hdst : o.dst = dst) (hw : Region.wanted o (yielded ops a.tmps) = true) (vs : Array Value)
    (hop : o.op = .call { callee := .value (.func f), args := args, argTypes := tys }) (hvs : args.map a.eval = vs) (hgo : ∀ xs V, (callFunc f xs).run P V = .ok (.enter f xs) V) (hC : Calls P f vs w R) (hK : ∀ e w', R e w' → ∃ v, e = .returned v ∧ K (a.put dst v) w') : wpOp P ops Q i K a w := by
  subst hdst
  unfold wpOp
  simp only [hi, hw, if_true]
  refine .inl ?_
  unfold Oper.wp
  simp [execOp, hop, resolve, invoke, hvs, hgo, Oper.upon, Act.eval, Deferred.ofValue, go_sem]
  refine hC.mono ?_
  intro e w' hR
  obtain ⟨u, rfl, hk⟩ := hK e w' hR
  exact hk
end Go.Proofs.Ytffjmkngdjbjlaa
