/- From the row's list to the cells of text.entities. -/
import Derived.Test.YthmidlmknkbdaaaDoorEnt
import Derived.Test.YthmidlmknkbdaaaDoorRows
import Derived.LaidLaws
import Derived.ChangeSame
import Derived.OpenShut
namespace Go.Proofs.YthmidlmknkbdaaaDoor
open Go.RowKit Go.ChangeShapes

theorem gEnt : Tryd.prog.globalNamed "heliograph/text.entities" = some 0 := by kernel_rfl
theorem gEntType : (Tryd.prog.globals[(0 : Nat)]?).map (·.type) = some 112 := by kernel_rfl
theorem cellsEnts : Tryd.prog.cellsOf 112 = 10 := by kernel_rfl
theorem cellsEnt : Tryd.prog.cellsOf 111 = 2 := by kernel_rfl
theorem cellsRune : Tryd.prog.cellsOf 21 = 1 := by kernel_rfl
theorem cellsStr : Tryd.prog.cellsOf 9 = 1 := by kernel_rfl
theorem structEnt : ∃ f0 f1 : Field, Tryd.prog.underlying 111 = some (.struct #[f0, f1]) ∧ f0.type = 21 ∧ f0.offset = 0 ∧ f1.type = 9 ∧ f1.offset = 1 := by
  refine ⟨_, _, Tryd.underlying111, ?_, ?_, ?_, ?_⟩ <;> kernel_rfl

theorem ent_cells {H : Type} {enc : TypeId × Value → H} {w : World} {base : Nat} {sp : Nat → Bool} {held : Bool} {fuel : Nat} {cs : List Value} {a : Int} {b : List UInt8} {p : List MemPlace}
    (h : DataW.trod enc Tryd.prog w base sp held fuel 111 cs = some (.agg [.lit (.int .i32 a), .lit (.string b)], p)) : cs = [.int .i32 a, .string ⟨b.toArray⟩] := by
  obtain ⟨f0, f1, hu, t0, o0, t1, o1⟩ := structEnt
  obtain ⟨y0, y1, n, hx, hl, h0, h1⟩ := trod_struct2 hu h
  rw [t0, o0, cellsRune] at h0
  rw [t1, o1, cellsStr] at h1
  obtain ⟨s0, e0, q0, _⟩ := DataW.trod_int Tryd.underlying21 h0
  obtain ⟨s1, e1, q1, _⟩ := DataW.trod_string Tryd.underlying9 h1
  rw [cellsEnt] at hl
  match cs, hl with
  | [c0, c1], _ =>
    simp at e0 e1
    subst e0 e1 q0 q1
    simp only [Prod.mk.injEq, DataW.agg.injEq, List.cons.injEq, DataW.lit.injEq, Lit.string.injEq, Lit.int.injEq, true_and, and_true] at hx
    obtain ⟨⟨rfl, rfl⟩, _⟩ := hx
    rfl

def entL : List (Int × List UInt8) := [(38, [97, 109, 112]), (60, [108, 116]), (62, [103, 116]), (39, [97, 112, 111, 115]), (34, [113, 117, 111, 116])]
theorem laid_entL : (Rows.laid_heliograph_text_entities : DataW Unit) = .agg (entL.map fun r => .agg [.lit (.int .i32 r.1), .lit (.string r.2)]) := by kernel_rfl
theorem entL_at (i : Nat) (a : Int) (b : List UInt8) (h : entL[i]? = some (a, b)) : entCs[i * 2]? = some (.int .i32 a) ∧ entCs[i * 2 + 1]? = some (.string ⟨b.toArray⟩) := by
  match i, h with
  | 0, h => cases h; exact ⟨rfl, rfl⟩
  | 1, h => cases h; exact ⟨rfl, rfl⟩
  | 2, h => cases h; exact ⟨rfl, rfl⟩
  | 3, h => cases h; exact ⟨rfl, rfl⟩
  | 4, h => cases h; exact ⟨rfl, rfl⟩
  | n + 5, h => simp [entL] at h

theorem ents_cells {w : World} {base : Nat} {sp : Nat → Bool} {held : Bool} {fuel : Nat} {cs : Array Value} {p : List MemPlace}
    (h : DataW.trod (fun _ => ()) Tryd.prog w base sp held fuel 112 cs.toList = some (Rows.laid_heliograph_text_entities, p)) : cs = entCs := by
  rw [laid_entL] at h
  obtain ⟨xs, m, _, hx, hl, hn, hf⟩ := DataW.trod_array Tryd.underlying112 h
  rw [cellsEnts] at hl
  simp only [Prod.mk.injEq, DataW.agg.injEq] at hx
  have hrow : ∀ i, i < 5 → cs[i * 2]? = entCs[i * 2]? ∧ cs[i * 2 + 1]? = entCs[i * 2 + 1]? := by
    intro i hi
    have hi' : i < entL.length := hi
    obtain ⟨ab, hab⟩ : ∃ ab, entL[i]? = some ab := ⟨_, List.getElem?_eq_getElem hi'⟩
    obtain ⟨a, b⟩ := ab
    have h1 := hf i hi
    have h2 : (xs.map (·.1))[i]? = some (DataW.agg [.lit (.int .i32 a), .lit (.string b)]) := by
      rw [← hx.1]; simp [hab]
    rw [List.getElem?_map, Option.map_eq_some_iff] at h2
    obtain ⟨x, hx1, hx2⟩ := h2
    rw [hx1, cellsEnt] at h1
    obtain ⟨d, q⟩ := x
    simp only at hx2
    subst hx2
    have h3 := ent_cells h1
    have h4 := entL_at i a b hab
    rw [h4.1, h4.2]
    have e0 := congrArg (·[0]?) h3
    have e1 := congrArg (·[1]?) h3
    simp [List.getElem?_drop] at e0 e1
    exact ⟨e0, e1⟩
  apply Array.ext_getElem?
  intro j
  by_cases hj : j < 10
  · have := hrow (j / 2) (by omega)
    rcases Nat.mod_two_eq_zero_or_one j with h0 | h0
    · rw [show j / 2 * 2 = j from by omega] at this; exact this.1
    · rw [show j / 2 * 2 + 1 = j from by omega] at this; exact this.2
  · have hs : cs.size = 10 := by simpa using hl
    rw [Array.getElem?_eq_none (by omega), Array.getElem?_eq_none (by show 10 ≤ j; omega)]

theorem ent_of {W : World} {rest : List (String × DataW Unit)} {ps : List MemPlace} (h : DataW.LaidVars Tryd.prog W (("heliograph/text.entities", Rows.laid_heliograph_text_entities) :: rest) ps) : EntLaid W := by
  obtain ⟨g, t, cs, fuel, p, q, hg, ht, hv, hd, _, _⟩ := h
  obtain rfl := Option.some.inj (gEnt.symm.trans hg)
  obtain rfl := Option.some.inj (gEntType.symm.trans ht)
  have hcs := ents_cells hd
  subst hcs
  simp only [World.var?, gEnt, Option.bind_some] at hv
  split at hv
  · rename_i cs' t' fr hb
    cases hv
    exact ⟨t', fr, hb⟩
  · cases hv
def lay (cs : Array Value) : Obj → Obj
  | .cells _ t frozen => .cells cs t frozen
  | o => o
end Go.Proofs.YthmidlmknkbdaaaDoor
