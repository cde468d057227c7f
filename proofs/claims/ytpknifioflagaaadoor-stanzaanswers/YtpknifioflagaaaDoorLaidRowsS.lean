/- From the row's list to the cells of fault.rows. -/
import Derived.Test.YtpknifioflagaaaDoorXJ
import Derived.Test.YtpknifioflagaaaDoorRows
import Derived.LaidLaws
import Derived.ChangeSame
import Derived.OpenShut
namespace Go.Proofs.YtpknifioflagaaaDoor
open Go.RowKit Go.ChangeShapes

theorem gRows : Tryd.prog.globalNamed "heliograph/fault.rows" = some 0 := by kernel_rfl
theorem gRowsType : (Tryd.prog.globals[(0 : Nat)]?).map (·.type) = some 84 := by kernel_rfl
theorem cellsL46 : Tryd.prog.cellsOf 84 = 22 := by kernel_rfl
theorem cellsL45 : Tryd.prog.cellsOf 83 = 2 := by kernel_rfl
theorem cellsL9 : Tryd.prog.cellsOf 9 = 1 := by kernel_rfl
theorem struct45 : ∃ f0 f1 : Field, Tryd.prog.underlying 83 = some (.struct #[f0, f1]) ∧ f0.type = 9 ∧ f0.offset = 0 ∧ f1.type = 9 ∧ f1.offset = 1 := by
  refine ⟨_, _, Tryd.underlying83, ?_, ?_, ?_, ?_⟩ <;> kernel_rfl

/-- A row of two texts. -/
theorem row_cells {H : Type} {enc : TypeId × Value → H} {w : World} {base : Nat} {sp : Nat → Bool} {held : Bool} {fuel : Nat} {cs : List Value} {a b : List UInt8} {p : List MemPlace}
    (h : DataW.trod enc Tryd.prog w base sp held fuel 83 cs = some (.agg [.lit (.string a), .lit (.string b)], p)) : cs = [.string ⟨a.toArray⟩, .string ⟨b.toArray⟩] := by
  obtain ⟨f0, f1, hu, t0, o0, t1, o1⟩ := struct45
  obtain ⟨y0, y1, n, hx, hl, h0, h1⟩ := trod_struct2 hu h
  rw [t0, o0, cellsL9] at h0
  rw [t1, o1, cellsL9] at h1
  obtain ⟨s0, e0, q0, _⟩ := DataW.trod_string Tryd.underlying9 h0
  obtain ⟨s1, e1, q1, _⟩ := DataW.trod_string Tryd.underlying9 h1
  rw [cellsL45] at hl
  match cs, hl with
  | [c0, c1], _ =>
    simp at e0 e1
    subst e0 e1 q0 q1
    simp only [Prod.mk.injEq, DataW.agg.injEq, List.cons.injEq, DataW.lit.injEq, Lit.string.injEq, and_true] at hx
    obtain ⟨⟨rfl, rfl⟩, _⟩ := hx
    rfl

def tabL : List (List UInt8 × List UInt8) := [([], []), ([98, 97, 100, 45, 114, 101, 113, 117, 101, 115, 116], [109, 111, 100, 105, 102, 121]), ([99, 111, 110, 102, 108, 105, 99, 116], [99, 97, 110, 99, 101, 108]), ([102, 111, 114, 98, 105, 100, 100, 101, 110], [97, 117, 116, 104]), ([105, 116, 101, 109, 45, 110, 111, 116, 45, 102, 111, 117, 110, 100], [99, 97, 110, 99, 101, 108]), ([106, 105, 100, 45, 109, 97, 108, 102, 111, 114, 109, 101, 100], [109, 111, 100, 105, 102, 121]), ([110, 111, 116, 45, 97, 108, 108, 111, 119, 101, 100], [99, 97, 110, 99, 101, 108]), ([110, 111, 116, 45, 97, 117, 116, 104, 111, 114, 105, 122, 101, 100], [97, 117, 116, 104]), ([114, 101, 115, 111, 117, 114, 99, 101, 45, 99, 111, 110, 115, 116, 114, 97, 105, 110, 116], [119, 97, 105, 116]), ([115, 101, 114, 118, 105, 99, 101, 45, 117, 110, 97, 118, 97, 105, 108, 97, 98, 108, 101], [99, 97, 110, 99, 101, 108]), ([117, 110, 101, 120, 112, 101, 99, 116, 101, 100, 45, 114, 101, 113, 117, 101, 115, 116], [119, 97, 105, 116])]
theorem laid_tabL : (Rows.laid_heliograph_fault_rows : DataW Unit) = .agg (tabL.map fun r => .agg [.lit (.string r.1), .lit (.string r.2)]) := by kernel_rfl
theorem tabL_at (i : Nat) (a b : List UInt8) (h : tabL[i]? = some (a, b)) : tabCs[i * 2]? = some (.string ⟨a.toArray⟩) ∧ tabCs[i * 2 + 1]? = some (.string ⟨b.toArray⟩) := by
  match i, h with
  | 0, h => cases h; exact ⟨rfl, rfl⟩
  | 1, h => cases h; exact ⟨rfl, rfl⟩
  | 2, h => cases h; exact ⟨rfl, rfl⟩
  | 3, h => cases h; exact ⟨rfl, rfl⟩
  | 4, h => cases h; exact ⟨rfl, rfl⟩
  | 5, h => cases h; exact ⟨rfl, rfl⟩
  | 6, h => cases h; exact ⟨rfl, rfl⟩
  | 7, h => cases h; exact ⟨rfl, rfl⟩
  | 8, h => cases h; exact ⟨rfl, rfl⟩
  | 9, h => cases h; exact ⟨rfl, rfl⟩
  | 10, h => cases h; exact ⟨rfl, rfl⟩
  | n + 11, h => simp [tabL] at h

theorem tab_cells {w : World} {base : Nat} {sp : Nat → Bool} {held : Bool} {fuel : Nat} {cs : Array Value} {p : List MemPlace}
    (h : DataW.trod (fun _ => ()) Tryd.prog w base sp held fuel 84 cs.toList = some (Rows.laid_heliograph_fault_rows, p)) : cs = tabCs := by
  rw [laid_tabL] at h
  obtain ⟨xs, m, _, hx, hl, hn, hf⟩ := DataW.trod_array Tryd.underlying84 h
  rw [cellsL46] at hl
  simp only [Prod.mk.injEq, DataW.agg.injEq] at hx
  have hrow : ∀ i, i < 11 → cs[i * 2]? = tabCs[i * 2]? ∧ cs[i * 2 + 1]? = tabCs[i * 2 + 1]? := by
    intro i hi
    have hi' : i < tabL.length := hi
    obtain ⟨ab, hab⟩ : ∃ ab, tabL[i]? = some ab := ⟨_, List.getElem?_eq_getElem hi'⟩
    obtain ⟨a, b⟩ := ab
    have h1 := hf i hi
    have h2 : (xs.map (·.1))[i]? = some (DataW.agg [.lit (.string a), .lit (.string b)]) := by
      rw [← hx.1]; simp [hab]
    rw [List.getElem?_map, Option.map_eq_some_iff] at h2
    obtain ⟨x, hx1, hx2⟩ := h2
    rw [hx1, cellsL45] at h1
    obtain ⟨d, q⟩ := x
    simp only at hx2
    subst hx2
    have h3 := row_cells h1
    have h4 := tabL_at i a b hab
    rw [h4.1, h4.2]
    have e0 := congrArg (·[0]?) h3
    have e1 := congrArg (·[1]?) h3
    simp [List.getElem?_drop] at e0 e1
    exact ⟨e0, e1⟩
  apply Array.ext_getElem?
  intro j
  by_cases hj : j < 22
  · have := hrow (j / 2) (by omega)
    rcases Nat.mod_two_eq_zero_or_one j with h0 | h0
    · rw [show j / 2 * 2 = j from by omega] at this; exact this.1
    · rw [show j / 2 * 2 + 1 = j from by omega] at this; exact this.2
  · have hs : cs.size = 22 := by simpa using hl
    rw [Array.getElem?_eq_none (by omega), Array.getElem?_eq_none (by show 22 ≤ j; omega)]

/-- A list whose head is this variable gives its cells. -/
theorem rows_of {W : World} {rest : List (String × DataW Unit)} (h : laidMet Tryd.prog (("heliograph/fault.rows", Rows.laid_heliograph_fault_rows) :: rest) W) : RowsLaid W := by
  obtain ⟨ps, ⟨g, t, cs, fuel, p, q, hg, ht, hv, hd, _, _⟩, _⟩ := h
  obtain rfl := Option.some.inj (gRows.symm.trans hg)
  obtain rfl := Option.some.inj (gRowsType.symm.trans ht)
  have hcs := tab_cells hd
  subst hcs
  simp only [World.var?, gRows, Option.bind_some] at hv
  split at hv
  · rename_i cs' t' fr hb
    cases hv
    exact ⟨t', fr, hb⟩
  · cases hv
end Go.Proofs.YtpknifioflagaaaDoor
