/- TopNames' list of variables. -/
import Derived.Test.YtnlmohegkmegcacDoorLaidRows
import Derived.Test.YtnlmohegkmegcacDoorLaidEnt
import Derived.LaidHandle
namespace Go.Proofs.YtnlmohegkmegcacDoor
open Go.RowKit

theorem top_laid {W : World} (h : laidMetH Tryd.prog Rows.topNamesRow.laid W) : RowsLaid W ∧ EntLaid W := by
  have h' : laidMet Tryd.prog [("heliograph/fault.rows", Rows.laid_heliograph_fault_rows), ("heliograph/text.entities", Rows.laid_heliograph_text_entities)] W := h
  refine ⟨rows_of h', ?_⟩
  obtain ⟨ps, ⟨g, t, cs, fuel, p, q, _, _, _, _, htail, _⟩, _⟩ := h'
  exact ent_of htail
theorem top_met (os : Os) (args : Array Value) : laidMetH Tryd.prog Rows.topNamesRow.laid (({ World.holding Tryd.prog os ⟨#[], #[], []⟩ with heap := ((World.holding Tryd.prog os ⟨#[], #[], []⟩).heap.modify 0 (lay tabCs)).modify 3 (lay entCs) } : World).forCall (fun _ _ => 0) ⟨#[], args, []⟩).memory :=
  laidMet_of_run' 8 (by kernel_rfl) (by kernel_rfl)
end Go.Proofs.YtnlmohegkmegcacDoor
