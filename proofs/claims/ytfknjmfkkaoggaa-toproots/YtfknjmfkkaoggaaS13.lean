/- Slots: Load, Turn, Room. -/
import Derived.Test.YtfknjmfkkaoggaaS12
namespace Go.Proofs.Ytfknjmfkkaoggaa
open Go.RowKit Go.Shelf

/-- A store in memory. -/
structure IsS (base q p : Nat) (d : Dv) (vl vw : Value) (w : World) : Prop where
  here : w.heap[q]? = some (.cells #[.pointer (some ⟨p, 0, none⟩)] 81)
  low : base ≤ q
  dev : IsD base p d vl vw w
theorem IsS.load {base q p : Nat} {d : Dv} {vl vw : Value} {w : World} (h : IsS base q p d vl vw w) : (Instr.loadAt 79 (.pointer (some ⟨q, 0, none⟩))).run Try.prog w = .ok (.agg #[.pointer (some ⟨p, 0, none⟩)]) w :=
  run_load_row infoH Try.underlying79 rfl rfl h.here
theorem held_2 (a b c : Value) (w : World) : (Instr.field 77 (.agg #[a, b, c]) 2).run Try.prog w = .ok c w := by kernel_rfl
theorem held_1 (a b c : Value) (w : World) : (Instr.field 77 (.agg #[a, b, c]) 1).run Try.prog w = .ok b w := by kernel_rfl
set_option maxRecDepth 100000 in
set_option maxHeartbeats 2000000 in
theorem load_any (base q p : Nat) (d : Dv) (vl vw : Value) (w : World) (h : IsS base q p d vl vw w) (hd : DvOk d) (h2 : 4 ≤ d.las.length) (h3 : d.las.length ≤ 4096) :
    Calls Try.prog 20 #[.pointer (some ⟨q, 0, none⟩)] w fun e w' => ∃ ga gc, e = .returned (.slice ga (theL d).bytes.length gc) ∧ w'.ownsRow w.heap.size 5 1 (.slice ga (theL d).bytes.length gc) (theL d).bytes.length (Lib.byteCells (theL d).bytes) ∧ Below w.heap.size w w' := by
  have f1 := held_1
  have f2 := held_2
  have HL := hide h.load
  have HT := hide (theSlot_any base p d vl vw w h.dev hd h2 h3)
  unfold hv at HT
  clear h hd
  go_enter Try.func20, Try.ntmps20
  go_wp2_with (first
    | (refine l_load _ HL.out rfl rfl rfl ?_)
    | (go_at_call 44; refine HT.out.mono ?_; rintro e w3 ⟨ga, gc, rfl, o3, b3⟩; have H3 := hide (And.intro o3 b3); clear o3 b3))
  go_ret
  exact ⟨ga, gc, rfl, H3.out.1, H3.out.2⟩
set_option maxRecDepth 100000 in
set_option maxHeartbeats 2000000 in
theorem turn_any (base q p : Nat) (d : Dv) (vl vw : Value) (w : World) (h : IsS base q p d vl vw w) (hd : DvOk d) (h2 : 4 ≤ d.las.length) (h3 : d.las.length ≤ 4096) :
    Calls Try.prog 21 #[.pointer (some ⟨q, 0, none⟩)] w fun e w' => e = .returned (.int .u64 (theL d).turn.toNat) ∧ Below w.heap.size w w' := by
  have f1 := held_1
  have f2 := held_2
  have HL := hide h.load
  have HT := hide (theSlot_any base p d vl vw w h.dev hd h2 h3)
  unfold hv at HT
  clear h hd
  go_enter Try.func21, Try.ntmps21
  go_wp2_with (first
    | (refine l_load _ HL.out rfl rfl rfl ?_)
    | (go_at_call 44; refine HT.out.mono ?_; rintro e w3 ⟨ga, gc, rfl, o3, b3⟩; have H3 := hide (And.intro o3 b3); clear o3 b3))
  go_ret
  exact ⟨rfl, H3.out.2⟩
set_option maxRecDepth 100000 in
set_option maxHeartbeats 2000000 in
theorem Room_any (base q p : Nat) (d : Dv) (vl vw : Value) (w : World) (h : IsS base q p d vl vw w) (h2 : 4 ≤ d.las.length) (h3 : d.las.length ≤ 4096) :
    Calls Try.prog 23 #[.pointer (some ⟨q, 0, none⟩)] w fun e w' => e = .returned (.int .i64 ((d.las.length - 2) / 2 * 64 : Nat)) ∧ Below w.heap.size w w' := by
  have HL := hide h.load
  have HT := hide (room_any base p d vl vw w h.dev h2 h3)
  unfold hv at HT
  clear h
  go_enter Try.func23, Try.ntmps23
  go_wp2_with (first
    | (refine l_load _ HL.out rfl rfl rfl ?_)
    | (go_at_call 48; refine HT.out.mono ?_; rintro e w3 ⟨rfl, b3⟩; have H3 := hide b3; clear b3))
  go_ret
  exact ⟨rfl, H3.out⟩
end Go.Proofs.Ytfknjmfkkaoggaa
