/- A request's words: the verbs, the roles, the accesses, the types of nodes. -/
import Derived.Test.YtimhkgpjfppkmaaDoorSmall
import Derived.Test.YtimhkgpjfppkmaaDoorToks
import Derived.Test.YtimhkgpjfppkmaaDoorDL
import Derived.Below
namespace Go.Proofs.YtimhkgpjfppkmaaDoor
open Go.RowKit

def verbsL : List ByteArray := [⟨#[]⟩, ⟨#[99, 114, 101, 97, 116, 101]⟩, ⟨#[114, 101, 109, 111, 118, 101]⟩, ⟨#[99, 111, 110, 102, 105, 103, 117, 114, 101]⟩, ⟨#[115, 117, 98, 115, 99, 114, 105, 98, 101]⟩, ⟨#[117, 110, 115, 117, 98, 115, 99, 114, 105, 98, 101]⟩, ⟨#[97, 112, 112, 114, 111, 118, 101]⟩, ⟨#[100, 101, 110, 121]⟩, ⟨#[97, 102, 102, 105, 108, 105, 97, 116, 101]⟩, ⟨#[112, 117, 98, 108, 105, 115, 104]⟩, ⟨#[114, 101, 116, 114, 97, 99, 116]⟩, ⟨#[112, 117, 114, 103, 101]⟩, ⟨#[105, 116, 101, 109, 115]⟩, ⟨#[97, 115, 115, 111, 99, 105, 97, 116, 101]⟩, ⟨#[100, 105, 115, 115, 111, 99, 105, 97, 116, 101]⟩, ⟨#[110, 111, 100, 101, 115]⟩]
def no16 (k : Nat) : List ByteArray := List.replicate k ⟨#[]⟩
def rolesL : List ByteArray := [⟨#[]⟩, ⟨#[111, 117, 116, 99, 97, 115, 116]⟩, ⟨#[110, 111, 110, 101]⟩, ⟨#[109, 101, 109, 98, 101, 114]⟩, ⟨#[112, 117, 98, 108, 105, 115, 104, 101, 114]⟩, ⟨#[111, 119, 110, 101, 114]⟩, ⟨#[]⟩, ⟨#[]⟩, ⟨#[]⟩, ⟨#[]⟩, ⟨#[]⟩, ⟨#[]⟩, ⟨#[]⟩, ⟨#[]⟩, ⟨#[]⟩, ⟨#[]⟩]
def accsL : List ByteArray := [⟨#[111, 112, 101, 110]⟩, ⟨#[97, 117, 116, 104, 111, 114, 105, 122, 101]⟩, ⟨#[119, 104, 105, 116, 101, 108, 105, 115, 116]⟩, ⟨#[]⟩, ⟨#[]⟩, ⟨#[]⟩, ⟨#[]⟩, ⟨#[]⟩, ⟨#[]⟩, ⟨#[]⟩, ⟨#[]⟩, ⟨#[]⟩, ⟨#[]⟩, ⟨#[]⟩, ⟨#[]⟩, ⟨#[]⟩]
def typesL : List ByteArray := [⟨#[108, 101, 97, 102]⟩, ⟨#[99, 111, 108, 108, 101, 99, 116, 105, 111, 110]⟩, ⟨#[]⟩, ⟨#[]⟩, ⟨#[]⟩, ⟨#[]⟩, ⟨#[]⟩, ⟨#[]⟩, ⟨#[]⟩, ⟨#[]⟩, ⟨#[]⟩, ⟨#[]⟩, ⟨#[]⟩, ⟨#[]⟩, ⟨#[]⟩, ⟨#[]⟩]
/-- Sixteen words as cells. -/
def w16 (L : List ByteArray) : Array Value := (L.map Value.string).toArray
theorem w16_verbs : w16 verbsL = #[.string ⟨#[]⟩, .string ⟨#[99, 114, 101, 97, 116, 101]⟩, .string ⟨#[114, 101, 109, 111, 118, 101]⟩, .string ⟨#[99, 111, 110, 102, 105, 103, 117, 114, 101]⟩, .string ⟨#[115, 117, 98, 115, 99, 114, 105, 98, 101]⟩, .string ⟨#[117, 110, 115, 117, 98, 115, 99, 114, 105, 98, 101]⟩, .string ⟨#[97, 112, 112, 114, 111, 118, 101]⟩, .string ⟨#[100, 101, 110, 121]⟩, .string ⟨#[97, 102, 102, 105, 108, 105, 97, 116, 101]⟩, .string ⟨#[112, 117, 98, 108, 105, 115, 104]⟩, .string ⟨#[114, 101, 116, 114, 97, 99, 116]⟩, .string ⟨#[112, 117, 114, 103, 101]⟩, .string ⟨#[105, 116, 101, 109, 115]⟩, .string ⟨#[97, 115, 115, 111, 99, 105, 97, 116, 101]⟩, .string ⟨#[100, 105, 115, 115, 111, 99, 105, 97, 116, 101]⟩, .string ⟨#[110, 111, 100, 101, 115]⟩] := rfl
theorem info16 : (Tryd.prog.info? 67).map (fun i => (i.zero, i.size, i.bytes)) = some (some (.agg (w16 (no16 16))), 16, 256) := by kernel_rfl
theorem w16_size {L : List ByteArray} (h : L.length = 16) : (w16 L).size = 16 := by simp [w16, h]
theorem w16_cell {W : World} {b : Nat} {T : TypeId} {L : List ByteArray} (hb : W.heap[b]? = some (.cells (w16 L) T)) {k : Nat} {s : ByteArray} (hk : L[k]? = some s) : W.cell? ⟨b, k, none⟩ = some (.string s) := by
  simp only [World.cell?, hb]
  simp [w16, hk]
/-- Sixteen words are loaded, stored. -/
theorem load_w16 {W : World} {b : Nat} {L : List ByteArray} (h : L.length = 16) (hb : W.heap[b]? = some (.cells (w16 L) 67)) : (Instr.loadAt 67 (.pointer (some ⟨b, 0, none⟩))).run Tryd.prog W = .ok (.agg (w16 L)) W := run_load_row info16 Tryd.underlying67 rfl (w16_size h) hb
theorem results_w16 {fn : Func} {tmps : Array Value} {w : World} {r : Nat} {l0 l1 l2 l3 l4 l5 l6 l7 l8 l9 l10 l11 l12 l13 l14 l15 : ByteArray} (h : fn.results = #[.cell 0 67]) (hp : tmps[0]?.getD undef = .pointer (some ⟨r, 0, none⟩)) (hb : w.heap[r]? = some (.cells (w16 [l0, l1, l2, l3, l4, l5, l6, l7, l8, l9, l10, l11, l12, l13, l14, l15]) 67)) : (results fn tmps).run Tryd.prog w = .ok (.agg (w16 [l0, l1, l2, l3, l4, l5, l6, l7, l8, l9, l10, l11, l12, l13, l14, l15])) w := by
  have c0 := w16_cell hb (k := 0) rfl
  have c1 := w16_cell hb (k := 1) rfl
  have c2 := w16_cell hb (k := 2) rfl
  have c3 := w16_cell hb (k := 3) rfl
  have c4 := w16_cell hb (k := 4) rfl
  have c5 := w16_cell hb (k := 5) rfl
  have c6 := w16_cell hb (k := 6) rfl
  have c7 := w16_cell hb (k := 7) rfl
  have c8 := w16_cell hb (k := 8) rfl
  have c9 := w16_cell hb (k := 9) rfl
  have c10 := w16_cell hb (k := 10) rfl
  have c11 := w16_cell hb (k := 11) rfl
  have c12 := w16_cell hb (k := 12) rfl
  have c13 := w16_cell hb (k := 13) rfl
  have c14 := w16_cell hb (k := 14) rfl
  have c15 := w16_cell hb (k := 15) rfl
  simp [results, h, hp, c0, c1, c2, c3, c4, c5, c6, c7, c8, c9, c10, c11, c12, c13, c14, c15, go_sem, Tryd.isAgg67, Tryd.sizeOf67]
  rfl
set_option maxRecDepth 100000 in
set_option maxHeartbeats 2000000 in
theorem verbs_any (w : World) : Calls Tryd.prog 34 #[] w fun e w' => e = .returned (.agg (w16 verbsL)) ∧ Below w.heap.size w w' := by
  go_enter Tryd.func34, Tryd.ntmps34
  go_wp2_with fail
  refine bodyPost_ret (results_w16 rfl rfl (World.alloc_heap_new w (.cells (w16 verbsL) 67))) rfl ⟨rfl, (Below.refl _ w).alloc (Nat.le_refl _) _⟩
set_option maxRecDepth 100000 in
set_option maxHeartbeats 2000000 in
theorem roles_any (w : World) : Calls Tryd.prog 36 #[] w fun e w' => e = .returned (.agg (w16 rolesL)) ∧ Below w.heap.size w w' := by
  go_enter Tryd.func36, Tryd.ntmps36
  go_wp2_with fail
  refine bodyPost_ret (results_w16 rfl rfl (World.alloc_heap_new w (.cells (w16 rolesL) 67))) rfl ⟨rfl, (Below.refl _ w).alloc (Nat.le_refl _) _⟩
set_option maxRecDepth 100000 in
set_option maxHeartbeats 2000000 in
theorem accesses_any (w : World) : Calls Tryd.prog 37 #[] w fun e w' => e = .returned (.agg (w16 accsL)) ∧ Below w.heap.size w w' := by
  go_enter Tryd.func37, Tryd.ntmps37
  go_wp2_with fail
  refine bodyPost_ret (results_w16 rfl rfl (World.alloc_heap_new w (.cells (w16 accsL) 67))) rfl ⟨rfl, (Below.refl _ w).alloc (Nat.le_refl _) _⟩
set_option maxRecDepth 100000 in
set_option maxHeartbeats 2000000 in
theorem types_any (w : World) : Calls Tryd.prog 39 #[] w fun e w' => e = .returned (.agg (w16 typesL)) ∧ Below w.heap.size w w' := by
  go_enter Tryd.func39, Tryd.ntmps39
  go_wp2_with fail
  refine bodyPost_ret (results_w16 rfl rfl (World.alloc_heap_new w (.cells (w16 typesL) 67))) rfl ⟨rfl, (Below.refl _ w).alloc (Nat.le_refl _) _⟩
end Go.Proofs.YtimhkgpjfppkmaaDoor
