/- Cond, Is, Place, Depth. -/
import Derived.Test.YtnlmohegkmegcaaDoorD
namespace Go.Proofs.YtnlmohegkmegcaaDoor
open Go.RowKit

theorem cond_any (c : Int) (ps : List Int) (v : Value) (w : World) (hL : Laid w) (hch : Chain w c ps v) (h1 : 1 ≤ c) :
    Calls Tryd.prog 18 #[v] w fun e w' => e = .returned (.tuple #[.int .i64 c, .bool true]) ∧ Below w.heap.size w w' := by
  have H := hide (show _ ∧ _ from ⟨hL, hch⟩)
  clear hL hch
  go_enter Tryd.func18, Tryd.ntmps18
  go_wp2_with (go_at_call 25; refine (first_made c ps v _ H.out.1 H.out.2 h1).mono ?_; rintro e w' ⟨rfl, hb⟩)
  go_ret2
  exact ⟨rfl, hb.alloc hb.size _⟩
theorem cond_nil (w : World) :
    Calls Tryd.prog 18 #[.nilIface] w fun e w' => e = .returned (.tuple #[.int .i64 0, .bool false]) ∧ Below w.heap.size w w' := by
  go_enter Tryd.func18, Tryd.ntmps18
  go_wp2_with (go_at_call 25; refine (first_made_nil _).mono ?_; rintro e w' ⟨rfl, hb⟩)
  go_ret2
  exact ⟨rfl, hb.alloc hb.size _⟩
theorem isF_any (c d : Int) (ps : List Int) (v : Value) (w : World) (hch : Chain w c ps v) :
    Calls Tryd.prog 19 #[v, .int .i64 d] w fun e w' => e = .returned (.bool (c == d)) ∧ Below w.heap.size w w' := by
  have H := hide hch
  clear hch
  go_enter Tryd.func19, Tryd.ntmps19
  go_wp2_with (go_at_call 26; refine (has_chain c d ps v _ H.out).mono ?_; rintro e w' ⟨rfl, hb⟩)
  go_ret
  exact ⟨rfl, hb⟩
theorem isF_nil (d : Int) (w : World) :
    Calls Tryd.prog 19 #[.nilIface, .int .i64 d] w fun e w' => e = .returned (.bool false) ∧ Below w.heap.size w w' := by
  go_enter Tryd.func19, Tryd.ntmps19
  go_wp2_with (go_at_call 26; refine (has_nil d _).mono ?_; rintro e w' ⟨rfl, hb⟩)
  go_ret
  exact ⟨rfl, hb⟩
theorem place_hit (b : Nat) (p : Int) (w : World) (hL : Laid w) (hc : w.cell? ⟨b, 1, none⟩ = some (.int .i64 p)) :
    Calls Tryd.prog 21 #[.iface 52 (.pointer (some ⟨b, 0, none⟩))] w fun e w' => e = .returned (.tuple #[.int .i64 p, .bool true]) ∧ Below w.heap.size w w' := by
  have H := hide hL
  have Hc := hide hc
  clear hL hc
  go_enter Tryd.func21, Tryd.ntmps21
  go_wp2_with fail
  refine (first_placed b _ H.out).mono ?_
  rintro e w' ⟨rfl, hb⟩
  have hc' := (hb.cell (p := ⟨b, 1, none⟩) (lt_of_cell Hc.out)).trans Hc.out
  go_wp2_with fail
  go_ret2
  exact ⟨rfl, hb⟩
theorem place_no (c : Int) (w : World) (hL : Laid w) :
    Calls Tryd.prog 21 #[.iface 48 (.agg #[.int .i64 c])] w fun e w' => e = .returned (.tuple #[.int .i64 0, .bool false]) ∧ Below w.heap.size w w' := by
  have H := hide hL
  clear hL
  go_enter Tryd.func21, Tryd.ntmps21
  go_wp2_with (go_at_call 27; refine (first_placed_no c _ H.out).mono ?_; rintro e w' ⟨rfl, hb⟩)
  go_ret2
  exact ⟨rfl, hb⟩
theorem place_nil (w : World) :
    Calls Tryd.prog 21 #[.nilIface] w fun e w' => e = .returned (.tuple #[.int .i64 0, .bool false]) ∧ Below w.heap.size w w' := by
  go_enter Tryd.func21, Tryd.ntmps21
  go_wp2_with (go_at_call 27; refine (first_placed_nil _).mono ?_; rintro e w' ⟨rfl, hb⟩)
  go_ret2
  exact ⟨rfl, hb⟩
theorem depth_nil (w : World) :
    Calls Tryd.prog 20 #[.nilIface] w fun e w' => e = .returned (.int .i64 0) ∧ Below w.heap.size w w' := by
  go_enter Tryd.func20, Tryd.ntmps20
  go_wp2_with (go_at_call 27; refine (first_placed_nil _).mono ?_; rintro e w' ⟨rfl, hb⟩)
  refine wp_loop_rounds 1 ?_
  rw [rounds_succ]
  go_wp2_with fail
  go_ret
  exact ⟨rfl, hb⟩

/-- What 'first' hands Depth of a chain: the outermost wrapping, or none. -/
def Peeled (w : World) (c : Int) : List Int → Value → Value → Prop
  | [], p, ok => p = .pointer none ∧ ok = .bool false
  | _ :: qs, p, ok => ∃ b v', p = .pointer (some ⟨b, 0, none⟩) ∧ ok = .bool true ∧ w.cell? ⟨b, 0, none⟩ = some v' ∧ Chain w c qs v'

theorem first_peels (c : Int) (ps : List Int) (v : Value) (w0 w : World) (hL : Laid w) (hch : Chain w0 c ps v) :
    Calls Tryd.prog 27 #[v] w fun e w' => (∃ p ok, e = .returned (.tuple #[p, ok]) ∧ Peeled w0 c ps p ok) ∧ Below w.heap.size w w' := by
  cases ps with
  | nil =>
    have hv : v = _ := hch
    subst hv
    refine (first_placed_no c w hL).mono ?_
    rintro e w' ⟨rfl, hb⟩
    exact ⟨⟨_, _, rfl, rfl, rfl⟩, hb⟩
  | cons q qs =>
    obtain ⟨b, v', rfl, h1, h2, h3⟩ := hch
    refine (first_placed b w hL).mono ?_
    rintro e w' ⟨rfl, hb⟩
    exact ⟨⟨_, _, rfl, b, v', rfl, rfl, h1, h3⟩, hb⟩

set_option maxHeartbeats 1000000 in
theorem depth_any (c : Int) (ps : List Int) (v : Value) (w : World) (hL : Laid w) (hch : Chain w c ps v) (hlen : ps.length ≤ 1000000) :
    Calls Tryd.prog 20 #[v] w fun e w' => e = .returned (.int .i64 ps.length) ∧ Below w.heap.size w w' := by
  have H := hide (show _ ∧ _ from ⟨hL, hch⟩)
  clear hL hch
  go_enter Tryd.func20, Tryd.ntmps20
  go_wp2_with fail
  refine (first_peels c ps v w _ H.out.1 H.out.2).mono ?_
  rintro e w' ⟨⟨p, ok, rfl, hp⟩, hb⟩
  have Hp := hide hp
  clear hp
  go_wp2_with fail
  go_loopg [3, 4, 5] (ps.length + 1) (fun k n p ok wr => ∃ (m : Nat) (qs : List Int), k = qs.length + 1 ∧ m + qs.length = ps.length ∧ n = .int .i64 m ∧ Peeled w c qs p ok ∧ Below w.heap.size w wr)
  case atStart => exact ⟨0, ps, rfl, by omega, rfl, Hp.out, hb⟩
  case round =>
    obtain ⟨m, qs, hk, hm, rfl, hpe, hb'⟩ := hrel
    clear hb Hp
    cases qs with
    | nil =>
      obtain ⟨rfl, rfl⟩ := hpe
      have Hm := hide hm
      clear hm
      go_wp2_with fail
      go_ret
      exact ⟨by have := Hm.out; simp at this; rw [this]; rfl, hb'⟩
    | cons q rs =>
      obtain ⟨b, v', rfl, rfl, h1, h2⟩ := hpe
      have Hk := hide (show _ ∧ _ from ⟨hk, hm⟩)
      have h1' := (hb'.cell (p := ⟨b, 0, none⟩) (lt_of_cell h1)).trans h1
      have hlt : m < ps.length := by simp at hm; omega
      have H2 := hide h2
      clear hk hm h1 h2
      go_wp2_with fail
      refine (first_peels c rs v' w wr (H.out.1.below hb' H.out.1.size) H2.out).mono ?_
      rintro e w2 ⟨⟨p2, ok2, rfl, hp2⟩, hb2⟩
      have Hp2 := hide hp2
      clear hp2
      go_wp2_with fail
      go_roundg (rs.length + 1)
      case measure => have := Hk.out.1; simp at this; omega
      case rel => exact ⟨m + 1, rs, rfl, by have := Hk.out.2; simp at this; omega, by go_num, Hp2.out, hb'.trans (hb2.mono hb'.size)⟩

theorem name2 (w : World) (hl : Laid w) : Calls Tryd.prog 12 #[.int .i64 2] w fun e w' => e = .returned (.string ⟨#[99, 111, 110, 102, 108, 105, 99, 116]⟩) ∧ w' = w := name_yes 2 w (by omega) (by omega) hl
theorem type2 (w : World) (hl : Laid w) : Calls Tryd.prog 14 #[.int .i64 2] w fun e w' => e = .returned (.string ⟨#[99, 97, 110, 99, 101, 108]⟩) ∧ w' = w := type_yes 2 w (by omega) (by omega) hl

/-- live: Cond of a wrapped Conflict, its name and its type. -/
theorem live_any (w : World) (hL : Laid w) : Calls Tryd.prog 11 #[] w fun e w' => e = .returned (.bool true) ∧ Below w.heap.size w w' := by
  have hb0 : Below w.heap.size w (w.alloc (.cells #[.iface 48 (.agg #[.int .i64 2]), .int .i64 7] 56)) := (Below.refl _ _).alloc (Nat.le_refl _) _
  have hL1 := hL.below hb0 hL.size
  have hch : Chain (w.alloc (.cells #[.iface 48 (.agg #[.int .i64 2]), .int .i64 7] 56)) 2 [7] (.iface 52 (.pointer (some ⟨w.heap.size, 0, none⟩))) := ⟨w.heap.size, .iface 48 (.agg #[.int .i64 2]), rfl, by simp, by simp, rfl⟩
  have H := hide (show _ ∧ _ ∧ _ ∧ _ from ⟨hL, hL1, hch, hb0⟩)
  clear hL hL1 hch hb0
  go_enter Tryd.func11, Tryd.ntmps11
  go_wp2_with (first | (go_at_call 16; refine (make_yes 2 _ (by omega) (by omega)).mono ?_; rintro e w' ⟨rfl, rfl⟩) | (go_at_call 22; refine (wrap_any 48 (.agg #[.int .i64 2]) 7 _).mono ?_; rintro e w' ⟨rfl, rfl⟩))
  refine (cond_any 2 [7] _ _ H.out.2.1 H.out.2.2.1 (by omega)).mono ?_
  rintro e w2 ⟨rfl, hb⟩
  have hb2 := H.out.2.2.2.trans (hb.mono (by simp))
  have HL2 := hide (H.out.1.below hb2 H.out.1.size)
  clear H hb
  go_wp2_with (first | (go_at_call 12; refine (name2 _ HL2.out).mono ?_; rintro e w' ⟨rfl, rfl⟩) | (go_at_call 14; refine (type2 _ HL2.out).mono ?_; rintro e w' ⟨rfl, rfl⟩))
  go_ret
  exact ⟨rfl, hb2⟩
end Go.Proofs.YtnlmohegkmegcaaDoor
