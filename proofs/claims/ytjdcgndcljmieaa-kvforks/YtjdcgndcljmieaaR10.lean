/- Fork of both maps. -/
import Derived.Test.YtjdcgndcljmieaaKG
import Derived.Shelf.SlMaps.Clone
namespace Go.Proofs.Ytjdcgndcljmieaa
open Go.RowKit Go.Proofs

set_option maxRecDepth 100000 in
set_option maxHeartbeats 2000000 in
theorem mclone_any (b : Nat) (es : Array MapEntry) (clock : Nat) (w : World) (hb : w.heap[b]? = some (.map es clock)) :
    Calls Try.prog 37 #[.map (some b)] w fun e w' => e = .returned (.map (some w.heap.size)) ∧ w' = w.alloc (.map es clock) := by
  have hq := fun w => run_eql_map_nil_sl (P := Try.prog) w 68 _ _ (some b) Try.underlying68
  go_enter Try.func37, Try.ntmps37
  go_wp2
  rw [run_callFunc_extern Try.func46 (by kernel_rfl) (by kernel_rfl) (by kernel_rfl) (e := Extern.MapsClone.clone) (by kernel_rfl), run_maps_clone_sl w 68 hb]
  simp only [Result.andThen]
  rw [Oper.upon_value]
  go_wp2
  rw [run_typeAssert_map_sl _ 68 20 _ _ _ Try.underlying68]
  simp only [Result.andThen]
  rw [Oper.upon_value]
  go_wp2
  go_ret
  exact ⟨rfl, rfl⟩
set_option maxRecDepth 100000 in
theorem fork_any (base p b : Nat) (L : List Pr) (w : World) (h : IsM base p b L w) :
    Calls Try.prog 18 #[.pointer (some ⟨p, 0, none⟩)] w fun e w' => ∃ p' b', e = .returned (.pointer (some ⟨p', 0, none⟩)) ∧ IsM w.heap.size p' b' L w' ∧ Below w.heap.size w w' := by
  have c0 := h.cell
  have HH := hide h
  obtain ⟨l, c, hb, r⟩ := h.held
  have HC := hide (mclone_any b _ c w hb)
  have HR := hide r
  clear h r hb
  go_enter Try.func18, Try.ntmps18
  go_wp2_with (first
    | (go_at_call 37; refine HC.out.mono ?_; rintro e w1 ⟨rfl, rfl⟩))
  go_ret
  have h1 := heap_alloc_new w (.map (enA l) c)
  have h2 := heap_alloc_new (w.alloc (.map (enA l) c)) (.cells #[.map (some w.heap.size)] 70)
  have hs : (w.alloc (.map (enA l) c)).heap.size = w.heap.size + 1 := by simp
  refine ⟨(w.alloc (.map (enA l) c)).heap.size, w.heap.size, by simp, ⟨by omega, Nat.le_refl _, h2, HH.out.rise, l, c, ?_, HR.out⟩, ((Below.refl _ w).alloc (Nat.le_refl _) _).alloc (by omega) _⟩
  rw [Below.heap_alloc _ _ _ (by omega)]
  exact h1
/-- All of a row behind an empty one. -/
theorem copy_pairs {base : Nat} {ga : Option Addr} {m gc : Nat} {L : List Pr} {w W : World} (h : w.ownsRow base 55 2 (.slice ga m gc) m (pairC L)) (hm : m = L.length) (hl : m ≤ 128) (hW : w.alloc (.cells #[] 55) = W) :
    ∃ v' w', (Builtin.append_ #[52, 52] 52 #[.slice (some ⟨w.heap.size, 0, none⟩) 0 0, .slice ga m gc]).run Try.prog W = .ok v' w' ∧ Prs w' w.heap.size v' L ∧ Below w.heap.size w w' := by
  have hB : Below w.heap.size w W := by rw [← hW]; exact (Below.refl _ w).alloc (Nat.le_refl _) _
  have hv : W.ownsRow w.heap.size 55 2 (.slice (some ⟨w.heap.size, 0, none⟩) 0 0) 0 [] := by rw [← hW]; exact own_empty w _ _ _ (Nat.le_refl _)
  have h' : W.ownsRow base 55 2 (.slice ga m gc) m (pairC L) := own_same h (fun g e => hB.block g (own_lt h g e))
  obtain ⟨ti, t1, t2, t3, t4⟩ := info_parts infoPair
  obtain ⟨hl', ⟨h2, h3⟩ | ⟨g, cap, cur, h2, _⟩⟩ := id h'
  · subst h3
    cases h2
    have hx : L = [] := List.eq_nil_of_length_eq_zero hm.symm
    subst hx
    exact ⟨_, _, run_append_owned_none (P := Try.prog) W w.heap.size _ _ _ ti 2 Try.underlying52 t1 _ 0 [] hv, hv, hB⟩
  · cases h2
    have hone : ∀ u ∈ pairC L, u.oneCell' = true := by
      intro u hu
      simp [pairC, pairC1] at hu
      obtain ⟨a, b, _, rfl | rfl⟩ := hu <;> rfl
    obtain ⟨v', w', hap, y1, y2, _, y4⟩ := run_append_own_at (P := Try.prog) W w.heap.size 52 52 55 ti _ 2 32 Try.underlying52 t1 t2 t3 t4 rfl (by omega) (.slice (some ⟨w.heap.size, 0, none⟩) 0 0) 0 [] hv ⟨g, 0, none⟩ m gc (pairC L) hl' (h'.cells rfl) hone (by unfold maxLen; omega) (by omega) hB.size
    refine ⟨v', w', hap, ?_, hB.grown y2 hB.size (fun r e => by cases e; exact Nat.le_refl _)⟩
    show w'.ownsRow _ _ _ _ _ _
    rw [← hm]
    simpa using y1
set_option maxRecDepth 100000 in
theorem rfork_any (base p : Nat) (v : Value) (L : List Pr) (w : World) (h : IsR base p v L w) :
    Calls Try.prog 19 #[.pointer (some ⟨p, 0, none⟩)] w fun e w' => ∃ p' v', e = .returned (.pointer (some ⟨p', 0, none⟩)) ∧ IsR w.heap.size p' v' L w' ∧ Below w.heap.size w w' := by
  have hc := h.cell
  obtain ⟨m, hm⟩ : ∃ m, L.length = m := ⟨_, rfl⟩
  have hrow : w.ownsRow base 55 2 v m (pairC L) := by rw [← hm]; exact h.row
  have hfew := h.few
  rw [hm] at hfew
  obtain ⟨ga, gc, rfl⟩ := own_shape hrow
  have HH := hide h
  obtain ⟨W, hW⟩ : ∃ W, w.alloc (.cells #[] 55) = W := ⟨_, rfl⟩
  obtain ⟨v', w1, hap, y1, y2⟩ := copy_pairs hrow hm.symm hfew hW
  have hcW : W.cell? ⟨p, 0, none⟩ = some (.slice ga m gc) := by rw [← hW]; exact (((Below.refl _ w).alloc (Nat.le_refl _) _).cell (p := ⟨p, 0, none⟩) (hp_lt h.here)).trans hc
  obtain ⟨m', hm'⟩ : ∃ ga' gc', v' = .slice ga' m gc' := by
    have := own_shape y1
    rwa [hm] at this
  obtain ⟨gc', rfl⟩ := hm'
  have HA := hide hap
  have HY := hide (And.intro y1 y2)
  clear h hrow hm hap y1 y2
  go_enter Try.func19, Try.ntmps19
  go_wp2_with (first
    | (at_builtin; refine l_val rfl _ (ex_append2 (t := 52) (t' := 52) rfl rfl rfl HA.out) ?_))
  go_ret
  have hsz := HY.out.2.size
  have h2 := heap_alloc_new w1 (.cells #[.slice m' m gc'] 74)
  have hB2 : Below w1.heap.size w1 (w1.alloc (.cells #[.slice m' m gc'] 74)) := (Below.refl _ w1).alloc (Nat.le_refl _) _
  exact ⟨_, _, rfl, ⟨hsz, h2, own_same HY.out.1 (fun g e => hB2.block g (own_lt HY.out.1 g e)), HH.out.rise, HH.out.few⟩, HY.out.2.trans (hB2.mono hsz)⟩
end Go.Proofs.Ytjdcgndcljmieaa
