/- What must be whatever is asked, of the parser. -/
import Derived.Test.YtbhedmdbejoinaaDoorXl1
import Derived.Lib.SmallJoins
namespace Go.Proofs.YtbhedmdbejoinaaDoor
open Go.RowKit

theorem row_cells {base : Nat} {w : World} {v : Value} {l : List TokV} (h : ElRow base w v l) {k : Nat} {x : TokV} (hk : l[k]? = some x) : ∃ g cap, v = .slice (some ⟨g, 0, none⟩) l.length cap ∧ l.length ≤ cap ∧ w.cell? ⟨g, k * 4, none⟩ = some (.int .u8 x.1.kind) ∧ w.cell? ⟨g, k * 4 + 1, none⟩ = some (.string x.1.name) ∧ w.cell? ⟨g, k * 4 + 3, none⟩ = some (.string x.1.text) := by
  have hlt := (List.getElem?_eq_some_iff.1 hk).1
  obtain ⟨hl', ⟨e, hn⟩ | ⟨g, cap, cur, e, hb, hg, hc', _, hs, ht⟩⟩ := id h.1
  · omega
  · obtain ⟨q1, q2, q3, q4⟩ := tokCells_at l k x hk
    rw [← ht, List.getElem?_take_of_lt (by omega)] at q1 q2 q3 q4
    refine ⟨g, cap, e, hc', ?_, ?_, ?_⟩ <;> (simp [World.cell?, hg]; first | simpa using q1 | simpa using q2 | simpa using q4)
theorem Sim.ok {a b : PS} (h : Sim a b) (hb : b.broken = 0) : a = b := by
  rcases h with h | h
  · exact h
  · exact absurd hb h.1
theorem FeedF_of {st : PS} (h : st.broken = 0) (l : List UInt8) : FeedF st l = feedF st l := by
  unfold FeedF
  rw [if_pos h]
theorem own_ne_mark {W : World} {base e n b : Nat} {size : Nat} {v : Value} {xs : List Value} {cs : Array Value} {T : TypeId} {fr : Nat × Nat} (h : W.ownsRow base e size v n xs) (hb : W.heap[b]? = some (.cells cs T fr)) (hT : T ≠ e) : some b ≠ v.ownBlock := by
  intro e1
  obtain ⟨_, ⟨rfl, _⟩ | ⟨g', cap, cur, rfl, _, hg', _⟩⟩ := h
  · cases e1
  · cases e1
    rw [hg'] at hb
    cases hb
    exact hT rfl
/-- Bytes in a block of their own. -/
theorem bytes_block {base p : Nat} {st : PS} {w : World} {vw vo : Value} {b : Nat} {l : List UInt8} {cs : Array Value} {fr : Nat × Nat} (hP : IsP base p st vw vo w) (hb : w.heap[b]? = some (.cells cs 5 fr)) (hne : some b ≠ vw.ownBlock) (hc : ∀ (j : Nat) (c : UInt8), l[j]? = some c → cs[j]? = some (Value.int .u8 c.toNat)) : Bytes w p vw vo (some ⟨b, 0, none⟩) l := by
  have hbp : b ≠ p := by
    intro e
    subst e
    have h := hP.2.1
    rw [hb] at h
    cases h
  refine ⟨fun j c hj => ⟨b, 0, rfl, (Array.getElem?_eq_some_iff.1 hb).1, hbp, hne, own_ne_mark hP.2.2.2 hb (by decide), ?_⟩⟩
  have h := hc j c hj
  simp [World.cell?, hb]
  simpa using h

set_option maxRecDepth 100000 in
set_option maxHeartbeats 2000000 in
theorem live_any (w : World) (hE : Env w) (h4 : 4 ≤ w.heap.size) : Calls Tryd.prog 12 #[] w fun e w' => e = .returned (.bool true) ∧ Below w.heap.size w w' := by
  have HE := hide hE
  clear hE
  go_enter Tryd.func12, Tryd.ntmps12
  go_wp2_with fail
  refine (new_any w).mono ?_
  rintro e w1 ⟨rfl, hP1, hz1, hb1⟩
  obtain ⟨W2, hW2⟩ : ∃ W2, w1.alloc (.cells #[.int .u8 60, .int .u8 97, .int .u8 32, .int .u8 98, .int .u8 61, .int .u8 39, .int .u8 49, .int .u8 39, .int .u8 62, .int .u8 120] 5 (10, 11)) = W2 := ⟨_, rfl⟩
  have f2 : W2.heap[w1.heap.size]? = some (.cells #[.int .u8 60, .int .u8 97, .int .u8 32, .int .u8 98, .int .u8 61, .int .u8 39, .int .u8 49, .int .u8 39, .int .u8 62, .int .u8 120] 5 (10, 11)) := by rw [← hW2]; exact World.alloc_heap_new w1 _
  have hb2 : Below w1.heap.size w1 W2 := by rw [← hW2]; exact (Below.refl _ w1).alloc (Nat.le_refl _) _
  have hz2 : W2.heap.size = w1.heap.size + 1 := by rw [← hW2]; simp
  have hP2 := hP1.below hb2
  have hB2 : Bytes W2 w.heap.size (.slice none 0 0) (.slice none 0 0) (some ⟨w1.heap.size, 0, none⟩) [60, 97, 32, 98, 61, 39, 49, 39, 62, 120] := bytes_block hP2 f2 (by intro h; cases h) (fun j c hj => by
    match j, hj with
    | 0, hj => cases hj; rfl
    | 1, hj => cases hj; rfl
    | 2, hj => cases hj; rfl
    | 3, hj => cases hj; rfl
    | 4, hj => cases hj; rfl
    | 5, hj => cases hj; rfl
    | 6, hj => cases hj; rfl
    | 7, hj => cases hj; rfl
    | 8, hj => cases hj; rfl
    | 9, hj => cases hj; rfl
    | n + 10, hj => simp at hj)
  have hE2 : Env W2 := (HE.out.below hb1 h4).below hb2 (by omega)
  have hfe := Feed_any w.heap.size w.heap.size st0 _ _ _ 10 _ W2 hP2 inv0 hE2 h4 h4 hB2 (by decide)
  have hFF : FeedF st0 [60, 97, 32, 98, 61, 39, 49, 39, 62, 120] = (live1, [⟨1, ⟨#[97]⟩, [(⟨#[98]⟩, ⟨#[49]⟩)], ⟨#[]⟩⟩]) := (FeedF_of rfl _).trans feed_live1
  rw [hFF] at hfe
  have HW2 := hide hW2
  have cv2 : (convert 22 22 (.slice (some ⟨w1.heap.size, 0, none⟩) 10 10)).run Tryd.prog (w1.alloc (.cells #[.int .u8 60, .int .u8 97, .int .u8 32, .int .u8 98, .int .u8 61, .int .u8 39, .int .u8 49, .int .u8 39, .int .u8 62, .int .u8 120] 5)) = .ok (.slice (some ⟨w1.heap.size, 0, none⟩) 10 10) W2 := by rw [← hW2]; exact Lib.run_convert_bytes_const w1 _ 5 _ 10 10 Tryd.underlying22 Tryd.underlying5
  have H2 := hide (And.intro hfe (And.intro (hb1.trans (hb2.mono (by omega))) (And.intro hE2 hP2)))
  have HZ1 := hide hz1
  clear hfe hFF hB2 hE2 hP2 hb2 f2 hP1 hb1 hz1 hW2
  go_wp2_with fail
  refine H2.out.1.mono ?_
  rintro e w3 ⟨st3, v3, l3, vw3, vo3, rfl, q1, q2, q3, q4⟩
  obtain rfl : st3 = live1 := q4.ok rfl
  obtain ⟨x3, rfl, hx3⟩ : ∃ x3, l3 = [x3] ∧ x3.1 = ⟨1, ⟨#[97]⟩, [(⟨#[98]⟩, ⟨#[49]⟩)], ⟨#[]⟩⟩ := by
    have hl : l3.length = 1 := by simpa using congrArg List.length q1
    obtain ⟨x, hx⟩ := List.length_eq_one_iff.1 hl
    rw [hx] at q1
    exact ⟨x, hx, by simpa using q1⟩
  obtain ⟨W4, hW4⟩ : ∃ W4, w3.alloc (.cells #[.int .u8 60, .int .u8 47, .int .u8 97, .int .u8 62] 5 (4, 5)) = W4 := ⟨_, rfl⟩
  have f4 : W4.heap[w3.heap.size]? = some (.cells #[.int .u8 60, .int .u8 47, .int .u8 97, .int .u8 62] 5 (4, 5)) := by rw [← hW4]; exact World.alloc_heap_new w3 _
  have hb4 : Below w3.heap.size w3 W4 := by rw [← hW4]; exact (Below.refl _ w3).alloc (Nat.le_refl _) _
  have hz4 : W4.heap.size = w3.heap.size + 1 := by rw [← hW4]; simp
  have hP4 := q3.isP.below hb4
  have hs3 := q3.below.size
  have hz1 := HZ1.out
  have hB4 : Bytes W4 w.heap.size vw3 vo3 (some ⟨w3.heap.size, 0, none⟩) [60, 47, 97, 62] := bytes_block hP4 f4 (fun e => by have := own_lt q3.isP.2.2.1 _ e.symm; omega) (fun j c hj => by
    match j, hj with
    | 0, hj => cases hj; rfl
    | 1, hj => cases hj; rfl
    | 2, hj => cases hj; rfl
    | 3, hj => cases hj; rfl
    | n + 4, hj => simp at hj)
  have hPW2 := H2.out.2.2.2
  have hb3 := Run.under hPW2 q3
  have hE4 : Env W4 := (H2.out.2.2.1.below hb3 h4).below hb4 (by omega)
  have hfe := Feed_any w.heap.size w.heap.size live1 _ _ _ 4 _ W4 hP4 ⟨by decide, by decide, by decide⟩ hE4 h4 h4 hB4 (by decide)
  rw [FeedF_of rfl, feed_live2] at hfe
  have cv4 : (convert 22 22 (.slice (some ⟨w3.heap.size, 0, none⟩) 4 4)).run Tryd.prog (w3.alloc (.cells #[.int .u8 60, .int .u8 47, .int .u8 97, .int .u8 62] 5)) = .ok (.slice (some ⟨w3.heap.size, 0, none⟩) 4 4) W4 := by rw [← hW4]; exact Lib.run_convert_bytes_const w3 _ 5 _ 4 4 Tryd.underlying22 Tryd.underlying5
  have H4 := hide (And.intro hfe (And.intro ((H2.out.2.1.trans hb3).trans (hb4.mono (by omega))) (And.intro (q2.kept hb4.block) hP4)))
  have HX3 := hide hx3
  obtain ⟨g3, cap3, rfl, hcap3, _⟩ := row_cells q2 (k := 0) rfl
  clear hfe hB4 hE4 hP4 hb4 f4 q1 q2 q3 q4 hb3 hPW2 hx3 hz1 hW4
  go_wp2_with fail
  refine H4.out.1.mono ?_
  rintro e w5 ⟨st5, v5, l5, vw5, vo5, rfl, q1, q2, q3, q4⟩
  obtain rfl := q4.ok rfl
  obtain ⟨x5, y5, rfl, hx5⟩ : ∃ x5 y5, l5 = [x5, y5] ∧ x5.1 = ⟨3, ⟨#[]⟩, [], ⟨#[120]⟩⟩ := by
    have hl : l5.length = 2 := by simpa using congrArg List.length q1
    match l5, hl, q1 with
    | [x, y], _, q1 => exact ⟨x, y, rfl, by simp at q1; exact q1.1⟩
  have hr3 := H4.out.2.2.1.run H4.out.2.2.2 q3
  obtain ⟨g3', cap3', e3', _, _, c1, _⟩ := row_cells hr3 (k := 0) rfl
  cases e3'
  obtain ⟨g5, cap5, rfl, hcap5, _, _, d3⟩ := row_cells q2 (k := 0) rfl
  rw [HX3.out] at c1
  rw [hx5] at d3
  have hde := depth_any _ _ _ _ _ w5 q3.isP
  have hbf := H4.out.2.1.trans (Run.under H4.out.2.2.2 q3)
  have H5 := hide (And.intro hde hbf)
  clear hde hbf hr3 q1 q2 q3 q4 hx5
  go_wp2_with fail
  refine H5.out.1.mono ?_
  rintro e w6 ⟨rfl, hw⟩
  subst hw
  go_wp2_with fail
  go_ret
  exact ⟨rfl, H5.out.2⟩
end Go.Proofs.YtbhedmdbejoinaaDoor
