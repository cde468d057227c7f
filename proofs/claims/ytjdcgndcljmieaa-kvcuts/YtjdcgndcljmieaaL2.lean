/- kv.cutPair: a pair at the head of bytes. -/
import Derived.Test.YtjdcgndcljmieaaL1
namespace Go.Proofs.Ytjdcgndcljmieaa
open Go.RowKit

def CutPr (w : World) (b cap : Nat) (o : Option (Pr × Str)) (e : Ending) : Prop :=
  match o with
  | none => e = .returned (.tuple #[.agg #[.string ⟨#[]⟩, .string ⟨#[]⟩], .slice none 0 0, .bool false])
  | some (x, t) => ∃ off' cap', e = .returned (.tuple #[.agg #[.string x.1, .string x.2], .slice (some ⟨b, off', none⟩) t.length cap', .bool true]) ∧ t.length ≤ cap' ∧ cap' ≤ cap ∧ Bys w b off' t
theorem Bys.below' {w w' : World} {b off n₀ : Nat} {l : Str} (h : Bys w b off l) (hn : b < n₀) (hb : Below n₀ w w') : Bys w' b off l := fun j c hj =>
  (hb.cell (p := ⟨b, off + j, none⟩) hn).trans (h j c hj)
theorem results_cut {fn : Func} {tmps : Array Value} {w : World} {g : Nat} {u v y z : Value} (h : fn.results = #[.cell 2 55, .tmp 3, .tmp 4]) (hp : tmps[2]?.getD undef = .pointer (some ⟨g, 0, none⟩)) (h0 : w.cell? ⟨g, 0, none⟩ = some u) (h1 : w.cell? ⟨g, 1, none⟩ = some v) (hy : tmps[3]?.getD undef = y) (hz : tmps[4]?.getD undef = z) : (results fn tmps).run Try.prog w = .ok (.tuple #[.agg #[u, v], y, z]) w := by
  simp [results, h, hp, hy, hz, h0, h1, go_sem, Result.andThen]
theorem two_cells {w : World} {g : Nat} {u v : Value} {T : TypeId} (h : w.heap[g]? = some (.cells #[u, v] T)) : w.cell? ⟨g, 0, none⟩ = some u ∧ w.cell? ⟨g, 1, none⟩ = some v ∧ w.frozen? ⟨g, 0, none⟩ = false ∧ w.frozen? ⟨g, 1, none⟩ = false := by simp [World.cell?, World.frozen?, h]
theorem set_two {w : World} {g : Nat} {u v : Value} {T : TypeId} (x y : Value) (h : w.heap[g]? = some (.cells #[u, v] T)) : ((w.setCell ⟨g, 0, none⟩ x).setCell ⟨g, 1, none⟩ y).heap[g]? = some (.cells #[x, y] T) ∧ ∀ n, n ≤ g → Below n w ((w.setCell ⟨g, 0, none⟩ x).setCell ⟨g, 1, none⟩ y) := by
  have h1 := heap_setCell_same _ _ 0 _ _ x h
  refine ⟨heap_setCell_same _ _ 1 _ _ y h1, fun n hn => ?_⟩
  exact ((Below.refl n w).setCell (p := ⟨g, 0, none⟩) hn x).setCell (p := ⟨g, 1, none⟩) hn y
set_option maxRecDepth 100000 in
set_option maxHeartbeats 2000000 in
theorem cutPair_any (b off cap : Nat) (l : Str) (w : World) (hB : Bys w b off l) (hb : b < w.heap.size) (hc : l.length ≤ cap) (hm : cap ≤ 9223372036854775807) :
    Calls Try.prog 32 #[.slice (some ⟨b, off, none⟩) l.length cap] w fun e w' => CutPr w b cap (cutP l) e ∧ Below w.heap.size w w' := by
  obtain ⟨W, hW⟩ : ∃ W, w.alloc (.cells #[.string ⟨#[]⟩, .string ⟨#[]⟩] 55) = W := ⟨_, rfl⟩
  have f1 : W.heap[w.heap.size]? = some (.cells #[.string ⟨#[]⟩, .string ⟨#[]⟩] 55) := by rw [← hW]; exact heap_alloc_new w _
  have hB1 : Below w.heap.size w W := by rw [← hW]; exact (Below.refl _ w).alloc (Nat.le_refl _) _
  have z1 : W.heap.size = w.heap.size + 1 := by rw [← hW]; simp
  have hBW := hB.below' hb hB1
  have HC1 := hide (cutText1_any b off cap l W hBW hc hm)
  have HH := hide (And.intro hB (And.intro hBW (And.intro hB1 f1)))
  unfold cutP
  cases h1 : cut1 l with
  | none =>
    rw [h1] at HC1
    clear hB hBW hB1 f1
    go_enter Try.func32, Try.ntmps32
    go_wp2_with (first
      | (go_at_call 41; refine HC1.out.mono ?_; rintro e w1 ⟨hq, b1⟩; unfold CutT at hq; subst hq; have H1 := hide b1; clear b1; refine stopHere ?_))
    unfold Hid
    have f2 := (H1.out.block w.heap.size (by omega)).trans HH.out.2.2.2
    obtain ⟨k0, k1, k2, k3⟩ := two_cells f2
    obtain ⟨g, hg⟩ : ∃ g, w.heap.size = g := ⟨_, rfl⟩
    rw [hg] at k0 k1 k2 k3
    have HX := hide (set_two (.string ⟨#[]⟩) (.string ⟨#[]⟩) f2)
    go_wp2_with fail
    obtain ⟨x1, x2⟩ := HX.out
    rw [hg] at x1 x2
    obtain ⟨y0, y1, _, _⟩ := two_cells x1
    exact bodyPost_ret (results_cut rfl (by simp [hg]) y0 y1 rfl rfl) rfl ⟨rfl, (HH.out.2.2.1.trans (H1.out.mono (by omega))).trans (x2 _ (by omega))⟩
  | some y =>
    obtain ⟨k, r⟩ := y
    rw [h1] at HC1
    clear hB hBW hB1 f1
    simp only
    cases h2 : cut2 r with
    | none =>
      go_enter Try.func32, Try.ntmps32
      go_wp2_with (first
        | (go_at_call 41; refine HC1.out.mono ?_; rintro e w1 ⟨hq, b1⟩; unfold CutT at hq; obtain ⟨off1, cap1, rfl, q1, q2, q3⟩ := hq; have H1 := hide (And.intro b1 (And.intro q1 (And.intro q2 q3))); clear b1 q1 q2 q3; refine stopHere ?_))
      unfold Hid
      have hz := H1.out.1.size
      have HC2 := hide (cutText2_any b off1 cap1 r w1 (H1.out.2.2.2.below' (by omega) H1.out.1) H1.out.2.1 (by have := H1.out.2.2.1; omega))
      rw [h2] at HC2
      go_wp2_with (first
        | (go_at_call 41; refine HC2.out.mono ?_; rintro e w2 ⟨hq, b2⟩; unfold CutT at hq; subst hq; have H2 := hide b2; clear b2; refine stopHere ?_))
      unfold Hid
      have f2 := (H2.out.block w.heap.size (by omega)).trans ((H1.out.1.block w.heap.size (by omega)).trans HH.out.2.2.2)
      have hz2 := H2.out.size
      obtain ⟨k0, k1, k2, k3⟩ := two_cells f2
      obtain ⟨g, hg⟩ : ∃ g, w.heap.size = g := ⟨_, rfl⟩
      rw [hg] at k0 k1 k2 k3
      have HX := hide (set_two (.string ⟨#[]⟩) (.string ⟨#[]⟩) f2)
      go_wp2_with fail
      obtain ⟨x1, x2⟩ := HX.out
      rw [hg] at x1 x2
      obtain ⟨y0, y1, _, _⟩ := two_cells x1
      exact bodyPost_ret (results_cut rfl (by simp [hg]) y0 y1 rfl rfl) rfl ⟨rfl, (HH.out.2.2.1.trans ((H1.out.1.trans (H2.out.mono hz)).mono (by omega))).trans (x2 _ (by omega))⟩
    | some y =>
      obtain ⟨v, t⟩ := y
      simp only
      go_enter Try.func32, Try.ntmps32
      go_wp2_with (first
        | (go_at_call 41; refine HC1.out.mono ?_; rintro e w1 ⟨hq, b1⟩; unfold CutT at hq; obtain ⟨off1, cap1, rfl, q1, q2, q3⟩ := hq; have H1 := hide (And.intro b1 (And.intro q1 (And.intro q2 q3))); clear b1 q1 q2 q3; refine stopHere ?_))
      unfold Hid
      have hz := H1.out.1.size
      have HC2 := hide (cutText2_any b off1 cap1 r w1 (H1.out.2.2.2.below' (by omega) H1.out.1) H1.out.2.1 (by have := H1.out.2.2.1; omega))
      rw [h2] at HC2
      go_wp2_with (first
        | (go_at_call 41; refine HC2.out.mono ?_; rintro e w2 ⟨hq, b2⟩; unfold CutT at hq; obtain ⟨off2, cap2, rfl, q1, q2, q3⟩ := hq; have H2 := hide (And.intro b2 (And.intro q1 (And.intro q2 q3))); clear b2 q1 q2 q3; refine stopHere ?_))
      unfold Hid
      have f2 := (H2.out.1.block w.heap.size (by omega)).trans ((H1.out.1.block w.heap.size (by omega)).trans HH.out.2.2.2)
      have hz2 := H2.out.1.size
      obtain ⟨k0, k1, k2, k3⟩ := two_cells f2
      obtain ⟨g, hg⟩ : ∃ g, w.heap.size = g := ⟨_, rfl⟩
      rw [hg] at k0 k1 k2 k3
      have HX := hide (set_two (.string (ofS k)) (.string (ofS v)) f2)
      go_wp2_with fail
      obtain ⟨x1, x2⟩ := HX.out
      rw [hg] at x1 x2
      obtain ⟨y0, y1, _, _⟩ := two_cells x1
      refine bodyPost_ret (results_cut rfl (by simp [hg]) y0 y1 rfl rfl) rfl ⟨⟨off2, cap2, rfl, H2.out.2.1, Nat.le_trans H2.out.2.2.1 H1.out.2.2.1, fun j c hj => ?_⟩, (HH.out.2.2.1.trans ((H1.out.1.trans (H2.out.1.mono hz)).mono (by omega))).trans (x2 _ (by omega))⟩
      have hq := H2.out.2.2.2 j c hj
      rw [H1.out.1.cell (p := ⟨b, off2 + j, none⟩) (by show b < W.heap.size; omega), HH.out.2.2.1.cell (p := ⟨b, off2 + j, none⟩) hb] at hq
      exact hq
end Go.Proofs.Ytjdcgndcljmieaa
