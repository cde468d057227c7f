/- KvBack. -/
import Derived.Test.YtjdcgndcljmieaaL3
namespace Go.Proofs.Ytjdcgndcljmieaa
open Go.RowKit

theorem row_bys {w : World} {base : Nat} {v : Value} {l : Str} (h : Row w base v l) : (l = [] ∧ ∃ ao cap, v = .slice ao 0 cap) ∨ ∃ g cap, v = .slice (some ⟨g, 0, none⟩) l.length cap ∧ l.length ≤ cap ∧ cap ≤ 9223372036854775807 ∧ g < w.heap.size ∧ Bys w g 0 l := by
  obtain ⟨h1, ⟨rfl, h2⟩ | ⟨g, cap, cur, rfl, x1, x2, x3, x4, x5, x6⟩⟩ := h
  · have hl : l = [] := List.eq_nil_of_length_eq_zero h2
    subst hl
    exact .inl ⟨rfl, _, _, rfl⟩
  · refine .inr ⟨g, cap, rfl, x3, by unfold maxLen at x4; omega, hp_lt x2, fun j c hj => ?_⟩
    have hlt := (List.getElem?_eq_some_iff.1 hj).1
    have hx : (Lib.byteCells l)[j]? = some (.int .u8 (c.toNat : Nat)) := by simp [Lib.byteCells, hj]
    rw [← x6, List.getElem?_take_of_lt (by omega)] at hx
    simp [World.cell?, x2]
    simpa using hx
theorem load_row {w : World} {base : Nat} {v : Value} {l : Str} (h : Row w base v l) : Calls Try.prog 12 #[v] w fun e w' => LoadR l w e w' ∧ Below w.heap.size w w' := by
  rcases row_bys h with ⟨rfl, ao, cap, rfl⟩ | ⟨g, cap, rfl, h1, h2, h3, h4⟩
  · exact load_nil ao cap w
  · exact load_some g 0 cap l w h4 h3 h1 h2
theorem bytes_one {L L' : List Pr} (h : GR L) (h' : GR L') (e : bytesM L = bytesM L') : L = L' := by
  obtain ⟨L₁, e1, e2⟩ := bytes_prefix L' (r := []) h.good.sizes h'.good.sizes (by rw [e, List.append_nil])
  cases L₁ with
  | nil => rw [e1, List.append_nil]
  | cons x L₁ =>
    exfalso
    have : encP x ++ bytesM L₁ = [] := by simpa [bytesM] using e2.symm
    exact encP_ne x (List.append_eq_nil_iff.1 this).1
set_option maxRecDepth 100000 in
set_option maxHeartbeats 2000000 in
theorem kvBack_any (ao : Option Addr) (cap : Nat) (ds : List Dk) (w : World) (hm : DkMem w.heap.size w ao ds) :
    Calls Try.prog 5 #[.slice ao ds.length cap] w fun e w' => e = .returned (.bool true) ∧ Below w.heap.size w w' := by
  have H0 := hide (play_any ao cap ds w hm)
  obtain ⟨L, hL⟩ : ∃ L, playM ds (min ds.length 60) = L := ⟨_, rfl⟩
  have hG := good_play ds (min ds.length 60)
  rw [hL] at H0 hG
  have HG := hide hG
  clear hm hG hL
  go_enter Try.func5, Try.ntmps5
  go_wp2_with (first
    | (go_at_call 9; refine H0.out.mono ?_; rintro e w1 ⟨p, bm, q, u, rfl, t1, b1⟩; have s1 := b1.size; have H1 := hide (And.intro t1 b1); clear t1 b1)
    | (go_at_call 10; refine (live_any w1).mono ?_; rintro e w2 ⟨rfl, b2⟩; have s2 := b2.size; have H2 := hide (And.intro (H1.out.1.below b2) (H1.out.2.trans (b2.mono s1))); clear b2)
    | (go_at_call 14; refine (bytes_any w.heap.size p bm L w2 H2.out.1.dev HG.out).mono ?_; rintro e w3 ⟨v3, rfl, r3, b3⟩; have s3 := b3.size; have H3 := hide (And.intro r3 b3); clear r3 b3)
    | (go_at_call 12; refine (load_row H3.out.1).mono ?_; rintro e w4 ⟨hR, b4⟩; rcases hR with ⟨L', p', b', g', el, rfl, m4⟩ | ⟨hbad, _⟩; rotate_left; exact absurd ⟨L, ⟨HG.out, H2.out.1.dev.rise⟩, rfl⟩ hbad; obtain rfl := bytes_one g' ⟨HG.out, H2.out.1.dev.rise⟩ el.symm; have H4 := hide (And.intro m4 b4); clear m4 b4 el; refine stopHere ?_))
  unfold Hid
  have hz4 := H4.out.2.size
  have hB4 : Below w2.heap.size w2 w4 := H3.out.2.trans (H4.out.2.mono s3)
  have hz2 := H2.out.2.size
  have hT : Two w.heap.size p' b' q L' u w4 := ⟨H4.out.1.less (by omega), H2.out.1.ref.below hB4, fun j hj hk => by
    have h1 := (H4.out.1.lt hj).1
    have h2 := (H2.out.1.ref.lt hk).2
    omega⟩
  have H5 := hide (And.intro hT (H2.out.2.trans (hB4.mono hz2)))
  clear hT hB4
  go_wp2_with (first
    | (go_at_call 11; refine (same_any w.heap.size p' b' q L' u ⟨#[]⟩ w4 H5.out.1 HG.out).mono ?_; rintro e w6 ⟨rfl, b6⟩; have H6 := hide b6; clear b6))
  go_ret
  exact ⟨rfl, H5.out.2.trans (H6.out.mono H5.out.2.size)⟩
end Go.Proofs.Ytjdcgndcljmieaa
