/- JidParses: what a text says: whatever the text. -/
import Derived.Test.YtcghnojhcmiolaaJ9
namespace Go.Proofs.Ytcghnojhcmiolaa
open Go.RowKit

set_option maxRecDepth 100000 in
set_option maxHeartbeats 4000000 in
theorem jidParses_any (s : ByteArray) (w : World) (hss : s.size ≤ 4611686018427387903) (hm : MaxG w) (h1 : 0 < w.heap.size) : Calls Try.prog 3 #[.string s] w fun e w' => e = .returned (.bool true) ∧ Below w.heap.size w w' := by
  have HM := hide hm
  have hp := hide (parse_any s w (by omega) hm h1)
  clear hm
  obtain ⟨x, y, z, c, hx⟩ : ∃ (x y z : ByteArray) (c : Int), ∀ e : Ending, ((∃ j, parseL s.data.toList = some j ∧ e = .returned (.tuple #[jv j, .int .i64 0])) ∨ (parseL s.data.toList = none ∧ e = .returned (.tuple #[jv noJ, .int .i64 3]))) → e = .returned (.tuple #[.agg #[.string x, .string y, .string z], .int .i64 c]) := by
    cases hpp : parseL s.data.toList with
    | some j =>
      refine ⟨⟨j.lo.toArray⟩, ⟨j.dom.toArray⟩, ⟨j.res.toArray⟩, 0, ?_⟩
      rintro e (⟨j', h, rfl⟩ | ⟨h, _⟩)
      · cases h
        rfl
      · cases h
    | none =>
      refine ⟨⟨#[]⟩, ⟨#[]⟩, ⟨#[]⟩, 3, ?_⟩
      rintro e (⟨j', h, _⟩ | ⟨_, rfl⟩)
      · cases h
      · rfl
  have HX := hide hx
  clear hx
  go_enter Try.func3, Try.ntmps3
  go_wp2_with fail
  refine hp.out.mono ?_
  rintro e w1 ⟨he, hb1⟩
  obtain rfl := HX.out e he
  have hz1 := hb1.size
  obtain ⟨W2, hW2, a2, b2, z2⟩ := newJ w1 (.string x) (.string y) (.string z)
  have hb2 := hb1.trans (b2.mono (by omega))
  have hrp := hide (refparse_any s W2 hss)
  have H2 := hide (And.intro a2 hb2)
  have HW2 := hide hW2
  clear hb1 a2 b2 hb2 hp he hW2
  go_wp2_with fail
  rw [HW2.out]
  refine hrp.out.mono ?_
  rintro e w3 ⟨he, hb3⟩
  obtain rfl := HX.out e he
  have a3 := (hb3.block w1.heap.size (by omega)).trans H2.out.1
  have hz3 := hb3.size
  obtain ⟨W4, hW4, a4, b4, z4⟩ := newJ w3 (.string x) (.string y) (.string z)
  have hb4 := (H2.out.2.trans (hb3.mono (by omega))).trans (b4.mono (by omega))
  have a5 := (b4.block w1.heap.size (by omega)).trans a3
  have hlv := hide (live_any W4 (HM.out.below hb4 h1) (by omega))
  have H4 := hide (And.intro a4 (And.intro a5 hb4))
  have HW4 := hide hW4
  clear hb3 a3 a4 a5 b4 hb4 he hW4 hrp
  go_wp2_with fail
  rw [HW4.out]
  refine hlv.out.mono ?_
  rintro e w5 ⟨rfl, hb5⟩
  obtain ⟨c0, c1, c2, _⟩ := cells3 ((hb5.block w1.heap.size (by omega)).trans H4.out.2.1)
  obtain ⟨d0, d1, d2, _⟩ := cells3 ((hb5.block w3.heap.size (by omega)).trans H4.out.1)
  have H5 := hide (H4.out.2.2.trans (hb5.mono (by omega)))
  clear hb5
  go_wp2_with fail
  go_ret
  exact ⟨by simp, H5.out⟩
end Go.Proofs.Ytcghnojhcmiolaa
