/- SlotsOpens. -/
import Derived.Test.YtfknjmfkkaoggaaS28
import Derived.Test.YtfknjmfkkaoggaaS24
namespace Go.Proofs.Ytfknjmfkkaoggaa
open Go.RowKit Go.Shelf

set_option maxRecDepth 100000 in
set_option maxHeartbeats 2000000 in
theorem slotsOpens_any (n : Nat) (hn : n < 256) (ao : Option Addr) (dcap : Nat) (ds : List Sd) (x : Sd) (w : World) (hm : SdMem w.heap.size w ao ds) (hx : SdOk w.heap.size w x) :
    Calls Try.prog 8 #[.int .u8 n, .slice ao ds.length dcap, .agg (sdC x)] w fun e w' => e = .returned (.bool true) ∧ Below w.heap.size w w' := by
  obtain ⟨W, hW, f1, z1, b1⟩ := boxedS w x
  have H0 := hide (play_any n hn ao dcap ds W ((hm.below b1).up (by omega)))
  obtain ⟨dn, hdn⟩ : ∃ dn, ds.length = dn := ⟨_, rfl⟩
  obtain ⟨nb, hnb⟩ : ∃ nb, x.b.length = nb := ⟨_, rfl⟩
  obtain ⟨ns, hns⟩ : ∃ ns, x.sv.length = ns := ⟨_, rfl⟩
  rw [hdn] at H0
  rw [hdn]
  have HX := hide hx
  have HL := hide (And.intro hnb hns)
  have hBx : BoxN w.heap.size x nb ns W := ⟨by unfold sdC at f1; rw [hnb, hns] at f1; exact f1⟩
  unfold sdC
  unfold sdC at hW
  rw [hnb, hns] at hW ⊢
  have HB := hide (And.intro hBx b1)
  clear hm hx hdn f1 b1 hBx hnb hns
  go_enter Try.func8, Try.ntmps8
  go_wp2_with (first
    | (go_at_call 14; refine H0.out.mono ?_; rintro e w1 ⟨qs, ps, qt, pt, d, rfl, P1, b1⟩; have s1 := b1.size; obtain ⟨⟨vl, vw, ul, uw, t1⟩, ⟨k, t, l, i1, j1⟩, y1⟩ := P1; have H1 := hide (And.intro t1 (And.intro b1 i1)); clear t1 b1 i1)
    | (go_at_call 15; refine (live_any w1).mono ?_; rintro e w2 ⟨rfl, b2⟩; have s2 := b2.size; have H2 := hide (And.intro (H1.out.1.below b2) (H1.out.2.1.trans (b2.mono s1))); clear b2)
    | (go_at_call 27; refine (device_any W.heap.size qs ps d vl vw w2 H2.out.1.sto H1.out.2.2.2.1 (by omega)).mono ?_; rintro e w3 ⟨p3, vl3, vw3, rfl, d3, b3, _⟩; have s3 := b3.size; have H3 := hide (And.intro d3 (And.intro (H2.out.1.below b3) (H2.out.2.trans (b3.mono (by omega))))); clear d3 b3)
    | (go_at_call 26; refine (open_any W.heap.size p3 d vl3 vw3 w3 H3.out.1 H1.out.2.2.2.1 (by omega) (by omega)).mono ?_; rintro e w4 ⟨q4, p4, vl4, vw4, rfl, d4, _, b4, _⟩; have s4 := b4.size; have H4 := hide (And.intro (TwoS.mk d4 (H3.out.2.1.below b4).ref (by omega)) (H3.out.2.2.trans (b4.mono (by omega)))); clear d4 b4; refine stopHere ?_))
  unfold Hid
  obtain ⟨i0, i1, i2, i3⟩ := cellsN (HB.out.1.low H4.out.2 (by omega)).here
  have hx4 := (HX.out.below HB.out.2).below (H4.out.2.mono (show w.heap.size ≤ W.heap.size by omega))
  have hx5 : SdOk W.heap.size w4 x := ⟨hx4.len, hx4.cap, hx4.by_.up (by omega), hx4.sv.up (by omega)⟩
  have hdo := do_any W.heap.size q4 p4 qt pt d vl4 vw4 ul uw x w4 H4.out.1 H1.out.2.2.2.1 (by omega) (by rw [H1.out.2.2.1]; show 0 + 5000 ≤ _; omega) hx5
  unfold sdC at hdo
  rw [HL.out.1, HL.out.2] at hdo
  obtain ⟨k6, t6, l6, i6, _, z6⟩ := deed_inv H1.out.2.2 x (by omega)
  have H6 := hide i6
  have HD := hide hdo
  clear hx4 hx5 hdo i6
  go_wp2_with (first
    | (go_at_call 28; refine HD.out.mono ?_; rintro e w5 ⟨rfl, ⟨vl5, vw5, ul5, uw5, t5⟩, b5⟩; have s5 := b5.size; have H5 := hide (And.intro t5 (H4.out.2.trans b5)); clear t5 b5)
    | (go_at_call 16; refine (same_any W.heap.size q4 p4 qt pt (deedS d x) vl5 vw5 ul5 uw5 w5 H5.out.1 H6.out.2.1 (by omega)).mono ?_; rintro e w7 ⟨rfl, b7⟩; have H7 := hide (H5.out.2.trans (b7.mono (by omega))); clear b7))
  go_ret
  exact ⟨rfl, HB.out.2.trans (H7.out.mono (by omega))⟩
end Go.Proofs.Ytfknjmfkkaoggaa
