/- WritePrints, whatever its arguments. -/
import Derived.Test.YtaglbikjnaahnabDoorLive4
import Derived.Test.YtaglbikjnaahnabDoorFew
import Derived.Test.YtaglbikjnaahnabDoorRefPrint
namespace Go.Proofs.YtaglbikjnaahnabDoor
open Go.RowKit

theorem Tells.as {p : Prop} {e : Ending} (h : Tells p e) (b : Bool) (hb : p ↔ b = true) : e = .returned (.bool b) := by
  rcases h with ⟨h1, h2⟩ | ⟨h1, h2⟩
  · rw [h2, hb.1 h1]
  · cases b with
    | true => exact absurd (hb.2 rfl) h1
    | false => exact h2
theorem bool_of (p : Prop) : ∃ b : Bool, p ↔ b = true := by
  by_cases h : p
  · exact ⟨true, by simp [h]⟩
  · exact ⟨false, by simp [h]⟩

set_option maxRecDepth 100000 in
set_option maxHeartbeats 4000000 in
theorem writePrints_any (ao : Option Addr) (cap : Nat) (us : List Tok) (av : Nat → Option Addr × Nat) (w : World) (hc : us.length ≤ cap) (h1 : TokMem w.heap.size w ao us av) (hU : Tabs w) (hl : EntLaid w) :
    Calls Tryd.prog 7 #[.slice ao us.length cap] w fun e w' => e = .returned (.bool true) ∧ Below w.heap.size w w' := by
  have f1 := few_any ao cap us w hc h1.1
  have g1 := h1.take 70
  obtain ⟨ts, hxs⟩ : ∃ ts, us.take 70 = ts := ⟨_, rfl⟩
  rw [hxs] at f1 g1
  obtain ⟨br, hbr⟩ := bool_of (RightT ts)
  obtain ⟨bw, hbw⟩ := bool_of (WholeT ts)
  obtain ⟨sv, iv, hsv⟩ : ∃ (sv : ByteArray) (iv : Int), ∀ e, ((RightT ts ∧ e = .returned (.tuple #[.string ⟨(printT ts).toArray⟩, .int .i64 0])) ∨ (¬ RightT ts ∧ e = .returned (.tuple #[.string ⟨#[]⟩, .int .i64 3]))) → e = Ending.returned (.tuple #[.string sv, .int .i64 iv]) := by
    by_cases h : RightT ts
    · exact ⟨_, _, fun e he => by rcases he with ⟨_, he⟩ | ⟨hn, _⟩; exact he; exact absurd h hn⟩
    · exact ⟨_, _, fun e he => by rcases he with ⟨hn, _⟩ | ⟨_, he⟩; exact absurd hn h; exact he⟩
  have HF := hide f1
  have HG := hide g1
  have HU := hide hU
  have HL := hide hl
  have HV := hide (And.intro hbr (And.intro hbw hsv))
  clear hU hl h1 hc f1 g1 hxs hbr hbw hsv
  go_enter Tryd.func7, Tryd.ntmps7
  go_wp2_with fail
  refine HF.out.mono ?_
  rintro e w0 ⟨rfl, hw0⟩
  subst hw0
  have H1 := hide (print_any ao cap ts av w0 HG.out HU.out HL.out)
  go_wp2_with fail
  refine H1.out.mono ?_
  rintro e w1 ⟨he, hb1⟩
  obtain rfl := HV.out.2.2 _ he
  have HB1 := hide hb1
  clear he hb1 H1
  have H2 := hide (refPrint_any ao cap ts av w1 ((HG.out.below HB1.out).mono HB1.out.size) (tabs_below HU.out HB1.out))
  go_wp2_with fail
  refine H2.out.mono ?_
  rintro e w2 ⟨he, hb2⟩
  obtain rfl := HV.out.2.2 _ he
  have HB2 := hide (HB1.out.trans (hb2.mono HB1.out.size))
  clear he hb2 H2
  have H3 := hide (live4_any w2 (tabs_below HU.out HB2.out) (HL.out.below HB2.out HL.out.size))
  go_wp2_with fail
  refine H3.out.mono ?_
  rintro e w3 ⟨rfl, hb3⟩
  have HB3 := hide (HB2.out.trans (hb3.mono HB2.out.size))
  clear hb3 H3
  have e1 : (sv.toList == sv.toList) = true := by simp
  have e2 : (iv == iv) = true := by simp
  have e3 : (br == br) = true := by simp
  have e4 : (bw == bw) = true := by simp
  have H4 := hide (right_any ao cap ts av w3 ((HG.out.below HB3.out).mono HB3.out.size) (tabs_below HU.out HB3.out))
  go_wp2_with fail
  refine H4.out.mono ?_
  rintro e w4 ⟨he, hb4⟩
  obtain rfl := he.as br HV.out.1
  have HB4 := hide (HB3.out.trans (hb4.mono HB3.out.size))
  clear he hb4 H4
  have H5 := hide (refRight_any ao cap ts av w4 ((HG.out.below HB4.out).mono HB4.out.size) (tabs_below HU.out HB4.out))
  go_wp2_with fail
  refine H5.out.mono ?_
  rintro e w5 ⟨he, hb5⟩
  obtain rfl := he.as br HV.out.1
  have HB5 := hide (HB4.out.trans (hb5.mono HB4.out.size))
  clear he hb5 H5
  have H6 := hide (whole_any ao cap ts av w5 ((HG.out.below HB5.out).mono HB5.out.size) (tabs_below HU.out HB5.out))
  go_wp2_with fail
  refine H6.out.mono ?_
  rintro e w6 ⟨he, hb6⟩
  obtain rfl := he.as bw HV.out.2.1
  have HB6 := hide (HB5.out.trans (hb6.mono HB5.out.size))
  clear he hb6 H6
  have H7 := hide (refWhole_any ao cap ts av w6 ((HG.out.below HB6.out).mono HB6.out.size) (tabs_below HU.out HB6.out))
  go_wp2_with fail
  refine H7.out.mono ?_
  rintro e w7 ⟨he, hb7⟩
  obtain rfl := he.as bw HV.out.2.1
  have HB7 := hide (HB6.out.trans (hb7.mono HB6.out.size))
  clear he hb7 H7
  go_wp2_with fail
  go_ret
  exact ⟨rfl, HB7.out⟩
end Go.Proofs.YtaglbikjnaahnabDoor
