/- Stanzas: Encode. -/
import Derived.Test.YthmidlmknkbdaaaDoorSt2
import Derived.Test.YthmidlmknkbdaaaDoorWhole
namespace Go.Proofs.YthmidlmknkbdaaaDoor
open Go.RowKit

/-- A stanza's tokens. -/
def stT (k : Int) (ty fr tt id : ByteArray) (ts : List Tok) : List Tok := elemT (kindB k) (keepA (attr4 ty fr tt id)) ts
/-- Is a stanza right? -/
def StOk (k : Int) (ty fr tt id : ByteArray) (ts : List Tok) : Prop := mayB k ty fr tt id = true ∧ WholeT (stT k ty fr tt id ts)
set_option maxRecDepth 100000 in
set_option maxHeartbeats 1000000 in
theorem encode_any (k : Int) (ty fr tt id : ByteArray) (pa : Option Addr) (pc : Nat) (ts : List Tok) (av : Nat → Option Addr × Nat) (w : World) (hT : TokMem w.heap.size w pa ts av) (hs : ts.length ≤ 1000) (hz : ty.size ≤ 9223372036854775807 ∧ fr.size ≤ 9223372036854775807 ∧ tt.size ≤ 9223372036854775807 ∧ id.size ≤ 9223372036854775807) (hU : Tabs w) (hm : Jd.MaxG w) (h5 : 3 < w.heap.size) :
    Calls Tryd.prog 15 #[.agg #[.int .u8 k, .string ty, .string fr, .string tt, .string id, .slice pa ts.length pc]] w fun e w' => ((StOk k ty fr tt id ts ∧ ∃ v l, e = .returned (.tuple #[v, .int .i64 0]) ∧ l.map (·.1) = stT k ty fr tt id ts ∧ ElRow w.heap.size w' v l) ∨ (¬ StOk k ty fr tt id ts ∧ e = .returned (.tuple #[.slice none 0 0, .int .i64 3]))) ∧ Below w.heap.size w w' := by
  have h1 : 3 < w.heap.size := h5
  obtain ⟨Wa, hWa, aa, ba, za⟩ := newV w 38 #[.int .u8 k, .string ty, .string fr, .string tt, .string id, .slice pa ts.length pc]
  obtain ⟨x0, x1, x2, x3, x4, x5⟩ := cells6 aa
  have HT := hide (And.intro hT hU)
  have HM := hide hm
  have hmay := hide (mayBe_any k ty fr tt id pa ts.length pc Wa hz.2.1 hz.2.2.1 (hm.below ba h1) (by omega))
  have H0 := hide (And.intro aa ba)
  clear aa ba hT hU hm
  go_enter Tryd.func15, Tryd.ntmps15
  go_wp2_with fail
  refine hmay.out.mono ?_
  rintro e w1 ⟨rfl, hb1⟩
  have hz1 := hb1.size
  have g1 := (hb1.block w.heap.size (by omega)).trans H0.out.1
  have hbw1 := H0.out.2.trans (hb1.mono (by omega))
  cases q1 : mayB k ty fr tt id with
  | false =>
    have HV := hide (show ¬ StOk k ty fr tt id ts from fun h => absurd (h.1.symm.trans q1) (by decide))
    have H1 := hide hbw1
    clear q1 hb1 g1 hbw1
    go_wp2_with fail
    go_ret2
    exact ⟨.inr ⟨HV.out, rfl⟩, H1.out⟩
  | true =>
    have hto := hide (tokens_any k ty fr tt id pa pc ts av w1 ((HT.out.1.below hbw1).raise (by omega)) hs hz)
    obtain ⟨y0, y1, y2, y3, y4, y5⟩ := cells6 g1
    have H1 := hide hbw1
    have HQ := hide q1
    clear q1 hb1 g1 hbw1 x0 x1 x2 x3 x4 x5
    go_wp2_with fail
    refine hto.out.mono ?_
    rintro e w2 ⟨v2, l2, rfl, m1, m2, hb2⟩
    have hz2 := hb2.size
    have hbw2 := H1.out.trans (hb2.mono (by omega))
    have hl2 : l2.length = ts.length + 2 := by
      have h := congrArg List.length m1
      rw [List.length_map] at h
      rw [h]
      simp [elemT]
    obtain ⟨ao, cap, hv, hTM⟩ := tokMem_own m2 (by omega)
    have hU2 : Tabs w2 := tabs_below HT.out.2 hbw2
    have hlm : (l2.map (·.1)).length = l2.length := List.length_map _
    have hwh := whole_any ao cap _ _ w2 hTM hU2
    rw [hlm] at hwh
    have HW := hide hwh
    have H2 := hide (And.intro m1 (And.intro m2 hbw2))
    subst hv
    clear m1 m2 hb2 hbw2 hTM hU2 hlm hwh hl2
    go_wp2_with fail
    refine HW.out.mono ?_
    rintro e w3 ⟨ht, hb3⟩
    have hz3 := hb3.size
    have H3 := hide (And.intro (H2.out.2.1.below hb3) (H2.out.2.2.trans (hb3.mono (by omega))))
    clear hb3
    rcases ht with ⟨hw, rfl⟩ | ⟨hw, rfl⟩
    · have HV := hide (show StOk k ty fr tt id ts from ⟨HQ.out, by rw [H2.out.1] at hw; exact hw⟩)
      clear hw
      go_wp2_with fail
      go_ret2
      exact ⟨.inl ⟨HV.out, _, l2, rfl, H2.out.1, H3.out.1.lower (by omega)⟩, H3.out.2⟩
    · have HV := hide (show ¬ StOk k ty fr tt id ts from fun h => hw (by rw [H2.out.1]; exact h.2))
      clear hw
      go_wp2_with fail
      go_ret2
      exact ⟨.inr ⟨HV.out, rfl⟩, H3.out.2⟩
end Go.Proofs.YthmidlmknkbdaaaDoor
