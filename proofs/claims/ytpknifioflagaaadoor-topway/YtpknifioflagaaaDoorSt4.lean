/- Stanzas: whether one is right; whether two are the same. -/
import Derived.Test.YtpknifioflagaaaDoorSt3
import Derived.Test.YtpknifioflagaaaDoorSame
namespace Go.Proofs.YtpknifioflagaaaDoor
open Go.RowKit

set_option maxRecDepth 100000 in
set_option maxHeartbeats 1000000 in
theorem stRight_any (k : Int) (ty fr tt id : ByteArray) (pa : Option Addr) (pc : Nat) (ts : List Tok) (av : Nat → Option Addr × Nat) (w : World) (hT : TokMem w.heap.size w pa ts av) (hs : ts.length ≤ 1000) (hz : ty.size ≤ 9223372036854775807 ∧ fr.size ≤ 9223372036854775807 ∧ tt.size ≤ 9223372036854775807 ∧ id.size ≤ 9223372036854775807) (hU : Tabs w) (hm : Jd.MaxG w) (h5 : 3 < w.heap.size) :
    Calls Tryd.prog 14 #[.agg #[.int .u8 k, .string ty, .string fr, .string tt, .string id, .slice pa ts.length pc]] w fun e w' => Tells (StOk k ty fr tt id ts) e ∧ Below w.heap.size w w' := by
  have h1 : 3 < w.heap.size := h5
  obtain ⟨Wa, hWa, aa, ba, za⟩ := newV w 25 #[.int .u8 k, .string ty, .string fr, .string tt, .string id, .slice pa ts.length pc]
  obtain ⟨x0, x1, x2, x3, x4, x5⟩ := cells6 aa
  have henc := hide (encode_any k ty fr tt id pa pc ts av Wa ((hT.below ba).raise (by omega)) hs hz (tabs_below hU ba) (hm.below ba h1) (by omega))
  have H0 := hide ba
  clear aa ba hT hU hm
  go_enter Tryd.func14, Tryd.ntmps14
  go_wp2_with fail
  refine henc.out.mono ?_
  rintro e w1 ⟨⟨hok, v, l, rfl, m1, m2⟩ | ⟨hno, rfl⟩, hb1⟩
  · have H1 := hide (And.intro hok (H0.out.trans (hb1.mono (by omega))))
    obtain ⟨ga, gc, hv⟩ := own_shape m2.1
    subst hv
    clear hok hb1 m1 m2
    go_wp2_with fail
    go_ret
    exact ⟨.inl ⟨H1.out.1, rfl⟩, H1.out.2⟩
  · have H1 := hide (And.intro hno (H0.out.trans (hb1.mono (by omega))))
    clear hno hb1
    go_wp2_with fail
    go_ret
    exact ⟨.inr ⟨H1.out.1, rfl⟩, H1.out.2⟩

/-- Two stanzas are the same. -/
def SameSt (k1 : Int) (ty1 fr1 tt1 id1 : ByteArray) (ts1 : List Tok) (k2 : Int) (ty2 fr2 tt2 id2 : ByteArray) (ts2 : List Tok) : Prop := k1 = k2 ∧ ty1 = ty2 ∧ fr1 = fr2 ∧ tt1 = tt2 ∧ id1 = id2 ∧ ts1 = ts2
set_option maxRecDepth 100000 in
set_option maxHeartbeats 1000000 in
theorem stSame_any (k1 : Int) (ty1 fr1 tt1 id1 : ByteArray) (pa1 : Option Addr) (pc1 : Nat) (ts1 : List Tok) (av1 : Nat → Option Addr × Nat) (k2 : Int) (ty2 fr2 tt2 id2 : ByteArray) (pa2 : Option Addr) (pc2 : Nat) (ts2 : List Tok) (av2 : Nat → Option Addr × Nat) (w : World) (hT1 : TokMem w.heap.size w pa1 ts1 av1) (hT2 : TokMem w.heap.size w pa2 ts2 av2) :
    Calls Tryd.prog 19 #[.agg #[.int .u8 k1, .string ty1, .string fr1, .string tt1, .string id1, .slice pa1 ts1.length pc1], .agg #[.int .u8 k2, .string ty2, .string fr2, .string tt2, .string id2, .slice pa2 ts2.length pc2]] w fun e w' => Tells (SameSt k1 ty1 fr1 tt1 id1 ts1 k2 ty2 fr2 tt2 id2 ts2) e ∧ Below w.heap.size w w' := by
  obtain ⟨Wa, hWa, aa, ba, za⟩ := newV w 25 #[.int .u8 k1, .string ty1, .string fr1, .string tt1, .string id1, .slice pa1 ts1.length pc1]
  obtain ⟨Wb, hWb, ab, bb, zb⟩ := newV Wa 25 #[.int .u8 k2, .string ty2, .string fr2, .string tt2, .string id2, .slice pa2 ts2.length pc2]
  rw [za] at ab
  have hbb := ba.trans (bb.mono (by omega))
  have a1 := (bb.block w.heap.size (by omega)).trans aa
  obtain ⟨x0, x1, x2, x3, x4, x5⟩ := cells6 a1
  obtain ⟨y0, y1, y2, y3, y4, y5⟩ := cells6 ab
  have HSM := hide (same_any pa1 pa2 pc1 pc2 ts1 ts2 av1 av2 Wb ((hT1.below hbb).raise hbb.size) ((hT2.below hbb).raise hbb.size))
  have H0 := hide (And.intro a1 (And.intro ab hbb))
  clear aa ba ab bb a1 hbb hT1 hT2
  go_enter Tryd.func19, Tryd.ntmps19
  by_cases ek : k1 = k2
  · subst ek
    by_cases e0 : ty1 = ty2
    · subst e0
      by_cases e1 : fr1 = fr2
      · subst e1
        by_cases e2 : tt1 = tt2
        · subst e2
          by_cases e3 : id1 = id2
          · subst e3
            go_wp2_with fail
            refine HSM.out.mono ?_
            rintro e w1 ⟨ht, hb1⟩
            have H1 := hide (H0.out.2.2.trans (hb1.mono (by omega)))
            clear hb1
            rcases ht with ⟨hq, rfl⟩ | ⟨hq, rfl⟩
            · have HQ := hide hq
              clear hq
              go_wp2_with fail
              go_ret
              exact ⟨.inl ⟨⟨rfl, rfl, rfl, rfl, rfl, HQ.out⟩, rfl⟩, H1.out⟩
            · have HQ := hide hq
              clear hq
              go_wp2_with fail
              go_ret
              exact ⟨.inr ⟨fun h => HQ.out h.2.2.2.2.2, rfl⟩, H1.out⟩
          · have HN := hide (show ¬ SameSt _ _ _ _ _ _ _ _ _ _ _ _ from fun (h : SameSt k1 ty1 fr1 tt1 id1 ts1 k1 ty1 fr1 tt1 id2 ts2) => e3 h.2.2.2.2.1)
            have n3 := str_ne e3
            clear e3
            go_wp2_with fail
            go_ret
            exact ⟨.inr ⟨HN.out, rfl⟩, H0.out.2.2⟩
        · have HN := hide (show ¬ SameSt _ _ _ _ _ _ _ _ _ _ _ _ from fun (h : SameSt k1 ty1 fr1 tt1 id1 ts1 k1 ty1 fr1 tt2 id2 ts2) => e2 h.2.2.2.1)
          have n2 := str_ne e2
          clear e2
          go_wp2_with fail
          go_ret
          exact ⟨.inr ⟨HN.out, rfl⟩, H0.out.2.2⟩
      · have HN := hide (show ¬ SameSt _ _ _ _ _ _ _ _ _ _ _ _ from fun (h : SameSt k1 ty1 fr1 tt1 id1 ts1 k1 ty1 fr2 tt2 id2 ts2) => e1 h.2.2.1)
        have n1 := str_ne e1
        clear e1
        go_wp2_with fail
        go_ret
        exact ⟨.inr ⟨HN.out, rfl⟩, H0.out.2.2⟩
    · have HN := hide (show ¬ SameSt _ _ _ _ _ _ _ _ _ _ _ _ from fun (h : SameSt k1 ty1 fr1 tt1 id1 ts1 k1 ty2 fr2 tt2 id2 ts2) => e0 h.2.1)
      have n0 := str_ne e0
      clear e0
      go_wp2_with fail
      go_ret
      exact ⟨.inr ⟨HN.out, rfl⟩, H0.out.2.2⟩
  · have HN := hide (show ¬ SameSt _ _ _ _ _ _ _ _ _ _ _ _ from fun (h : SameSt k1 ty1 fr1 tt1 id1 ts1 k2 ty2 fr2 tt2 id2 ts2) => ek h.1)
    have nk : (k1 == k2) = false := by rw [beq_eq_false_iff_ne]; exact ek
    clear ek
    go_wp2_with fail
    go_ret
    exact ⟨.inr ⟨HN.out, rfl⟩, H0.out.2.2⟩
end Go.Proofs.YtpknifioflagaaaDoor
