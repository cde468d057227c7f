/- StanzaTypes. -/
import Derived.Test.YtabcmaajpamggaaDoorSt11
namespace Go.Proofs.YtabcmaajpamggaaDoor
open Go.RowKit Go.Shelf

theorem encode_no {k : Int} {ty fr tt id : ByteArray} {pa : Option Addr} {pc : Nat} {ts : List Tok} {av : Nat → Option Addr × Nat} {w : World} (hT : TokMem w.heap.size w pa ts av) (hs : ts.length ≤ 1000) (hz : ty.size ≤ 9223372036854775807 ∧ fr.size ≤ 9223372036854775807 ∧ tt.size ≤ 9223372036854775807 ∧ id.size ≤ 9223372036854775807) (hE : Env6 w) (h : ¬ StOk k ty fr tt id ts) :
    Calls Tryd.prog 9 #[.agg #[.int .u8 k, .string ty, .string fr, .string tt, .string id, .slice pa ts.length pc]] w fun e w' => e = .returned (.tuple #[.slice none 0 0, .int .i64 3]) ∧ Below w.heap.size w w' := by
  refine (encode_any k ty fr tt id pa pc ts av w hT hs hz hE.1 hE.2.1 hE.2.2.2).mono ?_
  rintro e w' ⟨⟨hn, _⟩ | ⟨_, he⟩, b⟩
  · exact absurd hn h
  · exact ⟨he, b⟩
theorem right_yes {k : Int} {ty fr tt id : ByteArray} {pa : Option Addr} {pc : Nat} {ts : List Tok} {av : Nat → Option Addr × Nat} {w : World} (hT : TokMem w.heap.size w pa ts av) (hs : ts.length ≤ 1000) (hz : ty.size ≤ 9223372036854775807 ∧ fr.size ≤ 9223372036854775807 ∧ tt.size ≤ 9223372036854775807 ∧ id.size ≤ 9223372036854775807) (hE : Env6 w) (h : StOk k ty fr tt id ts) :
    Calls Tryd.prog 11 #[.agg #[.int .u8 k, .string ty, .string fr, .string tt, .string id, .slice pa ts.length pc]] w fun e w' => e = .returned (.bool true) ∧ Below w.heap.size w w' := by
  refine (stRight_any k ty fr tt id pa pc ts av w hT hs hz hE.1 hE.2.1 hE.2.2.2).mono ?_
  rintro e w' ⟨⟨_, he⟩ | ⟨hn, _⟩, b⟩
  · exact ⟨he, b⟩
  · exact absurd h hn
theorem right_no {k : Int} {ty fr tt id : ByteArray} {pa : Option Addr} {pc : Nat} {ts : List Tok} {av : Nat → Option Addr × Nat} {w : World} (hT : TokMem w.heap.size w pa ts av) (hs : ts.length ≤ 1000) (hz : ty.size ≤ 9223372036854775807 ∧ fr.size ≤ 9223372036854775807 ∧ tt.size ≤ 9223372036854775807 ∧ id.size ≤ 9223372036854775807) (hE : Env6 w) (h : ¬ StOk k ty fr tt id ts) :
    Calls Tryd.prog 11 #[.agg #[.int .u8 k, .string ty, .string fr, .string tt, .string id, .slice pa ts.length pc]] w fun e w' => e = .returned (.bool false) ∧ Below w.heap.size w w' := by
  refine (stRight_any k ty fr tt id pa pc ts av w hT hs hz hE.1 hE.2.1 hE.2.2.2).mono ?_
  rintro e w' ⟨⟨hn, _⟩ | ⟨_, he⟩, b⟩
  · exact absurd hn h
  · exact ⟨he, b⟩
theorem no_id {t id : ByteArray} (h : id.toList.isEmpty = true) : ¬ mayB 1 t ⟨#[]⟩ ⟨#[]⟩ id = true := by
  have e : id = ty_none := by
    apply Classical.byContradiction
    intro hn
    rw [ty_ne hn] at h
    cases h
  simp [mayB, e]
theorem cmp_lit (t s : ByteArray) (l : List UInt8) (h : s.toList = l) : (t.toList == l) = decide (t = s) := by
  rw [← h]
  by_cases e : t = s
  · rw [decide_eq_true e, e]
    simp
  · rw [decide_eq_false e]
    exact str_ne e
set_option maxRecDepth 100000 in
set_option maxHeartbeats 8000000 in
theorem types_no (k : Int) (t id : ByteArray) (w : World) (ht : t.size ≤ 9223372036854775807) (hi : id.size ≤ 9223372036854775807) (hE : Env6 w) (hno : ¬ StOk k t ⟨#[]⟩ ⟨#[]⟩ id []) :
    Calls Tryd.prog 3 #[.int .u8 k, .string t, .string id] w fun e w' => e = .returned (.bool true) ∧ Below w.heap.size w w' := by
  obtain ⟨Wa, hWa, aa, ba, za⟩ := newV w 25 #[.int .u8 k, .string t, .string ⟨#[]⟩, .string ⟨#[]⟩, .string id, .slice none 0 0]
  have HST := hide (run_store_new (P := Tryd.prog) infoSt w (cs := #[.int .u8 k, .string t, .string ⟨#[]⟩, .string ⟨#[]⟩, .string id, .slice none 0 0]) (c := zeroSt) rfl rfl (by simp [Value.oneCell']))
  obtain ⟨x0, x1, x2, x3, x4, x5⟩ := cells6 aa
  have HLV := hide fun (V : World) (hV : Env6 V) => live_any V hV
  have HEn := hide (encode_no (pc := 0) (tokMem_nil Wa.heap.size Wa) (by simp) ⟨ht, by decide, by decide, hi⟩ (hE.below ba) hno)
  rw [show ([] : List Tok).length = 0 from rfl] at HEn
  have HRt := hide fun (V : World) (hV : Env6 V) => right_no (pc := 0) (tokMem_nil V.heap.size V) (by simp) ⟨ht, by decide, by decide, hi⟩ hV hno
  rw [show ([] : List Tok).length = 0 from rfl] at HRt
  have H0 := hide (And.intro aa (And.intro ba (And.intro hE hno)))
  clear aa ba hE hno ht hi
  go_enter Tryd.func3, Tryd.ntmps3
  go_wp2_with (first
    | (refine l_alloc 25 infoSt rfl rfl ?_)
    | (refine l_store 25 HST.out rfl rfl rfl rfl ?_; rw [hWa])
    | (go_at_call 9; refine HEn.out.mono ?_; rintro e w1 ⟨rfl, b1⟩; refine stopHere ?_))
  unfold Hid
  have g1 := (b1.block w.heap.size (by omega)).trans H0.out.1
  have B1 : Below w.heap.size w w1 := H0.out.2.1.trans (b1.mono (by omega))
  have HL := hide (HLV.out w1 (H0.out.2.2.1.below B1))
  have H1 := hide (And.intro g1 B1)
  clear g1 B1 b1 HEn HLV x0 x1 x2 x3 x4 x5
  by_cases k1 : k = 1
  · subst k1
    by_cases e_error : t = ty_error
    · have f_error : (t.toList == [101, 114, 114, 111, 114]) = true := by rw [cmp_lit t ty_error _ (by rw [ByteArray.toList_eq]; rfl)]; exact decide_eq_true e_error
      have f_get : (t.toList == [103, 101, 116]) = false := by rw [cmp_lit t ty_get _ (by rw [ByteArray.toList_eq]; rfl)]; exact decide_eq_false (by rw [e_error]; decide)
      have f_set : (t.toList == [115, 101, 116]) = false := by rw [cmp_lit t ty_set _ (by rw [ByteArray.toList_eq]; rfl)]; exact decide_eq_false (by rw [e_error]; decide)
      have f_result : (t.toList == [114, 101, 115, 117, 108, 116]) = false := by rw [cmp_lit t ty_result _ (by rw [ByteArray.toList_eq]; rfl)]; exact decide_eq_false (by rw [e_error]; decide)
      have f_chat : (t.toList == [99, 104, 97, 116]) = false := by rw [cmp_lit t ty_chat _ (by rw [ByteArray.toList_eq]; rfl)]; exact decide_eq_false (by rw [e_error]; decide)
      have f_headline : (t.toList == [104, 101, 97, 100, 108, 105, 110, 101]) = false := by rw [cmp_lit t ty_headline _ (by rw [ByteArray.toList_eq]; rfl)]; exact decide_eq_false (by rw [e_error]; decide)
      have f_unavailable : (t.toList == [117, 110, 97, 118, 97, 105, 108, 97, 98, 108, 101]) = false := by rw [cmp_lit t ty_unavailable _ (by rw [ByteArray.toList_eq]; rfl)]; exact decide_eq_false (by rw [e_error]; decide)
      have f_none := ty_ne (t := t) (by rw [e_error]; decide)
      clear e_error
      cases hid : id.toList.isEmpty with
      | true =>
        go_wp2_with (first
          | (go_at_call 10; refine HL.out.mono ?_; rintro e w2 ⟨rfl, b2⟩; obtain ⟨y0, y1, y2, y3, y4, y5⟩ := cells6 ((b2.block w.heap.size (hp_lt H1.out.1)).trans H1.out.1); have H2 := hide (H1.out.2.trans (b2.mono H1.out.2.size)); clear b2)
          | (go_at_call 11; refine (HRt.out w2 (H0.out.2.2.1.below H2.out)).mono ?_; rintro e w3 ⟨rfl, b3⟩))
        go_ret
        exact ⟨rfl, H2.out.trans (b3.mono H2.out.size)⟩
      | false =>
        go_wp2_with (first
          | (go_at_call 10; refine HL.out.mono ?_; rintro e w2 ⟨rfl, b2⟩; obtain ⟨y0, y1, y2, y3, y4, y5⟩ := cells6 ((b2.block w.heap.size (hp_lt H1.out.1)).trans H1.out.1); have H2 := hide (H1.out.2.trans (b2.mono H1.out.2.size)); clear b2)
          | (go_at_call 11; refine (HRt.out w2 (H0.out.2.2.1.below H2.out)).mono ?_; rintro e w3 ⟨rfl, b3⟩))
        go_ret
        exact ⟨rfl, H2.out.trans (b3.mono H2.out.size)⟩
    · by_cases e_get : t = ty_get
      · have f_error : (t.toList == [101, 114, 114, 111, 114]) = false := by rw [cmp_lit t ty_error _ (by rw [ByteArray.toList_eq]; rfl)]; exact decide_eq_false (by rw [e_get]; decide)
        have f_get : (t.toList == [103, 101, 116]) = true := by rw [cmp_lit t ty_get _ (by rw [ByteArray.toList_eq]; rfl)]; exact decide_eq_true e_get
        have f_set : (t.toList == [115, 101, 116]) = false := by rw [cmp_lit t ty_set _ (by rw [ByteArray.toList_eq]; rfl)]; exact decide_eq_false (by rw [e_get]; decide)
        have f_result : (t.toList == [114, 101, 115, 117, 108, 116]) = false := by rw [cmp_lit t ty_result _ (by rw [ByteArray.toList_eq]; rfl)]; exact decide_eq_false (by rw [e_get]; decide)
        have f_chat : (t.toList == [99, 104, 97, 116]) = false := by rw [cmp_lit t ty_chat _ (by rw [ByteArray.toList_eq]; rfl)]; exact decide_eq_false (by rw [e_get]; decide)
        have f_headline : (t.toList == [104, 101, 97, 100, 108, 105, 110, 101]) = false := by rw [cmp_lit t ty_headline _ (by rw [ByteArray.toList_eq]; rfl)]; exact decide_eq_false (by rw [e_get]; decide)
        have f_unavailable : (t.toList == [117, 110, 97, 118, 97, 105, 108, 97, 98, 108, 101]) = false := by rw [cmp_lit t ty_unavailable _ (by rw [ByteArray.toList_eq]; rfl)]; exact decide_eq_false (by rw [e_get]; decide)
        have f_none := ty_ne (t := t) (by rw [e_get]; decide)
        clear e_get
        cases hid : id.toList.isEmpty with
        | true =>
          go_wp2_with (first
            | (go_at_call 10; refine HL.out.mono ?_; rintro e w2 ⟨rfl, b2⟩; obtain ⟨y0, y1, y2, y3, y4, y5⟩ := cells6 ((b2.block w.heap.size (hp_lt H1.out.1)).trans H1.out.1); have H2 := hide (H1.out.2.trans (b2.mono H1.out.2.size)); clear b2)
            | (go_at_call 11; refine (HRt.out w2 (H0.out.2.2.1.below H2.out)).mono ?_; rintro e w3 ⟨rfl, b3⟩))
          go_ret
          exact ⟨rfl, H2.out.trans (b3.mono H2.out.size)⟩
        | false =>
          go_wp2_with (first
            | (go_at_call 10; refine HL.out.mono ?_; rintro e w2 ⟨rfl, b2⟩; obtain ⟨y0, y1, y2, y3, y4, y5⟩ := cells6 ((b2.block w.heap.size (hp_lt H1.out.1)).trans H1.out.1); have H2 := hide (H1.out.2.trans (b2.mono H1.out.2.size)); clear b2)
            | (go_at_call 11; refine (HRt.out w2 (H0.out.2.2.1.below H2.out)).mono ?_; rintro e w3 ⟨rfl, b3⟩))
          go_ret
          exact ⟨rfl, H2.out.trans (b3.mono H2.out.size)⟩
      · by_cases e_set : t = ty_set
        · have f_error : (t.toList == [101, 114, 114, 111, 114]) = false := by rw [cmp_lit t ty_error _ (by rw [ByteArray.toList_eq]; rfl)]; exact decide_eq_false (by rw [e_set]; decide)
          have f_get : (t.toList == [103, 101, 116]) = false := by rw [cmp_lit t ty_get _ (by rw [ByteArray.toList_eq]; rfl)]; exact decide_eq_false (by rw [e_set]; decide)
          have f_set : (t.toList == [115, 101, 116]) = true := by rw [cmp_lit t ty_set _ (by rw [ByteArray.toList_eq]; rfl)]; exact decide_eq_true e_set
          have f_result : (t.toList == [114, 101, 115, 117, 108, 116]) = false := by rw [cmp_lit t ty_result _ (by rw [ByteArray.toList_eq]; rfl)]; exact decide_eq_false (by rw [e_set]; decide)
          have f_chat : (t.toList == [99, 104, 97, 116]) = false := by rw [cmp_lit t ty_chat _ (by rw [ByteArray.toList_eq]; rfl)]; exact decide_eq_false (by rw [e_set]; decide)
          have f_headline : (t.toList == [104, 101, 97, 100, 108, 105, 110, 101]) = false := by rw [cmp_lit t ty_headline _ (by rw [ByteArray.toList_eq]; rfl)]; exact decide_eq_false (by rw [e_set]; decide)
          have f_unavailable : (t.toList == [117, 110, 97, 118, 97, 105, 108, 97, 98, 108, 101]) = false := by rw [cmp_lit t ty_unavailable _ (by rw [ByteArray.toList_eq]; rfl)]; exact decide_eq_false (by rw [e_set]; decide)
          have f_none := ty_ne (t := t) (by rw [e_set]; decide)
          clear e_set
          cases hid : id.toList.isEmpty with
          | true =>
            go_wp2_with (first
              | (go_at_call 10; refine HL.out.mono ?_; rintro e w2 ⟨rfl, b2⟩; obtain ⟨y0, y1, y2, y3, y4, y5⟩ := cells6 ((b2.block w.heap.size (hp_lt H1.out.1)).trans H1.out.1); have H2 := hide (H1.out.2.trans (b2.mono H1.out.2.size)); clear b2)
              | (go_at_call 11; refine (HRt.out w2 (H0.out.2.2.1.below H2.out)).mono ?_; rintro e w3 ⟨rfl, b3⟩))
            go_ret
            exact ⟨rfl, H2.out.trans (b3.mono H2.out.size)⟩
          | false =>
            go_wp2_with (first
              | (go_at_call 10; refine HL.out.mono ?_; rintro e w2 ⟨rfl, b2⟩; obtain ⟨y0, y1, y2, y3, y4, y5⟩ := cells6 ((b2.block w.heap.size (hp_lt H1.out.1)).trans H1.out.1); have H2 := hide (H1.out.2.trans (b2.mono H1.out.2.size)); clear b2)
              | (go_at_call 11; refine (HRt.out w2 (H0.out.2.2.1.below H2.out)).mono ?_; rintro e w3 ⟨rfl, b3⟩))
            go_ret
            exact ⟨rfl, H2.out.trans (b3.mono H2.out.size)⟩
        · by_cases e_result : t = ty_result
          · have f_error : (t.toList == [101, 114, 114, 111, 114]) = false := by rw [cmp_lit t ty_error _ (by rw [ByteArray.toList_eq]; rfl)]; exact decide_eq_false (by rw [e_result]; decide)
            have f_get : (t.toList == [103, 101, 116]) = false := by rw [cmp_lit t ty_get _ (by rw [ByteArray.toList_eq]; rfl)]; exact decide_eq_false (by rw [e_result]; decide)
            have f_set : (t.toList == [115, 101, 116]) = false := by rw [cmp_lit t ty_set _ (by rw [ByteArray.toList_eq]; rfl)]; exact decide_eq_false (by rw [e_result]; decide)
            have f_result : (t.toList == [114, 101, 115, 117, 108, 116]) = true := by rw [cmp_lit t ty_result _ (by rw [ByteArray.toList_eq]; rfl)]; exact decide_eq_true e_result
            have f_chat : (t.toList == [99, 104, 97, 116]) = false := by rw [cmp_lit t ty_chat _ (by rw [ByteArray.toList_eq]; rfl)]; exact decide_eq_false (by rw [e_result]; decide)
            have f_headline : (t.toList == [104, 101, 97, 100, 108, 105, 110, 101]) = false := by rw [cmp_lit t ty_headline _ (by rw [ByteArray.toList_eq]; rfl)]; exact decide_eq_false (by rw [e_result]; decide)
            have f_unavailable : (t.toList == [117, 110, 97, 118, 97, 105, 108, 97, 98, 108, 101]) = false := by rw [cmp_lit t ty_unavailable _ (by rw [ByteArray.toList_eq]; rfl)]; exact decide_eq_false (by rw [e_result]; decide)
            have f_none := ty_ne (t := t) (by rw [e_result]; decide)
            clear e_result
            cases hid : id.toList.isEmpty with
            | true =>
              go_wp2_with (first
                | (go_at_call 10; refine HL.out.mono ?_; rintro e w2 ⟨rfl, b2⟩; obtain ⟨y0, y1, y2, y3, y4, y5⟩ := cells6 ((b2.block w.heap.size (hp_lt H1.out.1)).trans H1.out.1); have H2 := hide (H1.out.2.trans (b2.mono H1.out.2.size)); clear b2)
                | (go_at_call 11; refine (HRt.out w2 (H0.out.2.2.1.below H2.out)).mono ?_; rintro e w3 ⟨rfl, b3⟩))
              go_ret
              exact ⟨rfl, H2.out.trans (b3.mono H2.out.size)⟩
            | false =>
              go_wp2_with (first
                | (go_at_call 10; refine HL.out.mono ?_; rintro e w2 ⟨rfl, b2⟩; obtain ⟨y0, y1, y2, y3, y4, y5⟩ := cells6 ((b2.block w.heap.size (hp_lt H1.out.1)).trans H1.out.1); have H2 := hide (H1.out.2.trans (b2.mono H1.out.2.size)); clear b2)
                | (go_at_call 11; refine (HRt.out w2 (H0.out.2.2.1.below H2.out)).mono ?_; rintro e w3 ⟨rfl, b3⟩))
              go_ret
              exact ⟨rfl, H2.out.trans (b3.mono H2.out.size)⟩
          · have f_error : (t.toList == [101, 114, 114, 111, 114]) = false := by rw [cmp_lit t ty_error _ (by rw [ByteArray.toList_eq]; rfl)]; exact decide_eq_false e_error
            have f_get : (t.toList == [103, 101, 116]) = false := by rw [cmp_lit t ty_get _ (by rw [ByteArray.toList_eq]; rfl)]; exact decide_eq_false e_get
            have f_set : (t.toList == [115, 101, 116]) = false := by rw [cmp_lit t ty_set _ (by rw [ByteArray.toList_eq]; rfl)]; exact decide_eq_false e_set
            have f_result : (t.toList == [114, 101, 115, 117, 108, 116]) = false := by rw [cmp_lit t ty_result _ (by rw [ByteArray.toList_eq]; rfl)]; exact decide_eq_false e_result
            go_wp2_with (first
              | (go_at_call 10; refine HL.out.mono ?_; rintro e w2 ⟨rfl, b2⟩; obtain ⟨y0, y1, y2, y3, y4, y5⟩ := cells6 ((b2.block w.heap.size (hp_lt H1.out.1)).trans H1.out.1); have H2 := hide (H1.out.2.trans (b2.mono H1.out.2.size)); clear b2)
              | (go_at_call 11; refine (HRt.out w2 (H0.out.2.2.1.below H2.out)).mono ?_; rintro e w3 ⟨rfl, b3⟩))
            go_ret
            exact ⟨rfl, H2.out.trans (b3.mono H2.out.size)⟩
  · by_cases k2 : k = 2
    · subst k2
      by_cases e_error : t = ty_error
      · have f_error : (t.toList == [101, 114, 114, 111, 114]) = true := by rw [cmp_lit t ty_error _ (by rw [ByteArray.toList_eq]; rfl)]; exact decide_eq_true e_error
        have f_get : (t.toList == [103, 101, 116]) = false := by rw [cmp_lit t ty_get _ (by rw [ByteArray.toList_eq]; rfl)]; exact decide_eq_false (by rw [e_error]; decide)
        have f_set : (t.toList == [115, 101, 116]) = false := by rw [cmp_lit t ty_set _ (by rw [ByteArray.toList_eq]; rfl)]; exact decide_eq_false (by rw [e_error]; decide)
        have f_result : (t.toList == [114, 101, 115, 117, 108, 116]) = false := by rw [cmp_lit t ty_result _ (by rw [ByteArray.toList_eq]; rfl)]; exact decide_eq_false (by rw [e_error]; decide)
        have f_chat : (t.toList == [99, 104, 97, 116]) = false := by rw [cmp_lit t ty_chat _ (by rw [ByteArray.toList_eq]; rfl)]; exact decide_eq_false (by rw [e_error]; decide)
        have f_headline : (t.toList == [104, 101, 97, 100, 108, 105, 110, 101]) = false := by rw [cmp_lit t ty_headline _ (by rw [ByteArray.toList_eq]; rfl)]; exact decide_eq_false (by rw [e_error]; decide)
        have f_unavailable : (t.toList == [117, 110, 97, 118, 97, 105, 108, 97, 98, 108, 101]) = false := by rw [cmp_lit t ty_unavailable _ (by rw [ByteArray.toList_eq]; rfl)]; exact decide_eq_false (by rw [e_error]; decide)
        have f_none := ty_ne (t := t) (by rw [e_error]; decide)
        clear e_error
        go_wp2_with (first
          | (go_at_call 10; refine HL.out.mono ?_; rintro e w2 ⟨rfl, b2⟩; obtain ⟨y0, y1, y2, y3, y4, y5⟩ := cells6 ((b2.block w.heap.size (hp_lt H1.out.1)).trans H1.out.1); have H2 := hide (H1.out.2.trans (b2.mono H1.out.2.size)); clear b2)
          | (go_at_call 11; refine (HRt.out w2 (H0.out.2.2.1.below H2.out)).mono ?_; rintro e w3 ⟨rfl, b3⟩))
        go_ret
        exact ⟨rfl, H2.out.trans (b3.mono H2.out.size)⟩
      · by_cases e_none : t = ty_none
        · have f_error : (t.toList == [101, 114, 114, 111, 114]) = false := by rw [cmp_lit t ty_error _ (by rw [ByteArray.toList_eq]; rfl)]; exact decide_eq_false (by rw [e_none]; decide)
          have f_get : (t.toList == [103, 101, 116]) = false := by rw [cmp_lit t ty_get _ (by rw [ByteArray.toList_eq]; rfl)]; exact decide_eq_false (by rw [e_none]; decide)
          have f_set : (t.toList == [115, 101, 116]) = false := by rw [cmp_lit t ty_set _ (by rw [ByteArray.toList_eq]; rfl)]; exact decide_eq_false (by rw [e_none]; decide)
          have f_result : (t.toList == [114, 101, 115, 117, 108, 116]) = false := by rw [cmp_lit t ty_result _ (by rw [ByteArray.toList_eq]; rfl)]; exact decide_eq_false (by rw [e_none]; decide)
          have f_chat : (t.toList == [99, 104, 97, 116]) = false := by rw [cmp_lit t ty_chat _ (by rw [ByteArray.toList_eq]; rfl)]; exact decide_eq_false (by rw [e_none]; decide)
          have f_headline : (t.toList == [104, 101, 97, 100, 108, 105, 110, 101]) = false := by rw [cmp_lit t ty_headline _ (by rw [ByteArray.toList_eq]; rfl)]; exact decide_eq_false (by rw [e_none]; decide)
          have f_unavailable : (t.toList == [117, 110, 97, 118, 97, 105, 108, 97, 98, 108, 101]) = false := by rw [cmp_lit t ty_unavailable _ (by rw [ByteArray.toList_eq]; rfl)]; exact decide_eq_false (by rw [e_none]; decide)
          have f_none := ty_emp e_none
          clear e_none
          go_wp2_with (first
            | (go_at_call 10; refine HL.out.mono ?_; rintro e w2 ⟨rfl, b2⟩; obtain ⟨y0, y1, y2, y3, y4, y5⟩ := cells6 ((b2.block w.heap.size (hp_lt H1.out.1)).trans H1.out.1); have H2 := hide (H1.out.2.trans (b2.mono H1.out.2.size)); clear b2)
            | (go_at_call 11; refine (HRt.out w2 (H0.out.2.2.1.below H2.out)).mono ?_; rintro e w3 ⟨rfl, b3⟩))
          go_ret
          exact ⟨rfl, H2.out.trans (b3.mono H2.out.size)⟩
        · by_cases e_chat : t = ty_chat
          · have f_error : (t.toList == [101, 114, 114, 111, 114]) = false := by rw [cmp_lit t ty_error _ (by rw [ByteArray.toList_eq]; rfl)]; exact decide_eq_false (by rw [e_chat]; decide)
            have f_get : (t.toList == [103, 101, 116]) = false := by rw [cmp_lit t ty_get _ (by rw [ByteArray.toList_eq]; rfl)]; exact decide_eq_false (by rw [e_chat]; decide)
            have f_set : (t.toList == [115, 101, 116]) = false := by rw [cmp_lit t ty_set _ (by rw [ByteArray.toList_eq]; rfl)]; exact decide_eq_false (by rw [e_chat]; decide)
            have f_result : (t.toList == [114, 101, 115, 117, 108, 116]) = false := by rw [cmp_lit t ty_result _ (by rw [ByteArray.toList_eq]; rfl)]; exact decide_eq_false (by rw [e_chat]; decide)
            have f_chat : (t.toList == [99, 104, 97, 116]) = true := by rw [cmp_lit t ty_chat _ (by rw [ByteArray.toList_eq]; rfl)]; exact decide_eq_true e_chat
            have f_headline : (t.toList == [104, 101, 97, 100, 108, 105, 110, 101]) = false := by rw [cmp_lit t ty_headline _ (by rw [ByteArray.toList_eq]; rfl)]; exact decide_eq_false (by rw [e_chat]; decide)
            have f_unavailable : (t.toList == [117, 110, 97, 118, 97, 105, 108, 97, 98, 108, 101]) = false := by rw [cmp_lit t ty_unavailable _ (by rw [ByteArray.toList_eq]; rfl)]; exact decide_eq_false (by rw [e_chat]; decide)
            have f_none := ty_ne (t := t) (by rw [e_chat]; decide)
            clear e_chat
            go_wp2_with (first
              | (go_at_call 10; refine HL.out.mono ?_; rintro e w2 ⟨rfl, b2⟩; obtain ⟨y0, y1, y2, y3, y4, y5⟩ := cells6 ((b2.block w.heap.size (hp_lt H1.out.1)).trans H1.out.1); have H2 := hide (H1.out.2.trans (b2.mono H1.out.2.size)); clear b2)
              | (go_at_call 11; refine (HRt.out w2 (H0.out.2.2.1.below H2.out)).mono ?_; rintro e w3 ⟨rfl, b3⟩))
            go_ret
            exact ⟨rfl, H2.out.trans (b3.mono H2.out.size)⟩
          · by_cases e_headline : t = ty_headline
            · have f_error : (t.toList == [101, 114, 114, 111, 114]) = false := by rw [cmp_lit t ty_error _ (by rw [ByteArray.toList_eq]; rfl)]; exact decide_eq_false (by rw [e_headline]; decide)
              have f_get : (t.toList == [103, 101, 116]) = false := by rw [cmp_lit t ty_get _ (by rw [ByteArray.toList_eq]; rfl)]; exact decide_eq_false (by rw [e_headline]; decide)
              have f_set : (t.toList == [115, 101, 116]) = false := by rw [cmp_lit t ty_set _ (by rw [ByteArray.toList_eq]; rfl)]; exact decide_eq_false (by rw [e_headline]; decide)
              have f_result : (t.toList == [114, 101, 115, 117, 108, 116]) = false := by rw [cmp_lit t ty_result _ (by rw [ByteArray.toList_eq]; rfl)]; exact decide_eq_false (by rw [e_headline]; decide)
              have f_chat : (t.toList == [99, 104, 97, 116]) = false := by rw [cmp_lit t ty_chat _ (by rw [ByteArray.toList_eq]; rfl)]; exact decide_eq_false (by rw [e_headline]; decide)
              have f_headline : (t.toList == [104, 101, 97, 100, 108, 105, 110, 101]) = true := by rw [cmp_lit t ty_headline _ (by rw [ByteArray.toList_eq]; rfl)]; exact decide_eq_true e_headline
              have f_unavailable : (t.toList == [117, 110, 97, 118, 97, 105, 108, 97, 98, 108, 101]) = false := by rw [cmp_lit t ty_unavailable _ (by rw [ByteArray.toList_eq]; rfl)]; exact decide_eq_false (by rw [e_headline]; decide)
              have f_none := ty_ne (t := t) (by rw [e_headline]; decide)
              clear e_headline
              go_wp2_with (first
                | (go_at_call 10; refine HL.out.mono ?_; rintro e w2 ⟨rfl, b2⟩; obtain ⟨y0, y1, y2, y3, y4, y5⟩ := cells6 ((b2.block w.heap.size (hp_lt H1.out.1)).trans H1.out.1); have H2 := hide (H1.out.2.trans (b2.mono H1.out.2.size)); clear b2)
                | (go_at_call 11; refine (HRt.out w2 (H0.out.2.2.1.below H2.out)).mono ?_; rintro e w3 ⟨rfl, b3⟩))
              go_ret
              exact ⟨rfl, H2.out.trans (b3.mono H2.out.size)⟩
            · have f_error : (t.toList == [101, 114, 114, 111, 114]) = false := by rw [cmp_lit t ty_error _ (by rw [ByteArray.toList_eq]; rfl)]; exact decide_eq_false e_error
              have f_none := ty_ne (t := t) e_none
              have f_chat : (t.toList == [99, 104, 97, 116]) = false := by rw [cmp_lit t ty_chat _ (by rw [ByteArray.toList_eq]; rfl)]; exact decide_eq_false e_chat
              have f_headline : (t.toList == [104, 101, 97, 100, 108, 105, 110, 101]) = false := by rw [cmp_lit t ty_headline _ (by rw [ByteArray.toList_eq]; rfl)]; exact decide_eq_false e_headline
              go_wp2_with (first
                | (go_at_call 10; refine HL.out.mono ?_; rintro e w2 ⟨rfl, b2⟩; obtain ⟨y0, y1, y2, y3, y4, y5⟩ := cells6 ((b2.block w.heap.size (hp_lt H1.out.1)).trans H1.out.1); have H2 := hide (H1.out.2.trans (b2.mono H1.out.2.size)); clear b2)
                | (go_at_call 11; refine (HRt.out w2 (H0.out.2.2.1.below H2.out)).mono ?_; rintro e w3 ⟨rfl, b3⟩))
              go_ret
              exact ⟨rfl, H2.out.trans (b3.mono H2.out.size)⟩
    · by_cases k3 : k = 3
      · subst k3
        by_cases e_error : t = ty_error
        · have f_error : (t.toList == [101, 114, 114, 111, 114]) = true := by rw [cmp_lit t ty_error _ (by rw [ByteArray.toList_eq]; rfl)]; exact decide_eq_true e_error
          have f_get : (t.toList == [103, 101, 116]) = false := by rw [cmp_lit t ty_get _ (by rw [ByteArray.toList_eq]; rfl)]; exact decide_eq_false (by rw [e_error]; decide)
          have f_set : (t.toList == [115, 101, 116]) = false := by rw [cmp_lit t ty_set _ (by rw [ByteArray.toList_eq]; rfl)]; exact decide_eq_false (by rw [e_error]; decide)
          have f_result : (t.toList == [114, 101, 115, 117, 108, 116]) = false := by rw [cmp_lit t ty_result _ (by rw [ByteArray.toList_eq]; rfl)]; exact decide_eq_false (by rw [e_error]; decide)
          have f_chat : (t.toList == [99, 104, 97, 116]) = false := by rw [cmp_lit t ty_chat _ (by rw [ByteArray.toList_eq]; rfl)]; exact decide_eq_false (by rw [e_error]; decide)
          have f_headline : (t.toList == [104, 101, 97, 100, 108, 105, 110, 101]) = false := by rw [cmp_lit t ty_headline _ (by rw [ByteArray.toList_eq]; rfl)]; exact decide_eq_false (by rw [e_error]; decide)
          have f_unavailable : (t.toList == [117, 110, 97, 118, 97, 105, 108, 97, 98, 108, 101]) = false := by rw [cmp_lit t ty_unavailable _ (by rw [ByteArray.toList_eq]; rfl)]; exact decide_eq_false (by rw [e_error]; decide)
          have f_none := ty_ne (t := t) (by rw [e_error]; decide)
          clear e_error
          go_wp2_with (first
            | (go_at_call 10; refine HL.out.mono ?_; rintro e w2 ⟨rfl, b2⟩; obtain ⟨y0, y1, y2, y3, y4, y5⟩ := cells6 ((b2.block w.heap.size (hp_lt H1.out.1)).trans H1.out.1); have H2 := hide (H1.out.2.trans (b2.mono H1.out.2.size)); clear b2)
            | (go_at_call 11; refine (HRt.out w2 (H0.out.2.2.1.below H2.out)).mono ?_; rintro e w3 ⟨rfl, b3⟩))
          go_ret
          exact ⟨rfl, H2.out.trans (b3.mono H2.out.size)⟩
        · by_cases e_none : t = ty_none
          · have f_error : (t.toList == [101, 114, 114, 111, 114]) = false := by rw [cmp_lit t ty_error _ (by rw [ByteArray.toList_eq]; rfl)]; exact decide_eq_false (by rw [e_none]; decide)
            have f_get : (t.toList == [103, 101, 116]) = false := by rw [cmp_lit t ty_get _ (by rw [ByteArray.toList_eq]; rfl)]; exact decide_eq_false (by rw [e_none]; decide)
            have f_set : (t.toList == [115, 101, 116]) = false := by rw [cmp_lit t ty_set _ (by rw [ByteArray.toList_eq]; rfl)]; exact decide_eq_false (by rw [e_none]; decide)
            have f_result : (t.toList == [114, 101, 115, 117, 108, 116]) = false := by rw [cmp_lit t ty_result _ (by rw [ByteArray.toList_eq]; rfl)]; exact decide_eq_false (by rw [e_none]; decide)
            have f_chat : (t.toList == [99, 104, 97, 116]) = false := by rw [cmp_lit t ty_chat _ (by rw [ByteArray.toList_eq]; rfl)]; exact decide_eq_false (by rw [e_none]; decide)
            have f_headline : (t.toList == [104, 101, 97, 100, 108, 105, 110, 101]) = false := by rw [cmp_lit t ty_headline _ (by rw [ByteArray.toList_eq]; rfl)]; exact decide_eq_false (by rw [e_none]; decide)
            have f_unavailable : (t.toList == [117, 110, 97, 118, 97, 105, 108, 97, 98, 108, 101]) = false := by rw [cmp_lit t ty_unavailable _ (by rw [ByteArray.toList_eq]; rfl)]; exact decide_eq_false (by rw [e_none]; decide)
            have f_none := ty_emp e_none
            clear e_none
            go_wp2_with (first
              | (go_at_call 10; refine HL.out.mono ?_; rintro e w2 ⟨rfl, b2⟩; obtain ⟨y0, y1, y2, y3, y4, y5⟩ := cells6 ((b2.block w.heap.size (hp_lt H1.out.1)).trans H1.out.1); have H2 := hide (H1.out.2.trans (b2.mono H1.out.2.size)); clear b2)
              | (go_at_call 11; refine (HRt.out w2 (H0.out.2.2.1.below H2.out)).mono ?_; rintro e w3 ⟨rfl, b3⟩))
            go_ret
            exact ⟨rfl, H2.out.trans (b3.mono H2.out.size)⟩
          · by_cases e_unavailable : t = ty_unavailable
            · have f_error : (t.toList == [101, 114, 114, 111, 114]) = false := by rw [cmp_lit t ty_error _ (by rw [ByteArray.toList_eq]; rfl)]; exact decide_eq_false (by rw [e_unavailable]; decide)
              have f_get : (t.toList == [103, 101, 116]) = false := by rw [cmp_lit t ty_get _ (by rw [ByteArray.toList_eq]; rfl)]; exact decide_eq_false (by rw [e_unavailable]; decide)
              have f_set : (t.toList == [115, 101, 116]) = false := by rw [cmp_lit t ty_set _ (by rw [ByteArray.toList_eq]; rfl)]; exact decide_eq_false (by rw [e_unavailable]; decide)
              have f_result : (t.toList == [114, 101, 115, 117, 108, 116]) = false := by rw [cmp_lit t ty_result _ (by rw [ByteArray.toList_eq]; rfl)]; exact decide_eq_false (by rw [e_unavailable]; decide)
              have f_chat : (t.toList == [99, 104, 97, 116]) = false := by rw [cmp_lit t ty_chat _ (by rw [ByteArray.toList_eq]; rfl)]; exact decide_eq_false (by rw [e_unavailable]; decide)
              have f_headline : (t.toList == [104, 101, 97, 100, 108, 105, 110, 101]) = false := by rw [cmp_lit t ty_headline _ (by rw [ByteArray.toList_eq]; rfl)]; exact decide_eq_false (by rw [e_unavailable]; decide)
              have f_unavailable : (t.toList == [117, 110, 97, 118, 97, 105, 108, 97, 98, 108, 101]) = true := by rw [cmp_lit t ty_unavailable _ (by rw [ByteArray.toList_eq]; rfl)]; exact decide_eq_true e_unavailable
              have f_none := ty_ne (t := t) (by rw [e_unavailable]; decide)
              clear e_unavailable
              go_wp2_with (first
                | (go_at_call 10; refine HL.out.mono ?_; rintro e w2 ⟨rfl, b2⟩; obtain ⟨y0, y1, y2, y3, y4, y5⟩ := cells6 ((b2.block w.heap.size (hp_lt H1.out.1)).trans H1.out.1); have H2 := hide (H1.out.2.trans (b2.mono H1.out.2.size)); clear b2)
                | (go_at_call 11; refine (HRt.out w2 (H0.out.2.2.1.below H2.out)).mono ?_; rintro e w3 ⟨rfl, b3⟩))
              go_ret
              exact ⟨rfl, H2.out.trans (b3.mono H2.out.size)⟩
            · have f_error : (t.toList == [101, 114, 114, 111, 114]) = false := by rw [cmp_lit t ty_error _ (by rw [ByteArray.toList_eq]; rfl)]; exact decide_eq_false e_error
              have f_none := ty_ne (t := t) e_none
              have f_unavailable : (t.toList == [117, 110, 97, 118, 97, 105, 108, 97, 98, 108, 101]) = false := by rw [cmp_lit t ty_unavailable _ (by rw [ByteArray.toList_eq]; rfl)]; exact decide_eq_false e_unavailable
              go_wp2_with (first
                | (go_at_call 10; refine HL.out.mono ?_; rintro e w2 ⟨rfl, b2⟩; obtain ⟨y0, y1, y2, y3, y4, y5⟩ := cells6 ((b2.block w.heap.size (hp_lt H1.out.1)).trans H1.out.1); have H2 := hide (H1.out.2.trans (b2.mono H1.out.2.size)); clear b2)
                | (go_at_call 11; refine (HRt.out w2 (H0.out.2.2.1.below H2.out)).mono ?_; rintro e w3 ⟨rfl, b3⟩))
              go_ret
              exact ⟨rfl, H2.out.trans (b3.mono H2.out.size)⟩
      · have q1 : (k == 1) = false := beq_eq_false_iff_ne.2 k1
        have q2 : (k == 2) = false := beq_eq_false_iff_ne.2 k2
        have q3 : (k == 3) = false := beq_eq_false_iff_ne.2 k3
        go_wp2_with (first
          | (go_at_call 10; refine HL.out.mono ?_; rintro e w2 ⟨rfl, b2⟩; obtain ⟨y0, y1, y2, y3, y4, y5⟩ := cells6 ((b2.block w.heap.size (hp_lt H1.out.1)).trans H1.out.1); have H2 := hide (H1.out.2.trans (b2.mono H1.out.2.size)); clear b2)
          | (go_at_call 11; refine (HRt.out w2 (H0.out.2.2.1.below H2.out)).mono ?_; rintro e w3 ⟨rfl, b3⟩))
        go_ret
        exact ⟨rfl, H2.out.trans (b3.mono H2.out.size)⟩
set_option maxRecDepth 100000 in
set_option maxHeartbeats 8000000 in
theorem types_yes (k : Int) (t id : ByteArray) (w : World) (ht : t.size ≤ 9223372036854775807) (hi : id.size ≤ 9223372036854775807) (hE : Env6 w) (hok : StOk k t ⟨#[]⟩ ⟨#[]⟩ id []) :
    Calls Tryd.prog 3 #[.int .u8 k, .string t, .string id] w fun e w' => e = .returned (.bool true) ∧ Below w.heap.size w w' := by
  obtain ⟨Wa, hWa, aa, ba, za⟩ := newV w 25 #[.int .u8 k, .string t, .string ⟨#[]⟩, .string ⟨#[]⟩, .string id, .slice none 0 0]
  have HST := hide (run_store_new (P := Tryd.prog) infoSt w (cs := #[.int .u8 k, .string t, .string ⟨#[]⟩, .string ⟨#[]⟩, .string id, .slice none 0 0]) (c := zeroSt) rfl rfl (by simp [Value.oneCell']))
  obtain ⟨x0, x1, x2, x3, x4, x5⟩ := cells6 aa
  have HLV := hide fun (V : World) (hV : Env6 V) => live_any V hV
  have HEn := hide (encode_yes (pc := 0) (tokMem_nil Wa.heap.size Wa) (by simp) ⟨ht, by decide, by decide, hi⟩ (hE.below ba) hok)
  rw [show ([] : List Tok).length = 0 from rfl] at HEn
  have HRt := hide fun (V : World) (hV : Env6 V) => right_yes (pc := 0) (tokMem_nil V.heap.size V) (by simp) ⟨ht, by decide, by decide, hi⟩ hV hok
  rw [show ([] : List Tok).length = 0 from rfl] at HRt
  have H0 := hide (And.intro aa (And.intro ba (And.intro hE hok)))
  clear aa ba hE hok ht hi
  go_enter Tryd.func3, Tryd.ntmps3
  go_wp2_with (first
    | (refine l_alloc 25 infoSt rfl rfl ?_)
    | (refine l_store 25 HST.out rfl rfl rfl rfl ?_; rw [hWa])
    | (go_at_call 9; refine HEn.out.mono ?_; rintro e w1 ⟨v1, l1, rfl, m1, r1, b1⟩; refine stopHere ?_))
  unfold Hid
  have g1 := (b1.block w.heap.size (by omega)).trans H0.out.1
  have B1 : Below w.heap.size w w1 := H0.out.2.1.trans (b1.mono (by omega))
  have hl1 : l1.length = 2 := by
    have h := congrArg List.length m1
    rw [List.length_map] at h
    exact h
  obtain ⟨ga1, gc1, hv1⟩ := own_shape r1.1
  subst hv1
  rw [hl1]
  have HL := hide (HLV.out w1 (H0.out.2.2.1.below B1))
  have H1 := hide (And.intro g1 B1)
  clear g1 B1 b1 HEn HLV x0 x1 x2 x3 x4 x5 m1 r1 hl1
  by_cases k1 : k = 1
  · subst k1
    by_cases e_error : t = ty_error
    · have f_error : (t.toList == [101, 114, 114, 111, 114]) = true := by rw [cmp_lit t ty_error _ (by rw [ByteArray.toList_eq]; rfl)]; exact decide_eq_true e_error
      have f_get : (t.toList == [103, 101, 116]) = false := by rw [cmp_lit t ty_get _ (by rw [ByteArray.toList_eq]; rfl)]; exact decide_eq_false (by rw [e_error]; decide)
      have f_set : (t.toList == [115, 101, 116]) = false := by rw [cmp_lit t ty_set _ (by rw [ByteArray.toList_eq]; rfl)]; exact decide_eq_false (by rw [e_error]; decide)
      have f_result : (t.toList == [114, 101, 115, 117, 108, 116]) = false := by rw [cmp_lit t ty_result _ (by rw [ByteArray.toList_eq]; rfl)]; exact decide_eq_false (by rw [e_error]; decide)
      have f_chat : (t.toList == [99, 104, 97, 116]) = false := by rw [cmp_lit t ty_chat _ (by rw [ByteArray.toList_eq]; rfl)]; exact decide_eq_false (by rw [e_error]; decide)
      have f_headline : (t.toList == [104, 101, 97, 100, 108, 105, 110, 101]) = false := by rw [cmp_lit t ty_headline _ (by rw [ByteArray.toList_eq]; rfl)]; exact decide_eq_false (by rw [e_error]; decide)
      have f_unavailable : (t.toList == [117, 110, 97, 118, 97, 105, 108, 97, 98, 108, 101]) = false := by rw [cmp_lit t ty_unavailable _ (by rw [ByteArray.toList_eq]; rfl)]; exact decide_eq_false (by rw [e_error]; decide)
      have f_none := ty_ne (t := t) (by rw [e_error]; decide)
      clear e_error
      cases hid : id.toList.isEmpty with
      | true => exact absurd H0.out.2.2.2.1 (no_id hid)
      | false =>
        go_wp2_with (first
          | (go_at_call 10; refine HL.out.mono ?_; rintro e w2 ⟨rfl, b2⟩; obtain ⟨y0, y1, y2, y3, y4, y5⟩ := cells6 ((b2.block w.heap.size (hp_lt H1.out.1)).trans H1.out.1); have H2 := hide (H1.out.2.trans (b2.mono H1.out.2.size)); clear b2)
          | (go_at_call 11; refine (HRt.out w2 (H0.out.2.2.1.below H2.out)).mono ?_; rintro e w3 ⟨rfl, b3⟩))
        go_ret
        exact ⟨rfl, H2.out.trans (b3.mono H2.out.size)⟩
    · by_cases e_get : t = ty_get
      · have f_error : (t.toList == [101, 114, 114, 111, 114]) = false := by rw [cmp_lit t ty_error _ (by rw [ByteArray.toList_eq]; rfl)]; exact decide_eq_false (by rw [e_get]; decide)
        have f_get : (t.toList == [103, 101, 116]) = true := by rw [cmp_lit t ty_get _ (by rw [ByteArray.toList_eq]; rfl)]; exact decide_eq_true e_get
        have f_set : (t.toList == [115, 101, 116]) = false := by rw [cmp_lit t ty_set _ (by rw [ByteArray.toList_eq]; rfl)]; exact decide_eq_false (by rw [e_get]; decide)
        have f_result : (t.toList == [114, 101, 115, 117, 108, 116]) = false := by rw [cmp_lit t ty_result _ (by rw [ByteArray.toList_eq]; rfl)]; exact decide_eq_false (by rw [e_get]; decide)
        have f_chat : (t.toList == [99, 104, 97, 116]) = false := by rw [cmp_lit t ty_chat _ (by rw [ByteArray.toList_eq]; rfl)]; exact decide_eq_false (by rw [e_get]; decide)
        have f_headline : (t.toList == [104, 101, 97, 100, 108, 105, 110, 101]) = false := by rw [cmp_lit t ty_headline _ (by rw [ByteArray.toList_eq]; rfl)]; exact decide_eq_false (by rw [e_get]; decide)
        have f_unavailable : (t.toList == [117, 110, 97, 118, 97, 105, 108, 97, 98, 108, 101]) = false := by rw [cmp_lit t ty_unavailable _ (by rw [ByteArray.toList_eq]; rfl)]; exact decide_eq_false (by rw [e_get]; decide)
        have f_none := ty_ne (t := t) (by rw [e_get]; decide)
        clear e_get
        cases hid : id.toList.isEmpty with
        | true => exact absurd H0.out.2.2.2.1 (no_id hid)
        | false =>
          go_wp2_with (first
            | (go_at_call 10; refine HL.out.mono ?_; rintro e w2 ⟨rfl, b2⟩; obtain ⟨y0, y1, y2, y3, y4, y5⟩ := cells6 ((b2.block w.heap.size (hp_lt H1.out.1)).trans H1.out.1); have H2 := hide (H1.out.2.trans (b2.mono H1.out.2.size)); clear b2)
            | (go_at_call 11; refine (HRt.out w2 (H0.out.2.2.1.below H2.out)).mono ?_; rintro e w3 ⟨rfl, b3⟩))
          go_ret
          exact ⟨rfl, H2.out.trans (b3.mono H2.out.size)⟩
      · by_cases e_set : t = ty_set
        · have f_error : (t.toList == [101, 114, 114, 111, 114]) = false := by rw [cmp_lit t ty_error _ (by rw [ByteArray.toList_eq]; rfl)]; exact decide_eq_false (by rw [e_set]; decide)
          have f_get : (t.toList == [103, 101, 116]) = false := by rw [cmp_lit t ty_get _ (by rw [ByteArray.toList_eq]; rfl)]; exact decide_eq_false (by rw [e_set]; decide)
          have f_set : (t.toList == [115, 101, 116]) = true := by rw [cmp_lit t ty_set _ (by rw [ByteArray.toList_eq]; rfl)]; exact decide_eq_true e_set
          have f_result : (t.toList == [114, 101, 115, 117, 108, 116]) = false := by rw [cmp_lit t ty_result _ (by rw [ByteArray.toList_eq]; rfl)]; exact decide_eq_false (by rw [e_set]; decide)
          have f_chat : (t.toList == [99, 104, 97, 116]) = false := by rw [cmp_lit t ty_chat _ (by rw [ByteArray.toList_eq]; rfl)]; exact decide_eq_false (by rw [e_set]; decide)
          have f_headline : (t.toList == [104, 101, 97, 100, 108, 105, 110, 101]) = false := by rw [cmp_lit t ty_headline _ (by rw [ByteArray.toList_eq]; rfl)]; exact decide_eq_false (by rw [e_set]; decide)
          have f_unavailable : (t.toList == [117, 110, 97, 118, 97, 105, 108, 97, 98, 108, 101]) = false := by rw [cmp_lit t ty_unavailable _ (by rw [ByteArray.toList_eq]; rfl)]; exact decide_eq_false (by rw [e_set]; decide)
          have f_none := ty_ne (t := t) (by rw [e_set]; decide)
          clear e_set
          cases hid : id.toList.isEmpty with
          | true => exact absurd H0.out.2.2.2.1 (no_id hid)
          | false =>
            go_wp2_with (first
              | (go_at_call 10; refine HL.out.mono ?_; rintro e w2 ⟨rfl, b2⟩; obtain ⟨y0, y1, y2, y3, y4, y5⟩ := cells6 ((b2.block w.heap.size (hp_lt H1.out.1)).trans H1.out.1); have H2 := hide (H1.out.2.trans (b2.mono H1.out.2.size)); clear b2)
              | (go_at_call 11; refine (HRt.out w2 (H0.out.2.2.1.below H2.out)).mono ?_; rintro e w3 ⟨rfl, b3⟩))
            go_ret
            exact ⟨rfl, H2.out.trans (b3.mono H2.out.size)⟩
        · by_cases e_result : t = ty_result
          · have f_error : (t.toList == [101, 114, 114, 111, 114]) = false := by rw [cmp_lit t ty_error _ (by rw [ByteArray.toList_eq]; rfl)]; exact decide_eq_false (by rw [e_result]; decide)
            have f_get : (t.toList == [103, 101, 116]) = false := by rw [cmp_lit t ty_get _ (by rw [ByteArray.toList_eq]; rfl)]; exact decide_eq_false (by rw [e_result]; decide)
            have f_set : (t.toList == [115, 101, 116]) = false := by rw [cmp_lit t ty_set _ (by rw [ByteArray.toList_eq]; rfl)]; exact decide_eq_false (by rw [e_result]; decide)
            have f_result : (t.toList == [114, 101, 115, 117, 108, 116]) = true := by rw [cmp_lit t ty_result _ (by rw [ByteArray.toList_eq]; rfl)]; exact decide_eq_true e_result
            have f_chat : (t.toList == [99, 104, 97, 116]) = false := by rw [cmp_lit t ty_chat _ (by rw [ByteArray.toList_eq]; rfl)]; exact decide_eq_false (by rw [e_result]; decide)
            have f_headline : (t.toList == [104, 101, 97, 100, 108, 105, 110, 101]) = false := by rw [cmp_lit t ty_headline _ (by rw [ByteArray.toList_eq]; rfl)]; exact decide_eq_false (by rw [e_result]; decide)
            have f_unavailable : (t.toList == [117, 110, 97, 118, 97, 105, 108, 97, 98, 108, 101]) = false := by rw [cmp_lit t ty_unavailable _ (by rw [ByteArray.toList_eq]; rfl)]; exact decide_eq_false (by rw [e_result]; decide)
            have f_none := ty_ne (t := t) (by rw [e_result]; decide)
            clear e_result
            cases hid : id.toList.isEmpty with
            | true => exact absurd H0.out.2.2.2.1 (no_id hid)
            | false =>
              go_wp2_with (first
                | (go_at_call 10; refine HL.out.mono ?_; rintro e w2 ⟨rfl, b2⟩; obtain ⟨y0, y1, y2, y3, y4, y5⟩ := cells6 ((b2.block w.heap.size (hp_lt H1.out.1)).trans H1.out.1); have H2 := hide (H1.out.2.trans (b2.mono H1.out.2.size)); clear b2)
                | (go_at_call 11; refine (HRt.out w2 (H0.out.2.2.1.below H2.out)).mono ?_; rintro e w3 ⟨rfl, b3⟩))
              go_ret
              exact ⟨rfl, H2.out.trans (b3.mono H2.out.size)⟩
          · exact absurd H0.out.2.2.2.1 (by simp [mayB, tyB, e_error, e_get, e_set, e_result])
  · by_cases k2 : k = 2
    · subst k2
      by_cases e_error : t = ty_error
      · have f_error : (t.toList == [101, 114, 114, 111, 114]) = true := by rw [cmp_lit t ty_error _ (by rw [ByteArray.toList_eq]; rfl)]; exact decide_eq_true e_error
        have f_get : (t.toList == [103, 101, 116]) = false := by rw [cmp_lit t ty_get _ (by rw [ByteArray.toList_eq]; rfl)]; exact decide_eq_false (by rw [e_error]; decide)
        have f_set : (t.toList == [115, 101, 116]) = false := by rw [cmp_lit t ty_set _ (by rw [ByteArray.toList_eq]; rfl)]; exact decide_eq_false (by rw [e_error]; decide)
        have f_result : (t.toList == [114, 101, 115, 117, 108, 116]) = false := by rw [cmp_lit t ty_result _ (by rw [ByteArray.toList_eq]; rfl)]; exact decide_eq_false (by rw [e_error]; decide)
        have f_chat : (t.toList == [99, 104, 97, 116]) = false := by rw [cmp_lit t ty_chat _ (by rw [ByteArray.toList_eq]; rfl)]; exact decide_eq_false (by rw [e_error]; decide)
        have f_headline : (t.toList == [104, 101, 97, 100, 108, 105, 110, 101]) = false := by rw [cmp_lit t ty_headline _ (by rw [ByteArray.toList_eq]; rfl)]; exact decide_eq_false (by rw [e_error]; decide)
        have f_unavailable : (t.toList == [117, 110, 97, 118, 97, 105, 108, 97, 98, 108, 101]) = false := by rw [cmp_lit t ty_unavailable _ (by rw [ByteArray.toList_eq]; rfl)]; exact decide_eq_false (by rw [e_error]; decide)
        have f_none := ty_ne (t := t) (by rw [e_error]; decide)
        clear e_error
        go_wp2_with (first
          | (go_at_call 10; refine HL.out.mono ?_; rintro e w2 ⟨rfl, b2⟩; obtain ⟨y0, y1, y2, y3, y4, y5⟩ := cells6 ((b2.block w.heap.size (hp_lt H1.out.1)).trans H1.out.1); have H2 := hide (H1.out.2.trans (b2.mono H1.out.2.size)); clear b2)
          | (go_at_call 11; refine (HRt.out w2 (H0.out.2.2.1.below H2.out)).mono ?_; rintro e w3 ⟨rfl, b3⟩))
        go_ret
        exact ⟨rfl, H2.out.trans (b3.mono H2.out.size)⟩
      · by_cases e_none : t = ty_none
        · have f_error : (t.toList == [101, 114, 114, 111, 114]) = false := by rw [cmp_lit t ty_error _ (by rw [ByteArray.toList_eq]; rfl)]; exact decide_eq_false (by rw [e_none]; decide)
          have f_get : (t.toList == [103, 101, 116]) = false := by rw [cmp_lit t ty_get _ (by rw [ByteArray.toList_eq]; rfl)]; exact decide_eq_false (by rw [e_none]; decide)
          have f_set : (t.toList == [115, 101, 116]) = false := by rw [cmp_lit t ty_set _ (by rw [ByteArray.toList_eq]; rfl)]; exact decide_eq_false (by rw [e_none]; decide)
          have f_result : (t.toList == [114, 101, 115, 117, 108, 116]) = false := by rw [cmp_lit t ty_result _ (by rw [ByteArray.toList_eq]; rfl)]; exact decide_eq_false (by rw [e_none]; decide)
          have f_chat : (t.toList == [99, 104, 97, 116]) = false := by rw [cmp_lit t ty_chat _ (by rw [ByteArray.toList_eq]; rfl)]; exact decide_eq_false (by rw [e_none]; decide)
          have f_headline : (t.toList == [104, 101, 97, 100, 108, 105, 110, 101]) = false := by rw [cmp_lit t ty_headline _ (by rw [ByteArray.toList_eq]; rfl)]; exact decide_eq_false (by rw [e_none]; decide)
          have f_unavailable : (t.toList == [117, 110, 97, 118, 97, 105, 108, 97, 98, 108, 101]) = false := by rw [cmp_lit t ty_unavailable _ (by rw [ByteArray.toList_eq]; rfl)]; exact decide_eq_false (by rw [e_none]; decide)
          have f_none := ty_emp e_none
          clear e_none
          go_wp2_with (first
            | (go_at_call 10; refine HL.out.mono ?_; rintro e w2 ⟨rfl, b2⟩; obtain ⟨y0, y1, y2, y3, y4, y5⟩ := cells6 ((b2.block w.heap.size (hp_lt H1.out.1)).trans H1.out.1); have H2 := hide (H1.out.2.trans (b2.mono H1.out.2.size)); clear b2)
            | (go_at_call 11; refine (HRt.out w2 (H0.out.2.2.1.below H2.out)).mono ?_; rintro e w3 ⟨rfl, b3⟩))
          go_ret
          exact ⟨rfl, H2.out.trans (b3.mono H2.out.size)⟩
        · by_cases e_chat : t = ty_chat
          · have f_error : (t.toList == [101, 114, 114, 111, 114]) = false := by rw [cmp_lit t ty_error _ (by rw [ByteArray.toList_eq]; rfl)]; exact decide_eq_false (by rw [e_chat]; decide)
            have f_get : (t.toList == [103, 101, 116]) = false := by rw [cmp_lit t ty_get _ (by rw [ByteArray.toList_eq]; rfl)]; exact decide_eq_false (by rw [e_chat]; decide)
            have f_set : (t.toList == [115, 101, 116]) = false := by rw [cmp_lit t ty_set _ (by rw [ByteArray.toList_eq]; rfl)]; exact decide_eq_false (by rw [e_chat]; decide)
            have f_result : (t.toList == [114, 101, 115, 117, 108, 116]) = false := by rw [cmp_lit t ty_result _ (by rw [ByteArray.toList_eq]; rfl)]; exact decide_eq_false (by rw [e_chat]; decide)
            have f_chat : (t.toList == [99, 104, 97, 116]) = true := by rw [cmp_lit t ty_chat _ (by rw [ByteArray.toList_eq]; rfl)]; exact decide_eq_true e_chat
            have f_headline : (t.toList == [104, 101, 97, 100, 108, 105, 110, 101]) = false := by rw [cmp_lit t ty_headline _ (by rw [ByteArray.toList_eq]; rfl)]; exact decide_eq_false (by rw [e_chat]; decide)
            have f_unavailable : (t.toList == [117, 110, 97, 118, 97, 105, 108, 97, 98, 108, 101]) = false := by rw [cmp_lit t ty_unavailable _ (by rw [ByteArray.toList_eq]; rfl)]; exact decide_eq_false (by rw [e_chat]; decide)
            have f_none := ty_ne (t := t) (by rw [e_chat]; decide)
            clear e_chat
            go_wp2_with (first
              | (go_at_call 10; refine HL.out.mono ?_; rintro e w2 ⟨rfl, b2⟩; obtain ⟨y0, y1, y2, y3, y4, y5⟩ := cells6 ((b2.block w.heap.size (hp_lt H1.out.1)).trans H1.out.1); have H2 := hide (H1.out.2.trans (b2.mono H1.out.2.size)); clear b2)
              | (go_at_call 11; refine (HRt.out w2 (H0.out.2.2.1.below H2.out)).mono ?_; rintro e w3 ⟨rfl, b3⟩))
            go_ret
            exact ⟨rfl, H2.out.trans (b3.mono H2.out.size)⟩
          · by_cases e_headline : t = ty_headline
            · have f_error : (t.toList == [101, 114, 114, 111, 114]) = false := by rw [cmp_lit t ty_error _ (by rw [ByteArray.toList_eq]; rfl)]; exact decide_eq_false (by rw [e_headline]; decide)
              have f_get : (t.toList == [103, 101, 116]) = false := by rw [cmp_lit t ty_get _ (by rw [ByteArray.toList_eq]; rfl)]; exact decide_eq_false (by rw [e_headline]; decide)
              have f_set : (t.toList == [115, 101, 116]) = false := by rw [cmp_lit t ty_set _ (by rw [ByteArray.toList_eq]; rfl)]; exact decide_eq_false (by rw [e_headline]; decide)
              have f_result : (t.toList == [114, 101, 115, 117, 108, 116]) = false := by rw [cmp_lit t ty_result _ (by rw [ByteArray.toList_eq]; rfl)]; exact decide_eq_false (by rw [e_headline]; decide)
              have f_chat : (t.toList == [99, 104, 97, 116]) = false := by rw [cmp_lit t ty_chat _ (by rw [ByteArray.toList_eq]; rfl)]; exact decide_eq_false (by rw [e_headline]; decide)
              have f_headline : (t.toList == [104, 101, 97, 100, 108, 105, 110, 101]) = true := by rw [cmp_lit t ty_headline _ (by rw [ByteArray.toList_eq]; rfl)]; exact decide_eq_true e_headline
              have f_unavailable : (t.toList == [117, 110, 97, 118, 97, 105, 108, 97, 98, 108, 101]) = false := by rw [cmp_lit t ty_unavailable _ (by rw [ByteArray.toList_eq]; rfl)]; exact decide_eq_false (by rw [e_headline]; decide)
              have f_none := ty_ne (t := t) (by rw [e_headline]; decide)
              clear e_headline
              go_wp2_with (first
                | (go_at_call 10; refine HL.out.mono ?_; rintro e w2 ⟨rfl, b2⟩; obtain ⟨y0, y1, y2, y3, y4, y5⟩ := cells6 ((b2.block w.heap.size (hp_lt H1.out.1)).trans H1.out.1); have H2 := hide (H1.out.2.trans (b2.mono H1.out.2.size)); clear b2)
                | (go_at_call 11; refine (HRt.out w2 (H0.out.2.2.1.below H2.out)).mono ?_; rintro e w3 ⟨rfl, b3⟩))
              go_ret
              exact ⟨rfl, H2.out.trans (b3.mono H2.out.size)⟩
            · exact absurd H0.out.2.2.2.1 (by simp [mayB, tyB, e_error, e_none, e_chat, e_headline])
    · by_cases k3 : k = 3
      · subst k3
        by_cases e_error : t = ty_error
        · have f_error : (t.toList == [101, 114, 114, 111, 114]) = true := by rw [cmp_lit t ty_error _ (by rw [ByteArray.toList_eq]; rfl)]; exact decide_eq_true e_error
          have f_get : (t.toList == [103, 101, 116]) = false := by rw [cmp_lit t ty_get _ (by rw [ByteArray.toList_eq]; rfl)]; exact decide_eq_false (by rw [e_error]; decide)
          have f_set : (t.toList == [115, 101, 116]) = false := by rw [cmp_lit t ty_set _ (by rw [ByteArray.toList_eq]; rfl)]; exact decide_eq_false (by rw [e_error]; decide)
          have f_result : (t.toList == [114, 101, 115, 117, 108, 116]) = false := by rw [cmp_lit t ty_result _ (by rw [ByteArray.toList_eq]; rfl)]; exact decide_eq_false (by rw [e_error]; decide)
          have f_chat : (t.toList == [99, 104, 97, 116]) = false := by rw [cmp_lit t ty_chat _ (by rw [ByteArray.toList_eq]; rfl)]; exact decide_eq_false (by rw [e_error]; decide)
          have f_headline : (t.toList == [104, 101, 97, 100, 108, 105, 110, 101]) = false := by rw [cmp_lit t ty_headline _ (by rw [ByteArray.toList_eq]; rfl)]; exact decide_eq_false (by rw [e_error]; decide)
          have f_unavailable : (t.toList == [117, 110, 97, 118, 97, 105, 108, 97, 98, 108, 101]) = false := by rw [cmp_lit t ty_unavailable _ (by rw [ByteArray.toList_eq]; rfl)]; exact decide_eq_false (by rw [e_error]; decide)
          have f_none := ty_ne (t := t) (by rw [e_error]; decide)
          clear e_error
          go_wp2_with (first
            | (go_at_call 10; refine HL.out.mono ?_; rintro e w2 ⟨rfl, b2⟩; obtain ⟨y0, y1, y2, y3, y4, y5⟩ := cells6 ((b2.block w.heap.size (hp_lt H1.out.1)).trans H1.out.1); have H2 := hide (H1.out.2.trans (b2.mono H1.out.2.size)); clear b2)
            | (go_at_call 11; refine (HRt.out w2 (H0.out.2.2.1.below H2.out)).mono ?_; rintro e w3 ⟨rfl, b3⟩))
          go_ret
          exact ⟨rfl, H2.out.trans (b3.mono H2.out.size)⟩
        · by_cases e_none : t = ty_none
          · have f_error : (t.toList == [101, 114, 114, 111, 114]) = false := by rw [cmp_lit t ty_error _ (by rw [ByteArray.toList_eq]; rfl)]; exact decide_eq_false (by rw [e_none]; decide)
            have f_get : (t.toList == [103, 101, 116]) = false := by rw [cmp_lit t ty_get _ (by rw [ByteArray.toList_eq]; rfl)]; exact decide_eq_false (by rw [e_none]; decide)
            have f_set : (t.toList == [115, 101, 116]) = false := by rw [cmp_lit t ty_set _ (by rw [ByteArray.toList_eq]; rfl)]; exact decide_eq_false (by rw [e_none]; decide)
            have f_result : (t.toList == [114, 101, 115, 117, 108, 116]) = false := by rw [cmp_lit t ty_result _ (by rw [ByteArray.toList_eq]; rfl)]; exact decide_eq_false (by rw [e_none]; decide)
            have f_chat : (t.toList == [99, 104, 97, 116]) = false := by rw [cmp_lit t ty_chat _ (by rw [ByteArray.toList_eq]; rfl)]; exact decide_eq_false (by rw [e_none]; decide)
            have f_headline : (t.toList == [104, 101, 97, 100, 108, 105, 110, 101]) = false := by rw [cmp_lit t ty_headline _ (by rw [ByteArray.toList_eq]; rfl)]; exact decide_eq_false (by rw [e_none]; decide)
            have f_unavailable : (t.toList == [117, 110, 97, 118, 97, 105, 108, 97, 98, 108, 101]) = false := by rw [cmp_lit t ty_unavailable _ (by rw [ByteArray.toList_eq]; rfl)]; exact decide_eq_false (by rw [e_none]; decide)
            have f_none := ty_emp e_none
            clear e_none
            go_wp2_with (first
              | (go_at_call 10; refine HL.out.mono ?_; rintro e w2 ⟨rfl, b2⟩; obtain ⟨y0, y1, y2, y3, y4, y5⟩ := cells6 ((b2.block w.heap.size (hp_lt H1.out.1)).trans H1.out.1); have H2 := hide (H1.out.2.trans (b2.mono H1.out.2.size)); clear b2)
              | (go_at_call 11; refine (HRt.out w2 (H0.out.2.2.1.below H2.out)).mono ?_; rintro e w3 ⟨rfl, b3⟩))
            go_ret
            exact ⟨rfl, H2.out.trans (b3.mono H2.out.size)⟩
          · by_cases e_unavailable : t = ty_unavailable
            · have f_error : (t.toList == [101, 114, 114, 111, 114]) = false := by rw [cmp_lit t ty_error _ (by rw [ByteArray.toList_eq]; rfl)]; exact decide_eq_false (by rw [e_unavailable]; decide)
              have f_get : (t.toList == [103, 101, 116]) = false := by rw [cmp_lit t ty_get _ (by rw [ByteArray.toList_eq]; rfl)]; exact decide_eq_false (by rw [e_unavailable]; decide)
              have f_set : (t.toList == [115, 101, 116]) = false := by rw [cmp_lit t ty_set _ (by rw [ByteArray.toList_eq]; rfl)]; exact decide_eq_false (by rw [e_unavailable]; decide)
              have f_result : (t.toList == [114, 101, 115, 117, 108, 116]) = false := by rw [cmp_lit t ty_result _ (by rw [ByteArray.toList_eq]; rfl)]; exact decide_eq_false (by rw [e_unavailable]; decide)
              have f_chat : (t.toList == [99, 104, 97, 116]) = false := by rw [cmp_lit t ty_chat _ (by rw [ByteArray.toList_eq]; rfl)]; exact decide_eq_false (by rw [e_unavailable]; decide)
              have f_headline : (t.toList == [104, 101, 97, 100, 108, 105, 110, 101]) = false := by rw [cmp_lit t ty_headline _ (by rw [ByteArray.toList_eq]; rfl)]; exact decide_eq_false (by rw [e_unavailable]; decide)
              have f_unavailable : (t.toList == [117, 110, 97, 118, 97, 105, 108, 97, 98, 108, 101]) = true := by rw [cmp_lit t ty_unavailable _ (by rw [ByteArray.toList_eq]; rfl)]; exact decide_eq_true e_unavailable
              have f_none := ty_ne (t := t) (by rw [e_unavailable]; decide)
              clear e_unavailable
              go_wp2_with (first
                | (go_at_call 10; refine HL.out.mono ?_; rintro e w2 ⟨rfl, b2⟩; obtain ⟨y0, y1, y2, y3, y4, y5⟩ := cells6 ((b2.block w.heap.size (hp_lt H1.out.1)).trans H1.out.1); have H2 := hide (H1.out.2.trans (b2.mono H1.out.2.size)); clear b2)
                | (go_at_call 11; refine (HRt.out w2 (H0.out.2.2.1.below H2.out)).mono ?_; rintro e w3 ⟨rfl, b3⟩))
              go_ret
              exact ⟨rfl, H2.out.trans (b3.mono H2.out.size)⟩
            · exact absurd H0.out.2.2.2.1 (by simp [mayB, tyB, e_error, e_none, e_unavailable])
      · exact absurd H0.out.2.2.2.1 (by simp [mayB, k1, k2, k3])
theorem stanzaTypes_any (k : Int) (t id : ByteArray) (w : World) (ht : t.size ≤ 9223372036854775807) (hi : id.size ≤ 9223372036854775807) (hE : Env6 w) :
    Calls Tryd.prog 3 #[.int .u8 k, .string t, .string id] w fun e w' => e = .returned (.bool true) ∧ Below w.heap.size w w' := by
  by_cases h : StOk k t ⟨#[]⟩ ⟨#[]⟩ id []
  · exact types_yes k t id w ht hi hE h
  · exact types_no k t id w ht hi hE h

end Go.Proofs.YtabcmaajpamggaaDoor
