/- The document's stanzas: name, address, type. -/
import Derived.Test.YtpknifioflagaaaDoorXL
import Derived.Test.YtpknifioflagaaaDoorXN
namespace Go.Proofs.YtpknifioflagaaaDoor
open Go.RowKit Go.Shelf

set_option maxRecDepth 100000 in
theorem rkind_any (k : Int) (w : World) : Calls Tryd.prog 39 #[.int .u8 k] w fun e w' => e = .returned (.string (kindB k)) ∧ w' = w := by
  unfold kindB
  by_cases h1 : k = 1
  · subst h1
    go_enter Tryd.func39, Tryd.ntmps39
    go_wp2
    go_ret
    exact ⟨rfl, rfl⟩
  · by_cases h2 : k = 2
    · subst h2
      go_enter Tryd.func39, Tryd.ntmps39
      go_wp2
      go_ret
      exact ⟨rfl, rfl⟩
    · by_cases h3 : k = 3
      · subst h3
        go_enter Tryd.func39, Tryd.ntmps39
        go_wp2
        go_ret
        exact ⟨rfl, rfl⟩
      · rw [if_neg h1, if_neg h2, if_neg h3]
        have e1 : (k == 1) = false := by rw [beq_eq_false_iff_ne]; exact h1
        have e2 : (k == 2) = false := by rw [beq_eq_false_iff_ne]; exact h2
        have e3 : (k == 3) = false := by rw [beq_eq_false_iff_ne]; exact h3
        clear h1 h2 h3
        go_enter Tryd.func39, Tryd.ntmps39
        go_wp2
        go_ret
        exact ⟨rfl, rfl⟩
set_option maxRecDepth 100000 in
theorem raddr_any (s : ByteArray) (w : World) (hs : s.size ≤ 4611686018427387903) : Calls Tryd.prog 34 #[.string s] w fun e w' => e = .returned (.bool (addrB s)) ∧ Below w.heap.size w w' := by
  have hp := hide (Jd.refparse_any s w hs)
  clear hs
  unfold addrB
  obtain ⟨pb, hpb⟩ : ∃ pb, (Jd.parseL s.data.toList).isSome = pb := ⟨_, rfl⟩
  rw [hpb]
  have HPB := hide hpb
  clear hpb
  by_cases he : s = ty_none
  · have hie := ty_emp he
    rw [decide_eq_true he, Bool.true_or]
    clear he
    go_enter Tryd.func34, Tryd.ntmps34
    go_wp2_with fail
    refine hp.out.mono ?_
    rintro e w2 ⟨⟨j, hj, rfl⟩ | ⟨hj, rfl⟩, hb2⟩
    all_goals
      have H2 := hide (And.intro hb2 hb2.size)
      clear hb2 hj
      unfold Jd.jv
      go_wp2_with fail
      go_ret
      exact ⟨rfl, H2.out.1.alloc H2.out.2 _⟩
  · have hie := ty_ne he
    rw [decide_eq_false he, Bool.false_or]
    clear he
    go_enter Tryd.func34, Tryd.ntmps34
    go_wp2_with fail
    refine hp.out.mono ?_
    rintro e w2 ⟨⟨j, hj, rfl⟩ | ⟨hj, rfl⟩, hb2⟩
    · have hq : pb = true := by rw [← HPB.out, hj]; rfl
      subst hq
      have H2 := hide (And.intro hb2 hb2.size)
      clear hb2 hj
      unfold Jd.jv
      go_wp2_with fail
      go_ret
      exact ⟨rfl, H2.out.1.alloc H2.out.2 _⟩
    · have hq : pb = false := by rw [← HPB.out, hj]; rfl
      subst hq
      have H2 := hide (And.intro hb2 hb2.size)
      clear hb2 hj
      unfold Jd.jv
      go_wp2_with fail
      go_ret
      exact ⟨rfl, H2.out.1.alloc H2.out.2 _⟩
theorem cells4s {w : World} {b : Nat} {v0 v1 v2 v3 : Value} {ty : TypeId} (h : w.heap[b]? = some (.cells #[v0, v1, v2, v3] ty)) : w.cell? ⟨b, 0, none⟩ = some v0 ∧ w.cell? ⟨b, 1, none⟩ = some v1 ∧ w.cell? ⟨b, 2, none⟩ = some v2 ∧ w.cell? ⟨b, 3, none⟩ = some v3 := by
  refine ⟨by simp [World.cell?, h], by simp [World.cell?, h], by simp [World.cell?, h], by simp [World.cell?, h]⟩
theorem cells3s {w : World} {b : Nat} {v0 v1 v2 : Value} {ty : TypeId} (h : w.heap[b]? = some (.cells #[v0, v1, v2] ty)) : w.cell? ⟨b, 0, none⟩ = some v0 ∧ w.cell? ⟨b, 1, none⟩ = some v1 ∧ w.cell? ⟨b, 2, none⟩ = some v2 := by
  refine ⟨by simp [World.cell?, h], by simp [World.cell?, h], by simp [World.cell?, h]⟩
theorem lit_cmp (t s : ByteArray) (l : List UInt8) (h : s.toList = l) : (l == t.toList) = decide (t = s) := by
  rw [← h]
  by_cases e : t = s
  · rw [decide_eq_true e, e]
    simp
  · rw [decide_eq_false e]
    exact str_ne (fun h => e h.symm)
set_option maxRecDepth 100000 in
set_option maxHeartbeats 2000000 in
theorem typed_iq (t : ByteArray) (w : World) : Calls Tryd.prog 33 #[.int .u8 1, .string t] w fun e w' => e = .returned (.bool (tyB 1 t)) ∧ Below w.heap.size w w' := by
  obtain ⟨Wa, hWa, aa, ba, za⟩ := newV w 9 #[.string ⟨#[103, 101, 116]⟩, .string ⟨#[115, 101, 116]⟩, .string ⟨#[114, 101, 115, 117, 108, 116]⟩, .string ⟨#[101, 114, 114, 111, 114]⟩]
  have H0 := hide (And.intro aa ba)
  clear aa ba
  go_enter Tryd.func33, Tryd.ntmps33
  go_wp2_with fail
  go_loopw [6] (fun i wr => ∃ (j : Nat), j ≤ 4 ∧ i = .int .i64 j ∧ ((1 ≤ j → t ≠ ty_get) ∧ (2 ≤ j → t ≠ ty_set) ∧ (3 ≤ j → t ≠ ty_result) ∧ (4 ≤ j → t ≠ ty_error)) ∧ wr.heap[w.heap.size]? = some (.cells #[.string ⟨#[103, 101, 116]⟩, .string ⟨#[115, 101, 116]⟩, .string ⟨#[114, 101, 115, 117, 108, 116]⟩, .string ⟨#[101, 114, 114, 111, 114]⟩] 9) ∧ Below w.heap.size w wr) (fun i _ => 4 - (intOf i).toNat)
  case atStart => exact ⟨0, Nat.zero_le _, rfl, ⟨by omega, by omega, by omega, by omega⟩, H0.out.1, H0.out.2⟩
  case round =>
    obtain ⟨j, hj, rfl, hn, g0, gb⟩ := hrel
    obtain ⟨y0, y1, y2, y3⟩ := cells4s g0
    have HI := hide (And.intro hn (And.intro g0 gb))
    clear hn g0 gb
    rcases (show j = 0 ∨ j = 1 ∨ j = 2 ∨ j = 3 ∨ j = 4 by omega) with rfl | rfl | rfl | rfl | rfl
    · by_cases e : t = ty_get
      · have f : (([103, 101, 116] : List UInt8) == t.toList) = true := by rw [lit_cmp t ty_get _ (by rw [ByteArray.toList_eq]; rfl)]; exact decide_eq_true e
        have hr : tyB 1 t = true := by rw [e]; rfl
        have HR := hide hr
        clear e hr
        go_wp2_with fail
        go_ret
        exact ⟨by rw [HR.out]; rfl, HI.out.2.2⟩
      · have f : (([103, 101, 116] : List UInt8) == t.toList) = false := by rw [lit_cmp t ty_get _ (by rw [ByteArray.toList_eq]; rfl)]; exact decide_eq_false e
        have HN := hide e
        clear e
        go_wp2_with fail
        have e := HN.out
        exact ⟨⟨1, by omega, by simp, ⟨fun _ => e, by omega, by omega, by omega⟩, HI.out.2.1, HI.out.2.2⟩, by simp [intOf]⟩
    · by_cases e : t = ty_set
      · have f : (([115, 101, 116] : List UInt8) == t.toList) = true := by rw [lit_cmp t ty_set _ (by rw [ByteArray.toList_eq]; rfl)]; exact decide_eq_true e
        have hr : tyB 1 t = true := by rw [e]; rfl
        have HR := hide hr
        clear e hr
        go_wp2_with fail
        go_ret
        exact ⟨by rw [HR.out]; rfl, HI.out.2.2⟩
      · have f : (([115, 101, 116] : List UInt8) == t.toList) = false := by rw [lit_cmp t ty_set _ (by rw [ByteArray.toList_eq]; rfl)]; exact decide_eq_false e
        have HN := hide e
        clear e
        go_wp2_with fail
        have e := HN.out
        exact ⟨⟨2, by omega, by simp, ⟨fun _ => HI.out.1.1 (by omega), fun _ => e, by omega, by omega⟩, HI.out.2.1, HI.out.2.2⟩, by simp [intOf]⟩
    · by_cases e : t = ty_result
      · have f : (([114, 101, 115, 117, 108, 116] : List UInt8) == t.toList) = true := by rw [lit_cmp t ty_result _ (by rw [ByteArray.toList_eq]; rfl)]; exact decide_eq_true e
        have hr : tyB 1 t = true := by rw [e]; rfl
        have HR := hide hr
        clear e hr
        go_wp2_with fail
        go_ret
        exact ⟨by rw [HR.out]; rfl, HI.out.2.2⟩
      · have f : (([114, 101, 115, 117, 108, 116] : List UInt8) == t.toList) = false := by rw [lit_cmp t ty_result _ (by rw [ByteArray.toList_eq]; rfl)]; exact decide_eq_false e
        have HN := hide e
        clear e
        go_wp2_with fail
        have e := HN.out
        exact ⟨⟨3, by omega, by simp, ⟨fun _ => HI.out.1.1 (by omega), fun _ => HI.out.1.2.1 (by omega), fun _ => e, by omega⟩, HI.out.2.1, HI.out.2.2⟩, by simp [intOf]⟩
    · by_cases e : t = ty_error
      · have f : (([101, 114, 114, 111, 114] : List UInt8) == t.toList) = true := by rw [lit_cmp t ty_error _ (by rw [ByteArray.toList_eq]; rfl)]; exact decide_eq_true e
        have hr : tyB 1 t = true := by rw [e]; rfl
        have HR := hide hr
        clear e hr
        go_wp2_with fail
        go_ret
        exact ⟨by rw [HR.out]; rfl, HI.out.2.2⟩
      · have f : (([101, 114, 114, 111, 114] : List UInt8) == t.toList) = false := by rw [lit_cmp t ty_error _ (by rw [ByteArray.toList_eq]; rfl)]; exact decide_eq_false e
        have HN := hide e
        clear e
        go_wp2_with fail
        have e := HN.out
        exact ⟨⟨4, by omega, by simp, ⟨fun _ => HI.out.1.1 (by omega), fun _ => HI.out.1.2.1 (by omega), fun _ => HI.out.1.2.2.1 (by omega), fun _ => e⟩, HI.out.2.1, HI.out.2.2⟩, by simp [intOf]⟩
    · have hr : tyB 1 t = false := by
        obtain ⟨nget, nset, nresult, nerror⟩ := HI.out.1
        unfold tyB
        simp [nget (by omega), nset (by omega), nresult (by omega), nerror (by omega)]
      have HR := hide hr
      clear hr
      go_wp2_with fail
      go_ret
      exact ⟨by rw [HR.out]; rfl, HI.out.2.2⟩
set_option maxRecDepth 100000 in
set_option maxHeartbeats 2000000 in
theorem typed_message (t : ByteArray) (w : World) : Calls Tryd.prog 33 #[.int .u8 2, .string t] w fun e w' => e = .returned (.bool (tyB 2 t)) ∧ Below w.heap.size w w' := by
  obtain ⟨Wa, hWa, aa, ba, za⟩ := newV w 9 #[.string ⟨#[]⟩, .string ⟨#[99, 104, 97, 116]⟩, .string ⟨#[104, 101, 97, 100, 108, 105, 110, 101]⟩, .string ⟨#[101, 114, 114, 111, 114]⟩]
  have H0 := hide (And.intro aa ba)
  clear aa ba
  go_enter Tryd.func33, Tryd.ntmps33
  go_wp2_with fail
  go_loopw [6] (fun i wr => ∃ (j : Nat), j ≤ 4 ∧ i = .int .i64 j ∧ ((1 ≤ j → t ≠ ty_none) ∧ (2 ≤ j → t ≠ ty_chat) ∧ (3 ≤ j → t ≠ ty_headline) ∧ (4 ≤ j → t ≠ ty_error)) ∧ wr.heap[w.heap.size]? = some (.cells #[.string ⟨#[]⟩, .string ⟨#[99, 104, 97, 116]⟩, .string ⟨#[104, 101, 97, 100, 108, 105, 110, 101]⟩, .string ⟨#[101, 114, 114, 111, 114]⟩] 9) ∧ Below w.heap.size w wr) (fun i _ => 4 - (intOf i).toNat)
  case atStart => exact ⟨0, Nat.zero_le _, rfl, ⟨by omega, by omega, by omega, by omega⟩, H0.out.1, H0.out.2⟩
  case round =>
    obtain ⟨j, hj, rfl, hn, g0, gb⟩ := hrel
    obtain ⟨y0, y1, y2, y3⟩ := cells4s g0
    have HI := hide (And.intro hn (And.intro g0 gb))
    clear hn g0 gb
    rcases (show j = 0 ∨ j = 1 ∨ j = 2 ∨ j = 3 ∨ j = 4 by omega) with rfl | rfl | rfl | rfl | rfl
    · by_cases e : t = ty_none
      · have f := ty_emp e
        have hr : tyB 2 t = true := by rw [e]; rfl
        have HR := hide hr
        clear e hr
        go_wp2_with fail
        go_ret
        exact ⟨by rw [HR.out]; rfl, HI.out.2.2⟩
      · have f := ty_ne e
        have HN := hide e
        clear e
        go_wp2_with fail
        have e := HN.out
        exact ⟨⟨1, by omega, by simp, ⟨fun _ => e, by omega, by omega, by omega⟩, HI.out.2.1, HI.out.2.2⟩, by simp [intOf]⟩
    · by_cases e : t = ty_chat
      · have f : (([99, 104, 97, 116] : List UInt8) == t.toList) = true := by rw [lit_cmp t ty_chat _ (by rw [ByteArray.toList_eq]; rfl)]; exact decide_eq_true e
        have hr : tyB 2 t = true := by rw [e]; rfl
        have HR := hide hr
        clear e hr
        go_wp2_with fail
        go_ret
        exact ⟨by rw [HR.out]; rfl, HI.out.2.2⟩
      · have f : (([99, 104, 97, 116] : List UInt8) == t.toList) = false := by rw [lit_cmp t ty_chat _ (by rw [ByteArray.toList_eq]; rfl)]; exact decide_eq_false e
        have HN := hide e
        clear e
        go_wp2_with fail
        have e := HN.out
        exact ⟨⟨2, by omega, by simp, ⟨fun _ => HI.out.1.1 (by omega), fun _ => e, by omega, by omega⟩, HI.out.2.1, HI.out.2.2⟩, by simp [intOf]⟩
    · by_cases e : t = ty_headline
      · have f : (([104, 101, 97, 100, 108, 105, 110, 101] : List UInt8) == t.toList) = true := by rw [lit_cmp t ty_headline _ (by rw [ByteArray.toList_eq]; rfl)]; exact decide_eq_true e
        have hr : tyB 2 t = true := by rw [e]; rfl
        have HR := hide hr
        clear e hr
        go_wp2_with fail
        go_ret
        exact ⟨by rw [HR.out]; rfl, HI.out.2.2⟩
      · have f : (([104, 101, 97, 100, 108, 105, 110, 101] : List UInt8) == t.toList) = false := by rw [lit_cmp t ty_headline _ (by rw [ByteArray.toList_eq]; rfl)]; exact decide_eq_false e
        have HN := hide e
        clear e
        go_wp2_with fail
        have e := HN.out
        exact ⟨⟨3, by omega, by simp, ⟨fun _ => HI.out.1.1 (by omega), fun _ => HI.out.1.2.1 (by omega), fun _ => e, by omega⟩, HI.out.2.1, HI.out.2.2⟩, by simp [intOf]⟩
    · by_cases e : t = ty_error
      · have f : (([101, 114, 114, 111, 114] : List UInt8) == t.toList) = true := by rw [lit_cmp t ty_error _ (by rw [ByteArray.toList_eq]; rfl)]; exact decide_eq_true e
        have hr : tyB 2 t = true := by rw [e]; rfl
        have HR := hide hr
        clear e hr
        go_wp2_with fail
        go_ret
        exact ⟨by rw [HR.out]; rfl, HI.out.2.2⟩
      · have f : (([101, 114, 114, 111, 114] : List UInt8) == t.toList) = false := by rw [lit_cmp t ty_error _ (by rw [ByteArray.toList_eq]; rfl)]; exact decide_eq_false e
        have HN := hide e
        clear e
        go_wp2_with fail
        have e := HN.out
        exact ⟨⟨4, by omega, by simp, ⟨fun _ => HI.out.1.1 (by omega), fun _ => HI.out.1.2.1 (by omega), fun _ => HI.out.1.2.2.1 (by omega), fun _ => e⟩, HI.out.2.1, HI.out.2.2⟩, by simp [intOf]⟩
    · have hr : tyB 2 t = false := by
        obtain ⟨nnone, nchat, nheadline, nerror⟩ := HI.out.1
        unfold tyB
        simp [nnone (by omega), nchat (by omega), nheadline (by omega), nerror (by omega)]
      have HR := hide hr
      clear hr
      go_wp2_with fail
      go_ret
      exact ⟨by rw [HR.out]; rfl, HI.out.2.2⟩
set_option maxRecDepth 100000 in
set_option maxHeartbeats 2000000 in
theorem typed_presence (t : ByteArray) (w : World) : Calls Tryd.prog 33 #[.int .u8 3, .string t] w fun e w' => e = .returned (.bool (tyB 3 t)) ∧ Below w.heap.size w w' := by
  obtain ⟨Wa, hWa, aa, ba, za⟩ := newV w 9 #[.string ⟨#[]⟩, .string ⟨#[117, 110, 97, 118, 97, 105, 108, 97, 98, 108, 101]⟩, .string ⟨#[101, 114, 114, 111, 114]⟩]
  have H0 := hide (And.intro aa ba)
  clear aa ba
  go_enter Tryd.func33, Tryd.ntmps33
  go_wp2_with fail
  go_loopw [6] (fun i wr => ∃ (j : Nat), j ≤ 3 ∧ i = .int .i64 j ∧ ((1 ≤ j → t ≠ ty_none) ∧ (2 ≤ j → t ≠ ty_unavailable) ∧ (3 ≤ j → t ≠ ty_error)) ∧ wr.heap[w.heap.size]? = some (.cells #[.string ⟨#[]⟩, .string ⟨#[117, 110, 97, 118, 97, 105, 108, 97, 98, 108, 101]⟩, .string ⟨#[101, 114, 114, 111, 114]⟩] 9) ∧ Below w.heap.size w wr) (fun i _ => 3 - (intOf i).toNat)
  case atStart => exact ⟨0, Nat.zero_le _, rfl, ⟨by omega, by omega, by omega⟩, H0.out.1, H0.out.2⟩
  case round =>
    obtain ⟨j, hj, rfl, hn, g0, gb⟩ := hrel
    obtain ⟨y0, y1, y2⟩ := cells3s g0
    have HI := hide (And.intro hn (And.intro g0 gb))
    clear hn g0 gb
    rcases (show j = 0 ∨ j = 1 ∨ j = 2 ∨ j = 3 by omega) with rfl | rfl | rfl | rfl
    · by_cases e : t = ty_none
      · have f := ty_emp e
        have hr : tyB 3 t = true := by rw [e]; rfl
        have HR := hide hr
        clear e hr
        go_wp2_with fail
        go_ret
        exact ⟨by rw [HR.out]; rfl, HI.out.2.2⟩
      · have f := ty_ne e
        have HN := hide e
        clear e
        go_wp2_with fail
        have e := HN.out
        exact ⟨⟨1, by omega, by simp, ⟨fun _ => e, by omega, by omega⟩, HI.out.2.1, HI.out.2.2⟩, by simp [intOf]⟩
    · by_cases e : t = ty_unavailable
      · have f : (([117, 110, 97, 118, 97, 105, 108, 97, 98, 108, 101] : List UInt8) == t.toList) = true := by rw [lit_cmp t ty_unavailable _ (by rw [ByteArray.toList_eq]; rfl)]; exact decide_eq_true e
        have hr : tyB 3 t = true := by rw [e]; rfl
        have HR := hide hr
        clear e hr
        go_wp2_with fail
        go_ret
        exact ⟨by rw [HR.out]; rfl, HI.out.2.2⟩
      · have f : (([117, 110, 97, 118, 97, 105, 108, 97, 98, 108, 101] : List UInt8) == t.toList) = false := by rw [lit_cmp t ty_unavailable _ (by rw [ByteArray.toList_eq]; rfl)]; exact decide_eq_false e
        have HN := hide e
        clear e
        go_wp2_with fail
        have e := HN.out
        exact ⟨⟨2, by omega, by simp, ⟨fun _ => HI.out.1.1 (by omega), fun _ => e, by omega⟩, HI.out.2.1, HI.out.2.2⟩, by simp [intOf]⟩
    · by_cases e : t = ty_error
      · have f : (([101, 114, 114, 111, 114] : List UInt8) == t.toList) = true := by rw [lit_cmp t ty_error _ (by rw [ByteArray.toList_eq]; rfl)]; exact decide_eq_true e
        have hr : tyB 3 t = true := by rw [e]; rfl
        have HR := hide hr
        clear e hr
        go_wp2_with fail
        go_ret
        exact ⟨by rw [HR.out]; rfl, HI.out.2.2⟩
      · have f : (([101, 114, 114, 111, 114] : List UInt8) == t.toList) = false := by rw [lit_cmp t ty_error _ (by rw [ByteArray.toList_eq]; rfl)]; exact decide_eq_false e
        have HN := hide e
        clear e
        go_wp2_with fail
        have e := HN.out
        exact ⟨⟨3, by omega, by simp, ⟨fun _ => HI.out.1.1 (by omega), fun _ => HI.out.1.2.1 (by omega), fun _ => e⟩, HI.out.2.1, HI.out.2.2⟩, by simp [intOf]⟩
    · have hr : tyB 3 t = false := by
        obtain ⟨nnone, nunavailable, nerror⟩ := HI.out.1
        unfold tyB
        simp [nnone (by omega), nunavailable (by omega), nerror (by omega)]
      have HR := hide hr
      clear hr
      go_wp2_with fail
      go_ret
      exact ⟨by rw [HR.out]; rfl, HI.out.2.2⟩
set_option maxRecDepth 100000 in
theorem typed_any (k : Int) (t : ByteArray) (w : World) : Calls Tryd.prog 33 #[.int .u8 k, .string t] w fun e w' => e = .returned (.bool (tyB k t)) ∧ Below w.heap.size w w' := by
  by_cases h1 : k = 1
  · subst h1
    exact typed_iq t w
  · by_cases h2 : k = 2
    · subst h2
      exact typed_message t w
    · by_cases h3 : k = 3
      · subst h3
        exact typed_presence t w
      · have hr : tyB k t = false := by
          unfold tyB
          simp [h1, h2, h3]
        rw [hr]
        have e1 : (k == 1) = false := by rw [beq_eq_false_iff_ne]; exact h1
        have e2 : (k == 2) = false := by rw [beq_eq_false_iff_ne]; exact h2
        have e3 : (k == 3) = false := by rw [beq_eq_false_iff_ne]; exact h3
        clear h1 h2 h3 hr
        go_enter Tryd.func33, Tryd.ntmps33
        go_wp2_with fail
        go_loopw [6] (fun i wr => i = .int .i64 0 ∧ wr = w) (fun _ _ => 0)
        case atStart => exact ⟨rfl, rfl⟩
        case round =>
          obtain ⟨rfl, rfl⟩ := hrel
          go_wp2_with fail
          go_ret
          exact ⟨rfl, Below.refl _ _⟩
end Go.Proofs.YtpknifioflagaaaDoor
