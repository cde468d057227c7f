/- The document's Right and Encode of a stanza. The document's Right and Encode of a stanza. -/
import Derived.Test.YtpknifioflagaaaDoorSt17
import Derived.Test.YtpknifioflagaaaDoorXR
namespace Go.Proofs.YtpknifioflagaaaDoor
open Go.RowKit Go.Shelf

theorem ty_kind {k : Int} {t : ByteArray} (h : tyB k t = true) : k = 1 ∨ k = 2 ∨ k = 3 := by
  unfold tyB at h
  split at h
  · simp at h; exact .inl h
  · split at h
    · simp at h; exact .inr (.inl h)
    · split at h
      · simp at h; exact .inr (.inr h)
      · split at h
        · simp at h; exact h
        · split at h
          · simp at h; exact .inr h
          · cases h
theorem stOk_iff {k : Int} {ty fr tt id : ByteArray} {ts : List Tok} : StOk k ty fr tt id ts ↔ (ts.length ≤ 64 ∧ tyB k ty = true ∧ addrB fr = true ∧ addrB tt = true ∧ id.size ≤ 512 ∧ CharsOk id.data.toList ∧ (id ≠ ty_none ∨ k ≠ 1) ∧ WholeT (stT k ty fr tt id ts)) := by
  constructor
  · intro h
    have ha := st_attrs h
    have f4 := kept_small ha (a := (⟨#[105, 100]⟩, id)) (by simp [attr4])
    have hl : ts.length + 2 ≤ 64 := by
      have := h.2.1.1
      unfold stT elemT at this
      simpa using this
    have hm := h.1
    unfold mayB at hm
    simp only [Bool.and_eq_true, Bool.or_eq_true, beq_iff_eq, Bool.not_eq_true', decide_eq_false_iff_not] at hm
    refine ⟨by omega, hm.2.1, hm.2.2.1, hm.2.2.2, f4.1, f4.2, ?_, h.2⟩
    rcases hm.1 with h1 | h1 | h1
    · exact .inl h1.2
    · exact .inr (by omega)
    · exact .inr (by omega)
  · rintro ⟨_, h2, h3, h4, _, _, h7, h8⟩
    refine ⟨?_, h8⟩
    unfold mayB
    simp only [Bool.and_eq_true, Bool.or_eq_true, beq_iff_eq, Bool.not_eq_true', decide_eq_false_iff_not]
    refine ⟨?_, h2, h3, h4⟩
    rcases ty_kind h2 with e | e | e
    · exact .inl ⟨e, h7.resolve_right (fun h => h e)⟩
    · exact .inr (.inl e)
    · exact .inr (.inr e)
theorem rchars_is {s : ByteArray} {w : World} {q : Bool} (hs : s.size ≤ 9223372036854775807) (hU : Tabs w) (hq : q = true ↔ CharsOk s.data.toList) : Calls Tryd.prog 35 #[.string s] w fun e w' => e = .returned (.bool q) ∧ Below w.heap.size w w' := by
  refine (refChars_any s w (by unfold maxLen; omega) hU).mono ?_
  rintro e w' ⟨⟨h1, rfl⟩ | ⟨h1, rfl⟩, b⟩
  · rw [hq.2 h1]
    exact ⟨rfl, b⟩
  · cases q with
    | false => exact ⟨rfl, b⟩
    | true => exact absurd (hq.1 rfl) h1
theorem rwhole_is {ao : Option Addr} {cap : Nat} {ts : List Tok} {av : Nat → Option Addr × Nat} {w : World} {q : Bool} (hT : TokMem w.heap.size w ao ts av) (hU : Tabs w) (hq : q = true ↔ WholeT ts) : Calls Tryd.prog 36 #[.slice ao ts.length cap] w fun e w' => e = .returned (.bool q) ∧ Below w.heap.size w w' := by
  refine (refWhole_any ao cap ts av w hT hU).mono ?_
  rintro e w' ⟨⟨h1, rfl⟩ | ⟨h1, rfl⟩, b⟩
  · rw [hq.2 h1]
    exact ⟨rfl, b⟩
  · cases q with
    | false => exact ⟨rfl, b⟩
    | true => exact absurd (hq.1 rfl) h1
theorem bool_of (p : Prop) : ∃ q : Bool, (q = true ↔ p) := by
  by_cases h : p
  · exact ⟨true, by simp [h]⟩
  · exact ⟨false, by simp [h]⟩
end Go.Proofs.YtpknifioflagaaaDoor
namespace Go.Proofs.YtpknifioflagaaaDoor
open Go.RowKit Go.Shelf

theorem rtyped_is {k : Int} {t : ByteArray} {q : Bool} (h : tyB k t = q) (w : World) : Calls Tryd.prog 33 #[.int .u8 k, .string t] w fun e w' => e = .returned (.bool q) ∧ Below w.heap.size w w' := by
  subst h
  exact typed_any k t w
theorem raddr_is {t : ByteArray} {q : Bool} (hs : t.size ≤ 4611686018427387903) (h : addrB t = q) (w : World) : Calls Tryd.prog 34 #[.string t] w fun e w' => e = .returned (.bool q) ∧ Below w.heap.size w w' := by
  subst h
  exact raddr_any t w hs
set_option maxRecDepth 100000 in
set_option maxHeartbeats 4000000 in
theorem rright6_any (k : Int) (ty fr tt id : ByteArray) (pa : Option Addr) (pc : Nat) (ts : List Tok) (av : Nat → Option Addr × Nat) (w : World) (hT : TokMem w.heap.size w pa ts av) (hav : ∀ i t, ts[i]? = some t → (av i).1 = none → (av i).2 = 0) (hs : ts.length ≤ 1000) (hz : ty.size ≤ 4611686018427387903 ∧ fr.size ≤ 4611686018427387903 ∧ tt.size ≤ 4611686018427387903 ∧ id.size ≤ 4611686018427387903) (hE : Env6 w) :
    Calls Tryd.prog 15 #[.agg #[.int .u8 k, .string ty, .string fr, .string tt, .string id, .slice pa ts.length pc]] w fun e w' => Tells (StOk k ty fr tt id ts) e ∧ Below w.heap.size w w' := by
  have mem : ∀ V, Below w.heap.size w V → TokMem V.heap.size V pa ts av := fun V hV => ((hT.below hV).raise hV.size)
  obtain ⟨m, hm⟩ : ∃ m, ts.length = m := ⟨_, rfl⟩
  have HG := hide (And.intro mem (And.intro hav (And.intro hs (And.intro hz (And.intro hE hm)))))
  rw [hm]
  obtain ⟨Wa, hWa, aa, ba, za⟩ := newV w 25 #[.int .u8 k, .string ty, .string fr, .string tt, .string id, .slice pa m pc]
  obtain ⟨x0, x1, x2, x3, x4, x5⟩ := cells6 aa
  have HB := hide (And.intro aa ba)
  by_cases h64 : m ≤ 64
  · have h64i : ¬ ((64 : Int) < m) := by omega
    have H64 := hide h64
    obtain ⟨q1, h1⟩ : ∃ q, tyB k ty = q := ⟨_, rfl⟩
    obtain ⟨q2, h2⟩ : ∃ q, addrB fr = q := ⟨_, rfl⟩
    obtain ⟨q3, h3⟩ : ∃ q, addrB tt = q := ⟨_, rfl⟩
    obtain ⟨q4, h4⟩ := bool_of (CharsOk id.data.toList)
    obtain ⟨q5, h5⟩ := bool_of (WholeT (stT k ty fr tt id ts))
    have F1 := hide h1
    have F2 := hide h2
    have F3 := hide h3
    have F4 := hide h4
    have F5 := hide h5
    have C1 := hide fun V => rtyped_is h1 V
    have C2 := hide fun V => raddr_is hz.2.1 h2 V
    have C3 := hide fun V => raddr_is hz.2.2.1 h3 V
    have C4 := hide fun V (hU : Tabs V) => rchars_is (Nat.le_trans hz.2.2.2 (by decide)) hU h4
    clear h64 aa ba mem hav hs hz hE hm hT h1 h2 h3 h4 h5
    go_enter Tryd.func15, Tryd.ntmps15
    go_wp2_with (go_at_call 33; refine (C1.out _).mono ?_; rintro e V1 ⟨rfl, b1⟩; refine stopHere ?_)
    unfold Hid
    have g1 := (b1.block _ (hp_lt HB.out.1)).trans HB.out.1
    have B1 : Below w.heap.size w V1 := HB.out.2.trans (b1.mono HB.out.2.size)
    clear x0 x1 x2 x3 x4 x5 HB
    obtain ⟨x0, x1, x2, x3, x4, x5⟩ := cells6 g1
    have HB := hide (And.intro g1 B1)
    clear g1 B1 b1
    cases q1 with
    | false =>
      have hno : ¬ StOk k ty fr tt id ts := fun h => by have := (stOk_iff.1 h).2.1; rw [F1.out] at this; cases this
      have HN := hide hno
      clear hno
      go_wp2_with fail
      go_ret
      exact ⟨.inr ⟨HN.out, rfl⟩, HB.out.2⟩
    | true =>
      go_wp2_with (go_at_call 34; refine (C2.out _).mono ?_; rintro e V2 ⟨rfl, b2⟩; refine stopHere ?_)
      unfold Hid
      have g2 := (b2.block _ (hp_lt HB.out.1)).trans HB.out.1
      have B2 : Below w.heap.size w V2 := HB.out.2.trans (b2.mono HB.out.2.size)
      clear x0 x1 x2 x3 x4 x5 HB
      obtain ⟨x0, x1, x2, x3, x4, x5⟩ := cells6 g2
      have HB := hide (And.intro g2 B2)
      clear g2 B2 b2
      cases q2 with
      | false =>
        have hno : ¬ StOk k ty fr tt id ts := fun h => by have := (stOk_iff.1 h).2.2.1; rw [F2.out] at this; cases this
        have HN := hide hno
        clear hno
        go_wp2_with fail
        go_ret
        exact ⟨.inr ⟨HN.out, rfl⟩, HB.out.2⟩
      | true =>
        go_wp2_with (go_at_call 34; refine (C3.out _).mono ?_; rintro e V3 ⟨rfl, b3⟩; refine stopHere ?_)
        unfold Hid
        have g3 := (b3.block _ (hp_lt HB.out.1)).trans HB.out.1
        have B3 : Below w.heap.size w V3 := HB.out.2.trans (b3.mono HB.out.2.size)
        clear x0 x1 x2 x3 x4 x5 HB
        obtain ⟨x0, x1, x2, x3, x4, x5⟩ := cells6 g3
        have HB := hide (And.intro g3 B3)
        clear g3 B3 b3
        cases q3 with
        | false =>
          have hno : ¬ StOk k ty fr tt id ts := fun h => by have := (stOk_iff.1 h).2.2.2.1; rw [F3.out] at this; cases this
          have HN := hide hno
          clear hno
          go_wp2_with fail
          go_ret
          exact ⟨.inr ⟨HN.out, rfl⟩, HB.out.2⟩
        | true =>
          by_cases h512 : id.size ≤ 512
          · have h512i : (id.size : Int) ≤ 512 := by omega
            have H512 := hide h512
            have C4' := hide (C4.out V3 (HG.out.2.2.2.2.1.below HB.out.2).1)
            go_wp2_with (go_at_call 35; refine (C4'.out).mono ?_; rintro e V4 ⟨rfl, b4⟩; refine stopHere ?_)
            unfold Hid
            have g4 := (b4.block _ (hp_lt HB.out.1)).trans HB.out.1
            have B4 : Below w.heap.size w V4 := HB.out.2.trans (b4.mono HB.out.2.size)
            clear x0 x1 x2 x3 x4 x5 HB
            obtain ⟨x0, x1, x2, x3, x4, x5⟩ := cells6 g4
            have HB := hide (And.intro g4 B4)
            clear g4 B4 b4
            cases q4 with
            | false =>
              have hno : ¬ StOk k ty fr tt id ts := fun h => by have := (stOk_iff.1 h).2.2.2.2.2.1; have := F4.out.2 this; cases this
              have HN := hide hno
              clear hno
              go_wp2_with fail
              go_ret
              exact ⟨.inr ⟨HN.out, rfl⟩, HB.out.2⟩
            | true =>
              have T4 := hide (F4.out.1 rfl)
              clear F4
              by_cases he : id = ty_none
              · have hie := ty_emp he
                by_cases hk : k = 1
                · have hno : ¬ StOk k ty fr tt id ts := fun h => by
                    rcases (stOk_iff.1 h).2.2.2.2.2.2.1 with h | h
                    · exact h he
                    · exact h hk
                  have HN := hide hno
                  clear hno he
                  subst hk
                  go_wp2_with fail
                  go_ret
                  exact ⟨.inr ⟨HN.out, rfl⟩, HB.out.2⟩
                · have HI : Hid (id ≠ ty_none ∨ k ≠ 1) := hide (.inr hk)
                  have hkb : (k != 1) = true := by simp [hk]
                  clear he
                  obtain ⟨mem, hav, hs, hz, hE, hm⟩ := HG.out
                  have hTk := rtokens_any k ty fr tt id pa pc ts av V4 (mem V4 HB.out.2) hav hs ⟨Nat.le_trans hz.1 (by decide), Nat.le_trans hz.2.1 (by decide), Nat.le_trans hz.2.2.1 (by decide), Nat.le_trans hz.2.2.2 (by decide)⟩
                  rw [hm] at hTk
                  have HTk := hide hTk
                  clear hTk mem hav hs hz hE hm
                  go_wp2_with (go_at_call 32; refine HTk.out.mono ?_; rintro e V5 ⟨v, l, rfl, m5, r5, b5⟩; refine stopHere ?_)
                  unfold Hid
                  have B5 : Below w.heap.size w V5 := HB.out.2.trans (b5.mono HB.out.2.size)
                  have hl5 : l.length = ts.length + 2 := by
                    have h := congrArg List.length m5
                    rw [List.length_map] at h
                    rw [h]
                    unfold elemT
                    simp
                  obtain ⟨ga, gc, rfl⟩ := own_shape r5.1
                  obtain ⟨ao5, cap5, q5', hT5⟩ := tokMem_own r5 (by have := HG.out.2.2.1; omega)
                  cases q5'
                  rw [m5] at hT5
                  have hW := rwhole_is (cap := gc) hT5 (HG.out.2.2.2.2.1.below B5).1 F5.out
                  rw [show (elemT (kindB k) (keepA (attr4 ty fr tt id)) ts).length = l.length from by rw [← m5, List.length_map]] at hW
                  obtain ⟨n5, hn5⟩ : ∃ n5, l.length = n5 := ⟨_, rfl⟩
                  rw [hn5] at hW ⊢
                  have HW := hide hW
                  have HB5 := hide B5
                  clear hW hT5 m5 r5 b5 B5 hl5 hn5 HTk x0 x1 x2 x3 x4 x5
                  go_wp2_with (go_at_call 36; refine HW.out.mono ?_; rintro e V6 ⟨rfl, b6⟩)
                  go_ret
                  refine ⟨?_, HB5.out.trans (b6.mono HB5.out.size)⟩
                  cases q5 with
                  | false => exact .inr ⟨fun h => (by have := F5.out.2 (stOk_iff.1 h).2.2.2.2.2.2.2; cases this), rfl⟩
                  | true => exact .inl ⟨stOk_iff.2 ⟨by have := HG.out.2.2.2.2.2; have := H64.out; omega, F1.out, F2.out, F3.out, H512.out, T4.out, HI.out, F5.out.1 rfl⟩, rfl⟩
              · have hie := ty_ne he
                have HI : Hid (id ≠ ty_none ∨ k ≠ 1) := hide (.inl he)
                clear he
                obtain ⟨mem, hav, hs, hz, hE, hm⟩ := HG.out
                have hTk := rtokens_any k ty fr tt id pa pc ts av V4 (mem V4 HB.out.2) hav hs ⟨Nat.le_trans hz.1 (by decide), Nat.le_trans hz.2.1 (by decide), Nat.le_trans hz.2.2.1 (by decide), Nat.le_trans hz.2.2.2 (by decide)⟩
                rw [hm] at hTk
                have HTk := hide hTk
                clear hTk mem hav hs hz hE hm
                go_wp2_with (go_at_call 32; refine HTk.out.mono ?_; rintro e V5 ⟨v, l, rfl, m5, r5, b5⟩; refine stopHere ?_)
                unfold Hid
                have B5 : Below w.heap.size w V5 := HB.out.2.trans (b5.mono HB.out.2.size)
                have hl5 : l.length = ts.length + 2 := by
                  have h := congrArg List.length m5
                  rw [List.length_map] at h
                  rw [h]
                  unfold elemT
                  simp
                obtain ⟨ga, gc, rfl⟩ := own_shape r5.1
                obtain ⟨ao5, cap5, q5', hT5⟩ := tokMem_own r5 (by have := HG.out.2.2.1; omega)
                cases q5'
                rw [m5] at hT5
                have hW := rwhole_is (cap := gc) hT5 (HG.out.2.2.2.2.1.below B5).1 F5.out
                rw [show (elemT (kindB k) (keepA (attr4 ty fr tt id)) ts).length = l.length from by rw [← m5, List.length_map]] at hW
                obtain ⟨n5, hn5⟩ : ∃ n5, l.length = n5 := ⟨_, rfl⟩
                rw [hn5] at hW ⊢
                have HW := hide hW
                have HB5 := hide B5
                clear hW hT5 m5 r5 b5 B5 hl5 hn5 HTk x0 x1 x2 x3 x4 x5
                go_wp2_with (go_at_call 36; refine HW.out.mono ?_; rintro e V6 ⟨rfl, b6⟩)
                go_ret
                refine ⟨?_, HB5.out.trans (b6.mono HB5.out.size)⟩
                cases q5 with
                | false => exact .inr ⟨fun h => (by have := F5.out.2 (stOk_iff.1 h).2.2.2.2.2.2.2; cases this), rfl⟩
                | true => exact .inl ⟨stOk_iff.2 ⟨by have := HG.out.2.2.2.2.2; have := H64.out; omega, F1.out, F2.out, F3.out, H512.out, T4.out, HI.out, F5.out.1 rfl⟩, rfl⟩
          · have h512i : ¬ ((id.size : Int) ≤ 512) := by omega
            have hno : ¬ StOk k ty fr tt id ts := fun h => by have := (stOk_iff.1 h).2.2.2.2.1; omega
            have HN := hide hno
            clear hno h512
            go_wp2_with fail
            go_ret
            exact ⟨.inr ⟨HN.out, rfl⟩, HB.out.2⟩
  · have h64i : (64 : Int) < m := by omega
    have hno : ¬ StOk k ty fr tt id ts := fun h => by have := (stOk_iff.1 h).1; omega
    have HN := hide (And.intro hno ba)
    clear h64 aa ba mem hav hs hz hE hm hT hno HB
    go_enter Tryd.func15, Tryd.ntmps15
    go_wp2_with fail
    go_ret
    exact ⟨.inr ⟨HN.out.1, rfl⟩, HN.out.2⟩
set_option maxRecDepth 100000 in
theorem rencode6_any (k : Int) (ty fr tt id : ByteArray) (pa : Option Addr) (pc : Nat) (ts : List Tok) (av : Nat → Option Addr × Nat) (w : World) (hT : TokMem w.heap.size w pa ts av) (hav : ∀ i t, ts[i]? = some t → (av i).1 = none → (av i).2 = 0) (hs : ts.length ≤ 1000) (hz : ty.size ≤ 4611686018427387903 ∧ fr.size ≤ 4611686018427387903 ∧ tt.size ≤ 4611686018427387903 ∧ id.size ≤ 4611686018427387903) (hE : Env6 w) :
    Calls Tryd.prog 11 #[.agg #[.int .u8 k, .string ty, .string fr, .string tt, .string id, .slice pa ts.length pc]] w fun e w' => ((StOk k ty fr tt id ts ∧ ∃ v l, e = .returned (.tuple #[v, .int .i64 0]) ∧ l.map (·.1) = stT k ty fr tt id ts ∧ ElRow w.heap.size w' v l) ∨ (¬ StOk k ty fr tt id ts ∧ e = .returned (.tuple #[.slice none 0 0, .int .i64 3]))) ∧ Below w.heap.size w w' := by
  have mem : ∀ V, Below w.heap.size w V → TokMem V.heap.size V pa ts av := fun V hV => ((hT.below hV).raise hV.size)
  obtain ⟨Wa, hWa, aa, ba, za⟩ := newV w 25 #[.int .u8 k, .string ty, .string fr, .string tt, .string id, .slice pa ts.length pc]
  obtain ⟨x0, x1, x2, x3, x4, x5⟩ := cells6 aa
  have hR := rright6_any k ty fr tt id pa pc ts av Wa (mem Wa ba) hav hs hz (hE.below ba)
  have HT := hide fun V (hV : Below w.heap.size w V) => rtokens_any k ty fr tt id pa pc ts av V (mem V hV) hav hs ⟨Nat.le_trans hz.1 (by decide), Nat.le_trans hz.2.1 (by decide), Nat.le_trans hz.2.2.1 (by decide), Nat.le_trans hz.2.2.2 (by decide)⟩
  obtain ⟨m, hm⟩ : ∃ m, ts.length = m := ⟨_, rfl⟩
  rw [hm] at hR HT hWa x5 aa ⊢
  have HB := hide (And.intro aa ba)
  by_cases hok : StOk k ty fr tt id ts
  · have HR := hide (hR.mono (R' := fun e w' => e = .returned (.bool true) ∧ Below Wa.heap.size Wa w') (by
      rintro e w' ⟨⟨_, he⟩ | ⟨hn, _⟩, b⟩
      · exact ⟨he, b⟩
      · exact absurd hok hn))
    have HO := hide hok
    clear hR hok aa ba mem hT hav hs hz hE hm
    go_enter Tryd.func11, Tryd.ntmps11
    go_wp2_with (go_at_call 15; refine HR.out.mono ?_; rintro e w1 ⟨rfl, b1⟩; refine stopHere ?_)
    unfold Hid
    have B1 : Below w.heap.size w w1 := HB.out.2.trans (b1.mono HB.out.2.size)
    clear x0 x1 x2 x3 x4 x5
    obtain ⟨x0, x1, x2, x3, x4, x5⟩ := cells6 ((b1.block _ (hp_lt HB.out.1)).trans HB.out.1)
    have HT1 := hide (HT.out w1 B1)
    have HB1 := hide B1
    clear b1 B1 HT HR
    go_wp2_with (go_at_call 32; refine HT1.out.mono ?_; rintro e w2 ⟨v, l, rfl, m2, r2, b2⟩)
    go_ret2
    exact ⟨.inl ⟨HO.out, v, l, rfl, m2, ElRow.lower r2 HB1.out.size⟩, HB1.out.trans (b2.mono HB1.out.size)⟩
  · have HR := hide (hR.mono (R' := fun e w' => e = .returned (.bool false) ∧ Below Wa.heap.size Wa w') (by
      rintro e w' ⟨⟨hn, _⟩ | ⟨_, he⟩, b⟩
      · exact absurd hn hok
      · exact ⟨he, b⟩))
    have HO := hide hok
    clear hR hok aa ba mem hT hav hs hz hE hm HT
    go_enter Tryd.func11, Tryd.ntmps11
    go_wp2_with (go_at_call 15; refine HR.out.mono ?_; rintro e w1 ⟨rfl, b1⟩)
    go_ret2
    exact ⟨.inr ⟨HO.out, rfl⟩, HB.out.2.trans (b1.mono HB.out.2.size)⟩
end Go.Proofs.YtpknifioflagaaaDoor
