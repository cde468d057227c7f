/- What live asks of stanzas, by hand. Stanzas: live. -/
import Derived.Test.YtpknifioflagaaaDoorXJ
import Derived.Test.YtpknifioflagaaaDoorSt8
import Derived.Test.YtpknifioflagaaaDoorXK
namespace Go.Proofs.YtpknifioflagaaaDoor
open Go.RowKit Go.Shelf

theorem chars_asc : ∀ l : List UInt8, (∀ b ∈ l, 32 ≤ b.toNat ∧ b.toNat < 128) → CharsOk l
  | [], _ => ⟨rfl, runes_nil⟩
  | b :: t, h => by
    have hb := h b (by simp)
    have ih := chars_asc t (fun c hc => h c (by simp [hc]))
    refine ⟨by rw [Lib.validD_cons b t hb.2]; exact ih.1, ?_⟩
    rw [runes_step _ (by simp), Lib.decodeL_ascii b t hb.2]
    exact ⟨Or.inr (Or.inr (Or.inr ⟨hb.1, by have := hb.2; omega, by have := hb.2; omega⟩)), ih.2⟩
def sIq : ByteArray := ⟨#[105, 113]⟩
def sType : ByteArray := ⟨#[116, 121, 112, 101]⟩
def sId : ByteArray := ⟨#[105, 100]⟩
def sOne : ByteArray := ⟨#[49]⟩
theorem name_lower (s : ByteArray) (h1 : 1 ≤ s.size) (h2 : s.size ≤ 32) (h : ∀ b ∈ s.data.toList, 97 ≤ b.toNat ∧ b.toNat ≤ 122) : NameOk s := by
  refine ⟨h1, h2, fun j hj => ?_⟩
  have hm : s[j] ∈ s.data.toList := by
    rw [Array.mem_toList_iff]
    exact Array.getElem_mem hj
  have := h _ hm
  exact .inl (.inr (.inl ⟨by omega, by omega⟩))
theorem name_iq : NameOk sIq := name_lower _ (by decide) (by decide) (by decide)
theorem name_type : NameOk sType := name_lower _ (by decide) (by decide) (by decide)
theorem name_id : NameOk sId := name_lower _ (by decide) (by decide) (by decide)
/-- The tokens of the stanza that live asks of. -/
def liveT : List Tok := elemT sIq [(sType, ty_get), (sId, sOne)] []
theorem liveT_is : stT 1 ty_get ⟨#[]⟩ ⟨#[]⟩ sOne [] = liveT := by rfl
theorem small_get : SmallT ty_get := ⟨by decide, chars_asc _ (by decide)⟩
theorem small_1 : SmallT sOne := ⟨by decide, chars_asc _ (by decide)⟩
theorem live_attrs : AttrsOk [(sType, ty_get), (sId, sOne)] := by
  refine ⟨by decide, fun i a h => ?_⟩
  match i, h with
  | 0, h =>
    cases h
    exact ⟨rfl, name_type, small_get⟩
  | 1, h =>
    cases h
    exact ⟨by rfl, name_id, small_1⟩
  | i + 2, h => simp at h
theorem live_whole : WholeT liveT := by
  refine ⟨⟨by decide, fun k t hk => ?_, by rfl⟩, by rfl⟩
  match k, hk with
  | 0, hk => cases hk; exact .inl ⟨rfl, by decide, name_iq, rfl, live_attrs⟩
  | 1, hk => cases hk; exact .inr (.inl ⟨rfl, by decide, rfl, rfl, rfl⟩)
  | k + 2, hk => simp [liveT, elemT] at hk
theorem live_ok : StOk 1 ty_get ⟨#[]⟩ ⟨#[]⟩ sOne [] := ⟨by rfl, by rw [liveT_is]; exact live_whole⟩
def liveD : D4 := ⟨ty_get, ⟨#[]⟩, ⟨#[]⟩, sOne⟩
def liveB : Tok := ⟨1, sIq, [(sType, ty_get), (sId, sOne)], ⟨#[]⟩⟩
theorem live_dec : DecOk liveT liveB liveD := ⟨live_whole, rfl, by rfl, live_ok⟩
theorem dec_one {ts : List Tok} {t u : Tok} {d e : D4} (h : DecOk ts t d) (k : DecOk ts u e) : t = u ∧ d = e := by
  obtain ⟨_, h1, h2, _⟩ := h
  obtain ⟨_, k1, k2, _⟩ := k
  rw [h1] at k1
  cases k1
  rw [h2] at k2
  cases k2
  exact ⟨rfl, rfl⟩
end Go.Proofs.YtpknifioflagaaaDoor
namespace Go.Proofs.YtpknifioflagaaaDoor
open Go.RowKit Go.Shelf

/-- What the calls lean on. -/
def Env6 (w : World) : Prop := Tabs w ∧ Jd.MaxG w ∧ RowsLaid w ∧ 3 < w.heap.size
theorem Env6.below {w w' : World} (h : Env6 w) (b : Below w.heap.size w w') : Env6 w' := ⟨tabs_below h.1 b, h.2.1.below b h.2.2.2, h.2.2.1.below b h.2.2.1.size, Nat.lt_of_lt_of_le h.2.2.2 b.size⟩
theorem own_cap {w : World} {base e s n gc : Nat} {ga : Option Addr} {xs : List Value} (h : w.ownsRow base e s (.slice ga n gc) n xs) : n ≤ gc := by
  obtain ⟨_, ⟨e, h⟩ | ⟨g, cap, cur, e, _, _, hc, _⟩⟩ := h
  · cases e
    exact Nat.le_refl _
  · cases e
    exact hc
theorem encode_yes {k : Int} {ty fr tt id : ByteArray} {pa : Option Addr} {pc : Nat} {ts : List Tok} {av : Nat → Option Addr × Nat} {w : World} (hT : TokMem w.heap.size w pa ts av) (hs : ts.length ≤ 1000) (hz : ty.size ≤ 9223372036854775807 ∧ fr.size ≤ 9223372036854775807 ∧ tt.size ≤ 9223372036854775807 ∧ id.size ≤ 9223372036854775807) (hE : Env6 w) (h : StOk k ty fr tt id ts) :
    Calls Tryd.prog 10 #[.agg #[.int .u8 k, .string ty, .string fr, .string tt, .string id, .slice pa ts.length pc]] w fun e w' => ∃ v l, e = .returned (.tuple #[v, .int .i64 0]) ∧ l.map (·.1) = stT k ty fr tt id ts ∧ ElRow w.heap.size w' v l ∧ Below w.heap.size w w' := by
  refine (encode_any k ty fr tt id pa pc ts av w hT hs hz hE.1 hE.2.1 hE.2.2.2).mono ?_
  rintro e w' ⟨⟨_, v, l, he, hm, hr⟩ | ⟨hn, _⟩, b⟩
  · exact ⟨v, l, he, hm, hr, b⟩
  · exact absurd h hn
theorem decode_yes {ao : Option Addr} {cap : Nat} {ts : List Tok} {av : Nat → Option Addr × Nat} {w : World} {t : Tok} {d : D4} (hT : TokMem w.heap.size w ao ts av) (hc : ts.length ≤ cap) (hs : ts.length ≤ 1000) (hE : Env6 w) (h : DecOk ts t d) :
    Calls Tryd.prog 16 #[.slice ao ts.length cap] w fun e w' => ∃ v l, e = .returned (.tuple #[.agg #[.int .u8 (kNum t.name), .string d.ty, .string d.fr, .string d.tt, .string d.id, v], .int .i64 0]) ∧ l.map (·.1) = midT ts ∧ ElRow w.heap.size w' v l ∧ Below w.heap.size w w' := by
  refine (decode_any ao cap ts av w hT hc hs hE.1 hE.2.1 hE.2.2.2).mono ?_
  rintro e w' ⟨⟨t', d', v, l, hd, he, hm, hr⟩ | ⟨hn, _⟩, b⟩
  · obtain ⟨rfl, rfl⟩ := dec_one h hd
    exact ⟨v, l, he, hm, hr, b⟩
  · exact absurd ⟨t, d, h⟩ hn
theorem failed_yes {k : Int} {fr tt id : ByteArray} {pa : Option Addr} {pc : Nat} {c : Int} {av : Nat → Option Addr × Nat} {w : World} (hT : TokMem w.heap.size w pa (errT c) av) (hl : RowsLaid w) (h1 : 1 ≤ c) (h2 : c ≤ 10) :
    Calls Tryd.prog 20 #[.agg #[.int .u8 k, .string ty_error, .string fr, .string tt, .string id, .slice pa (errT c).length pc]] w fun e w' => e = .returned (.tuple #[.int .i64 c, .bool true]) ∧ Below w.heap.size w w' := by
  have hF : FailT ty_error (errT c) (condN c) := ⟨rfl, _, _, rfl, rfl, rfl, rfl, rfl, rfl⟩
  refine (failed_any k ty_error fr tt id pa pc (errT c) av w hT hl).mono ?_
  rintro e w' ⟨⟨s, hs, hp⟩ | ⟨hn, _⟩, b⟩
  · have : s = condN c := by
      obtain ⟨_, t0, t1, h0, h1', _, _, _, rfl⟩ := hs
      cases h1'
      rfl
    subst this
    have hcn : condN c = tabN c.toNat := if_pos ⟨h1, h2⟩
    rw [hcn] at hp
    exact ⟨parse_own h1 h2 hp, b⟩
  · exact absurd ⟨_, hF⟩ hn
set_option maxRecDepth 100000 in
set_option maxHeartbeats 8000000 in
theorem live_any (w : World) (hE : Env6 w) : Calls Tryd.prog 12 #[] w fun e w' => e = .returned (.bool true) ∧ Below w.heap.size w w' := by
  obtain ⟨Wa, hWa, aa, ba, za⟩ := newV w 25 #[.int .u8 1, .string ⟨#[103, 101, 116]⟩, .string ⟨#[]⟩, .string ⟨#[]⟩, .string ⟨#[49]⟩, .slice none 0 0]
  have HST := hide (run_store_new (P := Tryd.prog) infoSt w (cs := #[.int .u8 1, .string ⟨#[103, 101, 116]⟩, .string ⟨#[]⟩, .string ⟨#[]⟩, .string ⟨#[49]⟩, .slice none 0 0]) (c := zeroSt) rfl rfl (by simp [Value.oneCell']))
  have hEa := hE.below ba
  have HEn := hide (encode_yes (pc := 0) (tokMem_nil Wa.heap.size Wa) (by simp) ⟨by decide, by decide, by decide, by decide⟩ hEa live_ok)
  rw [show ([] : List Tok).length = 0 from rfl] at HEn
  unfold ty_get sOne at HEn
  obtain ⟨x0, x1, x2, x3, x4, x5⟩ := cells6 aa
  have H0 := hide (And.intro aa (And.intro ba hE))
  clear aa ba hEa hE
  go_enter Tryd.func12, Tryd.ntmps12
  go_wp2_with (first
    | (refine l_alloc 25 infoSt rfl rfl ?_)
    | (refine l_store 25 HST.out rfl rfl rfl rfl ?_; rw [hWa])
    | (go_at_call 10; refine HEn.out.mono ?_; rintro e w1 ⟨v1, l1, rfl, m1, r1, b1⟩; refine stopHere ?_))
  unfold Hid
  obtain ⟨aa, ba, hE⟩ := H0.out
  have B1 : Below w.heap.size w w1 := ba.trans (b1.mono (by omega))
  have hz1 := b1.size
  have m1' : l1.map (·.1) = liveT := m1.trans liveT_is
  have hl1 : l1.length = 2 := by
    have h := congrArg List.length m1'
    rw [List.length_map] at h
    exact h
  obtain ⟨ga1, gc1, hv1⟩ := own_shape r1.1
  subst hv1
  have hcap1 := own_cap r1.1
  obtain ⟨ao1, cap1, e1, hT1⟩ := tokMem_own r1 (by omega)
  cases e1
  rw [m1'] at hT1
  have hdc := decode_yes (cap := gc1) hT1 (by rw [hl1] at hcap1; exact hcap1) (by decide) (hE.below B1) live_dec
  rw [show liveT.length = 2 from rfl] at hdc
  have HDc := hide hdc
  have g1 := (b1.block w.heap.size (by omega)).trans aa
  have H1 := hide (And.intro g1 B1)
  rw [hl1]
  clear aa ba hE b1 B1 m1 m1' hT1 hdc hcap1 r1 HEn g1 x0 x1 x2 x3 x4 x5
  go_wp2_with (go_at_call 16; refine HDc.out.mono ?_; rintro e w2 ⟨v2, l2, rfl, m2, r2, b2⟩; refine stopHere ?_)
  unfold Hid
  obtain ⟨ga2, gc2, hv2⟩ := own_shape r2.1
  subst hv2
  have hl2 : l2.length = 0 := by
    have h := congrArg List.length m2
    rw [List.length_map] at h
    exact h
  rw [hl2]
  unfold liveB liveD ty_get sOne
  rw [show kNum sIq = 1 from rfl]
  obtain ⟨W3, hW3, a3, b3, z3⟩ := newV w2 25 #[.int .u8 1, .string ⟨#[103, 101, 116]⟩, .string ⟨#[]⟩, .string ⟨#[]⟩, .string ⟨#[49]⟩, .slice ga2 0 gc2]
  have HST2 := hide (run_store_new (P := Tryd.prog) infoSt w2 (cs := #[.int .u8 1, .string ⟨#[103, 101, 116]⟩, .string ⟨#[]⟩, .string ⟨#[]⟩, .string ⟨#[49]⟩, .slice ga2 0 gc2]) (c := zeroSt) rfl rfl (by simp [Value.oneCell']))
  obtain ⟨g1, B1⟩ := H1.out
  obtain ⟨_, _, hE⟩ := H0.out
  have hz2 := b2.size
  have hwlt : w.heap.size < w1.heap.size := (Array.getElem?_eq_some_iff.1 g1).1
  have g3 := (b3.block w.heap.size (by omega)).trans ((b2.block w.heap.size hwlt).trans g1)
  have B3 : Below w.heap.size w W3 := B1.trans ((b2.trans (b3.mono (by omega))).mono B1.size)
  have hE3 := hE.below B3
  have HEr := hide (error_any 1 ⟨#[103, 101, 116]⟩ ⟨#[]⟩ ⟨#[]⟩ ⟨#[49]⟩ none 0 0 3 W3 hE3.2.2.1)
  obtain ⟨y0, y1, y2, y3, y4, y5⟩ := cells6 g3
  have H3 := hide (And.intro a3 (And.intro B3 (And.intro hE z3)))
  clear g1 B1 hE b2 b3 g3 B3 hE3 a3 m2 r2 HDc hl2
  go_wp2_with (first
    | (refine l_alloc 25 infoSt rfl rfl ?_)
    | (refine l_store 25 HST2.out rfl rfl rfl rfl ?_; rw [hW3])
    | (go_at_call 24; refine HEr.out.mono ?_; rintro e w4 ⟨v4, l4, rfl, m4, r4, b4⟩; refine stopHere ?_))
  unfold Hid
  obtain ⟨a3, B3, hE, z3⟩ := H3.out
  have hz4 := b4.size
  have B4 : Below w.heap.size w w4 := B3.trans (b4.mono B3.size)
  have hl4 : l4.length = 4 := by
    have h := congrArg List.length m4
    rw [List.length_map] at h
    exact h
  obtain ⟨ga4, gc4, hv4⟩ := own_shape r4.1
  subst hv4
  obtain ⟨ao4, cap4, e4, hT4⟩ := tokMem_own r4 (by omega)
  cases e4
  rw [m4] at hT4
  have hfl := failed_yes (k := 1) (fr := ⟨#[]⟩) (tt := ⟨#[]⟩) (id := ⟨#[49]⟩) (pc := gc4) hT4 (hE.below B4).2.2.1 (by decide) (by decide)
  rw [show (errT 3).length = 4 from rfl] at hfl
  have HFl := hide hfl
  have g4 := (b4.block _ (hp_lt a3)).trans a3
  have H4 := hide (And.intro g4 B4)
  rw [hl4]
  unfold ty_error at HFl ⊢
  clear a3 B3 hE b4 B4 m4 r4 hT4 hfl HEr g4 y0 y1 y2 y3 y4 y5
  go_wp2_with (go_at_call 20; refine HFl.out.mono ?_; rintro e w5 ⟨rfl, b5⟩; refine stopHere ?_)
  unfold Hid
  have g5 := (b5.block _ (hp_lt H4.out.1)).trans H4.out.1
  obtain ⟨u0, u1, u2, u3, u4, u5⟩ := cells6 g5
  have H5 := hide (H4.out.2.trans (b5.mono H4.out.2.size))
  clear g5 b5 HFl
  go_wp2_with fail
  go_ret
  exact ⟨rfl, H5.out⟩
end Go.Proofs.YtpknifioflagaaaDoor
