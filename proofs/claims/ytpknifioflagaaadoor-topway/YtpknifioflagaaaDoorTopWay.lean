/- TopWay: an answer goes back where it came from, and the answer to it there again. -/
import Derived.Test.YtpknifioflagaaaDoorSt15
import Derived.Test.YtpknifioflagaaaDoorStF
namespace Go.Proofs.YtpknifioflagaaaDoor
open Go.RowKit Go.Shelf

theorem whole_nil {nm : ByteArray} {al : List (ByteArray × ByteArray)} (hn : NameOk nm) (ha : AttrsOk al) : WholeT (elemT nm al []) := by
  refine ⟨⟨by simp [elemT], fun k t hk => ?_, by rfl⟩, by rfl⟩
  match k, hk with
  | 0, hk => cases hk; exact .inl ⟨rfl, by show ([] : List ByteArray).length + 1 ≤ 8; simp, hn, rfl, ha⟩
  | 1, hk => cases hk; exact .inr (.inl ⟨rfl, by show 0 < ([nm] : List ByteArray).length; simp, rfl, rfl, rfl⟩)
  | k + 2, hk => simp [elemT] at hk
theorem text_asc {j : Jd.JL} (h : Jd.RightJ j) : ∀ b ∈ Jd.textJ j, 32 ≤ b.toNat ∧ b.toNat < 128 := by
  have pt : ∀ l : List UInt8, Jd.partL l = true → ∀ b ∈ l, 32 ≤ b.toNat ∧ b.toNat < 128 := by
    intro l hl b hb
    unfold Jd.partL at hl
    rw [Bool.and_eq_true, List.all_eq_true] at hl
    have := hl.1 b hb
    unfold Jd.ptB Jd.capB at this
    simp only [Bool.or_eq_true, Bool.and_eq_true, decide_eq_true_eq, beq_iff_eq] at this
    rcases this with ((h | h) | h) | (h | h) | h
    · omega
    · omega
    · omega
    · rw [h]; decide
    · rw [h]; decide
    · rw [h]; decide
  obtain ⟨lo, dom, res⟩ := j
  obtain ⟨h1, h2, h3, _⟩ := h
  have h1' : lo = [] ∨ Jd.partL lo = true := h1
  have h2' : Jd.partL dom = true := h2
  have h3' : res = [] ∨ Jd.partL res = true := h3
  intro b hb
  unfold Jd.textJ at hb
  simp only [List.mem_append] at hb
  rcases hb with hb | hb | hb
  · by_cases e : lo = []
    · rw [if_pos e] at hb
      cases hb
    · rw [if_neg e, List.mem_append] at hb
      rcases hb with hb | hb
      · exact pt lo (h1'.resolve_left e) b hb
      · have : b = 64 := by simpa using hb
        rw [this]
        decide
  · exact pt dom h2' b hb
  · by_cases e : res = []
    · rw [if_pos e] at hb
      cases hb
    · rw [if_neg e, List.mem_cons] at hb
      rcases hb with hb | hb
      · rw [hb]
        decide
      · exact pt res (h3'.resolve_left e) b hb
theorem small_addr {lo dom res : ByteArray} (h : Jd.RightJ (Jd.jl lo dom res)) : SmallT (Jd.joinB lo dom res) ∧ addrB (Jd.joinB lo dom res) = true := by
  have hl := Jd.joinB_list lo dom res
  have h4 := h.2.2.2
  refine ⟨⟨?_, ?_⟩, ?_⟩
  · have : (Jd.joinB lo dom res).size = (Jd.textJ (Jd.jl lo dom res)).length := by rw [← hl, Array.length_toList]; rfl
    omega
  · rw [hl]
    exact chars_asc _ (text_asc h)
  · unfold addrB
    rw [hl, Jd.parse_text h]
    simp
def sSeven : ByteArray := ⟨#[55]⟩
theorem way_ok {x y t : ByteArray} (ht : t = ty_set ∨ t = ty_result) (hx : SmallT x ∧ addrB x = true) (hy : SmallT y ∧ addrB y = true) : StOk 1 t x y sSeven [] := by
  have st : SmallT t := by
    rcases ht with rfl | rfl
    · exact ⟨by decide, chars_asc _ (by decide)⟩
    · exact ⟨by decide, chars_asc _ (by decide)⟩
  refine ⟨?_, whole_nil (name_kind (.inl rfl)) (attrs_small st hx.1 hy.1 ⟨by decide, chars_asc _ (by decide)⟩)⟩
  unfold mayB
  rw [hx.2, hy.2]
  rcases ht with rfl | rfl
  · rfl
  · rfl
theorem small_size {x : ByteArray} (h : SmallT x) : x.size ≤ 9223372036854775807 := Nat.le_trans h.1 (by decide)
theorem right_yes7 {k : Int} {ty fr tt id : ByteArray} {pa : Option Addr} {pc : Nat} {ts : List Tok} {av : Nat → Option Addr × Nat} {w : World} (hT : TokMem w.heap.size w pa ts av) (hs : ts.length ≤ 1000) (hz : ty.size ≤ 9223372036854775807 ∧ fr.size ≤ 9223372036854775807 ∧ tt.size ≤ 9223372036854775807 ∧ id.size ≤ 9223372036854775807) (hE : Env6 w) (h : StOk k ty fr tt id ts) :
    Calls Tryd.prog 14 #[.agg #[.int .u8 k, .string ty, .string fr, .string tt, .string id, .slice pa ts.length pc]] w fun e w' => e = .returned (.bool true) ∧ Below w.heap.size w w' := by
  refine (stRight_any k ty fr tt id pa pc ts av w hT hs hz hE.1 hE.2.1 hE.2.2.2).mono ?_
  rintro e w' ⟨⟨_, he⟩ | ⟨hn, _⟩, b⟩
  · exact ⟨he, b⟩
  · exact absurd h hn
theorem print_no {lo dom res : ByteArray} {w : World} (hs : lo.size + dom.size + res.size + 2 ≤ 9223372036854775807) (hE : Env6 w) (h : ¬ Jd.RightJ (Jd.jl lo dom res)) : Calls Tryd.prog 27 #[.agg #[.string lo, .string dom, .string res]] w fun e w' => e = .returned (.tuple #[.string ⟨#[]⟩, .int .i64 3]) ∧ Below w.heap.size w w' := by
  refine (Jd.print_any lo dom res w hs hE.2.1 hE.2.2.2).mono ?_
  rintro e w' ⟨⟨hn, _⟩ | ⟨_, he⟩, b⟩
  · exact absurd hn h
  · exact ⟨he, b⟩
theorem print_yes {lo dom res : ByteArray} {w : World} (hs : lo.size + dom.size + res.size + 2 ≤ 9223372036854775807) (hE : Env6 w) (h : Jd.RightJ (Jd.jl lo dom res)) : Calls Tryd.prog 27 #[.agg #[.string lo, .string dom, .string res]] w fun e w' => e = .returned (.tuple #[.string (Jd.joinB lo dom res), .int .i64 0]) ∧ Below w.heap.size w w' := by
  refine (Jd.print_any lo dom res w hs hE.2.1 hE.2.2.2).mono ?_
  rintro e w' ⟨⟨_, he⟩ | ⟨hn, _⟩, b⟩
  · exact ⟨he, b⟩
  · exact absurd h hn
theorem jright_is {lo dom res : ByteArray} {w : World} {q : Bool} (hs : lo.size + dom.size + res.size + 2 ≤ 9223372036854775807) (hE : Env6 w) (h : decide (Jd.RightJ (Jd.jl lo dom res)) = q) : Calls Tryd.prog 28 #[.agg #[.string lo, .string dom, .string res]] w fun e w' => e = .returned (.bool q) ∧ Below w.heap.size w w' := by
  subst h
  exact Jd.right_any lo dom res w hs hE.2.1 hE.2.2.2
set_option maxRecDepth 100000 in
set_option maxHeartbeats 8000000 in
theorem topWay_any (lo1 dom1 res1 lo2 dom2 res2 : ByteArray) (n : Int) (w : World) (hn0 : 0 ≤ n) (hn1 : n ≤ 255) (hs1 : lo1.size + dom1.size + res1.size + 2 ≤ 9223372036854775807) (hs2 : lo2.size + dom2.size + res2.size + 2 ≤ 9223372036854775807) (hE : Env6 w) :
    Calls Tryd.prog 8 #[.agg #[.string lo1, .string dom1, .string res1], .agg #[.string lo2, .string dom2, .string res2], .int .u8 n] w fun e w' => e = .returned (.bool true) ∧ Below w.heap.size w w' := by
  obtain ⟨Wa, hWa, aa, ba, za⟩ := newV w 47 #[.string lo1, .string dom1, .string res1]
  obtain ⟨Wb, hWb, ab, bb, zb⟩ := newV Wa 47 #[.string lo2, .string dom2, .string res2]
  rw [za] at ab
  have aB := (bb.block w.heap.size (by omega)).trans aa
  have bB : Below w.heap.size w Wb := ba.trans (bb.mono (by omega))
  obtain ⟨x0, x1, x2, _⟩ := Jd.cells3 aB
  obtain ⟨y0, y1, y2, _⟩ := Jd.cells3 ab
  have HG := hide (And.intro hE (And.intro hs1 hs2))
  have H0 := hide (And.intro aB (And.intro ab bB))
  by_cases h1 : Jd.RightJ (Jd.jl lo1 dom1 res1)
  · have HP1 := hide (print_yes hs1 (hE.below bB) h1)
    have HR1 := hide fun (V : World) (hV : Env6 V) => jright_is hs1 hV (decide_eq_true h1)
    by_cases h2 : Jd.RightJ (Jd.jl lo2 dom2 res2)
    · have HP2 := hide fun (V : World) (hV : Env6 V) => print_yes hs2 hV h2
      have sx := small_addr h1
      have sy := small_addr h2
      obtain ⟨x, hx⟩ : ∃ x, Jd.joinB lo1 dom1 res1 = x := ⟨_, rfl⟩
      obtain ⟨y, hy⟩ : ∃ y, Jd.joinB lo2 dom2 res2 = y := ⟨_, rfl⟩
      rw [hx] at HP1 sx
      rw [hy] at HP2 sy
      have HXY := hide (And.intro sx (And.intro sy (And.intro hn0 hn1)))
      clear sx sy hx hy h1 h2 HR1 aa ab ba bb aB bB hE hs1 hs2 zb
      go_enter Tryd.func8, Tryd.ntmps8
      go_wp2_with (go_at_call 27; refine HP1.out.mono ?_; rintro e w1 ⟨rfl, b1⟩; refine stopHere ?_)
      unfold Hid
      have B1 : Below w.heap.size w w1 := H0.out.2.2.trans (b1.mono H0.out.2.2.size)
      have HP2' := hide (HP2.out w1 (HG.out.1.below B1))
      clear x0 x1 x2 y0 y1 y2
      obtain ⟨y0, y1, y2, _⟩ := Jd.cells3 ((b1.block _ (hp_lt H0.out.2.1)).trans H0.out.2.1)
      have HB1 := hide B1
      clear b1 B1 HP1 HP2
      go_wp2_with (go_at_call 27; refine HP2'.out.mono ?_; rintro e w2 ⟨rfl, b2⟩; refine stopHere ?_)
      unfold Hid
      have B2 : Below w.heap.size w w2 := HB1.out.trans (b2.mono HB1.out.size)
      obtain ⟨W3, hW3, a3, b3, z3⟩ := newV w2 25 #[.int .u8 1, .string ⟨#[115, 101, 116]⟩, .string x, .string y, .string ⟨#[55]⟩, .slice none 0 0]
      have HST := hide (run_store_new (P := Tryd.prog) infoSt w2 (cs := #[.int .u8 1, .string ⟨#[115, 101, 116]⟩, .string x, .string y, .string ⟨#[55]⟩, .slice none 0 0]) (c := zeroSt) rfl rfl (by simp [Value.oneCell']))
      have B3 : Below w.heap.size w W3 := B2.trans (b3.mono B2.size)
      have HEr := hide fun c => error_any 1 ⟨#[115, 101, 116]⟩ x y ⟨#[55]⟩ none 0 0 c W3 (HG.out.1.below B3).2.2.1
      obtain ⟨u0, u1, u2, u3, u4, u5⟩ := cells6 a3
      have H3 := hide (And.intro a3 B3)
      obtain ⟨m, hm⟩ : ∃ m : Nat, n = m := ⟨n.toNat, by omega⟩
      subst hm
      have hm1 : m ≤ 255 := by omega
      clear a3 b3 B3 B2 b2 y0 y1 y2 HP2'
      go_wp2_with (first
        | (refine l_alloc 25 infoSt rfl rfl ?_)
        | (refine l_store 25 HST.out rfl rfl rfl rfl ?_; rw [hW3])
        | (go_at_call 24; refine (HEr.out _).mono ?_; rintro e w4 ⟨v4, l4, rfl, e4, r4, b4⟩; refine stopHere ?_))
      unfold Hid
      have hl4 : l4.length = 4 := by
        have h := congrArg List.length e4
        rw [List.length_map] at h
        exact h
      obtain ⟨c, hc⟩ : ∃ c : Int, (m : Int) % 10 + 1 = c := ⟨_, rfl⟩
      have hc1 : 1 ≤ c := by omega
      have hc2 : c ≤ 10 := by omega
      rw [hc] at e4
      obtain ⟨ga, gc, rfl⟩ := own_shape r4.1
      obtain ⟨ao4, cap4, q4, hT4⟩ := tokMem_own r4 (by omega)
      cases q4
      rw [e4] at hT4
      rw [hl4]
      obtain ⟨W5, hW5, a5, c5, z5⟩ := newV w4 25 #[.int .u8 1, .string ty_error, .string y, .string x, .string ⟨#[55]⟩, .slice ga 4 gc]
      have HST5 := hide (run_store_new (P := Tryd.prog) infoSt w4 (cs := #[.int .u8 1, .string ty_error, .string y, .string x, .string ⟨#[55]⟩, .slice ga 4 gc]) (c := zeroSt) rfl rfl (by simp [Value.oneCell']))
      have b5 : Below W3.heap.size W3 W5 := b4.trans (c5.mono b4.size)
      have B5 : Below w.heap.size w W5 := H3.out.2.trans (b5.mono H3.out.2.size)
      have s5 := (b5.block w2.heap.size (hp_lt H3.out.1)).trans H3.out.1
      have memE : ∀ U, Below W5.heap.size W5 U → TokMem U.heap.size U ga (errT c) (avOf l4) := fun U hU => (((hT4.below c5).raise c5.size).below hU).raise hU.size
      have HRs := hide (result_any 1 ty_error y x ⟨#[55]⟩ ga 4 gc none 0 [] (fun _ => (none, 0)) W5 (tokMem_nil _ _))
      rw [show ([] : List Tok).length = 0 from rfl] at HRs
      have H5 := hide (And.intro s5 (And.intro a5 (And.intro B5 (And.intro memE (And.intro hc1 hc2)))))
      clear u0 u1 u2 u3 u4 u5
      obtain ⟨u0, u1, u2, u3, u4, u5⟩ := cells6 a5
      unfold ty_error at HRs u1 HST5 hW5 ⊢
      clear hl4 e4 r4 hT4 hc1 hc2 a5 c5 b5 B5 s5 memE b4 HEr HST hW3 z5 hc
      go_wp2_with (first
        | (refine l_alloc 25 infoSt rfl rfl ?_)
        | (refine l_store 25 HST5.out rfl rfl rfl rfl ?_; rw [hW5])
        | (go_at_call 22; refine HRs.out.mono ?_; rintro e w6 ⟨v6, l6, rfl, e6, r6, b6⟩; refine stopHere ?_))
      unfold Hid
      obtain ⟨s5, a5, B5, memE, hc1, hc2⟩ := H5.out
      have hl6 : l6.length = 0 := by
        have h := congrArg List.length e6
        rw [List.length_map] at h
        exact h
      obtain ⟨ga6, gc6, rfl⟩ := own_shape r6.1
      obtain ⟨ao6, cap6, q6, hT6⟩ := tokMem_own r6 (by omega)
      cases q6
      rw [e6] at hT6
      rw [hl6]
      obtain ⟨W7, hW7, a7, c7, z7⟩ := newV w6 25 #[.int .u8 1, .string ty_result, .string x, .string y, .string ⟨#[55]⟩, .slice ga6 0 gc6]
      have HST7 := hide (run_store_new (P := Tryd.prog) infoSt w6 (cs := #[.int .u8 1, .string ty_result, .string x, .string y, .string ⟨#[55]⟩, .slice ga6 0 gc6]) (c := zeroSt) rfl rfl (by simp [Value.oneCell']))
      have b7 : Below W5.heap.size W5 W7 := b6.trans (c7.mono b6.size)
      have B7 : Below w.heap.size w W7 := B5.trans (b7.mono B5.size)
      have s7 := (b7.block w2.heap.size (hp_lt s5)).trans s5
      have t7 := (b7.block w4.heap.size (hp_lt a5)).trans a5
      have memN : ∀ U, Below W7.heap.size W7 U → TokMem U.heap.size U ga6 [] (avOf l6) := fun U hU => (((hT6.below c7).raise c7.size).below hU).raise hU.size
      obtain ⟨sx, sy, _⟩ := HXY.out
      have okS := way_ok (.inl rfl) sx sy
      have okE := err_ok okS hc1 hc2
      have okR := way_ok (.inr rfl) sx sy
      have hR1 := right_yes7 (pc := 0) (tokMem_nil W7.heap.size W7) (by simp) ⟨by decide, small_size sx.1, small_size sy.1, by decide⟩ (HG.out.1.below B7) okS
      rw [show ([] : List Tok).length = 0 from rfl] at hR1
      have HR1 := hide hR1
      have H7 := hide (And.intro s7 (And.intro t7 (And.intro a7 (And.intro b7 (And.intro B7 (And.intro memE (And.intro memN (And.intro okE okR))))))))
      clear u0 u1 u2 u3 u4 u5
      obtain ⟨u0, u1, u2, u3, u4, u5⟩ := cells6 s7
      unfold ty_set sSeven at HR1
      unfold ty_result at HST7 hW7 ⊢
      clear s5 a5 B5 memE hc1 hc2 hl6 e6 r6 hT6 a7 c7 b7 B7 s7 t7 memN sx sy okS okE okR hR1 b6 HRs HST5 hW5 H5 H3 z7
      go_wp2_with (first
        | (refine l_alloc 25 infoSt rfl rfl ?_)
        | (refine l_store 25 HST7.out rfl rfl rfl rfl ?_; rw [hW7])
        | (go_at_call 14; refine HR1.out.mono ?_; rintro e w8 ⟨rfl, b8⟩; refine stopHere ?_))
      unfold Hid
      obtain ⟨s7, t7, a7, b7, B7, memE, memN, okE, okR⟩ := H7.out
      obtain ⟨sx, sy, _⟩ := HXY.out
      have B8 : Below w.heap.size w w8 := B7.trans (b8.mono B7.size)
      have hR2 := right_yes7 (pc := gc) (memE w8 (b7.trans (b8.mono b7.size))) (by show (4 : Nat) ≤ 1000; omega) ⟨by decide, small_size sy.1, small_size sx.1, by decide⟩ (HG.out.1.below B8) okE
      rw [show (errT c).length = 4 from rfl] at hR2
      have HR2 := hide hR2
      have t8 := (b8.block w4.heap.size (hp_lt t7)).trans t7
      have a8 := (b8.block w6.heap.size (hp_lt a7)).trans a7
      have H8 := hide (And.intro t8 (And.intro a8 (And.intro b8 (And.intro B8 (And.intro memN okR)))))
      clear u0 u1 u2 u3 u4 u5
      obtain ⟨u0, u1, u2, u3, u4, u5⟩ := cells6 t8
      unfold ty_error sSeven at HR2
      clear s7 t7 a7 b7 B7 memE memN okE okR sx sy B8 hR2 t8 a8 b8 HR1 H7 HST7 hW7
      go_wp2_with (go_at_call 14; refine HR2.out.mono ?_; rintro e w9 ⟨rfl, b9⟩; refine stopHere ?_)
      unfold Hid
      obtain ⟨t8, a8, b8, B8, memN, okR⟩ := H8.out
      obtain ⟨sx, sy, _⟩ := HXY.out
      have B9 : Below w.heap.size w w9 := B8.trans (b9.mono B8.size)
      have hR3 := right_yes7 (pc := gc6) (memN w9 (b8.trans (b9.mono b8.size))) (by simp) ⟨by decide, small_size sx.1, small_size sy.1, by decide⟩ (HG.out.1.below B9) okR
      rw [show ([] : List Tok).length = 0 from rfl] at hR3
      have HR3 := hide hR3
      have t9 := (b9.block w4.heap.size (hp_lt t8)).trans t8
      have a9 := (b9.block w6.heap.size (hp_lt a8)).trans a8
      clear u0 u1 u2 u3 u4 u5
      obtain ⟨u0, u1, u2, u3, u4, u5⟩ := cells6 t9
      obtain ⟨y0, y1, y2, y3, y4, y5⟩ := cells6 a9
      unfold ty_result sSeven at HR3
      unfold ty_result at y1
      have s1 : (x.toList == x.toList) = true := by simp
      have s2 : (y.toList == y.toList) = true := by simp
      have HB9 := hide B9
      clear t8 a8 b8 B8 memN okR sx sy B9 hR3 t9 a9 b9 HR2 H8
      go_wp2_with (go_at_call 14; refine HR3.out.mono ?_; rintro e w10 ⟨rfl, b10⟩)
      go_ret
      exact ⟨rfl, HB9.out.trans (b10.mono HB9.out.size)⟩
    · have HP2 := hide fun (V : World) (hV : Env6 V) => print_no hs2 hV h2
      have HR2 := hide fun (V : World) (hV : Env6 V) => jright_is hs2 hV (decide_eq_false h2)
      obtain ⟨x, hx⟩ : ∃ x, Jd.joinB lo1 dom1 res1 = x := ⟨_, rfl⟩
      rw [hx] at HP1
      clear hx h1 h2 aa ab ba bb aB bB hE hs1 hs2 zb
      go_enter Tryd.func8, Tryd.ntmps8
      go_wp2_with (go_at_call 27; refine HP1.out.mono ?_; rintro e w1 ⟨rfl, b1⟩; refine stopHere ?_)
      unfold Hid
      have B1 : Below w.heap.size w w1 := H0.out.2.2.trans (b1.mono H0.out.2.2.size)
      have HP2' := hide (HP2.out w1 (HG.out.1.below B1))
      clear x0 x1 x2 y0 y1 y2
      have f1 := (b1.block _ (hp_lt H0.out.1)).trans H0.out.1
      have g1 := (b1.block _ (hp_lt H0.out.2.1)).trans H0.out.2.1
      obtain ⟨y0, y1, y2, _⟩ := Jd.cells3 g1
      have HB1 := hide (And.intro f1 (And.intro g1 B1))
      clear b1 B1 f1 g1 HP1 HP2
      go_wp2_with (go_at_call 27; refine HP2'.out.mono ?_; rintro e w2 ⟨rfl, b2⟩; refine stopHere ?_)
      unfold Hid
      have B2 : Below w.heap.size w w2 := HB1.out.2.2.trans (b2.mono HB1.out.2.2.size)
      have f2 := (b2.block _ (hp_lt HB1.out.1)).trans HB1.out.1
      have g2 := (b2.block _ (hp_lt HB1.out.2.1)).trans HB1.out.2.1
      clear y0 y1 y2
      obtain ⟨x0, x1, x2, _⟩ := Jd.cells3 f2
      have HR1' := hide (HR1.out w2 (HG.out.1.below B2))
      have HB2 := hide (And.intro g2 B2)
      clear b2 B2 f2 g2 HP2' HR1
      go_wp2_with (go_at_call 28; refine HR1'.out.mono ?_; rintro e w3 ⟨rfl, b3⟩; refine stopHere ?_)
      unfold Hid
      have B3 : Below w.heap.size w w3 := HB2.out.2.trans (b3.mono HB2.out.2.size)
      have g3 := (b3.block _ (hp_lt HB2.out.1)).trans HB2.out.1
      clear x0 x1 x2
      obtain ⟨y0, y1, y2, _⟩ := Jd.cells3 g3
      have HR2' := hide (HR2.out w3 (HG.out.1.below B3))
      have HB3 := hide B3
      clear b3 B3 g3 HR1' HR2
      go_wp2_with (go_at_call 28; refine HR2'.out.mono ?_; rintro e w4 ⟨rfl, b4⟩)
      go_ret
      exact ⟨rfl, HB3.out.trans (b4.mono HB3.out.size)⟩
  · have HP1 := hide (print_no hs1 (hE.below bB) h1)
    have HR1 := hide fun (V : World) (hV : Env6 V) => jright_is hs1 hV (decide_eq_false h1)
    have HP2 := hide fun (V : World) (hV : Env6 V) => Jd.print_any lo2 dom2 res2 V hs2 hV.2.1 hV.2.2.2
    clear h1 aa ab ba bb aB bB hE hs1 hs2 zb
    go_enter Tryd.func8, Tryd.ntmps8
    go_wp2_with (go_at_call 27; refine HP1.out.mono ?_; rintro e w1 ⟨rfl, b1⟩; refine stopHere ?_)
    unfold Hid
    have B1 : Below w.heap.size w w1 := H0.out.2.2.trans (b1.mono H0.out.2.2.size)
    have HP2' := hide ((HP2.out w1 (HG.out.1.below B1)).mono (R' := fun e w' => ∃ s k, e = .returned (.tuple #[.string s, .int .i64 k]) ∧ Below w1.heap.size w1 w') (by
      rintro e w' ⟨⟨_, he⟩ | ⟨_, he⟩, b⟩
      · exact ⟨_, _, he, b⟩
      · exact ⟨_, _, he, b⟩))
    clear x0 x1 x2 y0 y1 y2
    have f1 := (b1.block _ (hp_lt H0.out.1)).trans H0.out.1
    have g1 := (b1.block _ (hp_lt H0.out.2.1)).trans H0.out.2.1
    obtain ⟨y0, y1, y2, _⟩ := Jd.cells3 g1
    have HB1 := hide (And.intro f1 B1)
    clear b1 B1 f1 g1 HP1 HP2
    go_wp2_with (go_at_call 27; refine HP2'.out.mono ?_; rintro e w2 ⟨s2, k2, rfl, b2⟩; refine stopHere ?_)
    unfold Hid
    have B2 : Below w.heap.size w w2 := HB1.out.2.trans (b2.mono HB1.out.2.size)
    have f2 := (b2.block _ (hp_lt HB1.out.1)).trans HB1.out.1
    clear y0 y1 y2
    obtain ⟨x0, x1, x2, _⟩ := Jd.cells3 f2
    have HR1' := hide (HR1.out w2 (HG.out.1.below B2))
    have HB2 := hide B2
    clear b2 B2 f2 HP2' HR1
    go_wp2_with (go_at_call 28; refine HR1'.out.mono ?_; rintro e w3 ⟨rfl, b3⟩)
    go_ret
    exact ⟨rfl, HB2.out.trans (b3.mono HB2.out.size)⟩
end Go.Proofs.YtpknifioflagaaaDoor
