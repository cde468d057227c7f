/- TopHeard. -/
import Derived.Test.YtllpblnbdocfjadTH0
namespace Go.Proofs.Ytllpblnbdocfjad
open Go.RowKit

/-- How many are sent between breaks, and how many come: pairs of bytes that were handed in. -/
def PrMem (n₀ : Nat) (w : World) (ao : Option Addr) (l : List (UInt8 × UInt8)) : Prop := l.length ≤ 9223372036854775807 ∧ ∀ (j : Nat) (c : UInt8 × UInt8), l[j]? = some c → ∃ b o, ao = some ⟨b, o, none⟩ ∧ b < n₀ ∧ w.cell? ⟨b, o + j * 2, none⟩ = some (.int .u8 c.1.toNat) ∧ w.cell? ⟨b, o + j * 2 + 1, none⟩ = some (.int .u8 c.2.toNat)
theorem PrMem.below {n₀ : Nat} {w w' : World} {ao : Option Addr} {l : List (UInt8 × UInt8)} (h : PrMem n₀ w ao l) (hb : Below n₀ w w') : PrMem n₀ w' ao l := ⟨h.1, fun j c hj => by
  obtain ⟨b, o, e1, e2, c0, c1⟩ := h.2 j c hj
  exact ⟨b, o, e1, e2, (hb.cell (p := ⟨b, _, none⟩) e2).trans c0, (hb.cell (p := ⟨b, _, none⟩) e2).trans c1⟩⟩
/-- The two queues: what waits are the texts from a to n; g came. -/
def hq (a n : Nat) : Qs := ⟨nms a n, a, 0⟩
def ho (g : Nat) : Qs := ⟨[], 0, g⟩
theorem hq_ok {a n : Nat} (h : n ≤ a + 16) (h2 : a < 1000) : QOk (hq a n) := ⟨by show (nms a n).length ≤ 16; rw [nms_len]; omega, by show a < _; omega, by show 0 < _; omega⟩
theorem ho_ok {g : Nat} (h : g < 1000) : QOk (ho g) := ⟨by simp [ho], by show 0 < _; omega, by show g < _; omega⟩
theorem hq_resume {a n g : Nat} (h1 : a ≤ g) (h2 : g ≤ n) (h3 : n < 1000) : sinceQ (hq a n) g = g - a ∧ sinceQ (hq a n) g ≤ (hq a n).l.length ∧ ackQ (hq a n) g = hq g n := by
  have hs : sinceQ (hq a n) g = g - a := by
    unfold sinceQ
    show (g + 4294967296 - a) % 4294967296 = g - a
    omega
  have hl : (hq a n).l.length = n - a := nms_len a n
  refine ⟨hs, by rw [hs, hl]; omega, ?_⟩
  unfold ackQ
  rw [hs, hl, if_pos (by omega)]
  show (⟨(nms a n).drop (g - a), g, 0⟩ : Qs) = ⟨nms g n, g, 0⟩
  rw [nms_drop h1 h2]
theorem hq_send {g n : Nat} (h : g ≤ n) (hl : n < g + 16) : sendQ (hq g n) (nm n) = hq g (n + 1) ∧ sendE (hq g n) = 0 := by
  have : ¬ 16 ≤ (hq g n).l.length := by show ¬ 16 ≤ (nms g n).length; rw [nms_len]; omega
  unfold sendQ sendE
  rw [if_neg this, if_neg this]
  refine ⟨?_, rfl⟩
  show (⟨nms g n ++ [nm n], g, 0⟩ : Qs) = ⟨nms g (n + 1), g, 0⟩
  rw [nms_snoc h]
theorem hq_full {g n : Nat} (hl : ¬ n < g + 16) (s : ByteArray) : sendQ (hq g n) s = hq g n ∧ sendE (hq g n) = 4 := by
  have : 16 ≤ (hq g n).l.length := by show 16 ≤ (nms g n).length; rw [nms_len]; omega
  unfold sendQ sendE
  rw [if_pos this, if_pos this]
  exact ⟨rfl, rfl⟩
theorem ho_got {g : Nat} (h : g < 1000) : gotQ (ho g) = ho (g + 1) := by
  unfold gotQ ho
  simp
  omega
theorem nm_conv2 (w : World) (n : Nat) (hn : n < 256) : (convert 32 9 (.slice (some ⟨w.heap.size, 0, none⟩) 2 2)).run Try.prog (w.alloc (.cells #[.int .u8 0, .int .u8 n] 5)).drew = .ok (.string (nm n)) (w.alloc (.cells #[.int .u8 0, .int .u8 n] 5)).drew := by
  have h := run_convert_bytes_back (P := Try.prog) (w.alloc (.cells #[.int .u8 0, .int .u8 n] 5)).drew 32 9 5 ⟨w.heap.size, 0, none⟩ 2 [0, UInt8.ofNat n] Try.underlying32 Try.underlying5 Try.underlying9 (fun j hj => by
    match j, hj with
    | 0, _ => simp [Addr.add]
    | 1, _ => simp [Addr.add]; omega)
  exact h
theorem own_get {w : World} {base n m gc j : Nat} {ga : Option Addr} {l : List ByteArray} {s : ByteArray} (h : w.ownsRow base 9 1 (.slice ga n gc) m (strC l)) (hm : m = l.length) (hj : l[j]? = some s) : ∃ b off, ga = some ⟨b, off, none⟩ ∧ b < w.heap.size ∧ w.cell? ⟨b, off + j, none⟩ = some (.string s) := by
  subst hm
  obtain ⟨_, _, e, hx⟩ := own_lst (M := fun _ => False) h (fun _ _ x => x)
  cases e
  obtain ⟨b, off, e1, _, e2, e3⟩ := hx j s hj
  exact ⟨b, off, e1, e2, e3⟩
set_option maxRecDepth 100000 in
set_option maxHeartbeats 8000000 in
theorem topHeard_any (ao : Option Addr) (cap : Nat) (ps : List (UInt8 × UInt8)) (w : World) (hm : PrMem w.heap.size w ao ps) :
    Calls Try.prog 3 #[.slice ao ps.length cap] w fun e w' => e = .returned (.bool true) ∧ Below w.heap.size w w' := by
  have H0 := hide (new_any w.heap.size w (Nat.le_refl _))
  have hlen := hm.1
  have HM := hide hm
  clear hm
  go_enter Try.func3, Try.ntmps3
  go_wp2_with (first
    | (go_at_call 4; refine H0.out.mono ?_; rintro e w1 ⟨p, v1, rfl, d1, b1, _⟩; have s1 := b1.size; have H1 := hide (And.intro d1 b1); clear d1 b1; refine stopHere ?_))
  unfold Hid
  go_wp2_with (first
    | (go_at_call 4; refine (new_any w.heap.size w1 s1).mono ?_; rintro e w2 ⟨o, v2, rfl, d2, b2, g2⟩; have s2 := b2.size; have H2 := hide (And.intro d2 (And.intro b2 g2)); clear d2 b2 g2; refine stopHere ?_))
  unfold Hid
  have hI0 : HrdI w.heap.size p o (hq 0 0) (ho 0) v1 v2 (.slice none 0 0) [] w2 := ⟨H1.out.1.below H2.out.2.1, H2.out.1, World.ownsRow_nil _ _ _ _, fun j hj hk => (by have := (H1.out.1.lt hj).2; have := H2.out.2.2 j hk; omega), fun j e => (by cases e), fun j e => (by cases e)⟩
  have HI0 := hide (And.intro hI0 (H1.out.2.trans (H2.out.2.1.mono s1)))
  clear hI0 H1 H2
  go_wp2_with fail
  go_loopw [5, 6, 7] (fun vg n j wr => ∃ k N g a : Nat, k ≤ min ps.length 30 ∧ j = .int .i64 k ∧ n = .int .i64 N ∧ N ≤ 7 * k ∧ a ≤ g ∧ g ≤ N ∧ N ≤ a + 16 ∧ (∃ vq vo, HrdI w.heap.size p o (hq a N) (ho g) vq vo vg (nms 0 g) wr) ∧ Below w.heap.size w wr) (fun _ _ j _ => min ps.length 30 - (intOf j).toNat)
  case atStart => exact ⟨0, 0, 0, 0, Nat.zero_le _, rfl, rfl, by omega, by omega, by omega, by omega, ⟨_, _, HI0.out.1⟩, HI0.out.2⟩
  case round =>
    obtain ⟨k, N, g, a, hk, rfl, rfl, hN, hag, hgN, hNa, ⟨vq, vo, hI⟩, hbw⟩ := hrel
    have hw1 : IntKind.i64.wrap ((k : Int) + 1) = k + 1 := by rw [IntKind.wrap_i64]; omega
    have hwz := hbw.size
    by_cases hlt : k < min ps.length 30
    · have hl1 : k < ps.length := by omega
      have hl2 : k < 30 := by omega
      obtain ⟨c, hc⟩ : ∃ c, ps[k]? = some c := ⟨ps[k], by simp [hl1]⟩
      obtain ⟨b, off, rfl, hb0, _⟩ := HM.out.2 k c hc
      have HI := hide (And.intro hI hbw)
      clear hI hbw
      have hres := hq_resume hag hgN (by omega)
      have HR := hide hres
      clear hres
      go_wp2_with (first
        | (go_at_call 6; refine (handled_any w.heap.size o (ho g) vo wr HI.out.1.ob).mono ?_; rintro e w0 ⟨rfl, hw0⟩; rw [hw0, show (ho g).g = g from rfl]; clear hw0)
        | (go_at_call 5; refine (resume_own w.heap.size p (hq a N) vq g _ HI.out.1.q (hq_ok hNa (by omega)) hwz (by omega) HR.out.2.1).mono ?_; rintro e w3 ⟨r3, v3, rfl, y3, n3, t3⟩; rw [HR.out.2.2] at y3 t3; have s3 := t3.fit; have H3 := hide (And.intro y3 (And.intro n3 t3)); clear y3 n3 t3; refine stopHere ?_))
      unfold Hid
      have hW3 := HrdI.withWay (Y := nms g N) (HI.out.1.qstep H3.out.2.2) (own_less H3.out.1 hwz) wr.heap.size (fun j hj => own_base H3.out.1 j hj) H3.out.2.1 (fun j hj => (HI.out.1.ob.lt hj).2) (fun j hj => own_lt HI.out.1.g j hj)
      have HW3 := hide (And.intro hW3 (HI.out.2.trans H3.out.2.2.2.1.below))
      clear hW3 H3 HI
      have hN7 : N ≤ 7 * k := hN
      go_upto_block 2 with fail
      go_cut [6, 10] (fun n vw wc => ∃ M vq3, n = .int .i64 (M : Nat) ∧ N ≤ M ∧ M ≤ N + 7 ∧ M ≤ g + 16 ∧ HrdW w.heap.size p o (hq g M) (ho g) vq3 vo u5 vw (nms 0 g) (nms g M) wc ∧ Below w.heap.size w wc)
      case first =>
        go_wp2_with fail
        obtain ⟨m1, hm1⟩ : ∃ m1, c.1.toNat % 8 = m1 := ⟨_, rfl⟩
        have hm8 : m1 < 8 := by omega
        have hmi : (c.1.toNat : Int).tmod 8 = m1 := by rw [Int.tmod_eq_emod_of_nonneg (by omega)]; omega
        have hmi2 : (c.1.toNat : Int) % 8 = m1 := by omega
        have hcn : (c.1.toNat : Int) < 256 := by have := c.1.toNat_lt; omega
        have hwc : IntKind.i64.wrap (c.1.toNat : Int) = c.1.toNat := by rw [IntKind.wrap_i64]; omega
        clear hm1
        go_loopw [6, 10, 11] (fun n vw t wy => ∃ (T M : Nat) (vq3 : Value), t = .int .i64 T ∧ T ≤ m1 ∧ n = .int .i64 M ∧ N ≤ M ∧ M ≤ N + T ∧ M ≤ g + 16 ∧ HrdW w.heap.size p o (hq g M) (ho g) vq3 vo u5 vw (nms 0 g) (nms g M) wy ∧ Below w.heap.size w wy) (fun _ _ t _ => m1 - (intOf t).toNat)
        case atStart => exact ⟨0, N, v3, rfl, Nat.zero_le _, rfl, Nat.le_refl _, by omega, by omega, HW3.out.1, HW3.out.2⟩
        case round =>
          obtain ⟨T, M, vq3, rfl, hT, rfl, hNM, hMT, hMg, hY, hby⟩ := hrel
          obtain ⟨_, _, eb, _, cc0, _⟩ := (HM.out.below hby).2 k c hc
          cases eb
          have hyz := hby.size
          have hw2 : IntKind.i64.wrap ((T : Int) + 1) = T + 1 := by rw [IntKind.wrap_i64]; omega
          by_cases hTm : T < m1
          · have hTi : (T : Int) < m1 := by omega
            have hdiv : (M : Int).tdiv 256 = 0 := by rw [Int.tdiv_eq_ediv_of_nonneg (by omega)]; omega
            have hdiv2 : (M : Int) / 256 = 0 := by omega
            have hwM : IntKind.u8.wrap (M : Int) = M := by rw [IntKind.wrap_u8]; omega
            have hw3 : IntKind.i64.wrap ((M : Int) + 1) = M + 1 := by rw [IntKind.wrap_i64]; omega
            have hcv := nm_conv wr M (by omega)
            obtain ⟨Wb, hWb⟩ : ∃ Wb, wr.alloc (.cells #[.int .u8 0, .int .u8 M] 5) = Wb := ⟨_, rfl⟩
            have hBb : Below wr.heap.size wr Wb := by rw [← hWb]; exact (Below.refl _ wr).alloc (Nat.le_refl _) _
            rw [hWb] at hcv
            have HY := hide (And.intro (hY.below hBb) (hby.trans (hBb.mono hyz)))
            have hbz := hBb.size
            clear hY hby hBb
            by_cases hfull : M < g + 16
            · have HQ := hide (hq_send (by omega : g ≤ M) hfull)
              go_wp2_with (first
                | (go_at_call 7; refine (send_any w.heap.size p (hq g M) vq3 (nm M) Wb HY.out.1.q (hq_ok hMg (by omega)) (by omega)).mono ?_; rintro e w5 ⟨rfl, v5, t5⟩; rw [HQ.out.2]; rw [HQ.out.1] at t5; have s5 := t5.fit; have H5 := hide t5; clear t5; refine stopHere ?_))
              unfold Hid
              have hY5 := HY.out.1.qstep H5.out
              obtain ⟨W6, hW6⟩ : ∃ W, w5.alloc (.cells #[.string (nm M)] 9) = W := ⟨_, rfl⟩
              have hB6 : Below w5.heap.size w5 W6 := by rw [← hW6]; exact (Below.refl _ w5).alloc (Nat.le_refl _) _
              have hone := one_lst w5 (nm M) (fun _ => False) (fun x => x)
              rw [hW6] at hone
              obtain ⟨vw7, w7, hap, y1, y2, y4⟩ := append_lst (T := 25) (hY5.below hB6).y hone (by have := hB6.size; omega) (by rw [nms_len]; simp; omega)
              have hf7 := (row_frees hY5.y (by omega) hB6 y2 y4).1
              rw [nms_snoc (by omega : g ≤ M)] at y1
              have hY7 := hY5.way (by omega) hB6 y1 y2 y4
              have HY7 := hide (And.intro hY7 (HY.out.2.trans (H5.out.2.1.below.trans hf7.below)))
              have HA := hide hap
              obtain ⟨M1, hM1⟩ : ∃ M1, M + 1 = M1 := ⟨_, rfl⟩
              have HM1 := hide hM1
              rw [hM1] at HY7
              clear hY5 hB6 hone hap y1 y2 y4 hf7 hY7 hM1
              go_wp2_with (first
                | (at_builtin; refine l_val rfl _ (ex_append (t := 25) rfl rfl rfl HA.out) ?_))
              go_roundw
              case rel => exact ⟨T + 1, M1, v5, by simp, by omega, by rw [← HM1.out]; simp, by have := HM1.out; omega, by have := HM1.out; omega, by have := HM1.out; omega, HY7.out.1, HY7.out.2⟩
              case measure => simp [intOf]; omega
            · have HQ := hide (hq_full hfull (nm M))
              go_wp2_with (first
                | (go_at_call 7; refine (send_any w.heap.size p (hq g M) vq3 (nm M) Wb HY.out.1.q (hq_ok hMg (by omega)) (by omega)).mono ?_; rintro e w5 ⟨rfl, v5, t5⟩; rw [HQ.out.2]; rw [HQ.out.1] at t5; have s5 := t5.fit; have H5 := hide t5; clear t5))
              go_meet
              case rel => exact ⟨M, v5, rfl, hNM, by omega, hMg, HY.out.1.qstep H5.out, HY.out.2.trans H5.out.2.1.below⟩
          · have hTi : ¬ ((T : Int) < m1) := by omega
            have HY := hide (And.intro hY hby)
            clear hY hby
            go_wp2_with fail
            go_meet
            case rel => exact ⟨M, vq3, rfl, hNM, by omega, hMg, HY.out.1, HY.out.2⟩
      case rest =>
        obtain ⟨M, vq3, rfl, hNM, hM7, hMg, hY, hby⟩ := hcut
        obtain ⟨L, hL⟩ : ∃ L, (nms g M).length = L := ⟨_, rfl⟩
        have hLM : L = M - g := by rw [← hL, nms_len]
        have hys := hY.y
        rw [hL] at hys
        obtain ⟨gy, cy, rfl⟩ := own_shape hys
        clear hys
        obtain ⟨m2, hm2⟩ : ∃ m2, c.2.toNat % 12 = m2 := ⟨_, rfl⟩
        have hm12 : m2 < 12 := by omega
        have hmi : (c.2.toNat : Int).tmod 12 = m2 := by rw [Int.tmod_eq_emod_of_nonneg (by omega)]; omega
        have hmi2 : (c.2.toNat : Int) % 12 = m2 := by omega
        have hcn : (c.2.toNat : Int) < 256 := by have := c.2.toNat_lt; omega
        have hwc : IntKind.i64.wrap (c.2.toNat : Int) = c.2.toNat := by rw [IntKind.wrap_i64]; omega
        have HYc := hide (And.intro hY hby)
        have HL := hide hLM
        clear hY hby hL hm2 HW3 hLM
        go_wp2_with fail
        go_loopw [5, 13] (fun vg t wy => ∃ T : Nat, t = .int .i64 T ∧ T ≤ m2 ∧ T ≤ L ∧ (∃ vo4, HrdW w.heap.size p o (hq g M) (ho (g + T)) vq3 vo4 vg (.slice gy L cy) (nms 0 (g + T)) (nms g M) wy) ∧ Below w.heap.size w wy) (fun _ t _ => m2 - (intOf t).toNat)
        case atStart => exact ⟨0, rfl, Nat.zero_le _, Nat.zero_le _, ⟨vo, HYc.out.1⟩, HYc.out.2⟩
        case round =>
          obtain ⟨T, rfl, hT, hTL, ⟨vo4, hY⟩, hby⟩ := hrel
          obtain ⟨_, _, eb, _, _, cc1⟩ := (HM.out.below hby).2 k c hc
          cases eb
          have hyz := hby.size
          have hw2 : IntKind.i64.wrap ((T : Int) + 1) = T + 1 := by rw [IntKind.wrap_i64]; omega
          by_cases hTm : T < m2 ∧ T < L
          · obtain ⟨hTm, hTL2⟩ := hTm
            have hTi : (T : Int) < m2 := by omega
            have hTi2 : (T : Int) < L := by omega
            obtain ⟨s, hs⟩ : ∃ s, nm (g + T) = s := ⟨_, rfl⟩
            obtain ⟨ba, oy, rfl, _, cy0⟩ := own_get hY.y rfl (nms_get (a := g) (b := M) (i := T) (by have := HL.out; omega))
            rw [hs] at cy0
            obtain ⟨W6, hW6⟩ : ∃ W, wr.alloc (.cells #[.string s] 9) = W := ⟨_, rfl⟩
            have hB6 : Below wr.heap.size wr W6 := by rw [← hW6]; exact (Below.refl _ wr).alloc (Nat.le_refl _) _
            have hone := one_lst wr s (fun _ => False) (fun x => x)
            rw [hW6] at hone
            obtain ⟨vg7, w7, hap, y1, y2, y4⟩ := append_lst (T := 25) (hY.below hB6).g hone (by have := hB6.size; omega) (by rw [nms_len]; simp; omega)
            have hf7 := (row_frees hY.g (by omega) hB6 y2 y4).1
            rw [← hs, nms_snoc (by omega : 0 ≤ g + T)] at y1
            have hY7 := hY.got (by omega) hB6 y1 y2 y4
            have s7 := hf7.below.size
            have HY7 := hide (And.intro hY7 (hby.trans hf7.below))
            have HA := hide hap
            have HS := hide hs
            clear hY hby hB6 hone hap y1 y2 y4 hf7 hY7 hs
            go_wp2_with (first
              | (at_builtin; refine l_val rfl _ (ex_append (t := 25) rfl rfl rfl HA.out) ?_)
              | (go_at_call 8; refine (got_any w.heap.size o (ho (g + T)) vo4 w7 HY7.out.1.ob (by omega)).mono ?_; rintro e w8 ⟨rfl, t8⟩; rw [ho_got (by have := HL.out; omega)] at t8; have H8 := hide t8; clear t8))
            go_roundw
            case rel => exact ⟨T + 1, by simp, by omega, by omega, ⟨vo4, HY7.out.1.ostep H8.out⟩, HY7.out.2.trans H8.out.2.1.below⟩
            case measure => simp [intOf]; omega
          · have hcond : (¬ ((T : Int) < m2)) ∨ ((T : Int) < m2 ∧ ¬ ((T : Int) < L)) := by omega
            have HY := hide (And.intro hY hby)
            clear hY hby
            rcases hcond with h2 | ⟨h2, h3⟩
            · go_wp2_with fail
              go_roundw
              case rel => exact ⟨k + 1, M, g + T, g, by omega, by simp, rfl, by omega, by omega, by have := HL.out; omega, by omega, ⟨vq3, vo4, HY.out.1.toHrdI⟩, HY.out.2⟩
              case measure => simp [intOf]; omega
            · go_wp2_with fail
              go_roundw
              case rel => exact ⟨k + 1, M, g + T, g, by omega, by simp, rfl, by omega, by omega, by have := HL.out; omega, by omega, ⟨vq3, vo4, HY.out.1.toHrdI⟩, HY.out.2⟩
              case measure => simp [intOf]; omega
    · have hcond : (¬ ((k : Int) < ps.length)) ∨ ((k : Int) < ps.length ∧ ¬ ((k : Int) < 30)) := by omega
      obtain ⟨L, hL⟩ : ∃ L, (nms 0 g).length = L := ⟨_, rfl⟩
      have hLg : L = g := by rw [← hL, nms_len]; omega
      have hgs := hI.g
      rw [hL] at hgs
      obtain ⟨gg, cg, rfl⟩ := own_shape hgs
      clear hgs
      have hwL : IntKind.u32.wrap (L : Int) = L := by rw [IntKind.wrap_u32]; omega
      have hwN : IntKind.u32.wrap (N : Int) = N := by rw [IntKind.wrap_u32]; omega
      have hse : sentQ (hq a N) = N := by
        unfold sentQ
        show (a + (nms a N).length) % 4294967296 = N
        rw [nms_len]
        omega
      have HI := hide (And.intro hI (And.intro hbw (And.intro hLg hse)))
      have hLN : (L : Int) ≤ N := by omega
      have hL256 : L < 256 := by omega
      clear hI hbw hL hse hLg
      rcases hcond with h2 | ⟨h2, h3⟩
      · go_wp2_with fail
        go_loopw [14] (fun t wy => ∃ T : Nat, t = .int .i64 T ∧ T ≤ L ∧ Below wr.heap.size wr wy) (fun t _ => L - (intOf t).toNat)
        case atStart => exact ⟨0, rfl, Nat.zero_le _, Below.refl _ _⟩
        case round =>
          obtain ⟨T, rfl, hTL, hby⟩ := hrel
          have hw2 : IntKind.i64.wrap ((T : Int) + 1) = T + 1 := by rw [IntKind.wrap_i64]; omega
          by_cases hTm : T < L
          · have hTi : (T : Int) < L := by omega
            obtain ⟨ba, oy, rfl, hba, cy1⟩ := own_get HI.out.1.g rfl (nms_get (a := 0) (b := g) (i := T) (by have := HI.out.2.2.1; omega))
            have cy0 := (hby.cell (p := ⟨ba, _, none⟩) hba).trans cy1
            rw [Nat.zero_add] at cy0
            have hdiv : (T : Int).tdiv 256 = 0 := by rw [Int.tdiv_eq_ediv_of_nonneg (by omega)]; omega
            have hdiv2 : (T : Int) / 256 = 0 := by omega
            have hwM : IntKind.u8.wrap (T : Int) = T := by rw [IntKind.wrap_u8]; omega
            have hcv : (convert 32 9 (.slice (some ⟨wr.heap.size, 0, none⟩) 2 2)).run Try.prog (wr.alloc (.cells #[.int .u8 0, .int .u8 T] 5)).drew = .ok (.string (nm T)) (wr.alloc (.cells #[.int .u8 0, .int .u8 T] 5)).drew := nm_conv2 wr T (by omega)
            obtain ⟨s, hs⟩ : ∃ s, nm T = s := ⟨_, rfl⟩
            rw [hs] at cy0 hcv
            have hba2 : ba < wr.heap.size := Nat.lt_of_lt_of_le hba hby.size
            have zz : (s.toList == s.toList) = true := by simp
            have HB := hide hby
            clear hby cy1 hs
            go_wp2_with fail
            go_region
            all_goals
              go_wp2_with fail
              go_roundw
              case rel => exact ⟨T + 1, by simp, by omega, (HB.out.alloc (by have := HB.out.size; omega) _).drew⟩
              case measure => simp [intOf]; omega
          · have hTi : ¬ ((T : Int) < L) := by omega
            have HB := hide hby
            have hz := hby.size
            clear hby
            have hb2 := HB.out
            go_wp2_with (first
              | (go_at_call 6; refine (handled_any w.heap.size o (ho g) vo wr (HI.out.1.below HB.out).ob).mono ?_; rintro e w0 ⟨rfl, hw0⟩; rw [hw0, show (ho g).g = g from rfl, ← HI.out.2.2.1]; clear hw0)
              | (go_at_call 9; refine (sent_any w.heap.size p (hq a N) vq wr (HI.out.1.below HB.out).q (hq_ok hNa (by omega))).mono ?_; rintro e w5 ⟨rfl, b5⟩; rw [HI.out.2.2.2]; have H5 := hide b5; clear b5))
            go_ret
            exact ⟨rfl, HI.out.2.1.trans ((HB.out.mono hwz).trans (H5.out.mono (by omega)))⟩
      · go_wp2_with fail
        go_loopw [14] (fun t wy => ∃ T : Nat, t = .int .i64 T ∧ T ≤ L ∧ Below wr.heap.size wr wy) (fun t _ => L - (intOf t).toNat)
        case atStart => exact ⟨0, rfl, Nat.zero_le _, Below.refl _ _⟩
        case round =>
          obtain ⟨T, rfl, hTL, hby⟩ := hrel
          have hw2 : IntKind.i64.wrap ((T : Int) + 1) = T + 1 := by rw [IntKind.wrap_i64]; omega
          by_cases hTm : T < L
          · have hTi : (T : Int) < L := by omega
            obtain ⟨ba, oy, rfl, hba, cy1⟩ := own_get HI.out.1.g rfl (nms_get (a := 0) (b := g) (i := T) (by have := HI.out.2.2.1; omega))
            have cy0 := (hby.cell (p := ⟨ba, _, none⟩) hba).trans cy1
            rw [Nat.zero_add] at cy0
            have hdiv : (T : Int).tdiv 256 = 0 := by rw [Int.tdiv_eq_ediv_of_nonneg (by omega)]; omega
            have hdiv2 : (T : Int) / 256 = 0 := by omega
            have hwM : IntKind.u8.wrap (T : Int) = T := by rw [IntKind.wrap_u8]; omega
            have hcv : (convert 32 9 (.slice (some ⟨wr.heap.size, 0, none⟩) 2 2)).run Try.prog (wr.alloc (.cells #[.int .u8 0, .int .u8 T] 5)).drew = .ok (.string (nm T)) (wr.alloc (.cells #[.int .u8 0, .int .u8 T] 5)).drew := nm_conv2 wr T (by omega)
            obtain ⟨s, hs⟩ : ∃ s, nm T = s := ⟨_, rfl⟩
            rw [hs] at cy0 hcv
            have hba2 : ba < wr.heap.size := Nat.lt_of_lt_of_le hba hby.size
            have zz : (s.toList == s.toList) = true := by simp
            have HB := hide hby
            clear hby cy1 hs
            go_wp2_with fail
            go_region
            all_goals
              go_wp2_with fail
              go_roundw
              case rel => exact ⟨T + 1, by simp, by omega, (HB.out.alloc (by have := HB.out.size; omega) _).drew⟩
              case measure => simp [intOf]; omega
          · have hTi : ¬ ((T : Int) < L) := by omega
            have HB := hide hby
            have hz := hby.size
            clear hby
            have hb2 := HB.out
            go_wp2_with (first
              | (go_at_call 6; refine (handled_any w.heap.size o (ho g) vo wr (HI.out.1.below HB.out).ob).mono ?_; rintro e w0 ⟨rfl, hw0⟩; rw [hw0, show (ho g).g = g from rfl, ← HI.out.2.2.1]; clear hw0)
              | (go_at_call 9; refine (sent_any w.heap.size p (hq a N) vq wr (HI.out.1.below HB.out).q (hq_ok hNa (by omega))).mono ?_; rintro e w5 ⟨rfl, b5⟩; rw [HI.out.2.2.2]; have H5 := hide b5; clear b5))
            go_ret
            exact ⟨rfl, HI.out.2.1.trans ((HB.out.mono hwz).trans (H5.out.mono (by omega)))⟩
end Go.Proofs.Ytllpblnbdocfjad
