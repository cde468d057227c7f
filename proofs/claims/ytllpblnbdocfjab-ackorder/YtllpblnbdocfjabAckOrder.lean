/- AckOrder. -/
import Derived.Test.YtllpblnbdocfjabA6
namespace Go.Proofs.Ytllpblnbdocfjab
open Go.RowKit

/-- Texts, and bytes, that were handed in. -/
def TxMem (n₀ : Nat) (w : World) (ao : Option Addr) (l : List ByteArray) : Prop := l.length ≤ 9223372036854775807 ∧ ∀ (j : Nat) (c : ByteArray), l[j]? = some c → ∃ b o, ao = some ⟨b, o, none⟩ ∧ b < n₀ ∧ w.cell? ⟨b, o + j, none⟩ = some (.string c)
def ByMem (n₀ : Nat) (w : World) (ao : Option Addr) (l : List UInt8) : Prop := l.length ≤ 9223372036854775807 ∧ ∀ (j : Nat) (c : UInt8), l[j]? = some c → ∃ b o, ao = some ⟨b, o, none⟩ ∧ b < n₀ ∧ w.cell? ⟨b, o + j, none⟩ = some (.int .u8 c.toNat)
structure OrdI (base p : Nat) (Q : Qs) (v vs vh : Value) (S D : List ByteArray) (w : World) : Prop where
  q : IsP base p Q v w
  s : w.ownsRow base 9 1 vs S.length (strC S)
  h : w.ownsRow base 9 1 vh D.length (strC D)
  d1 : ∀ g, vs.ownBlock = some g → ¬ foot p v g
  d2 : ∀ g, vh.ownBlock = some g → ¬ foot p v g
  d3 : ∀ g, vs.ownBlock = some g → vh.ownBlock ≠ some g
section
variable {base p : Nat} {Q Q' : Qs} {v v' vs vs' vh : Value} {S S' D : List ByteArray} {w w1 W w2 : World}
theorem OrdI.queue (h : OrdI base p Q v vs vh S D w) (t : ToP base p v Q' v' w w1) : OrdI base p Q' v' vs vh S D w1 :=
  ⟨t.1, own_same h.s (fun g e => t.2.1.same g (own_lt h.s g e) (h.d1 g e)), own_same h.h (fun g e => t.2.1.same g (own_lt h.h g e) (h.d2 g e)),
    fun g e hf => by
      rcases t.2.2 g hf with x | x
      · exact h.d1 g e x
      · have := own_lt h.s g e
        omega,
    fun g e hf => by
      rcases t.2.2 g hf with x | x
      · exact h.d2 g e x
      · have := own_lt h.h g e
        omega, h.d3⟩
theorem OrdI.below (h : OrdI base p Q v vs vh S D w) (hb : Below w.heap.size w w1) : OrdI base p Q v vs vh S D w1 :=
  ⟨h.q.below hb, own_same h.s (fun g e => hb.block g (own_lt h.s g e)), own_same h.h (fun g e => hb.block g (own_lt h.h g e)), h.d1, h.d2, h.d3⟩
theorem OrdI.swap (h : OrdI base p Q v vs vh S D w) : OrdI base p Q v vh vs D S w := ⟨h.q, h.h, h.s, h.d2, h.d1, fun g e e' => h.d3 g e' e⟩
theorem OrdI.sent (h : OrdI base p Q v vs vh S D w) (hB : Below w.heap.size w W) (y1 : w2.ownsRow base 9 1 vs' S'.length (strC S')) (y2 : W.grownBy w2 vs.ownBlock) (y4 : vs'.ownBlock = vs.ownBlock ∨ vs'.ownBlock = some W.heap.size) : OrdI base p Q v vs' vh S' D w2 := by
  have hs := hB.size
  have hk : ∀ j, j < w.heap.size → vs.ownBlock ≠ some j → w2.heap[j]? = w.heap[j]? := fun j hj hn => (y2.block j (by omega) (fun e => hn e.symm)).trans (hB.block j hj)
  have hv : ∀ g, vs'.ownBlock = some g → vs.ownBlock = some g ∨ w.heap.size ≤ g := fun g e => by
    rcases y4 with x | x
    · exact .inl (x ▸ e)
    · rw [x] at e
      cases e
      exact .inr hs
  refine ⟨h.q.same (fun j hj => hk j (h.q.lt hj).2 (fun e => h.d1 j e hj)), y1, own_same h.h (fun g e => hk g (own_lt h.h g e) (fun e' => h.d3 g e' e)), fun g e hf => ?_, h.d2, fun g e e' => ?_⟩
  · rcases hv g e with x | x
    · exact h.d1 g x hf
    · have := (h.q.lt hf).2
      omega
  · rcases hv g e with x | x
    · exact h.d3 g x e'
    · have := own_lt h.h g e'
      omega
end
theorem TxMem.below {n₀ : Nat} {w w' : World} {ao : Option Addr} {l : List ByteArray} (h : TxMem n₀ w ao l) (hb : Below n₀ w w') : TxMem n₀ w' ao l := ⟨h.1, fun j c hj => by
  obtain ⟨b, o, e1, e2, c0⟩ := h.2 j c hj
  exact ⟨b, o, e1, e2, (hb.cell (p := ⟨b, _, none⟩) e2).trans c0⟩⟩
theorem ByMem.below {n₀ : Nat} {w w' : World} {ao : Option Addr} {l : List UInt8} (h : ByMem n₀ w ao l) (hb : Below n₀ w w') : ByMem n₀ w' ao l := ⟨h.1, fun j c hj => by
  obtain ⟨b, o, e1, e2, c0⟩ := h.2 j c hj
  exact ⟨b, o, e1, e2, (hb.cell (p := ⟨b, _, none⟩) e2).trans c0⟩⟩
theorem ord_below {base p : Nat} {Q : Qs} {v vs vh : Value} {S D : List ByteArray} {w W w2 : World} (h : OrdI base p Q v vs vh S D w) (hb : base ≤ w.heap.size) (hB : Below w.heap.size w W) (y2 : W.grownBy w2 vs.ownBlock) : Below base w w2 :=
  (hB.mono hb).grown y2 (Nat.le_trans hb hB.size) (fun k e => own_base h.s k e)
/-- How the lists stand to one another. -/
structure Ord (k : Nat) (Q : Qs) (S D : List ByteArray) : Prop where
  all : S = D ++ Q.l
  a : Q.a = D.length
  g : Q.g = 0
  few : Q.l.length ≤ 16
  len : S.length ≤ k
theorem Ord.ok {k : Nat} {Q : Qs} {S D : List ByteArray} (h : Ord k Q S D) (hk : k ≤ 100) : QOk Q := by
  have h1 := h.len
  have h2 := congrArg List.length h.all
  rw [List.length_append] at h2
  exact ⟨h.few, by have := h.a; omega, by have := h.g; omega⟩
theorem Ord.dlen {k : Nat} {Q : Qs} {S D : List ByteArray} (h : Ord k Q S D) : D.length ≤ S.length := by
  have h2 := congrArg List.length h.all
  rw [List.length_append] at h2
  omega
theorem Ord.more {k : Nat} {Q : Qs} {S D : List ByteArray} (h : Ord k Q S D) : Ord (k + 1) Q S D := ⟨h.all, h.a, h.g, h.few, by have := h.len; omega⟩
theorem Ord.send {k : Nat} {Q : Qs} {S D : List ByteArray} (h : Ord k Q S D) (s : ByteArray) (hl : ¬ 16 ≤ Q.l.length) : Ord (k + 1) (sendQ Q s) (S ++ [s]) D := by
  unfold sendQ
  rw [if_neg hl]
  exact ⟨by simp [h.all], h.a, h.g, by simp; omega, by have := h.len; simp; omega⟩
theorem Ord.since {k : Nat} {Q : Qs} {S D : List ByteArray} (h : Ord k Q S D) (_hk : k ≤ 100) {n : Nat} (hn : n < 20) : sinceQ Q (D.length + n) = n := by
  have := h.dlen
  have := h.len
  unfold sinceQ
  rw [h.a]
  omega
theorem Ord.ack {k : Nat} {Q : Qs} {S D : List ByteArray} (h : Ord k Q S D) (hk : k ≤ 100) {n : Nat} (hn : n < 20) (hle : n ≤ Q.l.length) : Ord k (ackQ Q (D.length + n)) S (D ++ ackL Q (D.length + n)) ∧ (ackL Q (D.length + n)).length = n ∧ ackE Q (D.length + n) = 0 := by
  unfold ackQ ackL ackE
  rw [h.since hk hn, if_pos hle, if_pos hle, if_pos hle]
  have hnl : (Q.l.take n).length = n := by simp; omega
  refine ⟨⟨?_, ?_, h.g, ?_, h.len⟩, hnl, rfl⟩
  · show S = (D ++ Q.l.take n) ++ Q.l.drop n
    rw [List.append_assoc, List.take_append_drop]
    exact h.all
  · show D.length + n = (D ++ Q.l.take n).length
    rw [List.length_append, hnl]
  · show (Q.l.drop n).length ≤ 16
    have := h.few
    simp
    omega
theorem Ord.noack {k : Nat} {Q : Qs} {S D : List ByteArray} (h : Ord k Q S D) (hk : k ≤ 100) {n : Nat} (hn : n < 20) (hle : ¬ n ≤ Q.l.length) : ackQ Q (D.length + n) = Q ∧ ackL Q (D.length + n) = [] ∧ ackE Q (D.length + n) = 2 := by
  unfold ackQ ackL ackE
  rw [h.since hk hn, if_neg hle, if_neg hle, if_neg hle]
  exact ⟨rfl, rfl, rfl⟩
set_option maxRecDepth 100000 in
set_option maxHeartbeats 8000000 in
theorem ackOrder_any (ao : Option Addr) (cap : Nat) (ts : List ByteArray) (bo : Option Addr) (bc : Nat) (ns : List UInt8) (w : World) (hT : TxMem w.heap.size w ao ts) (hA : ByMem w.heap.size w bo ns) :
    Calls Try.prog 7 #[.slice ao ts.length cap, .slice bo ns.length bc] w fun e w' => e = .returned (.bool true) ∧ Below w.heap.size w w' := by
  have H0 := hide (new_any w.heap.size w (Nat.le_refl _))
  have hlen1 := hT.1
  have hlen2 := hA.1
  have HM := hide (And.intro hT hA)
  clear hT hA
  go_enter Try.func7, Try.ntmps7
  go_wp2_with (first
    | (go_at_call 26; refine H0.out.mono ?_; rintro e w1 ⟨p, v1, rfl, d1, b1, _⟩; have s1 := b1.size; have H1 := hide (And.intro d1 b1); clear d1 b1))
  go_loopw [6, 7, 8, 9] (fun vs vh ac j wr => ∃ k : Nat, k ≤ min ts.length 60 ∧ j = .int .i64 k ∧ (∃ Q v S D, ac = .int .u32 (D.length : Nat) ∧ OrdI w.heap.size p Q v vs vh S D wr ∧ Ord k Q S D) ∧ Below w.heap.size w wr) (fun _ _ _ j _ => min ts.length 60 - (intOf j).toNat)
  case atStart => exact ⟨0, Nat.zero_le _, rfl, ⟨q0, v1, [], [], rfl, ⟨H1.out.1, World.ownsRow_nil _ _ _ _, World.ownsRow_nil _ _ _ _, fun g e => (by cases e), fun g e => (by cases e), fun g e => (by cases e)⟩, ⟨rfl, rfl, rfl, by simp [q0], by simp⟩⟩, H1.out.2⟩
  case round =>
    obtain ⟨k, hk, rfl, ⟨Q, v, S, D, rfl, hO, hR⟩, hbw⟩ := hrel
    have hk60 : k ≤ 60 := by omega
    have hw1 : IntKind.i64.wrap ((k : Int) + 1) = k + 1 := by rw [IntKind.wrap_i64]; omega
    have hwz := hbw.size
    have hok := hR.ok (by omega)
    by_cases hlt : k < min ts.length 60
    · have hl1 : k < ts.length := by omega
      have hl2 : k < 60 := by omega
      obtain ⟨s, hs⟩ : ∃ s, ts[k]? = some s := ⟨ts[k], by simp [hl1]⟩
      obtain ⟨b, off, rfl, hb0, c0⟩ := (HM.out.1.below hbw).2 k s hs
      have HI := hide (And.intro hO (And.intro hR (And.intro hbw hok)))
      clear hO hR hbw hok
      go_wp2_with (first
        | (go_at_call 27; refine (send_any w.heap.size p Q v s wr HI.out.1.q HI.out.2.2.2 hwz).mono ?_; rintro e w2 ⟨rfl, v2, t2⟩; have s2 := t2.fit; have H2 := hide t2; clear t2; refine stopHere ?_))
      unfold Hid
      have c2 : w2.cell? ⟨b, off + k, none⟩ = some (.string s) := (H2.out.2.1.below.cell (p := ⟨b, _, none⟩) hb0).trans c0
      by_cases h16 : 16 ≤ Q.l.length
      · have e0 : sendE Q = 4 := by unfold sendE; rw [if_pos h16]
        have e1 : sendQ Q s = Q := by unfold sendQ; rw [if_pos h16]
        rw [e0]
        rw [e1] at H2
        have hO2 := HI.out.1.queue H2.out
        have hR2 := HI.out.2.1.more
        have hbw2 := HI.out.2.2.1.trans H2.out.2.1.below
        obtain ⟨m, hm⟩ : ∃ m, S.length = m := ⟨_, rfl⟩
        clear e0 e1
        have hzc := hbw2.size
        have hDl := hR2.dlen
        have hSl := hR2.len
        have hok2 := hR2.ok (by omega)
        by_cases hkn : k < ns.length
        · obtain ⟨c, hc⟩ : ∃ c, ns[k]? = some c := ⟨ns[k], by simp [hkn]⟩
          obtain ⟨b', off', rfl, hb0', c3⟩ := (HM.out.2.below hbw2).2 k c hc
          obtain ⟨n, hn⟩ : ∃ n, c.toNat % 20 = n := ⟨_, rfl⟩
          have hn20 : n < 20 := by omega
          have hni : (c.toNat : Int).tmod 20 = n := by rw [Int.tmod_eq_emod_of_nonneg (by omega)]; omega
          have hni2 : (c.toNat : Int) % 20 = n := by omega
          have hwn : IntKind.u32.wrap (n : Int) = n := by rw [IntKind.wrap_u32]; omega
          have hadd : ((D.length : Int) + n) % 4294967296 = ((D.length + n : Nat) : Int) := by omega
          have hcn : (c.toNat : Int) < 256 := by have := c.toNat_lt; omega
          obtain ⟨h, hh⟩ : ∃ h, D.length + n = h := ⟨_, rfl⟩
          have hh32 : h < 4294967296 := by omega
          have hDn : ((D.length : Int) + n) = h := by omega
          rw [hh] at hadd
          have HS := hide (And.intro hO2 (And.intro hR2 (And.intro hbw2 hok2)))
          have HD := hide (And.intro hm hn)
          by_cases hle : n ≤ Q.l.length
          · have hq := hR2.ack (by omega) hn20 hle
            rw [hh] at hq
            have HQ := hide hq
            have HH := hide hh
            have HDn := hide hDn
            clear hO2 hR2 hbw2 hok2 hq hm hn hh hDn hadd
            go_wp2_with (first
              | (go_at_call 28; rw [HDn.out]; refine (ack_any w.heap.size p Q v2 h w2 HS.out.1.q HS.out.2.2.2 (by omega) hh32).mono ?_; rintro e w4 ⟨r4, v4, rfl, l4, t4⟩; rw [HQ.out.2.2]; have s4 := t4.fit; have H4 := hide (And.intro l4 t4); clear l4 t4; refine stopHere ?_))
            unfold Hid
            have hO4 := HS.out.1.queue H4.out.2
            obtain ⟨v5, w5, hap, y1, y2, y4⟩ := append_lst (T := 59) hO4.h H4.out.1 (by omega) (by rw [HQ.out.2.1]; omega)
            have hO5 := (hO4.swap.sent (Below.refl _ _) y1 y2 y4).swap
            have hb5 := HS.out.2.2.1.trans (H4.out.2.2.1.below.trans (ord_below hO4.swap (by omega) (Below.refl _ _) y2))
            obtain ⟨ga4, gc4, er4⟩ := lst_shape H4.out.1
            rw [HQ.out.2.1] at er4
            have HA := hide hap
            have H5 := hide (And.intro hO5 hb5)
            clear hap y1 y2 y4 hO4 hO5 hb5
            rw [er4] at HA
            subst er4
            go_wp2_with (first
              | (at_builtin; refine l_val rfl _ (ex_append (t := 59) rfl rfl rfl HA.out) ?_))
            go_roundw
            case rel => exact ⟨k + 1, by omega, by simp, ⟨_, _, _, D ++ ackL Q h, by rw [List.length_append, HQ.out.2.1, HH.out]; first | rfl | simp [HDn.out], H5.out.1, HQ.out.1⟩, H5.out.2⟩
            case measure => simp [intOf]; omega
          · have hq := hR2.noack (by omega) hn20 hle
            rw [hh] at hq
            have HQ := hide hq
            have HDn := hide hDn
            obtain ⟨m3, hm3⟩ : ∃ m3, Q.l.length = m3 := ⟨_, rfl⟩
            have hfq := hR2.few
            rw [hm3] at hfq hle
            have hwm : IntKind.u32.wrap (m3 : Int) = m3 := by rw [IntKind.wrap_u32]; omega
            have hlei : ¬ ((n : Int) ≤ m3) := by omega
            have HM3 := hide hm3
            clear hO2 hR2 hbw2 hok2 hq hm hn hh hDn hadd hm3
            go_wp2_with (first
              | (go_at_call 28; rw [HDn.out]; refine (ack_any w.heap.size p Q v2 h w2 HS.out.1.q HS.out.2.2.2 (by omega) hh32).mono ?_; rintro e w4 ⟨r4, v4, rfl, l4, t4⟩; rw [HQ.out.2.2]; rw [HQ.out.1] at t4; rw [HQ.out.2.1] at l4; obtain ⟨g4, k4, rfl⟩ := lst_shape l4; have s4 := t4.fit; have H4 := hide t4; clear l4 t4; refine stopHere ?_))
            unfold Hid
            have hO4 := HS.out.1.queue H4.out
            have hb4 := HS.out.2.2.1.trans H4.out.2.1.below
            have H5 := hide (And.intro hO4 hb4)
            clear hO4 hb4
            go_wp2_with (first
              | (go_at_call 29; refine (waiting_any w.heap.size p Q v4 w4 H5.out.1.q HS.out.2.2.2).mono ?_; rintro e w5 ⟨r5, rfl, y5, b5⟩; rw [HM3.out] at y5; obtain ⟨g5, k5, rfl⟩ := own_shape y5; have H6 := hide b5; clear y5 b5))
            go_roundw
            case rel => exact ⟨k + 1, by omega, by simp, ⟨_, _, _, D, rfl, H5.out.1.below H6.out, HS.out.2.1⟩, H5.out.2.trans (H6.out.mono (by omega))⟩
            case measure => simp [intOf]; omega
        · have hkn' : ¬ ((k : Int) < ns.length) := by omega
          have HS := hide (And.intro hO2 (And.intro hR2 hbw2))
          clear hO2 hR2 hbw2 hok2 hm
          go_wp2_with fail
          go_roundw
          case rel => exact ⟨k + 1, by omega, by simp, ⟨_, _, _, D, rfl, HS.out.1, HS.out.2.1⟩, HS.out.2.2⟩
          case measure => simp [intOf]; omega
      · have e0 : sendE Q = 0 := by unfold sendE; rw [if_neg h16]
        rw [e0]
        clear e0
        obtain ⟨W, hW⟩ : ∃ W, w2.alloc (.cells #[.string s] 9) = W := ⟨_, rfl⟩
        have hB : Below w2.heap.size w2 W := by rw [← hW]; exact (Below.refl _ w2).alloc (Nat.le_refl _) _
        have hone := one_lst w2 s (fun _ => False) (fun x => x)
        rw [hW] at hone
        have hO1 := HI.out.1.queue H2.out
        have hSl := HI.out.2.1.len
        obtain ⟨vs3, w3, hap, y1, y2, y4⟩ := append_lst (T := 59) (hO1.below hB).s hone (Nat.le_trans hwz (Nat.le_trans s2 hB.size)) (by simp; omega)
        have hO2 := hO1.sent hB y1 y2 y4
        have hR2 := HI.out.2.1.send s h16
        have hbw2 := HI.out.2.2.1.trans (H2.out.2.1.below.trans (ord_below hO1 (by omega) hB y2))
        have HA := hide hap
        obtain ⟨m, hm⟩ : ∃ m, (S ++ [s]).length = m := ⟨_, rfl⟩
        rw [hm] at y1
        obtain ⟨ga3, gc3, rfl⟩ := own_shape y1
        clear hap y1 y2 y4 hO1 hone hB hSl
        have HS2 := hide (And.intro hO2 (And.intro hR2 hbw2))
        clear hO2 hR2 hbw2
        go_wp2_with (at_builtin; refine l_val rfl _ (ex_append (t := 59) rfl rfl rfl HA.out) ?_; refine stopHere ?_)
        unfold Hid
        obtain ⟨hO2, hR2, hbw2⟩ := HS2.out
        have hzc := hbw2.size
        have hDl := hR2.dlen
        have hSl := hR2.len
        have hok2 := hR2.ok (by omega)
        by_cases hkn : k < ns.length
        · obtain ⟨c, hc⟩ : ∃ c, ns[k]? = some c := ⟨ns[k], by simp [hkn]⟩
          obtain ⟨b', off', rfl, hb0', c3⟩ := (HM.out.2.below hbw2).2 k c hc
          obtain ⟨n, hn⟩ : ∃ n, c.toNat % 20 = n := ⟨_, rfl⟩
          have hn20 : n < 20 := by omega
          have hni : (c.toNat : Int).tmod 20 = n := by rw [Int.tmod_eq_emod_of_nonneg (by omega)]; omega
          have hni2 : (c.toNat : Int) % 20 = n := by omega
          have hwn : IntKind.u32.wrap (n : Int) = n := by rw [IntKind.wrap_u32]; omega
          have hadd : ((D.length : Int) + n) % 4294967296 = ((D.length + n : Nat) : Int) := by omega
          have hcn : (c.toNat : Int) < 256 := by have := c.toNat_lt; omega
          obtain ⟨h, hh⟩ : ∃ h, D.length + n = h := ⟨_, rfl⟩
          have hh32 : h < 4294967296 := by omega
          have hDn : ((D.length : Int) + n) = h := by omega
          rw [hh] at hadd
          have HS := hide (And.intro hO2 (And.intro hR2 (And.intro hbw2 hok2)))
          have HD := hide (And.intro hm hn)
          by_cases hle : n ≤ (sendQ Q s).l.length
          · have hq := hR2.ack (by omega) hn20 hle
            rw [hh] at hq
            have HQ := hide hq
            have HH := hide hh
            have HDn := hide hDn
            clear hO2 hR2 hbw2 hok2 hq hm hn hh hDn hadd
            go_wp2_with (first
              | (go_at_call 28; rw [HDn.out]; refine (ack_any w.heap.size p (sendQ Q s) v2 h w3 HS.out.1.q HS.out.2.2.2 (by omega) hh32).mono ?_; rintro e w4 ⟨r4, v4, rfl, l4, t4⟩; rw [HQ.out.2.2]; have s4 := t4.fit; have H4 := hide (And.intro l4 t4); clear l4 t4; refine stopHere ?_))
            unfold Hid
            have hO4 := HS.out.1.queue H4.out.2
            obtain ⟨v5, w5, hap, y1, y2, y4⟩ := append_lst (T := 59) hO4.h H4.out.1 (by omega) (by rw [HQ.out.2.1]; omega)
            have hO5 := (hO4.swap.sent (Below.refl _ _) y1 y2 y4).swap
            have hb5 := HS.out.2.2.1.trans (H4.out.2.2.1.below.trans (ord_below hO4.swap (by omega) (Below.refl _ _) y2))
            obtain ⟨ga4, gc4, er4⟩ := lst_shape H4.out.1
            rw [HQ.out.2.1] at er4
            have HA := hide hap
            have H5 := hide (And.intro hO5 hb5)
            clear hap y1 y2 y4 hO4 hO5 hb5
            rw [er4] at HA
            subst er4
            go_wp2_with (first
              | (at_builtin; refine l_val rfl _ (ex_append (t := 59) rfl rfl rfl HA.out) ?_))
            go_roundw
            case rel => exact ⟨k + 1, by omega, by simp, ⟨_, _, _, D ++ ackL (sendQ Q s) h, by rw [List.length_append, HQ.out.2.1, HH.out]; first | rfl | simp [HDn.out], H5.out.1, HQ.out.1⟩, H5.out.2⟩
            case measure => simp [intOf]; omega
          · have hq := hR2.noack (by omega) hn20 hle
            rw [hh] at hq
            have HQ := hide hq
            have HDn := hide hDn
            obtain ⟨m3, hm3⟩ : ∃ m3, (sendQ Q s).l.length = m3 := ⟨_, rfl⟩
            have hfq := hR2.few
            rw [hm3] at hfq hle
            have hwm : IntKind.u32.wrap (m3 : Int) = m3 := by rw [IntKind.wrap_u32]; omega
            have hlei : ¬ ((n : Int) ≤ m3) := by omega
            have HM3 := hide hm3
            clear hO2 hR2 hbw2 hok2 hq hm hn hh hDn hadd hm3
            go_wp2_with (first
              | (go_at_call 28; rw [HDn.out]; refine (ack_any w.heap.size p (sendQ Q s) v2 h w3 HS.out.1.q HS.out.2.2.2 (by omega) hh32).mono ?_; rintro e w4 ⟨r4, v4, rfl, l4, t4⟩; rw [HQ.out.2.2]; rw [HQ.out.1] at t4; rw [HQ.out.2.1] at l4; obtain ⟨g4, k4, rfl⟩ := lst_shape l4; have s4 := t4.fit; have H4 := hide t4; clear l4 t4; refine stopHere ?_))
            unfold Hid
            have hO4 := HS.out.1.queue H4.out
            have hb4 := HS.out.2.2.1.trans H4.out.2.1.below
            have H5 := hide (And.intro hO4 hb4)
            clear hO4 hb4
            go_wp2_with (first
              | (go_at_call 29; refine (waiting_any w.heap.size p (sendQ Q s) v4 w4 H5.out.1.q HS.out.2.2.2).mono ?_; rintro e w5 ⟨r5, rfl, y5, b5⟩; rw [HM3.out] at y5; obtain ⟨g5, k5, rfl⟩ := own_shape y5; have H6 := hide b5; clear y5 b5))
            go_roundw
            case rel => exact ⟨k + 1, by omega, by simp, ⟨_, _, _, D, rfl, H5.out.1.below H6.out, HS.out.2.1⟩, H5.out.2.trans (H6.out.mono (by omega))⟩
            case measure => simp [intOf]; omega
        · have hkn' : ¬ ((k : Int) < ns.length) := by omega
          have HS := hide (And.intro hO2 (And.intro hR2 hbw2))
          clear hO2 hR2 hbw2 hok2 hm
          go_wp2_with fail
          go_roundw
          case rel => exact ⟨k + 1, by omega, by simp, ⟨_, _, _, D, rfl, HS.out.1, HS.out.2.1⟩, HS.out.2.2⟩
          case measure => simp [intOf]; omega
    · have hke : k = min ts.length 60 := by omega
      have hcond : (¬ ((k : Int) < ts.length)) ∨ ((k : Int) < ts.length ∧ ¬ ((k : Int) < 60)) := by omega
      have HI := hide (And.intro hO (And.intro hR (And.intro hbw hok)))
      have hSl := hR.len
      have hDl := hR.dlen
      have hfew := hR.few
      have hwS : IntKind.u32.wrap (S.length : Int) = S.length := by rw [IntKind.wrap_u32]; omega
      have hse : sentQ Q = S.length := by
        unfold sentQ
        rw [hR.a, hR.all, List.length_append]
        have h2 := congrArg List.length hR.all
        rw [List.length_append] at h2
        omega
      have HE := hide hse
      obtain ⟨ga4, gc4, rfl⟩ := own_shape hO.s
      clear hO hR hbw hok hse
      rcases hcond with h2 | ⟨h2, h3⟩
      · go_wp2_with (first
          | (go_at_call 29; refine (waiting_any w.heap.size p Q v wr HI.out.1.q HI.out.2.2.2).mono ?_; rintro e w2 ⟨r2, rfl, y2, b2⟩; have s2 := b2.size; have H2 := hide (And.intro y2 b2); clear y2 b2; refine stopHere ?_))
        unfold Hid
        have hO2 := HI.out.1.below H2.out.2
        obtain ⟨v5, w5, hap, y1, y2, y4⟩ := append_lst (T := 59) hO2.h (own_lst (M := fun _ => False) H2.out.1 (fun _ _ x => x)) (by omega) (by omega)
        have hO5 := (hO2.swap.sent (Below.refl _ _) y1 y2 y4).swap
        have hb5 := HI.out.2.2.1.trans ((H2.out.2.mono hwz).trans (ord_below hO2.swap (by omega) (Below.refl _ _) y2))
        have HA := hide hap
        have H5 := hide (And.intro hO5 hb5)
        have s5 := y2.size
        rw [← HI.out.2.1.all] at H5
        clear hap y1 y2 y4 hO2 hO5 hb5
        go_wp2_with (first
          | (at_builtin; refine l_val rfl _ (ex_append (t := 59) rfl rfl rfl HA.out) ?_)
          | (go_at_call 24; refine (live_any w5).mono ?_; rintro e w6 ⟨rfl, b6⟩; have s6 := b6.size; have H6 := hide b6; clear b6; refine stopHere ?_))
        unfold Hid
        go_wp2_with (first
          | (go_at_call 30; refine (rsame_any (fun _ => False) (fun _ => False) _ v5 S S w6 ((own_lst H5.out.1.s (fun _ _ x => x)).below H6.out) ((own_lst H5.out.1.h (fun _ _ x => x)).below H6.out) (by omega)).mono ?_; rintro e w7 ⟨rfl, b7⟩; have s7 := b7.size; have H7 := hide (H6.out.trans (b7.mono (by omega))); clear b7; refine stopHere ?_))
        unfold Hid
        go_wp2_with (first
          | (go_at_call 31; refine (sent_any w.heap.size p Q v w7 (H5.out.1.q.below H7.out) HI.out.2.2.2).mono ?_; rintro e w8 ⟨rfl, b8⟩; rw [HE.out]; have H8 := hide b8; clear b8))
        go_ret
        exact ⟨rfl, H5.out.2.trans ((H7.out.mono (by omega)).trans (H8.out.mono (by omega)))⟩
      · go_wp2_with (first
          | (go_at_call 29; refine (waiting_any w.heap.size p Q v wr HI.out.1.q HI.out.2.2.2).mono ?_; rintro e w2 ⟨r2, rfl, y2, b2⟩; have s2 := b2.size; have H2 := hide (And.intro y2 b2); clear y2 b2; refine stopHere ?_))
        unfold Hid
        have hO2 := HI.out.1.below H2.out.2
        obtain ⟨v5, w5, hap, y1, y2, y4⟩ := append_lst (T := 59) hO2.h (own_lst (M := fun _ => False) H2.out.1 (fun _ _ x => x)) (by omega) (by omega)
        have hO5 := (hO2.swap.sent (Below.refl _ _) y1 y2 y4).swap
        have hb5 := HI.out.2.2.1.trans ((H2.out.2.mono hwz).trans (ord_below hO2.swap (by omega) (Below.refl _ _) y2))
        have HA := hide hap
        have H5 := hide (And.intro hO5 hb5)
        have s5 := y2.size
        rw [← HI.out.2.1.all] at H5
        clear hap y1 y2 y4 hO2 hO5 hb5
        go_wp2_with (first
          | (at_builtin; refine l_val rfl _ (ex_append (t := 59) rfl rfl rfl HA.out) ?_)
          | (go_at_call 24; refine (live_any w5).mono ?_; rintro e w6 ⟨rfl, b6⟩; have s6 := b6.size; have H6 := hide b6; clear b6; refine stopHere ?_))
        unfold Hid
        go_wp2_with (first
          | (go_at_call 30; refine (rsame_any (fun _ => False) (fun _ => False) _ v5 S S w6 ((own_lst H5.out.1.s (fun _ _ x => x)).below H6.out) ((own_lst H5.out.1.h (fun _ _ x => x)).below H6.out) (by omega)).mono ?_; rintro e w7 ⟨rfl, b7⟩; have s7 := b7.size; have H7 := hide (H6.out.trans (b7.mono (by omega))); clear b7; refine stopHere ?_))
        unfold Hid
        go_wp2_with (first
          | (go_at_call 31; refine (sent_any w.heap.size p Q v w7 (H5.out.1.q.below H7.out) HI.out.2.2.2).mono ?_; rintro e w8 ⟨rfl, b8⟩; rw [HE.out]; have H8 := hide b8; clear b8))
        go_ret
        exact ⟨rfl, H5.out.2.trans ((H7.out.mono (by omega)).trans (H8.out.mono (by omega)))⟩
end Go.Proofs.Ytllpblnbdocfjab
