/- live, same, play. -/
import Derived.Test.YtllpblnbdocfjabA5
namespace Go.Proofs.Ytllpblnbdocfjab
open Go.RowKit

def bA : ByteArray := ⟨#[97]⟩
def bB : ByteArray := ⟨#[98]⟩
def qL2 : Qs := ⟨[bA, bB], 0, 0⟩
def qL3 : Qs := ⟨[bB], 1, 0⟩
theorem live_s1 : sendQ q0 bA = ⟨[bA], 0, 0⟩ := rfl
theorem live_s2 : sendQ ⟨[bA], 0, 0⟩ bB = qL2 := rfl
theorem live_a1 : ackQ qL2 1 = qL3 ∧ ackE qL2 1 = 0 ∧ ackL qL2 1 = [bA] := ⟨rfl, rfl, rfl⟩
theorem live_a2 : ackQ qL3 3 = qL3 ∧ ackE qL3 3 = 2 ∧ ackL qL3 3 = [] := ⟨rfl, rfl, rfl⟩
theorem qL_ok : QOk (⟨[bA], 0, 0⟩ : Qs) ∧ QOk qL2 ∧ QOk qL3 := ⟨⟨by simp, by simp, by simp⟩, ⟨by simp [qL2], by simp [qL2], by simp [qL2]⟩, ⟨by simp [qL3], by simp [qL3], by simp [qL3]⟩⟩
set_option maxRecDepth 100000 in
set_option maxHeartbeats 2000000 in
theorem live_any (w : World) : Calls Try.prog 24 #[] w fun e w' => e = .returned (.bool true) ∧ Below w.heap.size w w' := by
  have H0 := hide (new_any w.heap.size w (Nat.le_refl _))
  go_enter Try.func24, Try.ntmps24
  go_wp2_with (first
    | (go_at_call 26; refine H0.out.mono ?_; rintro e w1 ⟨p, v1, rfl, d1, b1, _⟩; have s1 := b1.size; have H1 := hide (And.intro d1 b1); clear d1 b1)
    | (go_at_call 27; refine (send_any w.heap.size p q0 v1 bA w1 H1.out.1 q0_ok s1).mono ?_; rintro e w2 ⟨rfl, v2, t2⟩; rw [live_s1] at t2; have s2 := t2.fit; have H2 := hide t2; clear t2; refine stopHere ?_))
  unfold Hid
  go_wp2_with (first
    | (go_at_call 27; refine (send_any w.heap.size p ⟨[bA], 0, 0⟩ v2 bB w2 H2.out.1 qL_ok.1 (by omega)).mono ?_; rintro e w3 ⟨rfl, v3, t3⟩; rw [live_s2] at t3; have s3 := t3.fit; have H3 := hide t3; clear t3; refine stopHere ?_))
  unfold Hid
  go_wp2_with (first
    | (go_at_call 28; refine (ack_any w.heap.size p qL2 v3 1 w3 H3.out.1 qL_ok.2.1 (by omega) (by omega)).mono ?_; rintro e w4 ⟨r4, v4, rfl, l4, t4⟩; rw [live_a1.2.1]; rw [live_a1.1] at t4; rw [live_a1.2.2] at l4; have s4 := t4.fit; have H4 := hide (And.intro l4 t4); clear t4 l4; refine stopHere ?_))
  unfold Hid
  go_wp2_with (first
    | (go_at_call 28; refine (ack_any w.heap.size p qL3 v4 3 w4 H4.out.2.1 qL_ok.2.2 (by omega) (by omega)).mono ?_; rintro e w5 ⟨r5, v5, rfl, l5, t5⟩; rw [live_a2.2.1]; rw [live_a2.1] at t5; have s5 := t5.fit; have H5 := hide t5; clear t5 l5; refine stopHere ?_))
  unfold Hid
  have hl5 := H4.out.1.frees H5.out.2.1 (fun j hj => .inl (.inr hj))
  obtain ⟨ao, cap, rfl, hx⟩ := hl5
  obtain ⟨b, off, rfl, _, hb, c0⟩ := hx 0 bA rfl
  rw [Nat.add_zero] at c0
  unfold bA at c0
  clear hx
  have hfin : Below w.heap.size w w5 := H1.out.2.trans ((H2.out.2.1.below.trans (H3.out.2.1.below.trans (H4.out.2.2.1.below.trans H5.out.2.1.below))))
  have HF := hide hfin
  clear hfin
  have e1 : (([bA].length : Int)) = 1 := rfl
  go_wp2_with (first
    | (go_at_call 31; refine (sent_any w.heap.size p qL3 v5 w5 H5.out.1 qL_ok.2.2).mono ?_; rintro e w6 ⟨rfl, b6⟩; rw [show sentQ qL3 = 2 from rfl]; have H6 := hide b6; clear b6))
  go_ret
  exact ⟨rfl, HF.out.trans (H6.out.mono (by omega))⟩

set_option maxRecDepth 100000 in
set_option maxHeartbeats 2000000 in
theorem same_any (base p q : Nat) (Q : Qs) (v u : Value) (w : World) (h : Two base p q Q v u w) (hq : QOk Q) :
    Calls Try.prog 25 #[.pointer (some ⟨p, 0, none⟩), .pointer (some ⟨q, 0, none⟩)] w fun e w' => e = .returned (.bool true) ∧ Below w.heap.size w w' := by
  have HH := hide (And.intro h hq)
  clear h hq
  go_enter Try.func25, Try.ntmps25
  go_wp2_with (first
    | (go_at_call 50; refine (handled_any base p Q v w HH.out.1.dev).mono ?_; rintro e w0 ⟨rfl, rfl⟩)
    | (go_at_call 51; refine (rhandled_any base q Q u _ HH.out.1.ref).mono ?_; rintro e w0 ⟨rfl, rfl⟩)
    | (go_at_call 31; refine (sent_any base p Q v _ HH.out.1.dev HH.out.2).mono ?_; rintro e w1 ⟨rfl, b1⟩; have s1 := b1.size; have H1 := hide b1; clear b1; refine stopHere ?_))
  unfold Hid
  go_wp2_with (first
    | (go_at_call 52; refine (rsent_any base q Q u _ (HH.out.1.below H1.out).ref HH.out.2).mono ?_; rintro e w2 ⟨rfl, b2⟩; have s2 := b2.size; have H2 := hide (H1.out.trans (b2.mono s1)); clear b2; refine stopHere ?_))
  unfold Hid
  go_wp2_with (first
    | (go_at_call 29; refine (waiting_any base p Q v w2 (HH.out.1.below H2.out).dev HH.out.2).mono ?_; rintro e w3 ⟨r3, rfl, y3, b3⟩; have s3 := b3.size; have H3 := hide (And.intro y3 (H2.out.trans (b3.mono (by omega)))); clear y3 b3; refine stopHere ?_))
  unfold Hid
  go_wp2_with (first
    | (go_at_call 53; refine (rwaiting_any base q Q u w3 (HH.out.1.below H3.out.2).ref HH.out.2).mono ?_; rintro e w4 ⟨r4, rfl, y4, b4⟩; have s4 := b4.size; have H4 := hide (And.intro y4 (And.intro b4 (H3.out.2.trans (b4.mono (by omega))))); clear y4 b4; refine stopHere ?_))
  unfold Hid
  go_wp2_with (first
    | (go_at_call 30; refine (rsame_any (fun _ => False) (fun _ => False) r3 r4 Q.l Q.l w4 ((own_lst H3.out.1 (fun _ _ x => x)).below H4.out.2.1) (own_lst H4.out.1 (fun _ _ x => x)) (by have := HH.out.2.few; omega)).mono ?_; rintro e w5 ⟨rfl, b5⟩; have H5 := hide b5; clear b5))
  go_ret
  exact ⟨rfl, H4.out.2.2.trans (H5.out.mono (by omega))⟩

/-- Deeds in memory: four cells each. -/
def DdMem (n₀ : Nat) (w : World) (ao : Option Addr) (ds : List Dd) : Prop :=
  ds.length ≤ 9223372036854775807 ∧ ∀ k x, ds[k]? = some x → x.h < 4294967296 ∧ ∃ b off, ao = some ⟨b, off, none⟩ ∧ b < n₀ ∧ w.cell? ⟨b, off + k * 4, none⟩ = some (.int .i64 x.kind) ∧ w.cell? ⟨b, off + k * 4 + 1, none⟩ = some (.string x.s) ∧ w.cell? ⟨b, off + k * 4 + 2, none⟩ = some (.int .u32 x.h) ∧ w.cell? ⟨b, off + k * 4 + 3, none⟩ = some (.bool x.on)
theorem DdMem.below {n₀ : Nat} {w w' : World} {ao : Option Addr} {ds : List Dd} (h : DdMem n₀ w ao ds) (hb : Below n₀ w w') : DdMem n₀ w' ao ds := by
  refine ⟨h.1, fun k x hk => ?_⟩
  obtain ⟨x1, b, off, e1, e2, c0, c1, c2, c3⟩ := h.2 k x hk
  exact ⟨x1, b, off, e1, e2, (hb.cell (p := ⟨b, _, none⟩) e2).trans c0, (hb.cell (p := ⟨b, _, none⟩) e2).trans c1, (hb.cell (p := ⟨b, _, none⟩) e2).trans c2, (hb.cell (p := ⟨b, _, none⟩) e2).trans c3⟩
def playQ (Q : Qs) (ds : List Dd) (k : Nat) : Qs := (ds.take k).foldl deedOf Q
theorem playQ_succ {Q : Qs} {ds : List Dd} {k : Nat} {x : Dd} (h : ds[k]? = some x) : playQ Q ds (k + 1) = deedOf (playQ Q ds k) x := by
  unfold playQ
  rw [List.take_add_one, h]
  simp
theorem playQ_ok {Q : Qs} {ds : List Dd} (hq : QOk Q) (hd : ∀ (k : Nat) (x : Dd), ds[k]? = some x → x.h < 4294967296) : ∀ k, QOk (playQ Q ds k)
  | 0 => by simpa [playQ] using hq
  | k + 1 => by
    have h1 := playQ_ok hq hd k
    cases hx : ds[k]? with
    | none =>
      have e : playQ Q ds (k + 1) = playQ Q ds k := by
        unfold playQ
        rw [List.take_add_one, hx]
        simp
      rw [e]
      exact h1
    | some x =>
      rw [playQ_succ hx]
      exact deedOf_ok h1 (hd k x hx)
theorem results_three {fn : Func} {tmps : Array Value} {w : World} {a b c : Nat} {x y z : Value} (h : fn.results = #[.tmp a, .tmp b, .tmp c]) (ha : tmps[a]?.getD undef = x) (hb : tmps[b]?.getD undef = y) (hc : tmps[c]?.getD undef = z) : (results fn tmps).run Try.prog w = .ok (.tuple #[x, y, z]) w := by
  simp [results, h, ha, hb, hc]
theorem two_new {base p q : Nat} {v u : Value} {w1 w2 : World} (d1 : IsP base p q0 v w1) (b2 : Below w1.heap.size w1 w2) (d2 : IsR base q q0 u w2) (h2 : ∀ j, foot q u j → w1.heap.size ≤ j) : Two base p q q0 v u w2 :=
  ⟨d1.below b2, d2, fun j hj hk => by have := (d1.lt hj).2; have := h2 j hk; omega⟩
set_option maxRecDepth 100000 in
set_option maxHeartbeats 2000000 in
theorem play_any (ao : Option Addr) (cap : Nat) (ds : List Dd) (w : World) (hm : DdMem w.heap.size w ao ds) :
    Calls Try.prog 23 #[.slice ao ds.length cap] w fun e w' => ∃ p q v u, e = .returned (.tuple #[.pointer (some ⟨p, 0, none⟩), .pointer (some ⟨q, 0, none⟩), .bool true]) ∧ Two w.heap.size p q (playQ q0 ds (min ds.length 80)) v u w' ∧ Below w.heap.size w w' := by
  have hlen := hm.1
  have hdh : ∀ (k : Nat) (x : Dd), ds[k]? = some x → x.h < 4294967296 := fun k x hk => (hm.2 k x hk).1
  have HD := hide hdh
  have HM := hide hm
  clear hm hdh
  have H0 := hide (new_any w.heap.size w (Nat.le_refl _))
  go_enter Try.func23, Try.ntmps23
  go_wp2_with (first
    | (go_at_call 26; refine H0.out.mono ?_; rintro e w1 ⟨p, v1, rfl, d1, b1, _⟩; have s1 := b1.size; have H1 := hide (And.intro d1 b1); clear d1 b1)
    | (go_at_call 48; refine (rnew_any w.heap.size w1 s1).mono ?_; rintro e w2 ⟨q, u2, rfl, d2, b2, n2⟩; have s2 := b2.size; have H3 := hide (And.intro (two_new H1.out.1 b2 d2 n2) (H1.out.2.trans (b2.mono s1))); clear d2 b2 n2; refine stopHere ?_))
  unfold Hid
  go_wp2_with fail
  go_loopw [7] (fun j wr => ∃ k : Nat, k ≤ min ds.length 80 ∧ j = .int .i64 k ∧ (∃ v u, Two w.heap.size p q (playQ q0 ds k) v u wr) ∧ Below w.heap.size w wr) (fun j _ => min ds.length 80 - (intOf j).toNat)
  case atStart => exact ⟨0, Nat.zero_le _, rfl, ⟨_, _, H3.out.1⟩, H3.out.2⟩
  case round =>
    obtain ⟨k, hk, rfl, ⟨v, u, hT⟩, hbw⟩ := hrel
    have hw1 : IntKind.i64.wrap ((k : Int) + 1) = k + 1 := by rw [IntKind.wrap_i64]; omega
    have hok := playQ_ok (ds := ds) q0_ok HD.out k
    by_cases hlt : k < min ds.length 80
    · have hl1 : k < ds.length := by omega
      have hl2 : k < 80 := by omega
      obtain ⟨x, hx⟩ : ∃ x, ds[k]? = some x := ⟨ds[k], by simp [hl1]⟩
      obtain ⟨hxh, b, off, rfl, hb0, c0, c1, c2, c3⟩ := (HM.out.below hbw).2 k x hx
      have hdo := do_any w.heap.size p q (playQ q0 ds k) v u x wr hT hok hbw.size hxh
      unfold ddC at hdo
      have HDo := hide hdo
      have hps := playQ_succ (Q := q0) hx
      have HB := hide hbw
      clear hdo hT hbw
      go_wp2_with (go_at_call 49; refine HDo.out.mono ?_; rintro e w3 ⟨rfl, t3⟩; have T3 := hide t3; clear t3)
      obtain ⟨v', u', t3, f3, _⟩ := T3.out
      go_roundw
      case rel => exact ⟨k + 1, by omega, by simp, ⟨v', u', by rw [hps]; exact t3⟩, HB.out.trans f3.below⟩
      case measure => simp [intOf]; omega
    · have hke : k = min ds.length 80 := by omega
      have HB := hide (And.intro hT hbw)
      clear hT hbw
      by_cases hl1 : k < ds.length
      · have hl2 : ¬ ((k : Int) < 80) := by omega
        go_wp2_with fail
        exact bodyPost_ret (results_three rfl rfl rfl rfl) rfl ⟨p, q, rfl, ⟨v, u, by rw [← hke]; exact HB.out.1⟩, HB.out.2⟩
      · have hl2 : ¬ ((k : Int) < ds.length) := by omega
        go_wp2_with fail
        exact bodyPost_ret (results_three rfl rfl rfl rfl) rfl ⟨p, q, rfl, ⟨v, u, by rw [← hke]; exact HB.out.1⟩, HB.out.2⟩
end Go.Proofs.Ytllpblnbdocfjab
