/- KvFull. -/
import Derived.Test.YtllpblnbdocfjaaK9
namespace Go.Proofs.Ytllpblnbdocfjaa
open Go.RowKit

def fkey (n : Nat) : ByteArray := ⟨#[UInt8.ofNat n, 120]⟩
def fv : ByteArray := ⟨#[118]⟩
def fullL : Nat → List Pr
  | 0 => []
  | n + 1 => putM (fullL n) (fkey n) fv
theorem fkey_inj {i j : Nat} (hi : i < 256) (hj : j < 256) (h : fkey i = fkey j) : i = j := by
  have h0 : (fkey i).data[0]? = (fkey j).data[0]? := by rw [h]
  simp [fkey] at h0
  have h1 : (UInt8.ofNat i).toNat = (UInt8.ofNat j).toNat := by rw [h0]
  simp at h1
  omega
theorem mem_full : ∀ {n : Nat}, n ≤ 128 → ∀ x, x ∈ fullL n ↔ ∃ i, i < n ∧ x = (fkey i, fv)
  | 0, _, x => by simp [fullL]
  | n + 1, hn, x => by
    show x ∈ putM (fullL n) (fkey n) fv ↔ _
    rw [mem_putM, mem_full (by omega)]
    constructor
    · rintro (rfl | ⟨⟨i, hi, rfl⟩, _⟩)
      · exact ⟨n, by omega, rfl⟩
      · exact ⟨i, by omega, rfl⟩
    · rintro ⟨i, hi, rfl⟩
      by_cases e : i = n
      · subst e
        exact .inl rfl
      · exact .inr ⟨⟨i, by omega, rfl⟩, fun h => e (fkey_inj (by omega) (by omega) h)⟩
theorem full_rising : ∀ n, Rising (fullL n)
  | 0 => List.Pairwise.nil
  | n + 1 => putM_rising (full_rising n) _ _
theorem full_none {n : Nat} (hn : n ≤ 128) {k : ByteArray} (h : ∀ i, i < n → k ≠ fkey i) : getM (fullL n) k = none := by
  cases hg : getM (fullL n) k with
  | none => rfl
  | some v =>
    obtain ⟨i, hi, e⟩ := (mem_full hn _).1 (getM_some hg)
    exact absurd (Prod.mk.inj e).1 (h i hi)
theorem full_next {n : Nat} (hn : n < 128) : getM (fullL n) (fkey n) = none := full_none (by omega) fun i hi h => by
  have := fkey_inj (by omega) (by omega) h
  omega
theorem full_len : ∀ {n : Nat}, n ≤ 128 → (fullL n).length = n
  | 0, _ => rfl
  | n + 1, hn => by
    show (putM (fullL n) (fkey n) fv).length = _
    rw [putM_len (full_rising n), if_pos (full_next (by omega)), full_len (by omega)]
theorem full_put {n : Nat} (hn : n < 128) : putE (fullL n) (fkey n) fv = 0 ∧ putL (fullL n) (fkey n) fv = fullL (n + 1) := by
  have hb : ¬ badKV (fkey n) fv := by
    have h1 : (fkey n).size = 2 := rfl
    have h2 : fv.size = 1 := rfl
    unfold badKV
    omega
  have e : putE (fullL n) (fkey n) fv = 0 := by
    unfold putE
    rw [if_neg hb, if_neg (by rw [full_len (by omega)]; omega)]
  exact ⟨e, by unfold putL; rw [if_pos e]; rfl⟩
/-- What is put into a full map. -/
theorem full_bad {k v : ByteArray} (h : badKV k v) : putE (fullL 128) k v = 2 ∧ (putL (fullL 128) k v).length = 128 := by
  have e : putE (fullL 128) k v = 2 := by unfold putE; rw [if_pos h]
  refine ⟨e, ?_⟩
  unfold putL
  rw [e, if_neg (by omega), full_len (by omega)]
theorem full_there {n : Nat} (hn : n < 128) {v : ByteArray} (h : ¬ badKV (fkey n) v) : putE (fullL 128) (fkey n) v = 0 ∧ (putL (fullL 128) (fkey n) v).length = 128 := by
  have hg : getM (fullL 128) (fkey n) = some fv := getM_mem (full_rising _) ((mem_full (by omega) _).2 ⟨n, hn, rfl⟩)
  have e : putE (fullL 128) (fkey n) v = 0 := by unfold putE; rw [if_neg h, if_neg (by rw [hg]; simp)]
  refine ⟨e, ?_⟩
  unfold putL
  rw [if_pos e, putM_len (full_rising _), if_neg (by rw [hg]; simp), full_len (by omega)]
theorem full_other {k v : ByteArray} (h : ¬ badKV k v) (hk : ∀ i, i < 128 → k ≠ fkey i) : putE (fullL 128) k v = 4 ∧ (putL (fullL 128) k v).length = 128 := by
  have e : putE (fullL 128) k v = 4 := by unfold putE; rw [if_neg h, if_pos ⟨full_none (by omega) hk, by rw [full_len (by omega)]; omega⟩]
  refine ⟨e, ?_⟩
  unfold putL
  rw [e, if_neg (by omega), full_len (by omega)]
/-- A key is one of those, or is none of them: as the bytes say. -/
inductive KCase (k : ByteArray) : Prop
  | size (h : k.size ≠ 2) (hk : ∀ i, i < 128 → k ≠ fkey i)
  | last (a b : UInt8) (e : k = ⟨#[a, b]⟩) (h : b.toNat ≠ 120) (hk : ∀ i, i < 128 → k ≠ fkey i)
  | first (a : UInt8) (e : k = ⟨#[a, 120]⟩) (h : 128 ≤ a.toNat) (hk : ∀ i, i < 128 → k ≠ fkey i)
  | there (n : Nat) (hn : n < 128) (e : k = fkey n)
theorem kcase (k : ByteArray) : KCase k := by
  by_cases h : k.size = 2
  · obtain ⟨⟨l⟩⟩ := k
    match l, h with
    | [a, b], _ =>
    by_cases hb : b.toNat = 120
    · obtain rfl : b = 120 := UInt8.toNat_inj.1 hb
      by_cases ha : a.toNat < 128
      · exact .there a.toNat ha (by simp [fkey])
      · refine .first a rfl (by omega) fun i hi h => ha ?_
        have h0 : (fkey i).data[0]? = some a := by rw [← h]; rfl
        simp [fkey] at h0
        rw [← h0]
        simp
        omega
    · refine .last a b rfl hb fun i hi h => hb ?_
      have h0 : (fkey i).data[1]? = some b := by rw [← h]; rfl
      simp [fkey] at h0
      rw [← h0]
      rfl
  · exact .size h fun i hi e => h (by rw [e]; rfl)
theorem fkey_conv (w : World) (n : Nat) (hn : n < 256) : (convert 30 9 (.slice (some ⟨w.heap.size, 0, none⟩) 2 2)).run Try.prog (w.alloc (.cells #[.int .u8 n, .int .u8 120] 5)) = .ok (.string (fkey n)) (w.alloc (.cells #[.int .u8 n, .int .u8 120] 5)) := by
  have h := run_convert_bytes_back (P := Try.prog) (w.alloc (.cells #[.int .u8 n, .int .u8 120] 5)) 30 9 5 ⟨w.heap.size, 0, none⟩ 2 [UInt8.ofNat n, 120] Try.underlying30 Try.underlying5 Try.underlying9 (fun j hj => by
    match j, hj with
    | 0, _ => simp [Addr.add]; omega
    | 1, _ => simp [Addr.add])
  exact h
/-- Whether pair and key are right. -/
theorem bad_iff {k v : ByteArray} : badKV k v ↔ ¬ (1 ≤ k.size ∧ k.size ≤ 64 ∧ v.size ≤ 4096) := by unfold badKV; omega
set_option maxRecDepth 100000 in
set_option maxHeartbeats 4000000 in
theorem kvFull_any (k v : ByteArray) (w : World) :
    Calls Try.prog 8 #[.string k, .string v] w fun e w' => e = .returned (.bool true) ∧ Below w.heap.size w w' := by
  have H0 := hide (kvNew_any w.heap.size w (Nat.le_refl _))
  go_enter Try.func8, Try.ntmps8
  go_wp2_with (first
    | (go_at_call 20; refine H0.out.mono ?_; rintro e w1 ⟨p, b, rfl, d1, b1, _⟩; have s1 := b1.size; have H1 := hide (And.intro d1 b1); clear d1 b1))
  go_loopw [6] (fun j wr => ∃ n : Nat, n ≤ 128 ∧ j = .int .i64 n ∧ IsM w.heap.size p b (fullL n) wr ∧ Below w.heap.size w wr) (fun j _ => 128 - (intOf j).toNat)
  case atStart => exact ⟨0, Nat.zero_le _, rfl, H1.out.1, H1.out.2⟩
  case round =>
    obtain ⟨n, hn, rfl, hP, hbw⟩ := hrel
    have hw1 : IntKind.i64.wrap ((n : Int) + 1) = n + 1 := by rw [IntKind.wrap_i64]; omega
    have hw2 : IntKind.u8.wrap (n : Int) = n := by rw [IntKind.wrap_u8]; omega
    have hwz := hbw.size
    by_cases hlt : n < 128
    · have hlti : (n : Int) < 128 := by omega
      have hcv := fkey_conv wr n (by omega)
      obtain ⟨Wb, hWb⟩ : ∃ Wb, wr.alloc (.cells #[.int .u8 n, .int .u8 120] 5) = Wb := ⟨_, rfl⟩
      have hBb : Below wr.heap.size wr Wb := by rw [← hWb]; exact (Below.refl _ wr).alloc (Nat.le_refl _) _
      rw [hWb] at hcv
      have HP := hide (And.intro (hP.below hBb) (hbw.trans (hBb.mono hwz)))
      have hbz := hBb.size
      clear hP hbw hBb
      go_wp2_with (first
        | (go_at_call 18; refine (put_any w.heap.size p b (fullL n) (fkey n) fv Wb HP.out.1 (by omega)).mono ?_; rintro e w2 ⟨rfl, t2⟩; rw [(full_put hlt).1]; rw [(full_put hlt).2] at t2; have H2 := hide t2; clear t2))
      go_roundw
      case rel => exact ⟨n + 1, by omega, by simp, H2.out.1, HP.out.2.trans H2.out.2.below⟩
      case measure => simp [intOf]; omega
    · obtain rfl : n = 128 := by omega
      have hlti : ¬ (((128 : Nat) : Int) < 128) := by omega
      have HP := hide (And.intro hP hbw)
      clear hP hbw
      rcases kcase k with ⟨h2, hk⟩ | ⟨a, c, rfl, hc, hk⟩ | ⟨a, rfl, ha, hk⟩ | ⟨n, hn2, rfl⟩
      · have h2i : ¬ ((k.size : Int) = 2) := by omega
        by_cases h1 : 1 ≤ k.size
        · have h1i : (1 : Int) ≤ k.size := by omega
          by_cases h3 : k.size ≤ 64
          · have h3i : (k.size : Int) ≤ 64 := by omega
            by_cases hv : v.size ≤ 4096
            · have hvi : (v.size : Int) ≤ 4096 := by omega
              have HE := hide (full_other (k := k) (v := v) (by rw [bad_iff]; omega) hk)
              go_wp2_with (first
                | (go_at_call 18; refine (put_any w.heap.size p b (fullL 128) _ v wr HP.out.1 (by omega)).mono ?_; rintro e w2 ⟨rfl, t2⟩; rw [HE.out.1]; have s2 := t2.2.below.size; have H2 := hide t2; clear t2; refine stopHere ?_))
              unfold Hid
              go_wp2_with (first
                | (go_at_call 10; refine (live_any w2).mono ?_; rintro e w3 ⟨rfl, b3⟩; have s3 := b3.size; have H3 := hide (And.intro (H2.out.1.below b3) (HP.out.2.trans (H2.out.2.below.trans (b3.mono (by omega))))); clear b3; refine stopHere ?_))
              unfold Hid
              go_wp2_with (first
                | (go_at_call 17; refine (len_any w.heap.size p b _ w3 H3.out.1).mono ?_; rintro e w4 ⟨rfl, rfl⟩; rw [HE.out.2]))
              go_ret
              exact ⟨by first | rfl | (show Ending.returned (.bool (!decide ((a.toNat : Int) < 128))) = _; rw [decide_eq_false (show ¬ ((a.toNat : Int) < 128) by omega)]; rfl), H3.out.2⟩
            · have hvi : ¬ ((v.size : Int) ≤ 4096) := by omega
              have HE := hide (full_bad (k := k) (v := v) (.inr (.inr (by omega))))
              go_wp2_with (first
                | (go_at_call 18; refine (put_any w.heap.size p b (fullL 128) _ v wr HP.out.1 (by omega)).mono ?_; rintro e w2 ⟨rfl, t2⟩; rw [HE.out.1]; have s2 := t2.2.below.size; have H2 := hide t2; clear t2; refine stopHere ?_))
              unfold Hid
              go_wp2_with (first
                | (go_at_call 10; refine (live_any w2).mono ?_; rintro e w3 ⟨rfl, b3⟩; have s3 := b3.size; have H3 := hide (And.intro (H2.out.1.below b3) (HP.out.2.trans (H2.out.2.below.trans (b3.mono (by omega))))); clear b3; refine stopHere ?_))
              unfold Hid
              go_wp2_with (first
                | (go_at_call 17; refine (len_any w.heap.size p b _ w3 H3.out.1).mono ?_; rintro e w4 ⟨rfl, rfl⟩; rw [HE.out.2]))
              go_ret
              exact ⟨by first | rfl | (show Ending.returned (.bool (!decide ((a.toNat : Int) < 128))) = _; rw [decide_eq_false (show ¬ ((a.toNat : Int) < 128) by omega)]; rfl), H3.out.2⟩
              all_goals (exfalso; have hx := ‹(!decide ((v.size : Int) ≤ 4096)) = false›; simp at hx; omega)
          · have h3i : ¬ ((k.size : Int) ≤ 64) := by omega
            have HE := hide (full_bad (k := k) (v := v) (.inr (.inl (by omega))))
            go_wp2_with (first
              | (go_at_call 18; refine (put_any w.heap.size p b (fullL 128) _ v wr HP.out.1 (by omega)).mono ?_; rintro e w2 ⟨rfl, t2⟩; rw [HE.out.1]; have s2 := t2.2.below.size; have H2 := hide t2; clear t2; refine stopHere ?_))
            unfold Hid
            go_wp2_with (first
              | (go_at_call 10; refine (live_any w2).mono ?_; rintro e w3 ⟨rfl, b3⟩; have s3 := b3.size; have H3 := hide (And.intro (H2.out.1.below b3) (HP.out.2.trans (H2.out.2.below.trans (b3.mono (by omega))))); clear b3; refine stopHere ?_))
            unfold Hid
            go_wp2_with (first
              | (go_at_call 17; refine (len_any w.heap.size p b _ w3 H3.out.1).mono ?_; rintro e w4 ⟨rfl, rfl⟩; rw [HE.out.2]))
            go_ret
            exact ⟨by first | rfl | (show Ending.returned (.bool (!decide ((a.toNat : Int) < 128))) = _; rw [decide_eq_false (show ¬ ((a.toNat : Int) < 128) by omega)]; rfl), H3.out.2⟩
        · have h1i : ¬ ((1 : Int) ≤ k.size) := by omega
          have HE := hide (full_bad (k := k) (v := v) (.inl (by omega)))
          go_wp2_with (first
            | (go_at_call 18; refine (put_any w.heap.size p b (fullL 128) _ v wr HP.out.1 (by omega)).mono ?_; rintro e w2 ⟨rfl, t2⟩; rw [HE.out.1]; have s2 := t2.2.below.size; have H2 := hide t2; clear t2; refine stopHere ?_))
          unfold Hid
          go_wp2_with (first
            | (go_at_call 10; refine (live_any w2).mono ?_; rintro e w3 ⟨rfl, b3⟩; have s3 := b3.size; have H3 := hide (And.intro (H2.out.1.below b3) (HP.out.2.trans (H2.out.2.below.trans (b3.mono (by omega))))); clear b3; refine stopHere ?_))
          unfold Hid
          go_wp2_with (first
            | (go_at_call 17; refine (len_any w.heap.size p b _ w3 H3.out.1).mono ?_; rintro e w4 ⟨rfl, rfl⟩; rw [HE.out.2]))
          go_ret
          exact ⟨by first | rfl | (show Ending.returned (.bool (!decide ((a.toNat : Int) < 128))) = _; rw [decide_eq_false (show ¬ ((a.toNat : Int) < 128) by omega)]; rfl), H3.out.2⟩
      · have hci : ¬ ((c.toNat : Int) = 120) := by omega
        have hz : (ByteArray.mk #[a, c]).size = 2 := rfl
        by_cases hv : v.size ≤ 4096
        · have hvi : (v.size : Int) ≤ 4096 := by omega
          have HE := hide (full_other (k := ⟨#[a, c]⟩) (v := v) (by rw [bad_iff]; omega) hk)
          go_wp2_with (first
            | (go_at_call 18; refine (put_any w.heap.size p b (fullL 128) _ v wr HP.out.1 (by omega)).mono ?_; rintro e w2 ⟨rfl, t2⟩; rw [HE.out.1]; have s2 := t2.2.below.size; have H2 := hide t2; clear t2; refine stopHere ?_))
          unfold Hid
          go_wp2_with (first
            | (go_at_call 10; refine (live_any w2).mono ?_; rintro e w3 ⟨rfl, b3⟩; have s3 := b3.size; have H3 := hide (And.intro (H2.out.1.below b3) (HP.out.2.trans (H2.out.2.below.trans (b3.mono (by omega))))); clear b3; refine stopHere ?_))
          unfold Hid
          go_wp2_with (first
            | (go_at_call 17; refine (len_any w.heap.size p b _ w3 H3.out.1).mono ?_; rintro e w4 ⟨rfl, rfl⟩; rw [HE.out.2]))
          go_ret
          exact ⟨by first | rfl | (show Ending.returned (.bool (!decide ((a.toNat : Int) < 128))) = _; rw [decide_eq_false (show ¬ ((a.toNat : Int) < 128) by omega)]; rfl), H3.out.2⟩
        · have hvi : ¬ ((v.size : Int) ≤ 4096) := by omega
          have HE := hide (full_bad (k := ⟨#[a, c]⟩) (v := v) (.inr (.inr (by omega))))
          go_wp2_with (first
            | (go_at_call 18; refine (put_any w.heap.size p b (fullL 128) _ v wr HP.out.1 (by omega)).mono ?_; rintro e w2 ⟨rfl, t2⟩; rw [HE.out.1]; have s2 := t2.2.below.size; have H2 := hide t2; clear t2; refine stopHere ?_))
          unfold Hid
          go_wp2_with (first
            | (go_at_call 10; refine (live_any w2).mono ?_; rintro e w3 ⟨rfl, b3⟩; have s3 := b3.size; have H3 := hide (And.intro (H2.out.1.below b3) (HP.out.2.trans (H2.out.2.below.trans (b3.mono (by omega))))); clear b3; refine stopHere ?_))
          unfold Hid
          go_wp2_with (first
            | (go_at_call 17; refine (len_any w.heap.size p b _ w3 H3.out.1).mono ?_; rintro e w4 ⟨rfl, rfl⟩; rw [HE.out.2]))
          go_ret
          exact ⟨by first | rfl | (show Ending.returned (.bool (!decide ((a.toNat : Int) < 128))) = _; rw [decide_eq_false (show ¬ ((a.toNat : Int) < 128) by omega)]; rfl), H3.out.2⟩
          all_goals (exfalso; have hx := ‹(!decide ((v.size : Int) ≤ 4096)) = false›; simp at hx; omega)
      · have hai : ¬ ((a.toNat : Int) < 128) := by omega
        have hz : (ByteArray.mk #[a, 120]).size = 2 := rfl
        by_cases hv : v.size ≤ 4096
        · have hvi : (v.size : Int) ≤ 4096 := by omega
          have HE := hide (full_other (k := ⟨#[a, 120]⟩) (v := v) (by rw [bad_iff]; omega) hk)
          go_wp2_with (first
            | (go_at_call 18; refine (put_any w.heap.size p b (fullL 128) _ v wr HP.out.1 (by omega)).mono ?_; rintro e w2 ⟨rfl, t2⟩; rw [HE.out.1]; have s2 := t2.2.below.size; have H2 := hide t2; clear t2; refine stopHere ?_))
          unfold Hid
          go_wp2_with (first
            | (go_at_call 10; refine (live_any w2).mono ?_; rintro e w3 ⟨rfl, b3⟩; have s3 := b3.size; have H3 := hide (And.intro (H2.out.1.below b3) (HP.out.2.trans (H2.out.2.below.trans (b3.mono (by omega))))); clear b3; refine stopHere ?_))
          unfold Hid
          go_wp2_with (first
            | (go_at_call 17; refine (len_any w.heap.size p b _ w3 H3.out.1).mono ?_; rintro e w4 ⟨rfl, rfl⟩; rw [HE.out.2]))
          go_ret
          exact ⟨by first | rfl | (show Ending.returned (.bool (!decide ((a.toNat : Int) < 128))) = _; rw [decide_eq_false (show ¬ ((a.toNat : Int) < 128) by omega)]; rfl), H3.out.2⟩
        · have hvi : ¬ ((v.size : Int) ≤ 4096) := by omega
          have HE := hide (full_bad (k := ⟨#[a, 120]⟩) (v := v) (.inr (.inr (by omega))))
          go_wp2_with (first
            | (go_at_call 18; refine (put_any w.heap.size p b (fullL 128) _ v wr HP.out.1 (by omega)).mono ?_; rintro e w2 ⟨rfl, t2⟩; rw [HE.out.1]; have s2 := t2.2.below.size; have H2 := hide t2; clear t2; refine stopHere ?_))
          unfold Hid
          go_wp2_with (first
            | (go_at_call 10; refine (live_any w2).mono ?_; rintro e w3 ⟨rfl, b3⟩; have s3 := b3.size; have H3 := hide (And.intro (H2.out.1.below b3) (HP.out.2.trans (H2.out.2.below.trans (b3.mono (by omega))))); clear b3; refine stopHere ?_))
          unfold Hid
          go_wp2_with (first
            | (go_at_call 17; refine (len_any w.heap.size p b _ w3 H3.out.1).mono ?_; rintro e w4 ⟨rfl, rfl⟩; rw [HE.out.2]))
          go_ret
          exact ⟨by first | rfl | (show Ending.returned (.bool (!decide ((a.toNat : Int) < 128))) = _; rw [decide_eq_false (show ¬ ((a.toNat : Int) < 128) by omega)]; rfl), H3.out.2⟩
          all_goals (exfalso; have hx := ‹(!decide ((v.size : Int) ≤ 4096)) = false›; simp at hx; omega)
      · obtain ⟨a, ha, hae⟩ : ∃ a : UInt8, a.toNat < 128 ∧ fkey n = ⟨#[a, 120]⟩ := ⟨UInt8.ofNat n, by simp; omega, rfl⟩
        have hai : (a.toNat : Int) < 128 := by omega
        have hz : (ByteArray.mk #[a, 120]).size = 2 := rfl
        have hth := fun h => full_there (v := v) hn2 h
        rw [hae] at hth ⊢
        clear hae
        by_cases hv : v.size ≤ 4096
        · have hvi : (v.size : Int) ≤ 4096 := by omega
          have HE := hide (hth (by rw [bad_iff]; omega))
          go_wp2_with (first
            | (go_at_call 18; refine (put_any w.heap.size p b (fullL 128) _ v wr HP.out.1 (by omega)).mono ?_; rintro e w2 ⟨rfl, t2⟩; rw [HE.out.1]; have s2 := t2.2.below.size; have H2 := hide t2; clear t2; refine stopHere ?_))
          unfold Hid
          go_wp2_with (first
            | (go_at_call 10; refine (live_any w2).mono ?_; rintro e w3 ⟨rfl, b3⟩; have s3 := b3.size; have H3 := hide (And.intro (H2.out.1.below b3) (HP.out.2.trans (H2.out.2.below.trans (b3.mono (by omega))))); clear b3; refine stopHere ?_))
          unfold Hid
          go_wp2_with (first
            | (go_at_call 17; refine (len_any w.heap.size p b _ w3 H3.out.1).mono ?_; rintro e w4 ⟨rfl, rfl⟩; rw [HE.out.2]))
          go_ret
          exact ⟨by first | rfl | (show Ending.returned (.bool (!decide ((a.toNat : Int) < 128))) = _; rw [decide_eq_false (show ¬ ((a.toNat : Int) < 128) by omega)]; rfl), H3.out.2⟩
        · have hvi : ¬ ((v.size : Int) ≤ 4096) := by omega
          have HE := hide (full_bad (k := ⟨#[a, 120]⟩) (v := v) (.inr (.inr (by omega))))
          go_wp2_with (first
            | (go_at_call 18; refine (put_any w.heap.size p b (fullL 128) _ v wr HP.out.1 (by omega)).mono ?_; rintro e w2 ⟨rfl, t2⟩; rw [HE.out.1]; have s2 := t2.2.below.size; have H2 := hide t2; clear t2; refine stopHere ?_))
          unfold Hid
          go_wp2_with (first
            | (go_at_call 10; refine (live_any w2).mono ?_; rintro e w3 ⟨rfl, b3⟩; have s3 := b3.size; have H3 := hide (And.intro (H2.out.1.below b3) (HP.out.2.trans (H2.out.2.below.trans (b3.mono (by omega))))); clear b3; refine stopHere ?_))
          unfold Hid
          go_wp2_with (first
            | (go_at_call 17; refine (len_any w.heap.size p b _ w3 H3.out.1).mono ?_; rintro e w4 ⟨rfl, rfl⟩; rw [HE.out.2]))
          go_ret
          exact ⟨by first | rfl | (show Ending.returned (.bool (!decide ((a.toNat : Int) < 128))) = _; rw [decide_eq_false (show ¬ ((a.toNat : Int) < 128) by omega)]; rfl), H3.out.2⟩
          all_goals (exfalso; have hx := ‹(!decide ((v.size : Int) ≤ 4096)) = false›; simp at hx; omega)
end Go.Proofs.Ytllpblnbdocfjaa
