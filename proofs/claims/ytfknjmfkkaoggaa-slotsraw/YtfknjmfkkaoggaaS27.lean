/- Deeds of chapter 8 that are played on both stores. -/
import Derived.Test.YtfknjmfkkaoggaaS26
namespace Go.Proofs.Ytfknjmfkkaoggaa
open Go.RowKit Go.Shelf

/-- What is known of both stores behind deeds. -/
structure Played (base sz : Nat) (n : Nat) (qs ps qt pt : Nat) (d : Dv) (w : World) : Prop where
  two : ∃ vl vw ul uw, TwoS base qs ps qt pt d vl vw ul uw w
  inv : ∃ k t l, Inv d k t l ∧ t.toNat ≤ n
  size : d.las.length = sz
set_option maxRecDepth 100000 in
set_option maxHeartbeats 4000000 in
theorem play_any (n : Nat) (hn : n < 256) (ao : Option Addr) (cap : Nat) (ds : List Sd) (w : World) (hm : SdMem w.heap.size w ao ds) :
    Calls Try.prog 14 #[.int .u8 n, .slice ao ds.length cap] w fun e w' => ∃ qs ps qt pt d, e = .returned (.tuple #[.pointer (some ⟨qs, 0, none⟩), .pointer (some ⟨qt, 0, none⟩), .bool true]) ∧ Played w.heap.size (n % 16 + 4) 20 qs ps qt pt d w' ∧ Below w.heap.size w w' := by
  have hlen := hm.1
  have HM := hide hm
  clear hm
  obtain ⟨m, hmm⟩ : ∃ m, n % 16 + 4 = m := ⟨_, rfl⟩
  have hm1 : 4 ≤ m := by omega
  have hm2 : m ≤ 20 := by omega
  have hnl : (dvNew m).las.length = m := List.length_replicate
  have hin := inv_new (n := m) hm1 (by omega)
  have HI := hide hin
  clear hin
  have H0 := hide (new_any w.heap.size m w (Nat.le_refl _) (by omega) (by omega))
  obtain ⟨ln, hln⟩ : ∃ ln, ds.length = ln := ⟨_, rfl⟩
  rw [hln] at hlen ⊢
  rw [hmm]
  go_enter Try.func14, Try.ntmps14
  have hmi : ((n : Int) % 16 + 4) = (m : Int) := by omega
  go_wp2_with (first
    | (go_at_call 29; refine H0.out.mono ?_; rintro e w1 ⟨p, vl, rfl, d1, hp1, b1⟩; have s1 := b1.size; have H1 := hide (And.intro d1 b1); clear d1 b1)
    | (go_at_call 26; refine (open_any w.heap.size p (dvNew m) vl _ w1 H1.out.1 HI.out.2.1 s1 (by rw [hnl]; exact hm1)).mono ?_; rintro e w2 ⟨qs, ps, vl2, vw2, rfl, d2, hq2, b2, f2⟩; have s2 := b2.size; have H2 := hide (And.intro d2 (H1.out.2.trans (b2.mono s1))); clear d2 b2 f2 hq2; refine stopHere ?_))
  unfold Hid
  have H3 := hide (rnew_any w.heap.size m w2 (by omega) (by omega) (by omega))
  go_wp2_with (first
    | (go_at_call 30; refine H3.out.mono ?_; rintro e w3 ⟨p3, ul3, rfl, d3, hp3, b3⟩; have s3 := b3.size; have H4 := hide (And.intro d3 (And.intro (H2.out.1.below b3) (H2.out.2.trans (b3.mono (by omega))))); clear d3 b3)
    | (go_at_call 34; refine (ropen_any w.heap.size p3 (dvNew m) ul3 _ w3 H4.out.1 HI.out.2.1 (by omega) (by rw [hnl]; exact hm1)).mono ?_; rintro e w4 ⟨qt, pt, vl4, vw4, rfl, d4, hq4, b4, f4⟩; have s4 := b4.size; have H5 := hide (And.intro (TwoS.mk (H4.out.2.1.below b4) d4 (by omega)) (H4.out.2.2.trans (b4.mono (by omega)))); clear d4 b4 f4 hq4; refine stopHere ?_))
  unfold Hid
  go_wp2_with fail
  go_loopw [10] (fun j wr => ∃ k : Nat, k ≤ min ln 20 ∧ j = .int .i64 k ∧ (∃ d, Played w.heap.size m k qs ps qt pt d wr) ∧ Below w.heap.size w wr) (fun j _ => min ln 20 - (intOf j).toNat)
  case atStart => exact ⟨0, Nat.zero_le _, rfl, ⟨dvNew m, ⟨_, _, _, _, H5.out.1⟩, ⟨_, _, _, HI.out, Nat.le_refl _⟩, hnl⟩, H5.out.2⟩
  case round =>
    obtain ⟨k, hk, rfl, ⟨d, hP⟩, hbw⟩ := hrel
    have hw1 : IntKind.i64.wrap ((k : Int) + 1) = k + 1 := by rw [IntKind.wrap_i64]; omega
    by_cases hlt : k < min ln 20
    · have hl1 : (k : Int) < ln := by omega
      have hl2 : (k : Int) < 20 := by omega
      obtain ⟨x, hx⟩ : ∃ x, ds[k]? = some x := ⟨ds[k]'(by omega), by simp [hln, show k < ln by omega]⟩
      obtain ⟨hok, b, off, rfl, hb0, c0, c1, c2, c3⟩ := (HM.out.below hbw).2 k x hx
      obtain ⟨⟨vl, vw, ul, uw, hT⟩, ⟨k', t', l', hI, ht⟩, hs⟩ := hP
      have hdo := do_any w.heap.size qs ps qt pt d vl vw ul uw x wr hT hI.2.1 (by omega) (by rw [hI.1]; show 0 + 5000 ≤ _; omega) hok
      obtain ⟨k2, t2, l2, hI2, ht2, hs2⟩ := deed_inv hI x (by omega)
      unfold sdC at hdo
      have HD := hide hdo
      have HB := hide (And.intro hbw (And.intro hI2 (And.intro ht2 hs2)))
      clear hdo hT hbw hok hI hI2 ht2 hs2
      go_wp2_with (go_at_call 28; refine HD.out.mono ?_; rintro e w6 ⟨rfl, t6, b6⟩; have T6 := hide (And.intro t6 b6); clear t6 b6)
      go_roundw
      case rel => exact ⟨k + 1, by omega, by simp, ⟨deedS d x, T6.out.1, ⟨k2, t2, l2, HB.out.2.1, by have := HB.out.2.2.1; omega⟩, HB.out.2.2.2.trans hs⟩, HB.out.1.trans T6.out.2⟩
      case measure => simp [intOf]; omega
    · have HB := hide (And.intro hP hbw)
      clear hP hbw
      have hfin : Played w.heap.size m 20 qs ps qt pt d wr := ⟨HB.out.1.two, by obtain ⟨a, b, c, h1, h2⟩ := HB.out.1.inv; exact ⟨a, b, c, h1, by omega⟩, HB.out.1.size⟩
      have HF := hide hfin
      clear hfin
      by_cases hl1 : (k : Int) < ln
      · have hl2 : ¬ ((k : Int) < 20) := by omega
        go_wp2_with fail
        exact bodyPost_ret (results_thr rfl rfl rfl rfl) rfl ⟨qs, ps, qt, rfl, ⟨pt, d, HF.out⟩, HB.out.2⟩
      · go_wp2_with fail
        exact bodyPost_ret (results_thr rfl rfl rfl rfl) rfl ⟨qs, ps, qt, rfl, ⟨pt, d, HF.out⟩, HB.out.2⟩
end Go.Proofs.Ytfknjmfkkaoggaa
