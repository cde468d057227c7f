/- KvCuts. -/
import Derived.Test.YtjdcgndcljmieaaKvLoads
namespace Go.Proofs.Ytjdcgndcljmieaa
open Go.RowKit

/-- Is a place between two of the first pairs? -/
def btw (L : List Pr) (a i : Nat) : Bool := (List.range i).any fun j => sizeM (L.take j) == a
theorem btw_succ (L : List Pr) (a i : Nat) : btw L a (i + 1) = (btw L a i || sizeM (L.take i) == a) := by simp [btw, List.range_succ]
theorem gr_take {L : List Pr} (h : GR L) (i : Nat) : GR (L.take i) :=
  ⟨⟨Nat.le_trans (by rw [List.length_take]; omega) h.good.few, fun x hx => h.good.each x (List.mem_of_mem_take hx)⟩, List.Pairwise.sublist (List.take_sublist _ _) h.rise⟩
theorem size_succ {L : List Pr} {i : Nat} {x : Pr} (h : L[i]? = some x) : sizeM (L.take (i + 1)) = sizeM (L.take i) + (3 + x.1.size + x.2.size) := by
  rw [List.take_add_one, h]
  simp [sizeM, sz1]
theorem btw_iff {L : List Pr} (h : GR L) {a : Nat} (ha : a < sizeM L) : btw L a L.length = true ↔ ∃ L', GR L' ∧ (bytesM L).take a = bytesM L' := by
  constructor
  · intro hb
    simp only [btw, List.any_eq_true, List.mem_range, beq_iff_eq] at hb
    obtain ⟨i, hi, e⟩ := hb
    refine ⟨L.take i, gr_take h i, ?_⟩
    have hs : bytesM L = bytesM (L.take i) ++ bytesM (L.drop i) := by
      conv => lhs; rw [← List.take_append_drop i L]
      simp only [bytesM, List.flatMap_append]
    rw [hs, List.take_append_of_le_length (by rw [bytesM_len, e]; exact Nat.le_refl _), ← e, ← bytesM_len, List.take_length]
  · rintro ⟨L', g, e⟩
    have hs : bytesM L = bytesM L' ++ (bytesM L).drop a := by rw [← e, List.take_append_drop]
    obtain ⟨L₁, e1, e2⟩ := bytes_prefix L' h.good.sizes g.good.sizes hs
    have hl : sizeM L' = a := by
      rw [← bytesM_len, ← e, List.length_take, bytesM_len]
      omega
    simp only [btw, List.any_eq_true, List.mem_range, beq_iff_eq]
    refine ⟨L'.length, ?_, by rw [e1]; simpa using hl⟩
    rw [e1, List.length_append]
    cases L₁ with
    | nil =>
      rw [List.append_nil] at e1
      rw [e1, hl] at ha
      omega
    | cons x L₁ => simp
theorem btw_bad {L : List Pr} (h : GR L) {a : Nat} (ha : a < sizeM L) : btw L a L.length = false ↔ Bad ((bytesM L).take a) := by
  unfold Bad
  rw [← btw_iff h ha]
  simp
set_option maxRecDepth 100000 in
set_option maxHeartbeats 4000000 in
theorem kvCuts_any (ao : Option Addr) (cap : Nat) (ds : List Dk) (n : Nat) (hn : n < 65536) (w : World) (hm : DkMem w.heap.size w ao ds) :
    Calls Try.prog 8 #[.slice ao ds.length cap, .int .u16 n] w fun e w' => e = .returned (.bool true) ∧ Below w.heap.size w w' := by
  have H0 := hide (play_any ao cap ds w hm)
  obtain ⟨L, hL⟩ : ∃ L, playM ds (min ds.length 60) = L := ⟨_, rfl⟩
  have hG := good_play ds (min ds.length 60)
  rw [hL] at H0 hG
  have HG := hide hG
  obtain ⟨N, hN⟩ : ∃ N, (bytesM L).length = N := ⟨_, rfl⟩
  have HN := hide hN
  have hN5 : N ≤ 532864 := by rw [← hN, bytesM_len]; exact size_good hG
  clear hm hG hL hN
  go_enter Try.func8, Try.ntmps8
  go_wp2_with (first
    | (go_at_call 9; refine H0.out.mono ?_; rintro e w1 ⟨p, bm, q, u, rfl, t1, b1⟩; have s1 := b1.size; have H1 := hide (And.intro t1 b1); clear t1 b1)
    | (go_at_call 10; refine (live_any w1).mono ?_; rintro e w2 ⟨rfl, b2⟩; have s2 := b2.size; have H2 := hide (And.intro (H1.out.1.below b2) (H1.out.2.trans (b2.mono s1))); clear b2)
    | (go_at_call 14; refine (bytes_any w.heap.size p bm L w2 H2.out.1.dev HG.out).mono ?_; rintro e w3 ⟨v3, rfl, r3, b3⟩; have s3 := b3.size; have H3 := hide (And.intro r3 b3); have hsh := own_shape r3; rw [HN.out] at hsh; obtain ⟨ga, gc, rfl⟩ := hsh; clear r3 b3; refine stopHere ?_))
  unfold Hid
  by_cases hN0 : N = 0
  · have hL0 : L = [] := by
      cases L with
      | nil => rfl
      | cons x L =>
        have := HN.out
        rw [hN0] at this
        exact absurd (List.append_eq_nil_iff.1 (by simpa [bytesM] using List.eq_nil_of_length_eq_zero this : encP x ++ bytesM L = [])).1 (encP_ne x)
    subst hN0
    go_wp2_with (first
      | (go_at_call 21; refine (len_any w.heap.size p bm L w3 (H2.out.1.dev.below H3.out.2)).mono ?_; rintro e w4 ⟨rfl, hw4⟩; rw [hL0, hw4]; clear hw4))
    go_ret
    exact ⟨rfl, H2.out.2.trans (H3.out.2.mono H2.out.2.size)⟩
  · have hN1 : ¬ ((N : Int) = 0) := by omega
    go_wp2_with (first
      | (go_at_call 22; refine (scan_any w.heap.size p bm L ⟨#[]⟩ w3 (H2.out.1.dev.below H3.out.2) HG.out.few).mono ?_; rintro e w4 ⟨v4, rfl, r4, b4⟩; rw [scan_all] at r4; have s4 := b4.size; have H4 := hide (And.intro r4 b4); clear r4 b4; refine stopHere ?_))
    unfold Hid
    obtain ⟨A, hA⟩ : ∃ A, n % N = A := ⟨_, rfl⟩
    have hAN : A < N := by rw [← hA]; exact Nat.mod_lt _ (by omega)
    have hAi : (n : Int) % (N : Int) = (A : Int) := by rw [← hA]; omega
    rw [hAi]
    obtain ⟨m, hm⟩ : ∃ m, L.length = m := ⟨_, rfl⟩
    have hfew := HG.out.few
    have hr4 := H4.out.1
    rw [hm] at hfew hr4
    obtain ⟨aa, ac, rfl⟩ := own_shape hr4
    have hB4 : Below w2.heap.size w2 w4 := H3.out.2.trans (H4.out.2.mono s3)
    have H5 := hide (And.intro hm (And.intro hr4 hB4))
    clear hA hAi hm hr4 hB4
    have hszt : ∀ k, sizeM (L.take k) ≤ 532864 := fun k => Nat.le_trans (take_size k) (size_good HG.out)
    have HZ := hide hszt
    clear hszt
    go_wp2_with fail
    go_loopw [10, 11, 13] (fun bt k j wr => ∃ i : Nat, i ≤ m ∧ j = .int .i64 i ∧ k = .int .i64 (sizeM (L.take i) : Nat) ∧ bt = .bool (btw L A i) ∧ Below w4.heap.size w4 wr) (fun _ _ j _ => m - (intOf j).toNat)
    case atStart => exact ⟨0, Nat.zero_le _, rfl, by simp [sizeM], rfl, Below.refl _ _⟩
    case round =>
      obtain ⟨i, hi, rfl, rfl, rfl, hbw⟩ := hrel
      have hw1 : IntKind.i64.wrap ((i : Int) + 1) = i + 1 := by rw [IntKind.wrap_i64]; omega
      obtain ⟨S, hS⟩ : ∃ S, sizeM (L.take i) = S := ⟨_, rfl⟩
      have hS5 : S ≤ 532864 := by rw [← hS]; exact HZ.out i
      obtain ⟨bt, hbt⟩ : ∃ bt, btw L A i = bt := ⟨_, rfl⟩
      have HB := hide (And.intro hS (And.intro hbt hbw))
      rw [hS, hbt]
      by_cases hlt : i < m
      · have hlti : (i : Int) < m := by omega
        obtain ⟨x, hx⟩ : ∃ x, L[i]? = some x := ⟨L[i]'(by have := H5.out.1; omega), by simp⟩
        obtain ⟨hk1, hk2, hk3⟩ := HG.out.each x (List.mem_of_getElem? hx)
        obtain ⟨b, rfl, hbl, c0, c1⟩ := pr_cells (own_same H5.out.2.1 (fun g e => hbw.block g (own_lt H5.out.2.1 g e))) H5.out.1.symm hx
        have hq := size_succ hx
        have hbs := btw_succ L A i
        rw [hS] at hq hbs
        rw [hbt] at hbs
        have HX := hide (And.intro hq hbs)
        clear hx hq hbs hbw hS hbt
        cases bt with
        | true =>
          go_wp2_with fail
          go_quiet (fail)
          go_wp2_with fail
          exact ⟨⟨i + 1, by omega, by simp, by rw [HX.out.1]; simp, by rw [HX.out.2]; rfl, below_drewN' HB.out.2.2 _⟩, by simp [intOf]; omega⟩
        | false =>
          by_cases hSA : S = A
          · have hSi : ((S : Int) == A) = true := by rw [hSA]; simp
            go_wp2_with fail
            go_quiet (fail)
            go_wp2_with fail
            exact ⟨⟨i + 1, by omega, by simp, by rw [HX.out.1, hSA]; simp, by rw [HX.out.2]; simp [hSA], below_drewN' HB.out.2.2 _⟩, by simp [intOf]; omega⟩
          · have hSi : ((S : Int) == A) = false := by simp; omega
            go_wp2_with fail
            go_quiet (fail)
            go_wp2_with fail
            exact ⟨⟨i + 1, by omega, by simp, by rw [HX.out.1]; simp, by rw [HX.out.2]; simp [hSA], below_drewN' HB.out.2.2 _⟩, by simp [intOf]; omega⟩
      · obtain rfl : i = m := by omega
        have hlti : ¬ ((i : Int) < i) := by omega
        have hSN : S = N := by rw [← hS, ← HN.out, bytesM_len, ← H5.out.1, List.take_length]
        have hGR : GR L := ⟨HG.out, H2.out.1.dev.rise⟩
        have hAs : A < sizeM L := by rw [← bytesM_len, HN.out]; exact hAN
        have hbt' : btw L A L.length = bt := by rw [H5.out.1]; exact hbt
        have hBw3 : Below w3.heap.size w3 wr := H4.out.2.trans (hbw.mono s4)
        obtain ⟨g, hg⟩ : ∃ g, ga = some ⟨g, 0, none⟩ ∧ N ≤ gc ∧ gc ≤ 9223372036854775807 ∧ g < w3.heap.size ∧ Bys w3 g 0 (bytesM L) := by
          rcases row_bys H3.out.1 with ⟨e, _⟩ | ⟨g, cap, e, q1, q2, q3, q4⟩
          · have := HN.out
            rw [e] at this
            exact absurd this.symm hN0
          · cases e
            rw [HN.out] at q1
            exact ⟨g, rfl, q1, q2, q3, q4⟩
        obtain ⟨rfl, hg1, hg2, hg3, hg4⟩ := hg
        have hmem : ByMem wr.heap.size wr (some ⟨g, 0, none⟩) ((bytesM L).take A) := .inr ⟨g, 0, rfl, Nat.lt_of_lt_of_le hg3 hBw3.size, (hg4.take A).below' hg3 hBw3⟩
        have hlA : ((bytesM L).take A).length = A := by rw [List.length_take, HN.out]; omega
        have hld := load_any (some ⟨g, 0, none⟩) gc A ((bytesM L).take A) wr hmem (by omega) hg2 hlA
        have HLD := hide hld
        have hB9 : Below w.heap.size w wr := H2.out.2.trans ((H5.out.2.2.trans (hbw.mono (by omega))).mono H2.out.2.size)
        have H9 := hide (And.intro hGR (And.intro hAs (And.intro hbt' hB9)))
        subst hSN
        clear hS hbt hld hmem hlA hBw3 hGR hAs hbt' hB9 hg4 hbw
        cases bt with
        | true =>
          go_wp2_with (first
            | (go_at_call 12; refine HLD.out.mono ?_; rintro e w6 ⟨h6, b6⟩; rcases h6 with ⟨L', p6, bm6, g6, e6, rfl, m6⟩ | ⟨bad6, _⟩; rotate_left; exact absurd ((btw_bad H9.out.1 H9.out.2.1).2 bad6) (by rw [H9.out.2.2.1]; simp); have H6 := hide b6; clear b6 m6 e6 g6))
          go_ret
          exact ⟨rfl, H9.out.2.2.2.trans (H6.out.mono H9.out.2.2.2.size)⟩
        | false =>
          go_wp2_with (first
            | (go_at_call 12; refine HLD.out.mono ?_; rintro e w6 ⟨h6, b6⟩; rcases h6 with ⟨L', p6, bm6, g6, e6, _, _⟩ | ⟨_, rfl⟩; exact absurd ⟨L', g6, e6⟩ ((btw_bad H9.out.1 H9.out.2.1).1 H9.out.2.2.1); have H6 := hide b6; clear b6))
          go_ret
          exact ⟨rfl, H9.out.2.2.2.trans (H6.out.mono H9.out.2.2.2.size)⟩
end Go.Proofs.Ytjdcgndcljmieaa
