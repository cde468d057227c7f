/- DevAll. -/
import Derived.Test.YtdlejcdmjdljfaaD20
namespace Go.Proofs.Ytdlejcdmjdljfaa
open Go.RowKit Go.Shelf

theorem two_false (j : Nat) : svOf [false, false] j = svOf [] j := by
  match j with
  | 0 => rfl
  | 1 => rfl
  | j + 2 => simp [svOf]

set_option maxRecDepth 100000 in
set_option maxHeartbeats 2000000 in
theorem devAll_any (n : Nat) (hn : n < 256) (ao : Option Addr) (cap : Nat) (ds : List Dd) (w : World) (hm : DdMem w.heap.size w ao ds) :
    Calls Try.prog 6 #[.int .u8 n, .slice ao ds.length cap] w fun e w' => e = .returned (.bool true) ∧ Below w.heap.size w w' := by
  have H0 := hide (play_any n hn ao cap ds w hm)
  obtain ⟨D, hD⟩ : ∃ D, playD (dvNew (n % 8 + 1)) ds (min ds.length 60) = D := ⟨_, rfl⟩
  have hall := playD_all (ds := ds) (new_ok (n % 8 + 1) (by omega) (by omega)) (min ds.length 60) (by simp [dvNew]; omega)
  rw [hD] at H0 hall
  have hwr : D.wr.length ≤ 60 := by have := hall.2.1; simp [dvNew] at this; omega
  have HO := hide hall.1
  clear hm hall hD
  go_enter Try.func6, Try.ntmps6
  go_wp2_with (first
    | (go_at_call 9; refine H0.out.mono ?_; rintro e w1 ⟨p, q, vl, vw, ul, uw, rfl, t1, b1⟩; have s1 := b1.size; have H1 := hide (And.intro t1 b1); clear t1 b1)
    | (go_at_call 10; refine (live_any w1).mono ?_; rintro e w2 ⟨rfl, b2⟩; have s2 := b2.size; have H2 := hide (And.intro (H1.out.1.below b2) (H1.out.2.trans (b2.mono s1))); clear b2))
  go_loopw [8, 9] (fun v j wr => ∃ k : Nat, k ≤ 60 ∧ j = .int .i64 k ∧ wr.ownsRow w2.heap.size 4 1 v k ((List.replicate k true).map Value.bool) ∧ Below w2.heap.size w2 wr) (fun _ j _ => 60 - (intOf j).toNat)
  case atStart => exact ⟨0, Nat.zero_le _, rfl, World.ownsRow_nil _ _ _ _, Below.refl _ _⟩
  case round =>
    obtain ⟨k, hk, rfl, hrow, hbw⟩ := hrel
    have hw1 : IntKind.i64.wrap ((k : Int) + 1) = k + 1 := by rw [IntKind.wrap_i64]; omega
    by_cases hlt : k < 60
    · obtain ⟨W, hW⟩ : ∃ W, wr.alloc (.cells #[.bool true] 4) = W := ⟨_, rfl⟩
      have hB : Below wr.heap.size wr W := by rw [← hW]; exact (Below.refl _ wr).alloc (Nat.le_refl _) _
      have fW : W.heap[wr.heap.size]? = some (.cells [Value.bool true].toArray 4) := by rw [← hW]; exact World.alloc_heap_new wr _
      obtain ⟨ti, t1, t2, t3, t4⟩ := infos infoBool
      obtain ⟨v', w', hap, y1, y2, _, y4⟩ := run_append_own_at (P := Try.prog) W w2.heap.size 30 30 4 ti _ 1 1 Try.underlying30 t1 t2 t3 t4 (by rfl) (by omega) u8 k _ (own_same (B := W) hrow (fun g e => hB.block g (own_lt hrow g e))) ⟨wr.heap.size, 0, none⟩ 1 1 [.bool true] rfl (list_cells fW) (by simp [Value.oneCell']) (by unfold maxLen; omega) (by omega) (Nat.le_trans hbw.size hB.size)
      have hk0 : (k : Int) < 60 := by omega
      have HA := hide hap
      have hrow' : w'.ownsRow w2.heap.size 4 1 v' (k + 1) ((List.replicate (k + 1) true).map Value.bool) := by
        rw [List.replicate_succ', List.map_append]
        exact y1
      have hB' : Below w2.heap.size w2 w' := (hbw.trans (hB.mono hbw.size)).grown y2 (Nat.le_trans hbw.size hB.size) (fun r e => own_base hrow r e)
      have HR := hide (And.intro hrow' hB')
      obtain ⟨ga, gc, rfl⟩ := own_shape hrow
      obtain ⟨ga', gc', rfl⟩ := own_shape y1
      clear hrow' hB' hrow y1 y2 y4 hap hbw fW hB
      go_wp2_with (at_builtin; refine stopHere ?_)
      unfold Hid
      refine l_val rfl _ (ex_append (t := 30) rfl rfl rfl HA.out) ?_
      go_wp2_with fail
      go_roundw
      case rel => exact ⟨k + 1, by omega, by simp, HR.out.1, HR.out.2⟩
      case measure => simp [intOf]; omega
    · obtain rfl : k = 60 := by omega
      have hT := H2.out.1.below hbw
      obtain ⟨ga, gc, rfl⟩ : ∃ ga gc, u8 = .slice (some ⟨ga, 0, none⟩) 60 gc := by
        obtain ⟨_, ⟨_, h3⟩ | ⟨g, cap, cur, h2, _⟩⟩ := id hrow
        · omega
        · exact ⟨g, cap, h2⟩
      have hgl : ga < wr.heap.size := own_lt hrow ga rfl
      have hws := hbw.size
      have hbm := bools_own (bs := List.replicate 60 true) hrow (by simp)
      have HT := hide (And.intro hT (And.intro hbm (H2.out.2.trans (hbw.mono (by omega)))))
      clear hT hrow hbw hbm
      go_wp2_with (go_at_call 13; refine (fork_any w.heap.size p D vl vw wr HT.out.1.dev HO.out (by omega)).mono ?_; rintro e w4 ⟨p', a, b, rfl, d4, b4, g4⟩; have s4 := b4.size; have H4 := hide (And.intro d4 (And.intro b4 g4)); clear d4 b4 g4; refine stopHere ?_)
      unfold Hid
      have H4T := hide (HT.out.1.below H4.out.2.1)
      go_wp2_with (go_at_call 20; refine (rfork_any w.heap.size q D ul uw w4 H4T.out.ref HO.out (by omega)).mono ?_; rintro e w5 ⟨q', c, e2, rfl, r5, b5, g5⟩; have s5 := b5.size; have H5 := hide (And.intro r5 (And.intro b5 g5)); clear r5 b5 g5; refine stopHere ?_)
      unfold Hid
      have hB5 : Below wr.heap.size wr w5 := H4.out.2.1.trans (H5.out.2.1.mono s4)
      have H5F := hide (H4.out.1.below H5.out.2.1)
      have H5T := hide (HT.out.1.below hB5)
      have hB5w := HT.out.2.2.trans (hB5.mono (by omega))
      have hbm5 : BoolMem w5.heap.size w5 (some ⟨ga, 0, none⟩) (List.replicate 60 true) := by
        have h := HT.out.2.1.below hB5
        refine ⟨h.1, fun j v hj => ?_⟩
        obtain ⟨bb, off, e1, e2, e3⟩ := h.2 j v hj
        exact ⟨bb, off, e1, by omega, e3⟩
      have hcr := crash_gen w.heap.size p' D a b (some ⟨ga, 0, none⟩) (List.replicate 60 true) gc w5 H5F.out HO.out (by omega) hbm5 (fun j v bb off _ e hf => by
        cases e
        have := H4.out.2.2 ga hf
        omega)
      rw [settled_congr (b := fun _ => true) (fun j hj => by simp only [svOf, List.getD_eq_getElem?_getD, List.getElem?_replicate]; rw [if_pos (by omega)]; rfl)] at hcr
      rw [List.length_replicate] at hcr
      have HCR := hide hcr
      have HB5 := hide hB5w
      clear hcr hB5 hB5w hbm5
      go_wp2_with (go_at_call 17; refine HCR.out.mono ?_; rintro e w6 ⟨rfl, t6⟩; have H6 := hide t6; clear t6; refine stopHere ?_)
      unfold Hid
      have s6 := toD_size H6.out
      have hf6 := toD_frees H6.out
      have hapart : ∀ j, foot p vl vw j → ¬ foot p' a b j := fun j hj hk => by
        have := (HT.out.1.dev.lt hj).2
        have := H4.out.2.2 j hk
        omega
      have d6 := H5T.out.dev.apart hf6 hapart
      have r6 := refKeep H5F.out H5T.out.ref H6.out
      have g6 := refKeep H5F.out H5.out.1 H6.out
      obtain ⟨a6, b6, f6, _, n6⟩ := H6.out
      have hB6 := HB5.out.trans hf6.below
      have K6 := hide (And.intro d6 (And.intro r6 (And.intro f6 (And.intro g6 (And.intro hB6 n6)))))
      clear d6 r6 f6 g6 hB6 n6 hf6
      go_wp2_with (go_at_call 19; refine (rsync_any w.heap.size q' D c e2 w6 K6.out.2.2.2.1 HO.out (by omega)).mono ?_; rintro e w7 ⟨rfl, t7⟩; have H7 := hide t7; clear t7; refine stopHere ?_)
      unfold Hid
      have s7 := toR_size H7.out
      have hf7 := toR_frees H7.out
      have hap7 : ∀ j, foot q ul uw j → ¬ foot q' c e2 j := fun j hj hk => by
        have := (HT.out.1.ref.lt hj).2
        have := H5.out.2.2 j hk
        omega
      have d7 := devKeep K6.out.1 K6.out.2.2.2.1 H7.out
      have f7 := devKeep K6.out.2.2.1 K6.out.2.2.2.1 H7.out
      have r7 := K6.out.2.1.apart hf7 hap7
      obtain ⟨c7, e7, g7, _, n7⟩ := H7.out
      have hB7 := K6.out.2.2.2.2.1.trans hf7.below
      have K7 := hide (And.intro d7 (And.intro r7 (And.intro f7 (And.intro g7 (And.intro hB7 n7)))))
      clear d7 r7 f7 g7 hB7 n7 hf7
      go_wp2_with (go_at_call 17; refine (crash_any w.heap.size p D vl vw none [] 0 w7 K7.out.1 HO.out (by omega) ⟨by simp, fun j v hj => by simp at hj⟩).mono ?_; rintro e w8 ⟨rfl, t8⟩; have H8 := hide t8; clear t8; refine stopHere ?_)
      unfold Hid
      have s8 := toD_size H8.out
      have hf8 := toD_frees H8.out
      have hap8 : ∀ j, foot p' a6 b6 j → ¬ foot p vl vw j := fun j hj hk => by
        have h1 := (HT.out.1.dev.lt hk).2
        rcases K6.out.2.2.2.2.2 j hj with h | h
        · have := H4.out.2.2 j h
          omega
        · omega
      have f8 := K7.out.2.2.1.apart hf8 hap8
      have r8 := refKeep K7.out.1 K7.out.2.1 H8.out
      have g8 := refKeep K7.out.1 K7.out.2.2.2.1 H8.out
      obtain ⟨a8, b8, d8, _, _⟩ := H8.out
      have hB8 := K7.out.2.2.2.2.1.trans hf8.below
      obtain ⟨W9, hW9⟩ : ∃ W9, w8.alloc (.cells #[.bool false, .bool false] 4) = W9 := ⟨_, rfl⟩
      have b9 : Below w8.heap.size w8 W9 := by rw [← hW9]; exact (Below.refl _ w8).alloc (Nat.le_refl _) _
      have s9 : W9.heap.size = w8.heap.size + 1 := by rw [← hW9]; simp
      have f9 : W9.heap[w8.heap.size]? = some (.cells #[.bool false, .bool false] 4) := by rw [← hW9]; exact World.alloc_heap_new w8 _
      have hm9 : BoolMem W9.heap.size W9 (some ⟨w8.heap.size, 0, none⟩) [false, false] := by
        refine ⟨by simp, fun j v hj => ⟨w8.heap.size, 0, rfl, by omega, ?_⟩⟩
        rw [cell_of_row W9 w8.heap.size (0 + j) _ _ _ f9]
        match j, hj with
        | 0, hj => cases hj; rfl
        | 1, hj => cases hj; rfl
        | j + 2, hj => simp at hj
      have hcr9 := rcrash_gen w.heap.size q D ul uw (some ⟨w8.heap.size, 0, none⟩) [false, false] 2 W9 (r8.below b9) HO.out (by omega) hm9
      rw [settled_congr (fun j _ => two_false j)] at hcr9
      have HC9 := hide hcr9
      have K9 := hide (And.intro (d8.below b9) (And.intro (f8.below b9) (And.intro (g8.below b9) (And.intro (r8.below b9) (hB8.trans (b9.mono (by omega)))))))
      clear f8 r8 g8 d8 hB8 b9 f9 hm9 hcr9 hf8
      go_wp2_with (go_at_call 21; refine HC9.out.mono ?_; rintro e w10 ⟨rfl, t10⟩; have H10 := hide t10; clear t10; refine stopHere ?_)
      unfold Hid
      have s10 := toR_size H10.out
      have hf10 := toR_frees H10.out
      have hap10 : ∀ j, foot q' c7 e7 j → ¬ foot q ul uw j := fun j hj hk => by
        have h1 := (HT.out.1.ref.lt hk).2
        rcases K7.out.2.2.2.2.2 j hj with h | h
        · have := H5.out.2.2 j h
          omega
        · omega
      have d10 := devKeep K9.out.1 K9.out.2.2.2.1 H10.out
      have f10 := devKeep K9.out.2.1 K9.out.2.2.2.1 H10.out
      have g10 := K9.out.2.2.1.apart hf10 hap10
      obtain ⟨c10, e10, r10, _, _⟩ := H10.out
      have hB10 := K9.out.2.2.2.2.trans hf10.below
      have h1 := hide (same_any w.heap.size p' q' _ _ _ _ _ w10 ⟨f10, g10⟩ (settled_ok HO.out _))
      have K10 := hide (And.intro (Two.mk d10 r10) hB10)
      clear d10 f10 g10 r10 hB10 hf10
      go_wp2_with (first
        | (go_at_call 11; refine h1.out.mono ?_; rintro e' w11 ⟨rfl, b11⟩; have s11 := b11.size; have H11 := hide b11; clear b11 h1)
        | (go_at_call 11; refine (same_any w.heap.size p q _ _ _ _ _ w11 (K10.out.1.below H11.out) (settled_ok HO.out _)).mono ?_; rintro e' w12 ⟨rfl, b12⟩; have H12 := hide b12; clear b12))
      go_ret
      exact ⟨rfl, K10.out.2.trans ((H11.out.mono (by omega)).trans (H12.out.mono (by omega)))⟩
end Go.Proofs.Ytdlejcdmjdljfaa
