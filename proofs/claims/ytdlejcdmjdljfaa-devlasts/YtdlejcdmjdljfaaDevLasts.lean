/- DevLasts. -/
import Derived.Test.YtdlejcdmjdljfaaD21
namespace Go.Proofs.Ytdlejcdmjdljfaa
open Go.RowKit Go.Shelf

theorem keepC {w w1 : World} {b o : Nat} {v : Value} {n : Nat} (h : w.cell? ⟨b, o, none⟩ = some v) (hb : Below n w w1) (hn : b < n) : w1.cell? ⟨b, o, none⟩ = some v := (hb.cell (p := ⟨b, o, none⟩) hn).trans h
set_option maxRecDepth 100000 in
set_option maxHeartbeats 4000000 in
theorem devLasts_any (ao : Option Addr) (cap : Nat) (ds : List Dd) (bo : Option Addr) (bc : Nat) (es : List Dd) (sa : Option Addr) (sc : Nat) (bs : List Bool) (w : World) (hm : DdMem w.heap.size w ao ds) (hm2 : DdMem w.heap.size w bo es) (hs : BoolMem w.heap.size w sa bs) :
    Calls Try.prog 4 #[.slice ao ds.length cap, .slice bo es.length bc, .slice sa bs.length sc] w fun e w' => e = .returned (.bool true) ∧ Below w.heap.size w w' := by
  have H0 := hide (play_any 7 (by omega) ao cap ds w hm)
  obtain ⟨D, hD⟩ : ∃ D, playD (dvNew (7 % 8 + 1)) ds (min ds.length 60) = D := ⟨_, rfl⟩
  have hall := playD_all (ds := ds) (new_ok (7 % 8 + 1) (by omega) (by omega)) (min ds.length 60) (by simp [dvNew]; omega)
  rw [hD] at H0 hall
  obtain ⟨D1, hD1⟩ : ∃ D1, settled D (fun _ => true) = D1 := ⟨_, rfl⟩
  have hok1 : DvOk D1 := hD1 ▸ settled_ok hall.1 _
  have hl1 : D1.las.length = 8 := by rw [← hD1]; show (landAt D _ _).length = 8; rw [landAt_len, hall.2.2]; simp [dvNew]
  have hw0 : D1.wr = [] := by rw [← hD1]; rfl
  have HO := hide hall.1
  have HO1 := hide (And.intro hok1 (And.intro hl1 hw0))
  have HM := hide (And.intro hm2 hs)
  have hlen := hm2.1
  have hlbs := hs.1
  clear hm hall hm2 hs hD hok1 hl1 hw0
  go_enter Try.func4, Try.ntmps4
  go_wp2_with (first
    | (go_at_call 9; refine H0.out.mono ?_; rintro e w1 ⟨p, q, vl, vw, ul, uw, rfl, t1, b1⟩; have s1 := b1.size; have H1 := hide (And.intro t1.dev b1); clear t1 b1)
    | (go_at_call 10; refine (live_any w1).mono ?_; rintro e w2 ⟨rfl, b2⟩; have s2 := b2.size; have H2 := hide (And.intro (H1.out.1.below b2) (H1.out.2.trans (b2.mono s1))); clear b2)
    | (go_at_call 12; refine (sync_any w.heap.size p D vl vw w2 H2.out.1 HO.out (by omega)).mono ?_; rintro e w3 ⟨rfl, t3⟩; rw [hD1] at t3; have s3 := toD_size t3; have f3 := H2.out.2.trans (toD_frees t3).below; obtain ⟨vl3, vw3, t3⟩ := toD_is t3; have H3 := hide (And.intro t3 f3); clear t3 f3)
    | (go_at_call 13; refine (fork_any w.heap.size p D1 vl3 vw3 w3 H3.out.1 HO1.out.1 (by omega)).mono ?_; rintro e w4 ⟨pw, wl, ww, rfl, d4, b4, g4⟩; have s4 := b4.size; have H4 := hide (And.intro (H3.out.1.below b4) (And.intro d4 (And.intro (H3.out.2.trans (b4.mono (by omega))) g4))); clear d4 b4 g4))
  have hwas : ∀ j, foot pw wl ww j → w3.heap.size ≤ j ∧ j < w4.heap.size := fun j hj => ⟨H4.out.2.2.2 j hj, (H4.out.2.1.lt hj).2⟩
  have hdev : ∀ j, foot p vl3 vw3 j → j < w3.heap.size := fun j hj => (H3.out.1.lt hj).2
  obtain ⟨W5, hW5⟩ : ∃ W5, w4.alloc (.cells #[.bool false, .bool false, .bool false, .bool false, .bool false, .bool false, .bool false, .bool false] 34) = W5 := ⟨_, rfl⟩
  have b5 : Below w4.heap.size w4 W5 := by rw [← hW5]; exact (Below.refl _ w4).alloc (Nat.le_refl _) _
  have f5 : W5.heap[w4.heap.size]? = some (.cells (boolA (List.replicate 8 false)) 34) := by rw [← hW5]; exact World.alloc_heap_new w4 _
  have s5 : W5.heap.size = w4.heap.size + 1 := by rw [← hW5]; simp
  have H5 := hide (And.intro (H4.out.1.below b5) (And.intro (H4.out.2.1.below b5) (And.intro f5 (H4.out.2.2.1.trans (b5.mono (by omega))))))
  have HW := hide (And.intro hwas hdev)
  clear hwas hdev b5 f5
  go_loopw [12, 13] (fun kv j wr => ∃ k : Nat, k ≤ min es.length 40 ∧ j = .int .i64 k ∧ kv = .int .i64 (lastD D1 es k).wr.length ∧ (∃ a b, IsD w.heap.size p (lastD D1 es k) a b wr ∧ ∀ j, foot p a b j → j < w3.heap.size ∨ w4.heap.size + 1 ≤ j) ∧ IsD w.heap.size pw D1 wl ww wr ∧ wr.heap[w4.heap.size]? = some (.cells (boolA (touchAt (lastD D1 es k).wr (svOf bs) (lastD D1 es k).wr.length)) 34) ∧ Below w.heap.size w wr ∧ w4.heap.size + 1 ≤ wr.heap.size) (fun _ j _ => min es.length 40 - (intOf j).toNat)
  case atStart =>
    have e0 : lastD D1 es 0 = D1 := rfl
    refine ⟨0, Nat.zero_le _, rfl, by rw [e0, HO1.out.2.2]; rfl, ⟨vl3, vw3, ?_, fun j hj => .inl (HW.out.2 j hj)⟩, ?_, ?_, ?_, ?_⟩
    · rw [e0, hW5]
      exact H5.out.1
    · rw [hW5]
      exact H5.out.2.1
    · rw [e0, HO1.out.2.2, hW5]
      exact H5.out.2.2.1
    · rw [hW5]
      exact H5.out.2.2.2
    · rw [hW5]
      omega
  case round =>
    obtain ⟨k, hk, rfl, rfl, ⟨a, b, hT, hfo⟩, hTw, ht, hbw, hsz⟩ := hrel
    have hw1 : IntKind.i64.wrap ((k : Int) + 1) = k + 1 := by rw [IntKind.wrap_i64]; omega
    obtain ⟨hok, hfew, hlas⟩ := lastD_all (es := es) HO1.out.1 k (by rw [HO1.out.2.2]; simp; omega)
    rw [HO1.out.2.2] at hfew
    simp only [List.length_nil, Nat.zero_add] at hfew
    have hw2 : IntKind.i64.wrap (((lastD D1 es k).wr.length : Int) + 1) = (lastD D1 es k).wr.length + 1 := by rw [IntKind.wrap_i64]; omega
    by_cases hlt : k < min es.length 40
    · have hl1 : k < es.length := by omega
      have hl2 : k < 40 := by omega
      obtain ⟨x, hx⟩ : ∃ x, es[k]? = some x := ⟨es[k], by simp [hl1]⟩
      obtain ⟨hbm, bb, off, rfl, hb0, c0, c1, c2, c3⟩ := (HM.out.1.below hbw).2 k x hx
      have hps := lastD_succ (d := D1) hx
      unfold lstep at hps
      obtain ⟨Dk, hDk⟩ : ∃ Dk, lastD D1 es k = Dk := ⟨_, rfl⟩
      rw [hDk] at hps hT ht hok hfew hlas hw2 ⊢
      have HB := hide (And.intro hT (And.intro hfo (And.intro hTw (And.intro ht (And.intro hbw hok)))))
      have hgl := hbw.size
      clear hT hfo hTw ht hbw hok hbm
      rcases wrongI_or Dk.las.length x.i with ⟨h1, h2, h3⟩ | h1
      · rw [if_pos h1] at hps
        obtain ⟨i, hi⟩ : ∃ i : Nat, x.i = i := ⟨x.i.toNat, by omega⟩
        have hit : x.i.toNat = i := by omega
        rw [hit] at hps h3
        rw [hi] at c1
        have h8 : i < 8 := by rw [hlas, HO1.out.2.1] at h3; exact h3
        have hs64 : (allC x.c).length = 64 := fillS_len _ _ (Nat.le_refl _)
        go_wp2_with fail
        go_region_held3 (fun w' => w'.cell? ⟨bb, off + k * 4 + 1, none⟩ = some (.int .i64 i) ∧ w'.cell? ⟨bb, off + k * 4 + 2, none⟩ = some (.int .u8 x.c.toNat)) ((go_split_ands; refine ⟨?_, ?_⟩ <;> first | assumption | exact keepB (by assumption) (by assumption) (Nat.le_refl _) | exact keepC (by assumption) (by assumption) hb0))
          (first
            | (go_at_call 15; refine (sector_any x.c wr.drew).mono ?_; rintro e w6 ⟨rfl, b6⟩)
            | (go_at_call 14; refine (write_any w.heap.size p Dk a b i (allC x.c) w6 ((HB.out.1.below (Below.refl _ wr).drew).below b6) HB.out.2.2.2.2.2 (by have s6 : wr.heap.size ≤ w6.heap.size := b6.size; omega) h3 hs64 (by omega)).mono ?_; rintro e w7 ⟨rfl, t7⟩; have f7 := (toD_frees t7).below))
        have s6 : wr.heap.size ≤ w6.heap.size := b6.size
        have s7 := toD_size t7
        have B6 := hide (show Below wr.heap.size wr w6 from (Below.refl _ wr).drew.trans b6)
        obtain ⟨hT, hfo, hTw, ht, hbw, hok⟩ := HB.out
        have hF7 := toD_frees t7
        obtain ⟨a7, b7, d7, _, n7⟩ := t7
        have hB7 : Below w.heap.size w w7 := hbw.trans ((B6.out.mono (by omega)).trans hF7.below)
        have ht7 : w7.heap[w4.heap.size]? = some (.cells (boolA (touchAt Dk.wr (svOf bs) Dk.wr.length)) 34) := (hF7.same _ (by omega) (fun hf => by rcases hfo _ hf with h | h <;> omega)).trans ((B6.out.block _ (by omega)).trans ht)
        have hTw7 : IsD w.heap.size pw D1 wl ww w7 := (hTw.below B6.out).apart hF7 (fun j hj hf => by
          have := HW.out.1 j hj
          rcases hfo _ hf with h | h <;> omega)
        have hfo7 : ∀ j, foot p a7 b7 j → j < w3.heap.size ∨ w4.heap.size + 1 ≤ j := fun j hj => by
          rcases n7 j hj with h | h
          · exact hfo j h
          · exact .inr (by omega)
        have hsn := touchAt_snoc Dk.wr (i, allC x.c) (svOf bs)
        have hwl : (dvWrite Dk i (allC x.c)).wr.length = Dk.wr.length + 1 := by simp [dvWrite]
        have d1 : w7.cell? ⟨bb, off + k * 4 + 1, none⟩ = some (.int .i64 i) := keepC (keepC c1 B6.out (by omega)) f7 hb0
        have hm7 := HM.out.2.below hB7
        obtain ⟨tv, htv⟩ : ∃ tv, (touchAt Dk.wr (svOf bs) Dk.wr.length)[i]? = some tv := ⟨_, List.getElem?_eq_getElem (by rw [touchAt_len]; exact h8)⟩
        obtain ⟨e1, e2⟩ := boolA_cell ht7 htv
        have hset := heap_setCell_same w7 w4.heap.size i _ _ (.bool true) ht7
        rw [boolA_set] at hset
        have hne : ∀ (j : Nat), j ≠ w4.heap.size → (w7.setCell ⟨w4.heap.size, i, none⟩ (.bool true)).heap[j]? = w7.heap[j]? := fun j hj => Below.heap_setCell _ _ _ _ hj
        have HE := hide (And.intro d7 (And.intro hfo7 (And.intro hTw7 (And.intro ht7 (And.intro hB7 (And.intro hset hne))))))
        have i8 : (i : Int) < 8 := by omega
        clear d7 hfo7 hTw7 ht7 hset hne hT hfo hTw ht hbw hok hF7 n7 b6 f7
        by_cases hkl : Dk.wr.length < bs.length
        · obtain ⟨v, hv⟩ : ∃ v, bs[Dk.wr.length]? = some v := ⟨bs[Dk.wr.length], by simp [hkl]⟩
          obtain ⟨sb, soff, rfl, hs0, hsc⟩ := hm7.2 _ v hv
          have hsv : svOf bs Dk.wr.length = v := by simp [svOf, List.getD_eq_getElem?_getD, hv]
          rw [hsv] at hsn
          cases v with
          | true =>
            rw [if_pos rfl] at hsn
            have HSN := hide hsn
            clear hm7 hsn
            go_wp2_with fail
            obtain ⟨d7, hfo7, hTw7, ht7, hB7', hset, hne⟩ := HE.out
            go_roundw
            case rel =>
              refine ⟨k + 1, by omega, by simp, by rw [hps, hwl]; simp, ⟨a7, b7, ?_, hfo7⟩, ?_, ?_, ?_, ?_⟩
              · rw [hps]
                exact d7.same (fun j hj => hne j (fun e => by rcases hfo7 j hj with h | h <;> omega))
              · exact hTw7.same (fun j hj => hne j (fun e => by have := HW.out.1 j hj; omega))
              · rw [hps, hwl, show (dvWrite Dk i (allC x.c)).wr = Dk.wr ++ [(i, allC x.c)] from rfl, HSN.out]
                exact hset
              · exact hB7'.setCell (p := ⟨w4.heap.size, i, none⟩) (show w.heap.size ≤ w4.heap.size by omega) _
              · show w4.heap.size + 1 ≤ (w7.setCell _ _).heap.size
                have := ((Below.refl w.heap.size w7).setCell (p := ⟨w4.heap.size, i, none⟩) (show w.heap.size ≤ w4.heap.size by omega) (.bool true)).size
                omega
            case measure => simp [intOf]; omega
          | false =>
            rw [if_neg (by simp)] at hsn
            have HSN := hide hsn
            clear hm7 hsn
            go_wp2_with fail
            obtain ⟨d7, hfo7, hTw7, ht7, hB7', hset, hne⟩ := HE.out
            go_roundw
            case rel => exact ⟨k + 1, by omega, by simp, by rw [hps, hwl]; simp, ⟨a7, b7, by rw [hps]; exact d7, hfo7⟩, hTw7, by rw [hps, hwl, show (dvWrite Dk i (allC x.c)).wr = Dk.wr ++ [(i, allC x.c)] from rfl, HSN.out]; exact ht7, hB7', by omega⟩
            case measure => simp [intOf]; omega
        · have hsv : svOf bs Dk.wr.length = false := by simp [svOf, List.getD_eq_getElem?_getD, List.getElem?_eq_none (show bs.length ≤ Dk.wr.length by omega)]
          have hkl' : ¬ ((Dk.wr.length : Int) < bs.length) := by omega
          rw [hsv, if_neg (by simp)] at hsn
          have HSN := hide hsn
          clear hm7 hsn
          go_wp2_with fail
          obtain ⟨d7, hfo7, hTw7, ht7, hB7', hset, hne⟩ := HE.out
          go_roundw
          case rel => exact ⟨k + 1, by omega, by simp, by rw [hps, hwl]; simp, ⟨a7, b7, by rw [hps]; exact d7, hfo7⟩, hTw7, by rw [hps, hwl, show (dvWrite Dk i (allC x.c)).wr = Dk.wr ++ [(i, allC x.c)] from rfl, HSN.out]; exact ht7, hB7', by omega⟩
          case measure => simp [intOf]; omega
      · rw [if_neg (by omega)] at hps
        go_wp2_with fail
        go_region_held3 (fun w' => w'.cell? ⟨bb, off + k * 4 + 1, none⟩ = some (.int .i64 x.i) ∧ w'.cell? ⟨bb, off + k * 4 + 2, none⟩ = some (.int .u8 x.c.toNat)) ((go_split_ands; refine ⟨?_, ?_⟩ <;> first | assumption | exact keepB (by assumption) (by assumption) (Nat.le_refl _)))
          (first
            | (go_at_call 15; refine (sector_any x.c wr.drew).mono ?_; rintro e w6 ⟨rfl, b6⟩)
            | (go_at_call 14; refine (write_bad w.heap.size p Dk a b x.i (allC x.c) w6 ((HB.out.1.below (Below.refl _ wr).drew).below b6) h1).mono ?_; rintro e w7 ⟨rfl, b7⟩))
        have s6 : wr.heap.size ≤ w6.heap.size := b6.size
        have s7 := b7.size
        have b67 : Below wr.heap.size wr w7 := ((Below.refl _ wr).drew.trans b6).trans (b7.mono s6)
        have B7 := hide b67
        clear b6 b7 b67
        go_wp2_with fail
        obtain ⟨hT, hfo, hTw, ht, hbw, hok⟩ := HB.out
        go_roundw
        case rel => exact ⟨k + 1, by omega, by simp, by rw [hps], ⟨a, b, by rw [hps]; exact hT.below B7.out, hfo⟩, hTw.below B7.out, by rw [hps]; exact (B7.out.block _ (by omega)).trans ht, hbw.trans (B7.out.mono (by omega)), by omega⟩
        case measure => simp [intOf]; omega
    · obtain rfl : k = min es.length 40 := by omega
      obtain ⟨Dn, hDn⟩ : ∃ Dn, lastD D1 es (min es.length 40) = Dn := ⟨_, rfl⟩
      rw [hDn] at hT ht hok hfew hlas ⊢
      have HP := hide (pending_any w.heap.size p Dn a b wr hT)
      have HC := hide (crash_any w.heap.size p Dn a b sa bs sc wr hT hok hbw.size (HM.out.2.below hbw))
      have HB := hide (And.intro hT (And.intro hfo (And.intro hTw (And.intro ht (And.intro hbw hok)))))
      have hgl := hbw.size
      clear hT hfo hTw ht hbw hok
      have hl2 : (¬ (((min es.length 40 : Nat) : Int) < es.length)) ∨ (((min es.length 40 : Nat) : Int) < es.length ∧ ¬ (((min es.length 40 : Nat) : Int) < 40)) := by omega
      obtain ⟨kk, hkk⟩ : ∃ kk, min es.length 40 = kk := ⟨_, rfl⟩
      rw [hkk] at hl2 ⊢
      rcases hl2 with l1 | ⟨l1, l2⟩
      all_goals
        go_wp2_with (first | (go_at_call 16; refine HP.out.mono ?_; rintro e w' ⟨rfl, hw'⟩; rw [hw']; clear hw') | (go_at_call 17; refine HC.out.mono ?_; rintro e w8 ⟨rfl, t8⟩; have H8 := hide t8; clear t8; refine stopHere ?_))
        unfold Hid
        have s8 := toD_size H8.out
        have hF8 := toD_frees H8.out
        obtain ⟨a8, b8, d8, _, _⟩ := H8.out
        have HP8 := hide (pending_any w.heap.size p _ a8 b8 w8 d8)
        obtain ⟨hT, hfo, hTw, ht, hbw, hok⟩ := HB.out
        have ht8 : w8.heap[w4.heap.size]? = some (.cells (boolA (touchAt Dn.wr (svOf bs) Dn.wr.length)) 34) := (hF8.same _ (by omega) (fun hf => by rcases hfo _ hf with h | h <;> omega)).trans ht
        have hTw8 : IsD w.heap.size pw D1 wl ww w8 := hTw.apart hF8 (fun j hj hf => by
          have := HW.out.1 j hj
          rcases hfo _ hf with h | h <;> omega)
        have K8 := hide (And.intro d8 (And.intro hTw8 (And.intro ht8 (And.intro (hbw.trans hF8.below) hok))))
        clear hT hfo hTw ht hbw hok d8 hTw8 ht8 hF8
        go_wp2_with (first | (go_at_call 16; refine HP8.out.mono ?_; rintro e w' ⟨rfl, hw'⟩; rw [hw', show (((settled Dn (svOf bs)).wr.length : Nat) : Int) = 0 from rfl]; clear hw'))
        go_loopw [14] (fun j wr => ∃ k : Nat, k ≤ 8 ∧ j = .int .i64 k ∧ Below w8.heap.size w8 wr) (fun j _ => 8 - (intOf j).toNat)
        case atStart => exact ⟨0, Nat.zero_le _, rfl, Below.refl _ _⟩
        case round =>
          obtain ⟨k, hk, rfl, hbr⟩ := hrel
          have hw9 : IntKind.i64.wrap ((k : Int) + 1) = k + 1 := by rw [IntKind.wrap_i64]; omega
          rename World => wr2
          have sr := hbr.size
          by_cases hlt : k < 8
          · have k8 : (k : Int) < 8 := by omega
            have hr1 := read_any w.heap.size pw D1 wl ww k wr2 (K8.out.2.1.below hbr) HO1.out.1 (by rw [HO1.out.2.1]; exact hlt)
            obtain ⟨s1, hs1⟩ : ∃ s1, readS D1 k = s1 := ⟨_, rfl⟩
            obtain ⟨s2, hs2⟩ : ∃ s2, readS (settled Dn (svOf bs)) k = s2 := ⟨_, rfl⟩
            rw [hs1] at hr1
            have h641 : s1.length = 64 := hs1 ▸ readAt_len D1 HO1.out.1 k _
            have h642 : s2.length = 64 := hs2 ▸ readAt_len _ (settled_ok K8.out.2.2.2.2 _) k _
            have hl8 : k < (settled Dn (svOf bs)).las.length := by show k < (landAt Dn _ _).length; rw [landAt_len, hlas, HO1.out.2.1]; exact hlt
            obtain ⟨tv, htv⟩ : ∃ tv, (touchAt Dn.wr (svOf bs) Dn.wr.length)[k]? = some tv := ⟨_, List.getElem?_eq_getElem (by rw [touchAt_len]; exact hlt)⟩
            have hsame : tv = false → s1 = s2 := fun e => by
              rw [e] at htv
              have h1 := touch_keep Dn (svOf bs) k _ htv
              rw [← hs1, ← hs2, readS_settled, ← hD1, readS_settled, List.getD_eq_getElem?_getD, List.getD_eq_getElem?_getD, h1, hlas, ← hD1]
              rfl
            have HR1 := hide hr1
            have HB2 := hide hbr
            clear hr1 hbr
            go_wp2_with (go_at_call 18; refine HR1.out.mono ?_; rintro e x2 ⟨rfl, b2⟩; have B2 := hide b2; clear b2; refine stopHere ?_)
            unfold Hid
            have q2 : wr2.heap.size ≤ x2.heap.size := B2.out.size
            obtain ⟨X3, hX3⟩ : ∃ X3, x2.alloc (.cells (secA s1) 39) = X3 := ⟨_, rfl⟩
            have hst2 : (Instr.storeAt 39 (.pointer (some ⟨x2.heap.size, 0, none⟩)) (.agg (secA s1))).run Try.prog (x2.alloc (.cells (Lib.byteCells sec0).toArray 39)) = .ok () X3 := (run_store_new (P := Try.prog) infoSecD x2 (cs := secA s1) (c := secA sec0) (by rw [secA_size, h641]) rfl (secA_one s1)).trans (by rw [hX3])
            have b3 : Below x2.heap.size x2 X3 := by rw [← hX3]; exact (Below.refl _ x2).alloc (Nat.le_refl _) _
            have z3 : X3.heap.size = x2.heap.size + 1 := by rw [← hX3]; simp
            have f3 : X3.heap[x2.heap.size]? = some (.cells (secA s1) 39) := by rw [← hX3]; exact World.alloc_heap_new x2 _
            have hB3 : Below w8.heap.size w8 X3 := HB2.out.trans ((B2.out.mono (by omega)).trans (b3.mono (by omega)))
            have hr2 := read_any w.heap.size p (settled Dn (svOf bs)) a8 b8 k X3 (K8.out.1.below hB3) (settled_ok K8.out.2.2.2.2 _) hl8
            rw [hs2] at hr2
            have HR2 := hide hr2
            have H3 := hide (And.intro f3 hB3)
            have HS2 := hide hst2
            clear b3 f3 hst2 hX3 B2 hr2 hB3
            go_wp2_with (first | (refine l_alloc _ infoSecD rfl rfl ?_) | (refine l_store _ HS2.out rfl rfl rfl rfl ?_; refine stopHere ?_))
            unfold Hid
            go_wp2_with (go_at_call 18; refine HR2.out.mono ?_; rintro e x4 ⟨rfl, b4⟩; have B4 := hide b4; clear b4; refine stopHere ?_)
            unfold Hid
            have q4 : X3.heap.size ≤ x4.heap.size := B4.out.size
            obtain ⟨X5, hX5⟩ : ∃ X5, x4.alloc (.cells (secA s2) 39) = X5 := ⟨_, rfl⟩
            have hst4 : (Instr.storeAt 39 (.pointer (some ⟨x4.heap.size, 0, none⟩)) (.agg (secA s2))).run Try.prog (x4.alloc (.cells (Lib.byteCells sec0).toArray 39)) = .ok () X5 := (run_store_new (P := Try.prog) infoSecD x4 (cs := secA s2) (c := secA sec0) (by rw [secA_size, h642]) rfl (secA_one s2)).trans (by rw [hX5])
            have b5 : Below x4.heap.size x4 X5 := by rw [← hX5]; exact (Below.refl _ x4).alloc (Nat.le_refl _) _
            have f5 : X5.heap[x4.heap.size]? = some (.cells (secA s2) 39) := by rw [← hX5]; exact World.alloc_heap_new x4 _
            have g5 : X5.heap[x2.heap.size]? = some (.cells (secA s1) 39) := (b5.block _ (by omega)).trans ((B4.out.block _ (by omega)).trans H3.out.1)
            have hB5 : Below w8.heap.size w8 X5 := H3.out.2.trans ((B4.out.mono (by omega)).trans (b5.mono (by omega)))
            have ht5 := (hB5.block _ (hp_lt K8.out.2.2.1)).trans K8.out.2.2.1
            obtain ⟨m1, _⟩ := boolA_cell ht5 htv
            have hl1 := run_load_row (P := Try.prog) (w := X5) (cs := secA s1) (g := x2.heap.size) (ty' := 39) infoSecD undSecD rfl (by rw [secA_size, h641]) g5
            have hl2' := run_load_row (P := Try.prog) (w := X5) (cs := secA s2) (g := x4.heap.size) (ty' := 39) infoSecD undSecD rfl (by rw [secA_size, h642]) f5
            have H5b := hide hB5
            have HS4 := hide hst4
            have HL1 := hide hl1
            have HL2 := hide hl2'
            clear b5 f5 g5 hst4 hX5 B4 hl1 hl2' hB5 ht5
            cases tv with
            | true =>
              go_wp2_with (first | (refine l_alloc _ infoSecD rfl rfl ?_) | (refine l_store _ HS4.out rfl rfl rfl rfl ?_; refine stopHere ?_))
              unfold Hid
              go_wp2_with fail
              go_roundw
              case rel => exact ⟨k + 1, by omega, by simp, H5b.out⟩
              case measure => simp [intOf]; omega
            | false =>
              obtain rfl := hsame rfl
              have hneq := sec_neq (T := 39) undSecD s1 s1 h641 h641
              simp only [decide_true, Bool.not_true] at hneq
              go_wp2_with (first | (refine l_alloc _ infoSecD rfl rfl ?_) | (refine l_store _ HS4.out rfl rfl rfl rfl ?_; refine stopHere ?_))
              unfold Hid
              go_wp2_with (first | (refine g_val rfl _ (ex_load rfl rfl HL1.out) ?_) | (refine g_val rfl _ (ex_load rfl rfl HL2.out) ?_))
              go_roundw
              case rel => exact ⟨k + 1, by omega, by simp, H5b.out⟩
              case measure => simp [intOf]; omega
          · obtain rfl : k = 8 := by omega
            have HB2 := hide hbr
            clear hbr
            go_wp2_with fail
            go_ret
            exact ⟨rfl, K8.out.2.2.2.1.trans (HB2.out.mono (by omega))⟩
end Go.Proofs.Ytdlejcdmjdljfaa
