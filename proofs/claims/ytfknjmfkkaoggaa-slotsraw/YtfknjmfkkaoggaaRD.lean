/- The document's device: Read. The document's device: what survives is let last. The document's device: Write, Sync, Crash. The document's device: what is refused; Sync, Crash. The document's device: Fork. -/
import Derived.Test.YtfknjmfkkaoggaaSC
namespace Go.Proofs.Ytfknjmfkkaoggaa
open Go.RowKit Go.Shelf

theorem rwr_cells {w : World} {b o : Nat} {x : Nat × Sec} (h : w.rangeAt b o (wrC1 x)) (h64 : x.2.length = 64) : w.cell? ⟨b, o, none⟩ = some (.int .i64 x.1) ∧ (Instr.loadAt 61 (.pointer (some ⟨b, o + 1, none⟩))).run Try.prog w = .ok (.agg (secA x.2)) w := by
  refine ⟨by have := h 0 (.int .i64 x.1) (by simp [wrC1]); simpa using this, ?_⟩
  refine run_loadAt_mid w b (o + 1) _ _ _ (fun j v hv => ?_) undSecR rfl (by rw [byteCells_len, h64]; exact info_size infoSecR)
  have := h (j + 1) v (by simpa [wrC1] using hv)
  rw [← this]
  congr 2
  omega
theorem rread_bad (base p : Nat) (d : Dv) (vl vw : Value) (i : Int) (w : World) (h : IsR base p d vl vw w) (hi : wrongI d.las.length i = 2) :
    Calls Try.prog 39 #[.pointer (some ⟨p, 0, none⟩), .int .i64 i] w fun e w' => e = .returned (.tuple #[.agg (secA sec0), .int .i64 2]) ∧ Below w.heap.size w w' := by
  obtain ⟨W1, hW1⟩ : ∃ W1, w.alloc (.cells (secA sec0) 61) = W1 := ⟨_, rfl⟩
  have f1 : W1.heap[w.heap.size]? = some (.cells (secA sec0) 61) := by rw [← hW1]; exact World.alloc_heap_new w _
  have hB1 : Below w.heap.size w W1 := by rw [← hW1]; exact (Below.refl _ w).alloc (Nat.le_refl _) _
  have hD1 := h.below hB1
  obtain ⟨q0, _⟩ := hD1.cells
  obtain ⟨ga, gc, rfl⟩ := own_shape hD1.las
  obtain ⟨W2, s1, s2, s3, s4, s5⟩ := run_store_sec (s' := sec0) infoSecR f1 rfl rfl
  have HS := hide s1
  have HF := hide (And.intro s2 (hB1.trans s5))
  clear h f1 s1 s2 s3 s4 s5 hB1 hD1
  unfold wrongI at hi
  by_cases h1 : i < 0
  · clear hi
    go_enter Try.func39, Try.ntmps39
    go_wp2_with (first | (refine l_alloc _ infoSecR rfl rfl ?_; rw [show (Lib.byteCells sec0).toArray = secA sec0 from rfl, hW1]) | (refine l_val rfl (.agg (secA sec0)) (by kernel_rfl) ?_) | (refine l_store _ HS.out rfl rfl rfl rfl ?_))
    exact bodyPost_ret (results_sec rfl infoSecR undSecR rfl rfl rfl rfl HF.out.1) rfl ⟨rfl, HF.out.2⟩
  · have h2 : (d.las.length : Int) ≤ i := by
      by_cases h2 : (d.las.length : Int) ≤ i
      · exact h2
      · rw [if_neg (by omega)] at hi
        omega
    clear hi
    go_enter Try.func39, Try.ntmps39
    go_wp2_with (first | (refine l_alloc _ infoSecR rfl rfl ?_; rw [show (Lib.byteCells sec0).toArray = secA sec0 from rfl, hW1]) | (refine l_val rfl (.agg (secA sec0)) (by kernel_rfl) ?_) | (refine l_store _ HS.out rfl rfl rfl rfl ?_))
    exact bodyPost_ret (results_sec rfl infoSecR undSecR rfl rfl rfl rfl HF.out.1) rfl ⟨rfl, HF.out.2⟩

set_option maxRecDepth 100000 in
set_option maxHeartbeats 2000000 in
theorem rread_any (base p : Nat) (d : Dv) (vl vw : Value) (i : Nat) (w : World) (h : IsR base p d vl vw w) (hd : DvOk d) (hi : i < d.las.length) :
    Calls Try.prog 39 #[.pointer (some ⟨p, 0, none⟩), .int .i64 i] w fun e w' => e = .returned (.tuple #[.agg (secA (readS d i)), .int .i64 0]) ∧ Below w.heap.size w w' := by
  obtain ⟨s, hs⟩ : ∃ s, d.las[i]? = some s := ⟨d.las[i], by simp [hi]⟩
  have h64 := hd.las s (List.mem_of_getElem? hs)
  obtain ⟨W1, hW1⟩ : ∃ W1, w.alloc (.cells (secA sec0) 61) = W1 := ⟨_, rfl⟩
  have z1 : W1.heap.size = w.heap.size + 1 := by rw [← hW1]; simp
  have f1 : W1.heap[w.heap.size]? = some (.cells (secA sec0) 61) := by rw [← hW1]; exact World.alloc_heap_new w _
  have hB1 : Below w.heap.size w W1 := by rw [← hW1]; exact (Below.refl _ w).alloc (Nat.le_refl _) _
  have hD1 := h.below hB1
  obtain ⟨q0, q1, _⟩ := hD1.cells
  obtain ⟨g, gc, rfl, hgc, hra, _⟩ := hD1.sec hd hs
  obtain ⟨ga2, gc2, rfl⟩ := own_shape hD1.wr
  have hmo := hd.most
  have hfew := hd.few
  have h0 : ¬ ((i : Int) < 0) := by omega
  have h2 : ¬ ((d.las.length : Int) ≤ i) := by omega
  have hl1 : (Instr.loadAt 61 (.pointer (some ⟨g, i * 64, none⟩))).run Try.prog W1 = .ok (.agg (secA s)) W1 := run_loadAt_mid W1 g (i * 64) _ _ _ hra undSecR rfl (by rw [byteCells_len, h64]; exact info_size infoSecR)
  have hst := run_store_new (P := Try.prog) infoSecR W1 (cs := secA s) (c := secA sec0) (by rw [secA_size, h64]) rfl (secA_one s)
  obtain ⟨W2, hW2⟩ : ∃ W2, W1.alloc (.cells (secA s) 61) = W2 := ⟨_, rfl⟩
  rw [hW2, z1] at hst
  have hB2 : Below w.heap.size w W2 := by rw [← hW2]; exact hB1.alloc (by omega) _
  have f2 : W2.heap[w.heap.size + 1]? = some (.cells (secA s) 61) := by rw [← hW2, ← z1]; exact World.alloc_heap_new W1 _
  have g1 : W2.heap[w.heap.size]? = some (.cells (secA sec0) 61) := by rw [← hW2]; exact (Below.heap_alloc _ _ _ (by omega)).trans f1
  have HL := hide hl1
  have HS := hide hst
  have HH := hide (And.intro h (And.intro hd (And.intro hB2 (And.intro f2 (And.intro g1 hs)))))
  clear h hd hB1 hD1 f1 hra hl1 hst hB2 f2 g1 hs
  go_enter Try.func39, Try.ntmps39
  go_wp2_with (first | (refine l_alloc (w := w) _ infoSecR rfl rfl ?_; rw [show (Lib.byteCells sec0).toArray = secA sec0 from rfl, hW1]) | (refine l_load _ HL.out rfl rfl rfl ?_; refine stopHere ?_))
  unfold Hid
  refine l_alloc _ infoSecR rfl rfl ?_
  rw [show (Lib.byteCells sec0).toArray = secA sec0 from rfl, z1]
  refine l_store _ HS.out rfl rfl rfl rfl ?_
  go_wp2_with fail
  obtain ⟨h, hd, hB2, f2, g1, hs⟩ := HH.out
  go_loopw [7] (fun j wr => ∃ k : Nat, k ≤ d.wr.length ∧ j = .int .i64 k ∧ wr.heap[w.heap.size + 1]? = some (.cells (secA (readAt d i k)) 61) ∧ wr.heap[w.heap.size]? = some (.cells (secA sec0) 61) ∧ Below w.heap.size w wr) (fun j _ => d.wr.length - (intOf j).toNat)
  case atStart => exact ⟨0, Nat.zero_le _, rfl, by have : readAt d i 0 = s := (by simp [readAt, List.getD_eq_getElem?_getD, hs]); rw [this]; exact f2, g1, hB2⟩
  case round =>
    obtain ⟨k, hk, rfl, e1, e0, hbw⟩ := hrel
    have hDr := h.below hbw
    obtain ⟨_, r1, _⟩ := hDr.cells
    have hkb : (k : Int) ≤ 1000000 := by omega
    have hw1 : IntKind.i64.wrap ((k : Int) + 1) = k + 1 := by rw [IntKind.wrap_i64]; omega
    by_cases hlt : k < d.wr.length
    · obtain ⟨x, hx⟩ : ∃ x, d.wr[k]? = some x := ⟨d.wr[k], by simp [hlt]⟩
      obtain ⟨g2, gcx, hv, hg2, hr, _⟩ := hDr.wrAt hd hx
      cases hv
      have hx2 := (hd.wr x (List.mem_of_getElem? hx)).2
      obtain ⟨b0, b1⟩ := rwr_cells hr hx2
      have hsu := readAt_succ d i k x hx
      have hra := readAt_len d hd i k
      obtain ⟨W3, s1, s2, s3, s4, s5⟩ := run_store_sec (s' := x.2) infoSecR e1 hra hx2
      have HB := hide b1
      have HS := hide s1
      have HE := hide (And.intro e1 (And.intro e0 (And.intro hbw (And.intro s2 (And.intro s3 s5)))))
      clear b1 s1 e1 e0 hbw s2 s3 s4 s5 hDr hr h hd hB2 f2 g1 HH HL hs
      by_cases he : x.1 = i
      · have he' : ((x.1 : Int) == (i : Int)) = true := by simp [he]
        rw [if_pos he] at hsu
        go_wp2_with (first | (refine l_load _ HB.out rfl rfl rfl ?_) | (refine l_store _ HS.out rfl rfl rfl rfl ?_; refine stopHere ?_))
        unfold Hid
        go_wp2_with fail
        obtain ⟨e1, e0, hbw, s2, s3, s5⟩ := HE.out
        go_roundw
        case rel => exact ⟨k + 1, by omega, by simp, by rw [hsu]; exact s2, (s3 _ (by omega)).trans e0, hbw.trans (s5.mono (by omega))⟩
        case measure => simp [intOf]; omega
      · have he' : ((x.1 : Int) == (i : Int)) = false := by rw [beq_eq_false_iff_ne]; omega
        rw [if_neg he] at hsu
        go_wp2_with fail
        obtain ⟨e1, e0, hbw, s2, s3, s5⟩ := HE.out
        go_roundw
        case rel => exact ⟨k + 1, by omega, by simp, by rw [hsu]; exact e1, e0, hbw⟩
        case measure => simp [intOf]; omega
    · obtain rfl : k = d.wr.length := by omega
      have hra := readAt_len d hd i d.wr.length
      have hlo := run_load_row (P := Try.prog) (w := wr) (cs := secA (readAt d i d.wr.length)) (g := w.heap.size + 1) (ty' := 61) infoSecR undSecR rfl (by rw [secA_size, hra]) e1
      obtain ⟨W3, s1, s2, s3, s4, s5⟩ := run_store_sec (s' := readAt d i d.wr.length) infoSecR e0 rfl hra
      have HL2 := hide hlo
      have HS2 := hide s1
      have HE := hide (And.intro s2 (hbw.trans s5))
      clear hlo s1 s2 s3 s4 s5 e1 e0 hbw hDr h hd hB2 f2 g1 HH HL HS hs
      go_wp2_with (first | (refine l_load _ HL2.out rfl rfl rfl ?_) | (refine l_store _ HS2.out rfl rfl rfl rfl ?_; refine stopHere ?_))
      unfold Hid
      go_wp2_with fail
      exact bodyPost_ret (results_sec rfl infoSecR undSecR rfl rfl rfl hra HE.out.1) rfl ⟨rfl, HE.out.2⟩
end Go.Proofs.Ytfknjmfkkaoggaa
namespace Go.Proofs.Ytfknjmfkkaoggaa
open Go.RowKit Go.Shelf

set_option maxRecDepth 100000 in
set_option maxHeartbeats 2000000 in
theorem rland_all (base p : Nat) (d : Dv) (vl vw : Value) (ao : Option Addr) (bs : List Bool) (cap : Nat) (w : World) (h : IsR base p d vl vw w) (hd : DvOk d) (hb : base ≤ w.heap.size) (hm : BoolMem base w ao bs) :
    Calls Try.prog 78 #[.pointer (some ⟨p, 0, none⟩), .slice ao bs.length cap, .bool true] w fun e w' => (∃ v, e = .returned v) ∧ ToR base p vl vw (settled d (fun _ => true)) w w' := by
  obtain ⟨W, hW⟩ : ∃ W, w.alloc (.cells #[] 61) = W := ⟨_, rfl⟩
  have hB : Below w.heap.size w W := by rw [← hW]; exact (Below.refl _ w).alloc (Nat.le_refl _) _
  have hz : W.heap.size = w.heap.size + 1 := by rw [← hW]; simp
  have hv := own_empty w w.heap.size 61 64 (Nat.le_refl _)
  rw [hW] at hv
  have hDW := h.below hB
  obtain ⟨q0, q1, _⟩ := hDW.cells
  have hfew := hd.few
  have hmost := hd.most
  have hpos := hd.pos
  obtain ⟨g0, gc0, rfl⟩ := own_shape hDW.las
  obtain ⟨v1, w1, hap, y1, y2⟩ := copied (T := 92) (t := 92) (w := w) Try.underlying92 infoSecR (by simp [Value.cells, byteCells_len, sec0]) (by omega) (by omega) hDW.las (by omega) (las_one d.las) w.heap.size hB.size hv (by omega) hB rfl
  obtain ⟨g1, c1, rfl⟩ : ∃ g1 c1, v1 = .slice (some ⟨g1, 0, none⟩) d.las.length c1 := by
    obtain ⟨_, ⟨_, h3⟩ | ⟨g, cap, cur, h2, _⟩⟩ := id y1
    · omega
    · exact ⟨g, cap, h2⟩
  have hg1 : w.heap.size ≤ g1 := own_base y1 g1 rfl
  have hc1 : d.las.length ≤ c1 := by
    obtain ⟨_, ⟨h2, _⟩ | ⟨g, cap, cur, h2, _, _, h3, _⟩⟩ := id y1
    · cases h2
    · cases h2; exact h3
  have HA := hide hap
  have HY := hide (And.intro y1 y2)
  have HH := hide (And.intro h (And.intro hd hm))
  clear h hd hap y1 y2 hv hB hDW hm
  go_enter Try.func78, Try.ntmps78
  go_wp2_with (first | (refine l_val rfl _ (ex_slice (us := #[]) rfl rfl (run_none Try.underlying92 infoSecR w)) ?_; rw [hW]) | (at_builtin; refine stopHere ?_))
  unfold Hid
  refine l_val rfl _ (ex_append (t := 92) rfl rfl rfl HA.out) ?_
  go_wp2_with fail
  go_loopw [7] (fun j wr => ∃ k : Nat, k ≤ d.wr.length ∧ j = .int .i64 k ∧ wr.ownsRow w.heap.size 61 64 (.slice (some ⟨g1, 0, none⟩) d.las.length c1) d.las.length (lasC (landAt d (fun _ => true) k)) ∧ Below w.heap.size w wr) (fun j _ => d.wr.length - (intOf j).toNat)
  case atStart => exact ⟨0, Nat.zero_le _, rfl, HY.out.1, HY.out.2⟩
  case round =>
    obtain ⟨k, hk, rfl, hrow, hbw⟩ := hrel
    have hDr := HH.out.1.below hbw
    obtain ⟨_, r1, _, rf⟩ := hDr.cells
    have r0 := hDr.cells.1
    have rf0 := hDr.cells.2.2.1
    obtain ⟨ga2, gc2, rfl⟩ := own_shape hDr.wr
    have hw1 : IntKind.i64.wrap ((k : Int) + 1) = k + 1 := by rw [IntKind.wrap_i64]; omega
    by_cases hlt : k < d.wr.length
    · obtain ⟨x, hx⟩ : ∃ x, d.wr[k]? = some x := ⟨d.wr[k], by simp [hlt]⟩
      obtain ⟨g2, gcx, hv, hg2, hr, _⟩ := hDr.wrAt HH.out.2.1 hx
      cases hv
      obtain ⟨hx1, hx2⟩ := HH.out.2.1.wr x (List.mem_of_getElem? hx)
      obtain ⟨b0, _⟩ := rwr_cells hr hx2
      have hsu := landAt_succ (sv := (fun _ => true)) hx
      have hrg : wr.rangeAt g2 (k * 65 + 1) (Lib.byteCells x.2) := fun j v hv => by
        have := hr (j + 1) v (by simpa [wrC1] using hv)
        rw [← this]
        congr 2
        omega
      obtain ⟨s0, hs0⟩ : ∃ s0, (landAt d (fun _ => true) k)[x.1]? = some s0 := ⟨_, List.getElem?_eq_getElem (by rw [landAt_len]; exact hx1)⟩
      have hs64 := landAt_ok HH.out.2.1 (fun _ => true) k s0 (List.mem_of_getElem? hs0)
      obtain ⟨gx, gcx, hvx, _, hra, hfz⟩ := own_range hrow (flat_at _ 64 _ (fun s hs => (byteCells_len s).trans (landAt_ok HH.out.2.1 (fun _ => true) k s hs)) x.1 s0 hs0) hpos
      cases hvx
      have hth : wr.there g1 (x.1 * 64) 64 := fun j hj => ⟨hra.isSome j (by rw [byteCells_len, hs64]; exact hj), hfz _⟩
      have hpl : p < w.heap.size := (Array.getElem?_eq_some_iff.1 HH.out.1.here).1
      have hgl : g2 < w.heap.size := own_lt HH.out.1.wr g2 rfl
      have HRG := hide hrg
      have HTH := hide hth
      have HE := hide (And.intro hrow hbw)
      have hkb : (k : Int) ≤ 1000000 := by omega
      clear hrow hbw hDr hr hrg hth hra hfz hs0
      rw [if_pos rfl] at hsu
      go_wp2_with fail
      have hu53 := undSecR
      have hi53 : (Try.prog.info? 61).map (·.size) = some (Lib.byteCells x.2).length := by rw [byteCells_len, hx2]; exact info_size infoSecR
      have hbl : (Lib.byteCells x.2).length = 64 := (byteCells_len x.2).trans hx2
      have hone := one_bytes x.2
      have hth : wr.there g1 (x.1 * 64) 64 := HTH.out
      have hrg : wr.rangeAt g2 (k * 65 + 1) (Lib.byteCells x.2) := HRG.out
      go_region_held3 (fun w' => w'.cell? ⟨p, 1, none⟩ = some (.slice (some ⟨g2, 0, none⟩) d.wr.length gc2) ∧ w'.cell? ⟨g2, k * 65, none⟩ = some (.int .i64 x.1) ∧ w'.rangeAt g2 (k * 65 + 1) (Lib.byteCells x.2) ∧ w'.there g1 (x.1 * 64) 64) ((go_split_ands; refine ⟨?_, ?_, ?_, ?_⟩ <;> first | assumption | exact kc_set (by assumption) (by omega) | exact kr_set (by assumption) (by omega) | (apply World.there_setCells; assumption)))
        (fail)
      go_wp2_with fail
      obtain ⟨hrow, hbw⟩ := HE.out
      go_roundw
      case rel => exact ⟨k + 1, by omega, by simp, by rw [hsu]; exact own_setSec (i := x.1) (s := x.2) hrow.drew (landAt_len d _ k) (landAt_ok HH.out.2.1 _ k) hx1 hx2, hbw.drew.trans (below_setC hg1 _ _ _)⟩
      case measure => simp [intOf]; omega

    · obtain rfl : k = d.wr.length := by omega
      have HE := hide (And.intro hrow (And.intro hbw hDr))
      clear hrow hbw hDr
      go_wp2_with fail
      obtain ⟨hrow, hbw, hDr⟩ := HE.out
      obtain ⟨h, hd, _⟩ := HH.out
      have hpl : p < w.heap.size := (Array.getElem?_eq_some_iff.1 h.here).1
      have hne : g1 ≠ p := by omega
      go_end0
      refine ⟨⟨_, rfl⟩, .slice (some ⟨g1, 0, none⟩) d.las.length c1, .slice none 0 0, ⟨h.low, ?_, ?_, World.ownsRow_nil _ _ _ _⟩, ⟨?_, fun j hj hn => ?_⟩, fun j hj => ?_⟩
      · have k1 := heap_setCell_same _ p 0 _ _ (.slice (some ⟨g1, 0, none⟩) d.las.length c1) hDr.here
        exact heap_setCell_same _ p 1 _ _ (.slice none 0 0) k1
      · have h1 : (settled d (fun _ => true)).las.length = d.las.length := landAt_len d _ _
        rw [h1]
        exact own_less (own_same hrow (fun g e => by cases e; exact (Below.heap_setCell _ _ _ _ hne).trans (Below.heap_setCell _ _ _ _ hne))) hb
      · exact ((hbw.mono hb).setCell (p := ⟨p, 0, none⟩) h.low _).setCell (p := ⟨p, 1, none⟩) h.low _
      · have hjp : j ≠ p := fun e => hn (.inl e)
        exact (Below.heap_setCell _ _ _ _ hjp).trans ((Below.heap_setCell _ _ _ _ hjp).trans (hbw.block j hj))
      · rcases hj with h1 | h1 | h1
        · exact .inl (.inl h1)
        · cases h1
          exact .inr hg1
        · cases h1
set_option maxRecDepth 100000 in
set_option maxHeartbeats 2000000 in
theorem rland_some (base p : Nat) (d : Dv) (vl vw : Value) (ao : Option Addr) (bs : List Bool) (cap : Nat) (w : World) (h : IsR base p d vl vw w) (hd : DvOk d) (hb : base ≤ w.heap.size) (hm : BoolMem base w ao bs) :
    Calls Try.prog 78 #[.pointer (some ⟨p, 0, none⟩), .slice ao bs.length cap, .bool false] w fun e w' => (∃ v, e = .returned v) ∧ ToR base p vl vw (settled d (svOf bs)) w w' := by
  obtain ⟨W, hW⟩ : ∃ W, w.alloc (.cells #[] 61) = W := ⟨_, rfl⟩
  have hB : Below w.heap.size w W := by rw [← hW]; exact (Below.refl _ w).alloc (Nat.le_refl _) _
  have hz : W.heap.size = w.heap.size + 1 := by rw [← hW]; simp
  have hv := own_empty w w.heap.size 61 64 (Nat.le_refl _)
  rw [hW] at hv
  have hDW := h.below hB
  obtain ⟨q0, q1, _⟩ := hDW.cells
  have hfew := hd.few
  have hmost := hd.most
  have hpos := hd.pos
  obtain ⟨g0, gc0, rfl⟩ := own_shape hDW.las
  obtain ⟨v1, w1, hap, y1, y2⟩ := copied (T := 92) (t := 92) (w := w) Try.underlying92 infoSecR (by simp [Value.cells, byteCells_len, sec0]) (by omega) (by omega) hDW.las (by omega) (las_one d.las) w.heap.size hB.size hv (by omega) hB rfl
  obtain ⟨g1, c1, rfl⟩ : ∃ g1 c1, v1 = .slice (some ⟨g1, 0, none⟩) d.las.length c1 := by
    obtain ⟨_, ⟨_, h3⟩ | ⟨g, cap, cur, h2, _⟩⟩ := id y1
    · omega
    · exact ⟨g, cap, h2⟩
  have hg1 : w.heap.size ≤ g1 := own_base y1 g1 rfl
  have hc1 : d.las.length ≤ c1 := by
    obtain ⟨_, ⟨h2, _⟩ | ⟨g, cap, cur, h2, _, _, h3, _⟩⟩ := id y1
    · cases h2
    · cases h2; exact h3
  have HA := hide hap
  have HY := hide (And.intro y1 y2)
  have HH := hide (And.intro h (And.intro hd hm))
  clear h hd hap y1 y2 hv hB hDW hm
  go_enter Try.func78, Try.ntmps78
  go_wp2_with (first | (refine l_val rfl _ (ex_slice (us := #[]) rfl rfl (run_none Try.underlying92 infoSecR w)) ?_; rw [hW]) | (at_builtin; refine stopHere ?_))
  unfold Hid
  refine l_val rfl _ (ex_append (t := 92) rfl rfl rfl HA.out) ?_
  go_wp2_with fail
  go_loopw [7] (fun j wr => ∃ k : Nat, k ≤ d.wr.length ∧ j = .int .i64 k ∧ wr.ownsRow w.heap.size 61 64 (.slice (some ⟨g1, 0, none⟩) d.las.length c1) d.las.length (lasC (landAt d (svOf bs) k)) ∧ Below w.heap.size w wr) (fun j _ => d.wr.length - (intOf j).toNat)
  case atStart => exact ⟨0, Nat.zero_le _, rfl, HY.out.1, HY.out.2⟩
  case round =>
    obtain ⟨k, hk, rfl, hrow, hbw⟩ := hrel
    have hDr := HH.out.1.below hbw
    obtain ⟨_, r1, _, rf⟩ := hDr.cells
    have r0 := hDr.cells.1
    have rf0 := hDr.cells.2.2.1
    obtain ⟨ga2, gc2, rfl⟩ := own_shape hDr.wr
    have hw1 : IntKind.i64.wrap ((k : Int) + 1) = k + 1 := by rw [IntKind.wrap_i64]; omega
    by_cases hlt : k < d.wr.length
    · obtain ⟨x, hx⟩ : ∃ x, d.wr[k]? = some x := ⟨d.wr[k], by simp [hlt]⟩
      obtain ⟨g2, gcx, hv, hg2, hr, _⟩ := hDr.wrAt HH.out.2.1 hx
      cases hv
      obtain ⟨hx1, hx2⟩ := HH.out.2.1.wr x (List.mem_of_getElem? hx)
      obtain ⟨b0, _⟩ := rwr_cells hr hx2
      have hsu := landAt_succ (sv := (svOf bs)) hx
      have hrg : wr.rangeAt g2 (k * 65 + 1) (Lib.byteCells x.2) := fun j v hv => by
        have := hr (j + 1) v (by simpa [wrC1] using hv)
        rw [← this]
        congr 2
        omega
      obtain ⟨s0, hs0⟩ : ∃ s0, (landAt d (svOf bs) k)[x.1]? = some s0 := ⟨_, List.getElem?_eq_getElem (by rw [landAt_len]; exact hx1)⟩
      have hs64 := landAt_ok HH.out.2.1 (svOf bs) k s0 (List.mem_of_getElem? hs0)
      obtain ⟨gx, gcx, hvx, _, hra, hfz⟩ := own_range hrow (flat_at _ 64 _ (fun s hs => (byteCells_len s).trans (landAt_ok HH.out.2.1 (svOf bs) k s hs)) x.1 s0 hs0) hpos
      cases hvx
      have hth : wr.there g1 (x.1 * 64) 64 := fun j hj => ⟨hra.isSome j (by rw [byteCells_len, hs64]; exact hj), hfz _⟩
      have hpl : p < w.heap.size := (Array.getElem?_eq_some_iff.1 HH.out.1.here).1
      have hgl : g2 < w.heap.size := own_lt HH.out.1.wr g2 rfl
      have HRG := hide hrg
      have HTH := hide hth
      have HE := hide (And.intro hrow hbw)
      have hkb : (k : Int) ≤ 1000000 := by omega
      clear hrow hbw hDr hr hrg hth hra hfz hs0
      by_cases hkl : k < bs.length
      · obtain ⟨v, hv⟩ : ∃ v, bs[k]? = some v := ⟨bs[k], by simp [hkl]⟩
        obtain ⟨b, off, rfl, hb0, hcell⟩ := HH.out.2.2.2 k v hv
        have hsv : svOf bs k = v := by simp [svOf, List.getD_eq_getElem?_getD, hv]
        have hl1 := HH.out.2.2.1
        have hcW : wr.cell? ⟨b, off + k, none⟩ = some (.bool v) := (HE.out.2.cell (p := ⟨b, off + k, none⟩) (Nat.lt_of_lt_of_le hb0 hb)).trans hcell
        cases v with
        | true =>
          rw [hsv, if_pos rfl] at hsu
          go_wp2_with fail
          have hu53 := undSecR
          have hi53 : (Try.prog.info? 61).map (·.size) = some (Lib.byteCells x.2).length := by rw [byteCells_len, hx2]; exact info_size infoSecR
          have hbl : (Lib.byteCells x.2).length = 64 := (byteCells_len x.2).trans hx2
          have hone := one_bytes x.2
          have hth : wr.there g1 (x.1 * 64) 64 := HTH.out
          have hrg : wr.rangeAt g2 (k * 65 + 1) (Lib.byteCells x.2) := HRG.out
          go_region_held3 (fun w' => w'.cell? ⟨p, 1, none⟩ = some (.slice (some ⟨g2, 0, none⟩) d.wr.length gc2) ∧ w'.cell? ⟨g2, k * 65, none⟩ = some (.int .i64 x.1) ∧ w'.rangeAt g2 (k * 65 + 1) (Lib.byteCells x.2) ∧ w'.there g1 (x.1 * 64) 64) ((go_split_ands; refine ⟨?_, ?_, ?_, ?_⟩ <;> first | assumption | exact kc_set (by assumption) (by omega) | exact kr_set (by assumption) (by omega) | (apply World.there_setCells; assumption)))
            (fail)
          go_wp2_with fail
          obtain ⟨hrow, hbw⟩ := HE.out
          go_roundw
          case rel => exact ⟨k + 1, by omega, by simp, by rw [hsu]; exact own_setSec (i := x.1) (s := x.2) hrow.drew (landAt_len d _ k) (landAt_ok HH.out.2.1 _ k) hx1 hx2, hbw.drew.trans (below_setC hg1 _ _ _)⟩
          case measure => simp [intOf]; omega

        | false =>
          rw [hsv, if_neg (by simp)] at hsu
          go_wp2_with fail
          obtain ⟨hrow, hbw⟩ := HE.out
          go_roundw
          case rel => exact ⟨k + 1, by omega, by simp, by rw [hsu]; exact hrow, hbw⟩
          case measure => simp [intOf]; omega
      · have hsv : svOf bs k = false := by simp [svOf, List.getD_eq_getElem?_getD, List.getElem?_eq_none (show bs.length ≤ k by omega)]
        have hkl' : ¬ ((k : Int) < bs.length) := by omega
        rw [hsv, if_neg (by simp)] at hsu
        go_wp2_with fail
        obtain ⟨hrow, hbw⟩ := HE.out
        go_roundw
        case rel => exact ⟨k + 1, by omega, by simp, by rw [hsu]; exact hrow, hbw⟩
        case measure => simp [intOf]; omega
    · obtain rfl : k = d.wr.length := by omega
      have HE := hide (And.intro hrow (And.intro hbw hDr))
      clear hrow hbw hDr
      go_wp2_with fail
      obtain ⟨hrow, hbw, hDr⟩ := HE.out
      obtain ⟨h, hd, _⟩ := HH.out
      have hpl : p < w.heap.size := (Array.getElem?_eq_some_iff.1 h.here).1
      have hne : g1 ≠ p := by omega
      go_end0
      refine ⟨⟨_, rfl⟩, .slice (some ⟨g1, 0, none⟩) d.las.length c1, .slice none 0 0, ⟨h.low, ?_, ?_, World.ownsRow_nil _ _ _ _⟩, ⟨?_, fun j hj hn => ?_⟩, fun j hj => ?_⟩
      · have k1 := heap_setCell_same _ p 0 _ _ (.slice (some ⟨g1, 0, none⟩) d.las.length c1) hDr.here
        exact heap_setCell_same _ p 1 _ _ (.slice none 0 0) k1
      · have h1 : (settled d (svOf bs)).las.length = d.las.length := landAt_len d _ _
        rw [h1]
        exact own_less (own_same hrow (fun g e => by cases e; exact (Below.heap_setCell _ _ _ _ hne).trans (Below.heap_setCell _ _ _ _ hne))) hb
      · exact ((hbw.mono hb).setCell (p := ⟨p, 0, none⟩) h.low _).setCell (p := ⟨p, 1, none⟩) h.low _
      · have hjp : j ≠ p := fun e => hn (.inl e)
        exact (Below.heap_setCell _ _ _ _ hjp).trans ((Below.heap_setCell _ _ _ _ hjp).trans (hbw.block j hj))
      · rcases hj with h1 | h1 | h1
        · exact .inl (.inl h1)
        · cases h1
          exact .inr hg1
        · cases h1
end Go.Proofs.Ytfknjmfkkaoggaa
namespace Go.Proofs.Ytfknjmfkkaoggaa
open Go.RowKit Go.Shelf

theorem stepE (k : Nat) (X : World) (hk : k ≤ X.heap.size) : ∃ Y : World, Y.ownsRow k 100 65 (.slice (some ⟨X.heap.size, 0, none⟩) 0 0) 0 [] ∧ (Instr.buildSlice 93 0 #[]).run Try.prog X = .ok (.slice (some ⟨X.heap.size, 0, none⟩) 0 0) Y ∧ (∀ j, j < X.heap.size → Y.heap[j]? = X.heap[j]?) ∧ Below X.heap.size X Y :=
  ⟨_, own_empty X k 100 65 hk, run_none Try.underlying93 infoWrR X, fun j hj => Below.heap_alloc X _ j hj, (Below.refl _ X).alloc (Nat.le_refl _) _⟩
theorem stepN (i : Nat) (s : Sec) (hs : s.length = 64) (X : World) : ∃ Y : World, Y.heap[X.heap.size]? = some (.cells (wrC1 (i, s)).toArray 100) ∧ (Instr.buildSlice 93 1 #[(0, .agg (wrC1 (i, s)).toArray)]).run Try.prog X = .ok (.slice (some ⟨X.heap.size, 0, none⟩) 1 1) Y ∧ (∀ j, j < X.heap.size → Y.heap[j]? = X.heap[j]?) ∧ Below X.heap.size X Y :=
  ⟨_, World.alloc_heap_new X _, run_one Try.underlying93 infoWrR (by simp [wrC1, byteCells_len, sec0]) (by omega) (by omega) (wrC1 (i, s)).toArray (by simp [wrC1, byteCells_len, hs]) X, fun j hj => Below.heap_alloc X _ j hj, (Below.refl _ X).alloc (Nat.le_refl _) _⟩
theorem stepV (base k bE : Nat) (d : Dv) (vw : Value) (X : World) (hr : X.ownsRow base 100 65 vw d.wr.length (wrC d.wr)) (hd : DvOk d) (hE : X.ownsRow k 100 65 (.slice (some ⟨bE, 0, none⟩) 0 0) 0 []) (hk : k ≤ X.heap.size) :
    ∃ v Y, (Builtin.append_ #[93, 93] 93 #[.slice (some ⟨bE, 0, none⟩) 0 0, vw]).run Try.prog X = .ok v Y ∧ Y.ownsRow k 100 65 v d.wr.length (wrC d.wr) ∧ (∀ j, j < X.heap.size → j ≠ bE → Y.heap[j]? = X.heap[j]?) ∧ Below k X Y := by
  obtain ⟨ti, t1, t2, t3, t4⟩ := infos infoWrR
  have hfew := hd.few
  obtain ⟨hl, ⟨h2, h3⟩ | ⟨g, cap, cur, h2, _⟩⟩ := id hr
  · have hx : wrC d.wr = [] := by
      have : (wrC d.wr).length = 0 := by rw [hl, h3]
      exact List.eq_nil_of_length_eq_zero this
    rw [h2, h3, hx]
    exact ⟨_, X, run_append_owned_none (P := Try.prog) X k 93 93 100 ti 65 Try.underlying93 t1 _ 0 [] hE, hE, fun _ _ _ => rfl, Below.refl _ _⟩
  · rw [h2] at hr ⊢
    obtain ⟨v', w', hap, y1, y2, _, y4⟩ := run_append_own_at (P := Try.prog) X k 93 93 100 ti _ 65 72 Try.underlying93 t1 t2 t3 t4 (by simp [Value.cells, wrC1, byteCells_len, sec0]) (by omega) (.slice (some ⟨bE, 0, none⟩) 0 0) 0 [] hE ⟨g, 0, none⟩ d.wr.length cap (wrC d.wr) hl (own_cells hr) (wrs_one d.wr) (by unfold maxLen; omega) (by omega) hk
    refine ⟨v', w', hap, by simpa using y1, fun j hj hn => y2.block j hj (fun e => by cases e; exact hn rfl), (Below.refl _ X).grown y2 hk (fun r e => by cases e; exact own_base hE bE rfl)⟩
theorem stepF (base p : Nat) (d : Dv) (vl vw : Value) (i : Nat) (s : Sec) (w w' X : World) (bN : Nat) (v : Value) (h : IsR base p d vl vw w) (_hd : DvOk d) (hb : base ≤ w.heap.size) (hs : s.length = 64) (hf : d.wr.length < 1000000) (hB1 : Below w.heap.size w w') (f1 : w'.heap[w.heap.size]? = some (.cells (secA s) 61)) (hB : Below w'.heap.size w' X) (hV : X.ownsRow w'.heap.size 100 65 v d.wr.length (wrC d.wr)) (hN : X.heap[bN]? = some (.cells (wrC1 (i, s)).toArray 100)) :
    ∃ v' Z, (Builtin.append_ #[93, 93] 93 #[v, .slice (some ⟨bN, 0, none⟩) 1 1]).run Try.prog X = .ok v' Z ∧ Z.heap[w.heap.size]? = some (.cells (secA s) 61) ∧ (Instr.storeAt 93 (.pointer (some ⟨p, 1, none⟩)) v').run Try.prog Z = .ok () (Z.setCell ⟨p, 1, none⟩ v') ∧ ToR base p vl vw (dvWrite d i s) w (Z.setCell ⟨p, 1, none⟩ v') ∧ (Z.setCell ⟨p, 1, none⟩ v').heap[w.heap.size]? = some (.cells (secA s) 61) := by
  obtain ⟨ti, t1, t2, t3, t4⟩ := infos infoWrR
  have hww : w.heap.size < w'.heap.size := hp_lt f1
  have hpl : p < w.heap.size := hp_lt h.here
  obtain ⟨v', Z, hap, y1, y2, _, y4⟩ := run_append_own_at (P := Try.prog) X w'.heap.size 93 93 100 ti _ 65 72 Try.underlying93 t1 t2 t3 t4 (by simp [Value.cells, wrC1, byteCells_len, sec0]) (by omega) v d.wr.length (wrC d.wr) hV ⟨bN, 0, none⟩ 1 1 (wrC1 (i, s)) (by simp [wrC1, byteCells_len, hs]) (list_cells hN) (wr_mem1 (i, s)) (by unfold maxLen; omega) (by omega) hB.size
  have hBw : Below w.heap.size w X := hB1.trans (hB.mono (by omega))
  have hvr : ∀ r, v.ownBlock = some r → w'.heap.size ≤ r := fun r e => own_base hV r e
  have hkeep : ∀ j, j < w'.heap.size → Z.heap[j]? = X.heap[j]? := fun j hj => y2.block j (Nat.lt_of_lt_of_le hj hB.size) (fun e => by have := hvr j e.symm; omega)
  have hSZ : Z.heap[w.heap.size]? = some (.cells (secA s) 61) := (hkeep _ hww).trans ((hB.block _ hww).trans f1)
  have hpZ : Z.heap[p]? = some (.cells #[vl, vw] 95) := (hkeep p (by omega)).trans ((hB.block p (by omega)).trans ((hB1.block p hpl).trans h.here))
  refine ⟨v', Z, hap, hSZ, ?_, ?_, (Below.heap_setCell _ _ _ _ (by show w.heap.size ≠ p; omega)).trans hSZ⟩
  · obtain ⟨ga, gc, rfl⟩ := own_shape y1
    have c1 : Z.cell? ⟨p, 1, none⟩ = some vw := by simp [World.cell?, hpZ]
    have c2 : Z.frozen? ⟨p, 1, none⟩ = false := by simp [World.frozen?, hpZ]
    simp [Instr.storeAt, Instr.sureAddr, storeVar, c1, c2, go_sem, Value.cells]
  · exact wrote h (by decide) (by decide) (by decide) hb hBw (own_less y1 (by omega)) y2 (fun r e => .inr (by have := hvr r e; omega)) (fun g e => by
      rcases y4 with k | k
      · exact .inr (by have := hvr g (k ▸ e); omega)
      · rw [k] at e
        cases e
        exact .inr hBw.size)

set_option maxRecDepth 100000 in
set_option maxHeartbeats 4000000 in
theorem rwrite_any (base p : Nat) (d : Dv) (vl vw : Value) (i : Nat) (s : Sec) (w : World) (h : IsR base p d vl vw w) (hd : DvOk d) (hb : base ≤ w.heap.size) (hi : i < d.las.length) (hs : s.length = 64) (hf : d.wr.length < 1000000) :
    Calls Try.prog 32 #[.pointer (some ⟨p, 0, none⟩), .int .i64 i, .agg (secA s)] w fun e w' => e = .returned (.int .i64 0) ∧ ToR base p vl vw (dvWrite d i s) w w' := by
  obtain ⟨w', hW1⟩ : ∃ w', w.alloc (.cells (secA s) 61) = w' := ⟨_, rfl⟩
  have z1 : w'.heap.size = w.heap.size + 1 := by rw [← hW1]; simp
  have f1 : w'.heap[w.heap.size]? = some (.cells (secA s) 61) := by rw [← hW1]; exact World.alloc_heap_new w _
  have hB1 : Below w.heap.size w w' := by rw [← hW1]; exact (Below.refl _ w).alloc (Nat.le_refl _) _
  have hD1 := h.below hB1
  obtain ⟨q0, q1, _⟩ := hD1.cells
  obtain ⟨ga, gc, rfl⟩ := own_shape hD1.las
  have h0 : ¬ ((i : Int) < 0) := by omega
  have h2 : ¬ ((d.las.length : Int) ≤ i) := by omega
  have HH := hide (And.intro h (And.intro hd (And.intro hB1 (And.intro hD1 f1))))
  clear h hd hB1 hD1 f1
  go_enter Try.func32, Try.ntmps32
  go_wp2_with (refine l_val rfl _ (ex_box (ty := 61) rfl rfl (run_box_long _ (secA s) w)) ?_; rw [hW1])
  generalize hvl : Value.slice ga d.las.length gc = vl at *
  obtain ⟨h, hd, hB1, hD1, f1⟩ := HH.out
  refine region_rel (S := fun w0 => w0.heap[w.heap.size]? = some (.cells (secA s) 61)) (fun a w2 => ∃ x1 x2 x3 x4, ToR base p vl vw (dvWrite d i s) w w2 ∧ a = { tmps := #[.pointer (some ⟨p, 0, none⟩), .int .i64 i, .agg (secA s), undef, undef, .pointer (some ⟨w.heap.size, 0, none⟩), .int .i64 0, .bool false, .pointer (some ⟨p, 0, none⟩), .bool false, .bool false, .int .i64 i, .bool false, .bool false, .int .i64 i, .pointer (some ⟨p, 0, none⟩), .pointer (some ⟨p, 0, none⟩), .pointer (some ⟨p, 0, none⟩), vl, .int .i64 d.las.length, .bool false, .bool false, .pointer (some ⟨p, 0, none⟩), x1, .pointer (some ⟨p, 0, none⟩), .pointer (some ⟨p, 0, none⟩), .pointer (some ⟨p, 1, none⟩), vw, x2, .int .i64 i, .agg (secA s), .agg (wrC1 (i, s)).toArray, x3, x4, .pointer (some ⟨p, 0, none⟩), .pointer (some ⟨p, 1, none⟩)], defers := [] }) (by kernel_rfl) ?any ?fin
  case any =>
    have hS0 : w'.drew.heap[w.heap.size]? = some (.cells (secA s) 61) := f1
    have hSof : ∀ X : World, Below w'.heap.size w' X → X.heap[w.heap.size]? = some (.cells (secA s) 61) := fun X hX => (hX.block _ (by omega)).trans f1
    have hdev : ∀ X : World, Below w'.heap.size w' X → IsR base p d vl vw X := fun X hX => hD1.below hX
    have hcell : ∀ X : World, Below w'.heap.size w' X → X.cell? ⟨p, 1, none⟩ = some vw := fun X hX => (hdev X hX).cells.2.1
    clear h0 h2 q0 q1 HH
    refine anyH_take (i := 0) (v := .pointer (some ⟨p, 0, none⟩)) rfl (some 22) rfl (by kernel_rfl) (by kernel_rfl) (by kernel_rfl) (fun _ _ _ h => by cases h.1) rfl (fun w0 hw0 => rfl) hS0 ?_
    simp only [Act.put, List.setIfInBounds_toArray, List.set_cons_zero, List.set_cons_succ]
    refine anyH_take (i := 2) (v := .pointer (some ⟨p, 0, none⟩)) rfl (some 24) rfl (by kernel_rfl) (by kernel_rfl) (by kernel_rfl) (fun _ _ _ h => by cases h.1) rfl (fun w0 hw0 => rfl) hS0 ?_
    simp only [Act.put, List.setIfInBounds_toArray, List.set_cons_zero, List.set_cons_succ]
    refine anyH_take (i := 3) (v := .pointer (some ⟨p, 0, none⟩)) rfl (some 25) rfl (by kernel_rfl) (by kernel_rfl) (by kernel_rfl) (fun _ _ _ h => by cases h.1) rfl (fun w0 hw0 => by kernel_rfl) hS0 ?_
    simp only [Act.put, List.setIfInBounds_toArray, List.set_cons_zero, List.set_cons_succ]
    refine anyH_take (i := 4) (v := .pointer (some ⟨p, 1, none⟩)) rfl (some 26) rfl (by kernel_rfl) (by kernel_rfl) (by kernel_rfl) (fun _ _ _ h => by cases h.1) rfl (fun w0 hw0 => by kernel_rfl) hS0 ?_
    simp only [Act.put, List.setIfInBounds_toArray, List.set_cons_zero, List.set_cons_succ]
    refine anyH_take (i := 7) (v := .int .i64 i) rfl (some 29) rfl (by kernel_rfl) (by kernel_rfl) (by kernel_rfl) (fun _ _ _ h => by cases h.1) rfl (fun w0 hw0 => rfl) hS0 ?_
    simp only [Act.put, List.setIfInBounds_toArray, List.set_cons_zero, List.set_cons_succ]
    refine anyH_take (i := 8) (v := .agg (secA s)) rfl (some 30) rfl (by kernel_rfl) (by kernel_rfl) (by kernel_rfl) (fun _ _ _ h => by cases h.1) rfl (fun w0 hw0 => ex_load rfl rfl (run_load_row (P := Try.prog) (cs := secA s) infoSecR undSecR rfl (by rw [secA_size, hs]) hw0)) hS0 ?_
    simp only [Act.put, List.setIfInBounds_toArray, List.set_cons_zero, List.set_cons_succ]
    refine anyH_take (i := 9) (v := .agg (wrC1 (i, s)).toArray) rfl (some 31) rfl (by kernel_rfl) (by kernel_rfl) (by kernel_rfl) (fun _ _ _ h => by cases h.1) rfl (fun w0 hw0 => ex_build (us := #[(0, .int .i64 i), (1, .agg (secA s))]) rfl (by simp [Act.eval]) (run_build_wrR i s hs w0)) hS0 ?_
    simp only [Act.put, List.setIfInBounds_toArray, List.set_cons_zero, List.set_cons_succ]
    obtain ⟨X0, hX0⟩ : ∃ X0, w'.drew = X0 := ⟨_, rfl⟩
    have hBX0 : Below w'.heap.size w' X0 := by rw [← hX0]; exact (Below.refl _ w').drew
    rw [hX0]
    refine anyH_three (i := 1) (j := 5) (k := 10) (by kernel_rfl) ?_ ?_ ?_
    · have hk1 : w'.heap.size ≤ X0.heap.size := hBX0.size
      obtain ⟨Y1, hEY1, hrY1, halY1, hblY1⟩ := stepE w'.heap.size X0 hk1
      have hBY1 := hBX0.trans (hblY1.mono hk1)
      refine op_val (v := .slice (some ⟨X0.heap.size, 0, none⟩) 0 0) (w' := Y1) rfl (some 23) rfl rfl (ex_slice (us := #[]) rfl (by simp) hrY1) ⟨hSof _ hBY1, ?_⟩
      simp only [Act.put, List.setIfInBounds_toArray, List.set_cons_zero, List.set_cons_succ]
      refine anyH_two (i := 5) (j := 10) (by kernel_rfl) ?_ ?_
      · refine op_val (v := vw) (w' := Y1) rfl (some 27) rfl rfl (ex_load (ty := 93) rfl rfl (run_load_cell Try.underlying93 rfl (hcell _ hBY1))) ⟨hSof _ hBY1, ?_⟩
        simp only [Act.put, List.setIfInBounds_toArray, List.set_cons_zero, List.set_cons_succ]
        refine anyH_two (i := 6) (j := 10) (by kernel_rfl) ?_ ?_
        · have hk6 : w'.heap.size ≤ Y1.heap.size := hBY1.size
          obtain ⟨v6, Y6, hrY6, hVY6, halY6, hblY6⟩ := stepV base w'.heap.size (X0.heap.size) d vw Y1 (hdev _ hBY1).wr hd hEY1 hk6
          have hBY6 := hBY1.trans hblY6
          refine op_val (v := v6) (w' := Y6) rfl (some 28) rfl rfl (ex_append (s := .tmp 23) (x := .tmp 27) (t := 93) rfl rfl rfl hrY6) ⟨hSof _ hBY6, ?_⟩
          simp only [Act.put, List.setIfInBounds_toArray, List.set_cons_zero, List.set_cons_succ]
          have hk8 : w'.heap.size ≤ Y6.heap.size := hBY6.size
          obtain ⟨Y8, hNY8, hrY8, halY8, hblY8⟩ := stepN i s hs Y6
          have hBY8 := hBY6.trans (hblY8.mono hk8)
          have hVY8 := own_same (B := Y8) hVY6 (fun g e => halY8 g (own_lt hVY6 g e))
          refine anyH_val (i := 10) (v := .slice (some ⟨Y6.heap.size, 0, none⟩) 1 1) (w' := Y8) (by kernel_rfl) rfl (some 32) rfl rfl (ex_slice (us := #[(0, .agg (wrC1 (i, s)).toArray)]) rfl (by simp [Act.eval]) hrY8) (hSof _ hBY8) ?_
          simp only [Act.put, List.setIfInBounds_toArray, List.set_cons_zero, List.set_cons_succ]
          obtain ⟨v', Z, hr, hSZ, hst, hto, hSf⟩ := stepF base p d vl vw i s w w' Y8 (Y6.heap.size) v6 h hd hb hs hf hB1 f1 hBY8 hVY8 hNY8
          refine anyH_val (i := 11) (by kernel_rfl) rfl (some 33) rfl rfl (ex_append (s := .tmp 28) (x := .tmp 32) (t := 93) rfl rfl rfl hr) hSZ ?_
          simp only [Act.put, List.setIfInBounds_toArray, List.set_cons_zero, List.set_cons_succ]
          refine anyH_val (i := 12) (v := .pointer (some ⟨p, 0, none⟩)) (w' := Z) (by kernel_rfl) rfl (some 34) rfl rfl (by kernel_rfl) hSZ ?_
          simp only [Act.put, List.setIfInBounds_toArray, List.set_cons_zero, List.set_cons_succ]
          refine anyH_val (i := 13) (v := .pointer (some ⟨p, 1, none⟩)) (w' := Z) (by kernel_rfl) rfl (some 35) rfl rfl (by kernel_rfl) hSZ ?_
          simp only [Act.put, List.setIfInBounds_toArray, List.set_cons_zero, List.set_cons_succ]
          refine anyH_skip (i := 14) (by kernel_rfl) rfl none rfl rfl (ex_store (ty := 93) (x := .tmp 35) (y := .tmp 33) (u := v') (p := ⟨p, 1, none⟩) rfl rfl rfl hst) hSf ?_
          exact wpAnyH_done (by kernel_rfl) ⟨rfl, _, _, _, _, hto, rfl⟩ _
        · have hk7 : w'.heap.size ≤ Y1.heap.size := hBY1.size
          obtain ⟨Y7, hNY7, hrY7, halY7, hblY7⟩ := stepN i s hs Y1
          have hBY7 := hBY1.trans (hblY7.mono hk7)
          have hEY7 := own_same (B := Y7) hEY1 (fun g e => halY7 g (own_lt hEY1 g e))
          have hneY7 : X0.heap.size ≠ Y1.heap.size := fun e => by have := own_lt hEY1 (X0.heap.size) rfl; omega
          refine op_val (v := .slice (some ⟨Y1.heap.size, 0, none⟩) 1 1) (w' := Y7) rfl (some 32) rfl rfl (ex_slice (us := #[(0, .agg (wrC1 (i, s)).toArray)]) rfl (by simp [Act.eval]) hrY7) ⟨hSof _ hBY7, ?_⟩
          simp only [Act.put, List.setIfInBounds_toArray, List.set_cons_zero, List.set_cons_succ]
          have hk9 : w'.heap.size ≤ Y7.heap.size := hBY7.size
          obtain ⟨v9, Y9, hrY9, hVY9, halY9, hblY9⟩ := stepV base w'.heap.size (X0.heap.size) d vw Y7 (hdev _ hBY7).wr hd hEY7 hk9
          have hBY9 := hBY7.trans hblY9
          have hNY9 := (halY9 _ (hp_lt hNY7) (Ne.symm hneY7)).trans hNY7
          refine anyH_val (i := 6) (v := v9) (w' := Y9) (by kernel_rfl) rfl (some 28) rfl rfl (ex_append (s := .tmp 23) (x := .tmp 27) (t := 93) rfl rfl rfl hrY9) (hSof _ hBY9) ?_
          simp only [Act.put, List.setIfInBounds_toArray, List.set_cons_zero, List.set_cons_succ]
          obtain ⟨v', Z, hr, hSZ, hst, hto, hSf⟩ := stepF base p d vl vw i s w w' Y9 (Y1.heap.size) v9 h hd hb hs hf hB1 f1 hBY9 hVY9 hNY9
          refine anyH_val (i := 11) (by kernel_rfl) rfl (some 33) rfl rfl (ex_append (s := .tmp 28) (x := .tmp 32) (t := 93) rfl rfl rfl hr) hSZ ?_
          simp only [Act.put, List.setIfInBounds_toArray, List.set_cons_zero, List.set_cons_succ]
          refine anyH_val (i := 12) (v := .pointer (some ⟨p, 0, none⟩)) (w' := Z) (by kernel_rfl) rfl (some 34) rfl rfl (by kernel_rfl) hSZ ?_
          simp only [Act.put, List.setIfInBounds_toArray, List.set_cons_zero, List.set_cons_succ]
          refine anyH_val (i := 13) (v := .pointer (some ⟨p, 1, none⟩)) (w' := Z) (by kernel_rfl) rfl (some 35) rfl rfl (by kernel_rfl) hSZ ?_
          simp only [Act.put, List.setIfInBounds_toArray, List.set_cons_zero, List.set_cons_succ]
          refine anyH_skip (i := 14) (by kernel_rfl) rfl none rfl rfl (ex_store (ty := 93) (x := .tmp 35) (y := .tmp 33) (u := v') (p := ⟨p, 1, none⟩) rfl rfl rfl hst) hSf ?_
          exact wpAnyH_done (by kernel_rfl) ⟨rfl, _, _, _, _, hto, rfl⟩ _
      · have hk5 : w'.heap.size ≤ Y1.heap.size := hBY1.size
        obtain ⟨Y5, hNY5, hrY5, halY5, hblY5⟩ := stepN i s hs Y1
        have hBY5 := hBY1.trans (hblY5.mono hk5)
        have hEY5 := own_same (B := Y5) hEY1 (fun g e => halY5 g (own_lt hEY1 g e))
        have hneY5 : X0.heap.size ≠ Y1.heap.size := fun e => by have := own_lt hEY1 (X0.heap.size) rfl; omega
        refine op_val (v := .slice (some ⟨Y1.heap.size, 0, none⟩) 1 1) (w' := Y5) rfl (some 32) rfl rfl (ex_slice (us := #[(0, .agg (wrC1 (i, s)).toArray)]) rfl (by simp [Act.eval]) hrY5) ⟨hSof _ hBY5, ?_⟩
        simp only [Act.put, List.setIfInBounds_toArray, List.set_cons_zero, List.set_cons_succ]
        refine anyH_val (i := 5) (v := vw) (w' := Y5) (by kernel_rfl) rfl (some 27) rfl rfl (ex_load (ty := 93) rfl rfl (run_load_cell Try.underlying93 rfl (hcell _ hBY5))) (hSof _ hBY5) ?_
        simp only [Act.put, List.setIfInBounds_toArray, List.set_cons_zero, List.set_cons_succ]
        have hk11 : w'.heap.size ≤ Y5.heap.size := hBY5.size
        obtain ⟨v11, Y11, hrY11, hVY11, halY11, hblY11⟩ := stepV base w'.heap.size (X0.heap.size) d vw Y5 (hdev _ hBY5).wr hd hEY5 hk11
        have hBY11 := hBY5.trans hblY11
        have hNY11 := (halY11 _ (hp_lt hNY5) (Ne.symm hneY5)).trans hNY5
        refine anyH_val (i := 6) (v := v11) (w' := Y11) (by kernel_rfl) rfl (some 28) rfl rfl (ex_append (s := .tmp 23) (x := .tmp 27) (t := 93) rfl rfl rfl hrY11) (hSof _ hBY11) ?_
        simp only [Act.put, List.setIfInBounds_toArray, List.set_cons_zero, List.set_cons_succ]
        obtain ⟨v', Z, hr, hSZ, hst, hto, hSf⟩ := stepF base p d vl vw i s w w' Y11 (Y1.heap.size) v11 h hd hb hs hf hB1 f1 hBY11 hVY11 hNY11
        refine anyH_val (i := 11) (by kernel_rfl) rfl (some 33) rfl rfl (ex_append (s := .tmp 28) (x := .tmp 32) (t := 93) rfl rfl rfl hr) hSZ ?_
        simp only [Act.put, List.setIfInBounds_toArray, List.set_cons_zero, List.set_cons_succ]
        refine anyH_val (i := 12) (v := .pointer (some ⟨p, 0, none⟩)) (w' := Z) (by kernel_rfl) rfl (some 34) rfl rfl (by kernel_rfl) hSZ ?_
        simp only [Act.put, List.setIfInBounds_toArray, List.set_cons_zero, List.set_cons_succ]
        refine anyH_val (i := 13) (v := .pointer (some ⟨p, 1, none⟩)) (w' := Z) (by kernel_rfl) rfl (some 35) rfl rfl (by kernel_rfl) hSZ ?_
        simp only [Act.put, List.setIfInBounds_toArray, List.set_cons_zero, List.set_cons_succ]
        refine anyH_skip (i := 14) (by kernel_rfl) rfl none rfl rfl (ex_store (ty := 93) (x := .tmp 35) (y := .tmp 33) (u := v') (p := ⟨p, 1, none⟩) rfl rfl rfl hst) hSf ?_
        exact wpAnyH_done (by kernel_rfl) ⟨rfl, _, _, _, _, hto, rfl⟩ _
    · refine op_val (v := vw) (w' := X0) rfl (some 27) rfl rfl (ex_load (ty := 93) rfl rfl (run_load_cell Try.underlying93 rfl (hcell _ hBX0))) ⟨hSof _ hBX0, ?_⟩
      simp only [Act.put, List.setIfInBounds_toArray, List.set_cons_zero, List.set_cons_succ]
      refine anyH_two (i := 1) (j := 10) (by kernel_rfl) ?_ ?_
      · have hk12 : w'.heap.size ≤ X0.heap.size := hBX0.size
        obtain ⟨Y12, hEY12, hrY12, halY12, hblY12⟩ := stepE w'.heap.size X0 hk12
        have hBY12 := hBX0.trans (hblY12.mono hk12)
        refine op_val (v := .slice (some ⟨X0.heap.size, 0, none⟩) 0 0) (w' := Y12) rfl (some 23) rfl rfl (ex_slice (us := #[]) rfl (by simp) hrY12) ⟨hSof _ hBY12, ?_⟩
        simp only [Act.put, List.setIfInBounds_toArray, List.set_cons_zero, List.set_cons_succ]
        refine anyH_two (i := 6) (j := 10) (by kernel_rfl) ?_ ?_
        · have hk14 : w'.heap.size ≤ Y12.heap.size := hBY12.size
          obtain ⟨v14, Y14, hrY14, hVY14, halY14, hblY14⟩ := stepV base w'.heap.size (X0.heap.size) d vw Y12 (hdev _ hBY12).wr hd hEY12 hk14
          have hBY14 := hBY12.trans hblY14
          refine op_val (v := v14) (w' := Y14) rfl (some 28) rfl rfl (ex_append (s := .tmp 23) (x := .tmp 27) (t := 93) rfl rfl rfl hrY14) ⟨hSof _ hBY14, ?_⟩
          simp only [Act.put, List.setIfInBounds_toArray, List.set_cons_zero, List.set_cons_succ]
          have hk16 : w'.heap.size ≤ Y14.heap.size := hBY14.size
          obtain ⟨Y16, hNY16, hrY16, halY16, hblY16⟩ := stepN i s hs Y14
          have hBY16 := hBY14.trans (hblY16.mono hk16)
          have hVY16 := own_same (B := Y16) hVY14 (fun g e => halY16 g (own_lt hVY14 g e))
          refine anyH_val (i := 10) (v := .slice (some ⟨Y14.heap.size, 0, none⟩) 1 1) (w' := Y16) (by kernel_rfl) rfl (some 32) rfl rfl (ex_slice (us := #[(0, .agg (wrC1 (i, s)).toArray)]) rfl (by simp [Act.eval]) hrY16) (hSof _ hBY16) ?_
          simp only [Act.put, List.setIfInBounds_toArray, List.set_cons_zero, List.set_cons_succ]
          obtain ⟨v', Z, hr, hSZ, hst, hto, hSf⟩ := stepF base p d vl vw i s w w' Y16 (Y14.heap.size) v14 h hd hb hs hf hB1 f1 hBY16 hVY16 hNY16
          refine anyH_val (i := 11) (by kernel_rfl) rfl (some 33) rfl rfl (ex_append (s := .tmp 28) (x := .tmp 32) (t := 93) rfl rfl rfl hr) hSZ ?_
          simp only [Act.put, List.setIfInBounds_toArray, List.set_cons_zero, List.set_cons_succ]
          refine anyH_val (i := 12) (v := .pointer (some ⟨p, 0, none⟩)) (w' := Z) (by kernel_rfl) rfl (some 34) rfl rfl (by kernel_rfl) hSZ ?_
          simp only [Act.put, List.setIfInBounds_toArray, List.set_cons_zero, List.set_cons_succ]
          refine anyH_val (i := 13) (v := .pointer (some ⟨p, 1, none⟩)) (w' := Z) (by kernel_rfl) rfl (some 35) rfl rfl (by kernel_rfl) hSZ ?_
          simp only [Act.put, List.setIfInBounds_toArray, List.set_cons_zero, List.set_cons_succ]
          refine anyH_skip (i := 14) (by kernel_rfl) rfl none rfl rfl (ex_store (ty := 93) (x := .tmp 35) (y := .tmp 33) (u := v') (p := ⟨p, 1, none⟩) rfl rfl rfl hst) hSf ?_
          exact wpAnyH_done (by kernel_rfl) ⟨rfl, _, _, _, _, hto, rfl⟩ _
        · have hk15 : w'.heap.size ≤ Y12.heap.size := hBY12.size
          obtain ⟨Y15, hNY15, hrY15, halY15, hblY15⟩ := stepN i s hs Y12
          have hBY15 := hBY12.trans (hblY15.mono hk15)
          have hEY15 := own_same (B := Y15) hEY12 (fun g e => halY15 g (own_lt hEY12 g e))
          have hneY15 : X0.heap.size ≠ Y12.heap.size := fun e => by have := own_lt hEY12 (X0.heap.size) rfl; omega
          refine op_val (v := .slice (some ⟨Y12.heap.size, 0, none⟩) 1 1) (w' := Y15) rfl (some 32) rfl rfl (ex_slice (us := #[(0, .agg (wrC1 (i, s)).toArray)]) rfl (by simp [Act.eval]) hrY15) ⟨hSof _ hBY15, ?_⟩
          simp only [Act.put, List.setIfInBounds_toArray, List.set_cons_zero, List.set_cons_succ]
          have hk17 : w'.heap.size ≤ Y15.heap.size := hBY15.size
          obtain ⟨v17, Y17, hrY17, hVY17, halY17, hblY17⟩ := stepV base w'.heap.size (X0.heap.size) d vw Y15 (hdev _ hBY15).wr hd hEY15 hk17
          have hBY17 := hBY15.trans hblY17
          have hNY17 := (halY17 _ (hp_lt hNY15) (Ne.symm hneY15)).trans hNY15
          refine anyH_val (i := 6) (v := v17) (w' := Y17) (by kernel_rfl) rfl (some 28) rfl rfl (ex_append (s := .tmp 23) (x := .tmp 27) (t := 93) rfl rfl rfl hrY17) (hSof _ hBY17) ?_
          simp only [Act.put, List.setIfInBounds_toArray, List.set_cons_zero, List.set_cons_succ]
          obtain ⟨v', Z, hr, hSZ, hst, hto, hSf⟩ := stepF base p d vl vw i s w w' Y17 (Y12.heap.size) v17 h hd hb hs hf hB1 f1 hBY17 hVY17 hNY17
          refine anyH_val (i := 11) (by kernel_rfl) rfl (some 33) rfl rfl (ex_append (s := .tmp 28) (x := .tmp 32) (t := 93) rfl rfl rfl hr) hSZ ?_
          simp only [Act.put, List.setIfInBounds_toArray, List.set_cons_zero, List.set_cons_succ]
          refine anyH_val (i := 12) (v := .pointer (some ⟨p, 0, none⟩)) (w' := Z) (by kernel_rfl) rfl (some 34) rfl rfl (by kernel_rfl) hSZ ?_
          simp only [Act.put, List.setIfInBounds_toArray, List.set_cons_zero, List.set_cons_succ]
          refine anyH_val (i := 13) (v := .pointer (some ⟨p, 1, none⟩)) (w' := Z) (by kernel_rfl) rfl (some 35) rfl rfl (by kernel_rfl) hSZ ?_
          simp only [Act.put, List.setIfInBounds_toArray, List.set_cons_zero, List.set_cons_succ]
          refine anyH_skip (i := 14) (by kernel_rfl) rfl none rfl rfl (ex_store (ty := 93) (x := .tmp 35) (y := .tmp 33) (u := v') (p := ⟨p, 1, none⟩) rfl rfl rfl hst) hSf ?_
          exact wpAnyH_done (by kernel_rfl) ⟨rfl, _, _, _, _, hto, rfl⟩ _
      · have hk13 : w'.heap.size ≤ X0.heap.size := hBX0.size
        obtain ⟨Y13, hNY13, hrY13, halY13, hblY13⟩ := stepN i s hs X0
        have hBY13 := hBX0.trans (hblY13.mono hk13)
        refine op_val (v := .slice (some ⟨X0.heap.size, 0, none⟩) 1 1) (w' := Y13) rfl (some 32) rfl rfl (ex_slice (us := #[(0, .agg (wrC1 (i, s)).toArray)]) rfl (by simp [Act.eval]) hrY13) ⟨hSof _ hBY13, ?_⟩
        simp only [Act.put, List.setIfInBounds_toArray, List.set_cons_zero, List.set_cons_succ]
        have hk18 : w'.heap.size ≤ Y13.heap.size := hBY13.size
        obtain ⟨Y18, hEY18, hrY18, halY18, hblY18⟩ := stepE w'.heap.size Y13 hk18
        have hBY18 := hBY13.trans (hblY18.mono hk18)
        have hNY18 := (halY18 _ (hp_lt hNY13)).trans hNY13
        have hneY18 : Y13.heap.size ≠ X0.heap.size := fun e => by have := hp_lt hNY13; omega
        refine anyH_val (i := 1) (v := .slice (some ⟨Y13.heap.size, 0, none⟩) 0 0) (w' := Y18) (by kernel_rfl) rfl (some 23) rfl rfl (ex_slice (us := #[]) rfl (by simp) hrY18) (hSof _ hBY18) ?_
        simp only [Act.put, List.setIfInBounds_toArray, List.set_cons_zero, List.set_cons_succ]
        have hk19 : w'.heap.size ≤ Y18.heap.size := hBY18.size
        obtain ⟨v19, Y19, hrY19, hVY19, halY19, hblY19⟩ := stepV base w'.heap.size (Y13.heap.size) d vw Y18 (hdev _ hBY18).wr hd hEY18 hk19
        have hBY19 := hBY18.trans hblY19
        have hNY19 := (halY19 _ (hp_lt hNY18) (Ne.symm hneY18)).trans hNY18
        refine anyH_val (i := 6) (v := v19) (w' := Y19) (by kernel_rfl) rfl (some 28) rfl rfl (ex_append (s := .tmp 23) (x := .tmp 27) (t := 93) rfl rfl rfl hrY19) (hSof _ hBY19) ?_
        simp only [Act.put, List.setIfInBounds_toArray, List.set_cons_zero, List.set_cons_succ]
        obtain ⟨v', Z, hr, hSZ, hst, hto, hSf⟩ := stepF base p d vl vw i s w w' Y19 (X0.heap.size) v19 h hd hb hs hf hB1 f1 hBY19 hVY19 hNY19
        refine anyH_val (i := 11) (by kernel_rfl) rfl (some 33) rfl rfl (ex_append (s := .tmp 28) (x := .tmp 32) (t := 93) rfl rfl rfl hr) hSZ ?_
        simp only [Act.put, List.setIfInBounds_toArray, List.set_cons_zero, List.set_cons_succ]
        refine anyH_val (i := 12) (v := .pointer (some ⟨p, 0, none⟩)) (w' := Z) (by kernel_rfl) rfl (some 34) rfl rfl (by kernel_rfl) hSZ ?_
        simp only [Act.put, List.setIfInBounds_toArray, List.set_cons_zero, List.set_cons_succ]
        refine anyH_val (i := 13) (v := .pointer (some ⟨p, 1, none⟩)) (w' := Z) (by kernel_rfl) rfl (some 35) rfl rfl (by kernel_rfl) hSZ ?_
        simp only [Act.put, List.setIfInBounds_toArray, List.set_cons_zero, List.set_cons_succ]
        refine anyH_skip (i := 14) (by kernel_rfl) rfl none rfl rfl (ex_store (ty := 93) (x := .tmp 35) (y := .tmp 33) (u := v') (p := ⟨p, 1, none⟩) rfl rfl rfl hst) hSf ?_
        exact wpAnyH_done (by kernel_rfl) ⟨rfl, _, _, _, _, hto, rfl⟩ _
    · have hk3 : w'.heap.size ≤ X0.heap.size := hBX0.size
      obtain ⟨Y3, hNY3, hrY3, halY3, hblY3⟩ := stepN i s hs X0
      have hBY3 := hBX0.trans (hblY3.mono hk3)
      refine op_val (v := .slice (some ⟨X0.heap.size, 0, none⟩) 1 1) (w' := Y3) rfl (some 32) rfl rfl (ex_slice (us := #[(0, .agg (wrC1 (i, s)).toArray)]) rfl (by simp [Act.eval]) hrY3) ⟨hSof _ hBY3, ?_⟩
      simp only [Act.put, List.setIfInBounds_toArray, List.set_cons_zero, List.set_cons_succ]
      refine anyH_two (i := 1) (j := 5) (by kernel_rfl) ?_ ?_
      · have hk20 : w'.heap.size ≤ Y3.heap.size := hBY3.size
        obtain ⟨Y20, hEY20, hrY20, halY20, hblY20⟩ := stepE w'.heap.size Y3 hk20
        have hBY20 := hBY3.trans (hblY20.mono hk20)
        have hNY20 := (halY20 _ (hp_lt hNY3)).trans hNY3
        have hneY20 : Y3.heap.size ≠ X0.heap.size := fun e => by have := hp_lt hNY3; omega
        refine op_val (v := .slice (some ⟨Y3.heap.size, 0, none⟩) 0 0) (w' := Y20) rfl (some 23) rfl rfl (ex_slice (us := #[]) rfl (by simp) hrY20) ⟨hSof _ hBY20, ?_⟩
        simp only [Act.put, List.setIfInBounds_toArray, List.set_cons_zero, List.set_cons_succ]
        refine anyH_val (i := 5) (v := vw) (w' := Y20) (by kernel_rfl) rfl (some 27) rfl rfl (ex_load (ty := 93) rfl rfl (run_load_cell Try.underlying93 rfl (hcell _ hBY20))) (hSof _ hBY20) ?_
        simp only [Act.put, List.setIfInBounds_toArray, List.set_cons_zero, List.set_cons_succ]
        have hk23 : w'.heap.size ≤ Y20.heap.size := hBY20.size
        obtain ⟨v23, Y23, hrY23, hVY23, halY23, hblY23⟩ := stepV base w'.heap.size (Y3.heap.size) d vw Y20 (hdev _ hBY20).wr hd hEY20 hk23
        have hBY23 := hBY20.trans hblY23
        have hNY23 := (halY23 _ (hp_lt hNY20) (Ne.symm hneY20)).trans hNY20
        refine anyH_val (i := 6) (v := v23) (w' := Y23) (by kernel_rfl) rfl (some 28) rfl rfl (ex_append (s := .tmp 23) (x := .tmp 27) (t := 93) rfl rfl rfl hrY23) (hSof _ hBY23) ?_
        simp only [Act.put, List.setIfInBounds_toArray, List.set_cons_zero, List.set_cons_succ]
        obtain ⟨v', Z, hr, hSZ, hst, hto, hSf⟩ := stepF base p d vl vw i s w w' Y23 (X0.heap.size) v23 h hd hb hs hf hB1 f1 hBY23 hVY23 hNY23
        refine anyH_val (i := 11) (by kernel_rfl) rfl (some 33) rfl rfl (ex_append (s := .tmp 28) (x := .tmp 32) (t := 93) rfl rfl rfl hr) hSZ ?_
        simp only [Act.put, List.setIfInBounds_toArray, List.set_cons_zero, List.set_cons_succ]
        refine anyH_val (i := 12) (v := .pointer (some ⟨p, 0, none⟩)) (w' := Z) (by kernel_rfl) rfl (some 34) rfl rfl (by kernel_rfl) hSZ ?_
        simp only [Act.put, List.setIfInBounds_toArray, List.set_cons_zero, List.set_cons_succ]
        refine anyH_val (i := 13) (v := .pointer (some ⟨p, 1, none⟩)) (w' := Z) (by kernel_rfl) rfl (some 35) rfl rfl (by kernel_rfl) hSZ ?_
        simp only [Act.put, List.setIfInBounds_toArray, List.set_cons_zero, List.set_cons_succ]
        refine anyH_skip (i := 14) (by kernel_rfl) rfl none rfl rfl (ex_store (ty := 93) (x := .tmp 35) (y := .tmp 33) (u := v') (p := ⟨p, 1, none⟩) rfl rfl rfl hst) hSf ?_
        exact wpAnyH_done (by kernel_rfl) ⟨rfl, _, _, _, _, hto, rfl⟩ _
      · refine op_val (v := vw) (w' := Y3) rfl (some 27) rfl rfl (ex_load (ty := 93) rfl rfl (run_load_cell Try.underlying93 rfl (hcell _ hBY3))) ⟨hSof _ hBY3, ?_⟩
        simp only [Act.put, List.setIfInBounds_toArray, List.set_cons_zero, List.set_cons_succ]
        have hk24 : w'.heap.size ≤ Y3.heap.size := hBY3.size
        obtain ⟨Y24, hEY24, hrY24, halY24, hblY24⟩ := stepE w'.heap.size Y3 hk24
        have hBY24 := hBY3.trans (hblY24.mono hk24)
        have hNY24 := (halY24 _ (hp_lt hNY3)).trans hNY3
        have hneY24 : Y3.heap.size ≠ X0.heap.size := fun e => by have := hp_lt hNY3; omega
        refine anyH_val (i := 1) (v := .slice (some ⟨Y3.heap.size, 0, none⟩) 0 0) (w' := Y24) (by kernel_rfl) rfl (some 23) rfl rfl (ex_slice (us := #[]) rfl (by simp) hrY24) (hSof _ hBY24) ?_
        simp only [Act.put, List.setIfInBounds_toArray, List.set_cons_zero, List.set_cons_succ]
        have hk25 : w'.heap.size ≤ Y24.heap.size := hBY24.size
        obtain ⟨v25, Y25, hrY25, hVY25, halY25, hblY25⟩ := stepV base w'.heap.size (Y3.heap.size) d vw Y24 (hdev _ hBY24).wr hd hEY24 hk25
        have hBY25 := hBY24.trans hblY25
        have hNY25 := (halY25 _ (hp_lt hNY24) (Ne.symm hneY24)).trans hNY24
        refine anyH_val (i := 6) (v := v25) (w' := Y25) (by kernel_rfl) rfl (some 28) rfl rfl (ex_append (s := .tmp 23) (x := .tmp 27) (t := 93) rfl rfl rfl hrY25) (hSof _ hBY25) ?_
        simp only [Act.put, List.setIfInBounds_toArray, List.set_cons_zero, List.set_cons_succ]
        obtain ⟨v', Z, hr, hSZ, hst, hto, hSf⟩ := stepF base p d vl vw i s w w' Y25 (X0.heap.size) v25 h hd hb hs hf hB1 f1 hBY25 hVY25 hNY25
        refine anyH_val (i := 11) (by kernel_rfl) rfl (some 33) rfl rfl (ex_append (s := .tmp 28) (x := .tmp 32) (t := 93) rfl rfl rfl hr) hSZ ?_
        simp only [Act.put, List.setIfInBounds_toArray, List.set_cons_zero, List.set_cons_succ]
        refine anyH_val (i := 12) (v := .pointer (some ⟨p, 0, none⟩)) (w' := Z) (by kernel_rfl) rfl (some 34) rfl rfl (by kernel_rfl) hSZ ?_
        simp only [Act.put, List.setIfInBounds_toArray, List.set_cons_zero, List.set_cons_succ]
        refine anyH_val (i := 13) (v := .pointer (some ⟨p, 1, none⟩)) (w' := Z) (by kernel_rfl) rfl (some 35) rfl rfl (by kernel_rfl) hSZ ?_
        simp only [Act.put, List.setIfInBounds_toArray, List.set_cons_zero, List.set_cons_succ]
        refine anyH_skip (i := 14) (by kernel_rfl) rfl none rfl rfl (ex_store (ty := 93) (x := .tmp 35) (y := .tmp 33) (u := v') (p := ⟨p, 1, none⟩) rfl rfl rfl hst) hSf ?_
        exact wpAnyH_done (by kernel_rfl) ⟨rfl, _, _, _, _, hto, rfl⟩ _
  case fin =>
    rintro a w2 ⟨x1, x2, x3, x4, hfin, rfl⟩
    have HF := hide hfin
    clear hfin
    go_wp2_with fail
    go_ret
    exact ⟨rfl, by rw [hvl]; exact HF.out⟩
end Go.Proofs.Ytfknjmfkkaoggaa
namespace Go.Proofs.Ytfknjmfkkaoggaa
open Go.RowKit Go.Shelf

theorem rwrite_bad (base p : Nat) (d : Dv) (vl vw : Value) (i : Int) (s : Sec) (w : World) (h : IsR base p d vl vw w) (hi : wrongI d.las.length i = 2) :
    Calls Try.prog 32 #[.pointer (some ⟨p, 0, none⟩), .int .i64 i, .agg (secA s)] w fun e w' => e = .returned (.int .i64 2) ∧ Below w.heap.size w w' := by
  obtain ⟨W1, hW1⟩ : ∃ W1, w.alloc (.cells (secA s) 61) = W1 := ⟨_, rfl⟩
  have hB1 : Below w.heap.size w W1 := by rw [← hW1]; exact (Below.refl _ w).alloc (Nat.le_refl _) _
  have hD1 := h.below hB1
  obtain ⟨q0, _⟩ := hD1.cells
  obtain ⟨ga, gc, rfl⟩ := own_shape hD1.las
  have HB := hide hB1
  clear h hB1 hD1
  unfold wrongI at hi
  by_cases h1 : i < 0
  · clear hi
    go_enter Try.func32, Try.ntmps32
    go_wp2_with (refine l_val rfl _ (ex_box (ty := 61) rfl rfl (run_box_long _ (secA s) w)) ?_; rw [hW1])
    go_ret
    exact ⟨rfl, HB.out⟩
  · have h2 : (d.las.length : Int) ≤ i := by
      by_cases h2 : (d.las.length : Int) ≤ i
      · exact h2
      · rw [if_neg (by omega)] at hi
        omega
    clear hi
    go_enter Try.func32, Try.ntmps32
    go_wp2_with (refine l_val rfl _ (ex_box (ty := 61) rfl rfl (run_box_long _ (secA s) w)) ?_; rw [hW1])
    go_ret
    exact ⟨rfl, HB.out⟩
theorem rsync_any (base p : Nat) (d : Dv) (vl vw : Value) (w : World) (h : IsR base p d vl vw w) (hd : DvOk d) (hb : base ≤ w.heap.size) :
    Calls Try.prog 71 #[.pointer (some ⟨p, 0, none⟩)] w fun e w' => e = .returned (.int .i64 0) ∧ ToR base p vl vw (settled d fun _ => true) w w' := by
  have HC := hide (rland_all base p d vl vw none [] 0 w h hd hb ⟨by simp, fun j v hj => by simp at hj⟩)
  clear h hd
  go_enter Try.func71, Try.ntmps71
  go_wp2_with (go_at_call 78; refine HC.out.mono ?_; rintro e w' ⟨⟨v, rfl⟩, ht⟩; have HT := hide ht; clear ht)
  go_ret
  exact ⟨rfl, HT.out⟩
theorem rcrash_any (base p : Nat) (d : Dv) (vl vw : Value) (ao : Option Addr) (bs : List Bool) (cap : Nat) (w : World) (h : IsR base p d vl vw w) (hd : DvOk d) (hb : base ≤ w.heap.size) (hm : BoolMem base w ao bs) :
    Calls Try.prog 70 #[.pointer (some ⟨p, 0, none⟩), .slice ao bs.length cap] w fun e w' => e = .returned (.int .i64 0) ∧ ToR base p vl vw (settled d (svOf bs)) w w' := by
  have HC := hide (rland_some base p d vl vw ao bs cap w h hd hb hm)
  clear h hd hm
  go_enter Try.func70, Try.ntmps70
  go_wp2_with (go_at_call 78; refine HC.out.mono ?_; rintro e w' ⟨⟨v, rfl⟩, ht⟩; have HT := hide ht; clear ht)
  go_ret
  exact ⟨rfl, HT.out⟩
end Go.Proofs.Ytfknjmfkkaoggaa
namespace Go.Proofs.Ytfknjmfkkaoggaa
open Go.RowKit Go.Shelf

theorem stepE2 {t e : TypeId} {z : Value} {m b : Nat} (hu : Try.prog.underlying t = some (.slice e)) (hi : (Try.prog.info? e).map (fun i => (i.zero, i.size, i.bytes)) = some (some z, m, b)) (k : Nat) (X : World) (hk : k ≤ X.heap.size) : ∃ Y : World, Y.ownsRow k e m (.slice (some ⟨X.heap.size, 0, none⟩) 0 0) 0 [] ∧ (Instr.buildSlice t 0 #[]).run Try.prog X = .ok (.slice (some ⟨X.heap.size, 0, none⟩) 0 0) Y ∧ (∀ j, j < X.heap.size → Y.heap[j]? = X.heap[j]?) ∧ Below X.heap.size X Y :=
  ⟨_, own_empty X k e m hk, run_none hu hi X, fun j hj => Below.heap_alloc X _ j hj, (Below.refl _ X).alloc (Nat.le_refl _) _⟩
theorem stepV2 {T t e : TypeId} {z : Value} {m b : Nat} (hu : Try.prog.underlying t = some (.slice e)) (hi : (Try.prog.info? e).map (fun i => (i.zero, i.size, i.bytes)) = some (some z, m, b)) (hz : z.cells.size = m) (hm : 0 < m) (hb : b ≤ 1000) (base k bE : Nat) {n : Nat} {v : Value} {xs : List Value} (X : World) (hr : X.ownsRow base e m v n xs) (hn : n ≤ 1000000) (h1 : ∀ u ∈ xs, u.oneCell' = true) (hE : X.ownsRow k e m (.slice (some ⟨bE, 0, none⟩) 0 0) 0 []) (hk : k ≤ X.heap.size) :
    ∃ v' Y, (Builtin.append_ #[t, t] T #[.slice (some ⟨bE, 0, none⟩) 0 0, v]).run Try.prog X = .ok v' Y ∧ Y.ownsRow k e m v' n xs ∧ (∀ j, j < X.heap.size → j ≠ bE → Y.heap[j]? = X.heap[j]?) ∧ Below k X Y := by
  obtain ⟨ti, t1, t2, t3, t4⟩ := infos hi
  obtain ⟨hl, ⟨h2, h3⟩ | ⟨g, cap, cur, h2, _⟩⟩ := id hr
  · subst h3
    have hx : xs = [] := by simpa using hl
    subst hx
    rw [h2]
    exact ⟨_, X, run_append_owned_none (P := Try.prog) X k t T e ti m hu t1 _ 0 [] hE, hE, fun _ _ _ => rfl, Below.refl _ _⟩
  · rw [h2] at hr ⊢
    obtain ⟨v', w', hap, y1, y2, _, _⟩ := run_append_own_at (P := Try.prog) X k t T e ti z m b hu t1 t2 t3 t4 hz hm (.slice (some ⟨bE, 0, none⟩) 0 0) 0 [] hE ⟨g, 0, none⟩ n cap xs hl (own_cells hr) h1 (by unfold maxLen; omega) (by have : (0 + n) * b ≤ 1000000 * 1000 := Nat.mul_le_mul (by omega) hb; omega) hk
    exact ⟨v', w', hap, by simpa using y1, fun j hj hn => y2.block j hj (fun e => by cases e; exact hn rfl), (Below.refl _ X).grown y2 hk (fun r e => by cases e; exact own_base hE bE rfl)⟩

set_option maxRecDepth 100000 in
set_option maxHeartbeats 4000000 in
theorem rfork_any (base p : Nat) (d : Dv) (vl vw : Value) (w : World) (h : IsR base p d vl vw w) (hd : DvOk d) (hb : base ≤ w.heap.size) :
    Calls Try.prog 54 #[.pointer (some ⟨p, 0, none⟩)] w fun e w' => ∃ p' vl' vw', e = .returned (.pointer (some ⟨p', 0, none⟩)) ∧ IsR base p' d vl' vw' w' ∧ Below w.heap.size w w' ∧ ∀ j, foot p' vl' vw' j → w.heap.size ≤ j := by
  obtain ⟨q0, q1, _⟩ := h.cells
  have hfew := hd.few
  have hmost := hd.most
  have HH := hide h
  clear h hd
  go_enter Try.func54, Try.ntmps54
  go_wp2_with fail
  have h := HH.out
  refine region_rel (S := fun w0 => w0.cell? ⟨p, 0, none⟩ = some vl ∧ w0.cell? ⟨p, 1, none⟩ = some vw) (fun a w2 => ∃ p' vl' vw' x1 x2 x3 x4, (IsR base p' d vl' vw' w2 ∧ Below w.heap.size w w2 ∧ ∀ j, foot p' vl' vw' j → w.heap.size ≤ j) ∧ a = { tmps := #[.pointer (some ⟨p, 0, none⟩), undef, .pointer (some ⟨p', 0, none⟩), .pointer (some ⟨p, 0, none⟩), .bool false, x1, .pointer (some ⟨p, 0, none⟩), .pointer (some ⟨p, 0, none⟩), .pointer (some ⟨p, 0, none⟩), vl, vl', x2, .pointer (some ⟨p, 0, none⟩), .pointer (some ⟨p, 0, none⟩), .pointer (some ⟨p, 1, none⟩), vw, vw', x3, x4], defers := [] }) (by kernel_rfl) ?any ?fin
  case any =>
    have hS0 : w.drew.cell? ⟨p, 0, none⟩ = some vl ∧ w.drew.cell? ⟨p, 1, none⟩ = some vw := ⟨q0, q1⟩
    have hdev : ∀ X : World, Below w.heap.size w X → IsR base p d vl vw X := fun X hX => h.below hX
    have hSof : ∀ X : World, Below w.heap.size w X → X.cell? ⟨p, 0, none⟩ = some vl ∧ X.cell? ⟨p, 1, none⟩ = some vw := fun X hX => ⟨(hdev X hX).cells.1, (hdev X hX).cells.2.1⟩
    refine anyH_take (i := 1) (v := .pointer (some ⟨p, 0, none⟩)) rfl (some 6) rfl (by kernel_rfl) (by kernel_rfl) (by kernel_rfl) (fun _ _ _ h => by cases h.1) rfl (fun w0 hw0 => rfl) hS0 ?_
    simp only [Act.put, List.setIfInBounds_toArray, List.set_cons_zero, List.set_cons_succ]
    refine anyH_take (i := 2) (v := .pointer (some ⟨p, 0, none⟩)) rfl (some 7) rfl (by kernel_rfl) (by kernel_rfl) (by kernel_rfl) (fun _ _ _ h => by cases h.1) rfl (fun w0 hw0 => by kernel_rfl) hS0 ?_
    simp only [Act.put, List.setIfInBounds_toArray, List.set_cons_zero, List.set_cons_succ]
    refine anyH_take (i := 3) (v := .pointer (some ⟨p, 0, none⟩)) rfl (some 8) rfl (by kernel_rfl) (by kernel_rfl) (by kernel_rfl) (fun _ _ _ h => by cases h.1) rfl (fun w0 hw0 => by kernel_rfl) hS0 ?_
    simp only [Act.put, List.setIfInBounds_toArray, List.set_cons_zero, List.set_cons_succ]
    refine anyH_take (i := 4) (v := vl) rfl (some 9) rfl (by kernel_rfl) (by kernel_rfl) (by kernel_rfl) (fun _ _ _ h => by cases h.1) rfl (fun w0 hw0 => ex_load rfl rfl (run_load_cell Try.underlying92 rfl hw0.1)) hS0 ?_
    simp only [Act.put, List.setIfInBounds_toArray, List.set_cons_zero, List.set_cons_succ]
    refine anyH_take (i := 7) (v := .pointer (some ⟨p, 0, none⟩)) rfl (some 12) rfl (by kernel_rfl) (by kernel_rfl) (by kernel_rfl) (fun _ _ _ h => by cases h.1) rfl (fun w0 hw0 => rfl) hS0 ?_
    simp only [Act.put, List.setIfInBounds_toArray, List.set_cons_zero, List.set_cons_succ]
    refine anyH_take (i := 8) (v := .pointer (some ⟨p, 0, none⟩)) rfl (some 13) rfl (by kernel_rfl) (by kernel_rfl) (by kernel_rfl) (fun _ _ _ h => by cases h.1) rfl (fun w0 hw0 => by kernel_rfl) hS0 ?_
    simp only [Act.put, List.setIfInBounds_toArray, List.set_cons_zero, List.set_cons_succ]
    refine anyH_take (i := 9) (v := .pointer (some ⟨p, 1, none⟩)) rfl (some 14) rfl (by kernel_rfl) (by kernel_rfl) (by kernel_rfl) (fun _ _ _ h => by cases h.1) rfl (fun w0 hw0 => by kernel_rfl) hS0 ?_
    simp only [Act.put, List.setIfInBounds_toArray, List.set_cons_zero, List.set_cons_succ]
    refine anyH_take (i := 10) (v := vw) rfl (some 15) rfl (by kernel_rfl) (by kernel_rfl) (by kernel_rfl) (fun _ _ _ h => by cases h.1) rfl (fun w0 hw0 => ex_load rfl rfl (run_load_cell Try.underlying93 rfl hw0.2)) hS0 ?_
    simp only [Act.put, List.setIfInBounds_toArray, List.set_cons_zero, List.set_cons_succ]
    obtain ⟨X0, hX0⟩ : ∃ X0, w.drew = X0 := ⟨_, rfl⟩
    have hBX0 : Below w.heap.size w X0 := by rw [← hX0]; exact (Below.refl _ w).drew
    rw [hX0]
    refine anyH_two (i := 0) (j := 6) (by kernel_rfl) ?_ ?_
    · have hk1 : w.heap.size ≤ X0.heap.size := hBX0.size
      obtain ⟨Y1, hE1Y1, hrY1, halY1, hblY1⟩ := stepE2 Try.underlying92 infoSecR w.heap.size X0 hk1
      have hBY1 := hBX0.trans (hblY1.mono hk1)
      refine op_val (v := .slice (some ⟨X0.heap.size, 0, none⟩) 0 0) (w' := Y1) rfl (some 5) rfl rfl (ex_slice (us := #[]) rfl (by simp) hrY1) ⟨hSof _ hBY1, ?_⟩
      simp only [Act.put, List.setIfInBounds_toArray, List.set_cons_zero, List.set_cons_succ]
      refine anyH_two (i := 5) (j := 6) (by kernel_rfl) ?_ ?_
      · have hk3 : w.heap.size ≤ Y1.heap.size := hBY1.size
        obtain ⟨v3, Y3, hrY3, hV1Y3, halY3, hblY3⟩ := stepV2 (T := 92) Try.underlying92 infoSecR (by simp [Value.cells, byteCells_len, sec0]) (by omega) (by omega) base w.heap.size (X0.heap.size) Y1 (hdev _ hBY1).las (by omega) (las_one d.las) hE1Y1 hk3
        have hBY3 := hBY1.trans hblY3
        obtain ⟨g3, c3, rfl⟩ := own_shape hV1Y3
        refine op_val (v := .slice g3 d.las.length c3) (w' := Y3) rfl (some 10) rfl rfl (ex_append (s := .tmp 5) (x := .tmp 9) (t := 92) rfl rfl rfl hrY3) ⟨hSof _ hBY3, ?_⟩
        simp only [Act.put, List.setIfInBounds_toArray, List.set_cons_zero, List.set_cons_succ]
        have hk5 : w.heap.size ≤ Y3.heap.size := hBY3.size
        obtain ⟨Y5, hE2Y5, hrY5, halY5, hblY5⟩ := stepE2 Try.underlying93 infoWrR w.heap.size Y3 hk5
        have hBY5 := hBY3.trans (hblY5.mono hk5)
        have hV1Y5 := own_same (B := Y5) hV1Y3 (fun g e => halY5 g (own_lt hV1Y3 g e))
        refine anyH_val (i := 6) (v := .slice (some ⟨Y3.heap.size, 0, none⟩) 0 0) (w' := Y5) (by kernel_rfl) rfl (some 11) rfl rfl (ex_slice (us := #[]) rfl (by simp) hrY5) (hSof _ hBY5) ?_
        simp only [Act.put, List.setIfInBounds_toArray, List.set_cons_zero, List.set_cons_succ]
        have hk6 : w.heap.size ≤ Y5.heap.size := hBY5.size
        obtain ⟨v6, Y6, hrY6, hV2Y6, halY6, hblY6⟩ := stepV2 (T := 93) Try.underlying93 infoWrR (by simp [Value.cells, wrC1, byteCells_len, sec0]) (by omega) (by omega) base w.heap.size (Y3.heap.size) Y5 (hdev _ hBY5).wr (by omega) (wrs_one d.wr) hE2Y5 hk6
        have hBY6 := hBY5.trans hblY6
        have hV1Y6 := own_same (B := Y6) hV1Y5 (fun g e => halY6 g (own_lt hV1Y5 g e) (fun e' => own_types hV1Y5 hE2Y5 (by decide) g e (by rw [e']; rfl)))
        obtain ⟨g6, c6, rfl⟩ := own_shape hV2Y6
        refine anyH_val (i := 11) (v := .slice g6 d.wr.length c6) (w' := Y6) (by kernel_rfl) rfl (some 16) rfl rfl (ex_append (s := .tmp 11) (x := .tmp 15) (t := 93) rfl rfl rfl hrY6) (hSof _ hBY6) ?_
        simp only [Act.put, List.setIfInBounds_toArray, List.set_cons_zero, List.set_cons_succ]
        have hbu : ∀ w0 : World, (Instr.build 95 #[(0, .slice g3 d.las.length c3), (1, .slice g6 d.wr.length c6)]).run Try.prog w0 = .ok (.agg #[.slice g3 d.las.length c3, .slice g6 d.wr.length c6]) w0 := fun w0 => by kernel_rfl
        refine anyH_val (i := 12) (v := .agg #[.slice g3 d.las.length c3, .slice g6 d.wr.length c6]) (w' := Y6) (by kernel_rfl) rfl (some 17) rfl rfl (ex_build (us := #[(0, .slice g3 d.las.length c3), (1, .slice g6 d.wr.length c6)]) rfl (by simp [Act.eval]) (hbu _)) (hSof _ hBY6) ?_
        simp only [Act.put, List.setIfInBounds_toArray, List.set_cons_zero, List.set_cons_succ]
        have hk : w.heap.size ≤ Y6.heap.size := hBY6.size
        have hBf : Below w.heap.size w (Y6.alloc (.cells #[.slice g3 d.las.length c3, .slice g6 d.wr.length c6] 95)) := hBY6.alloc hk _
        refine anyH_val (i := 13) (v := .pointer (some ⟨Y6.heap.size, 0, none⟩)) (by kernel_rfl) rfl (some 18) rfl rfl (ex_box rfl rfl (run_box_long 95 #[.slice g3 d.las.length c3, .slice g6 d.wr.length c6] Y6)) (hSof _ hBf) ?_
        simp only [Act.put, List.setIfInBounds_toArray, List.set_cons_zero, List.set_cons_succ]
        refine anyH_val (i := 14) (v := .pointer (some ⟨Y6.heap.size, 0, none⟩)) (w' := Y6.alloc (.cells #[.slice g3 d.las.length c3, .slice g6 d.wr.length c6] 95)) (by kernel_rfl) rfl (some 2) rfl rfl rfl (hSof _ hBf) ?_
        simp only [Act.put, List.setIfInBounds_toArray, List.set_cons_zero, List.set_cons_succ]
        refine wpAnyH_done (by kernel_rfl) ⟨rfl, Y6.heap.size, _, _, _, _, _, _, ⟨⟨by omega, World.alloc_heap_new Y6 _, (own_less hV1Y6 hb).alloc _, (own_less hV2Y6 hb).alloc _⟩, hBf, ?_⟩, rfl⟩ _
        rintro j (h | h | h)
        · omega
        · exact own_base hV1Y6 j h
        · exact own_base hV2Y6 j h
      · have hk4 : w.heap.size ≤ Y1.heap.size := hBY1.size
        obtain ⟨Y4, hE2Y4, hrY4, halY4, hblY4⟩ := stepE2 Try.underlying93 infoWrR w.heap.size Y1 hk4
        have hBY4 := hBY1.trans (hblY4.mono hk4)
        have hE1Y4 := own_same (B := Y4) hE1Y1 (fun g e => halY4 g (own_lt hE1Y1 g e))
        refine op_val (v := .slice (some ⟨Y1.heap.size, 0, none⟩) 0 0) (w' := Y4) rfl (some 11) rfl rfl (ex_slice (us := #[]) rfl (by simp) hrY4) ⟨hSof _ hBY4, ?_⟩
        simp only [Act.put, List.setIfInBounds_toArray, List.set_cons_zero, List.set_cons_succ]
        have hk7 : w.heap.size ≤ Y4.heap.size := hBY4.size
        obtain ⟨v7, Y7, hrY7, hV1Y7, halY7, hblY7⟩ := stepV2 (T := 92) Try.underlying92 infoSecR (by simp [Value.cells, byteCells_len, sec0]) (by omega) (by omega) base w.heap.size (X0.heap.size) Y4 (hdev _ hBY4).las (by omega) (las_one d.las) hE1Y4 hk7
        have hBY7 := hBY4.trans hblY7
        have hE2Y7 := own_same (B := Y7) hE2Y4 (fun g e => halY7 g (own_lt hE2Y4 g e) (fun e' => own_types hE2Y4 hE1Y4 (by decide) g e (by rw [e']; rfl)))
        obtain ⟨g7, c7, rfl⟩ := own_shape hV1Y7
        refine anyH_val (i := 5) (v := .slice g7 d.las.length c7) (w' := Y7) (by kernel_rfl) rfl (some 10) rfl rfl (ex_append (s := .tmp 5) (x := .tmp 9) (t := 92) rfl rfl rfl hrY7) (hSof _ hBY7) ?_
        simp only [Act.put, List.setIfInBounds_toArray, List.set_cons_zero, List.set_cons_succ]
        have hk8 : w.heap.size ≤ Y7.heap.size := hBY7.size
        obtain ⟨v8, Y8, hrY8, hV2Y8, halY8, hblY8⟩ := stepV2 (T := 93) Try.underlying93 infoWrR (by simp [Value.cells, wrC1, byteCells_len, sec0]) (by omega) (by omega) base w.heap.size (Y1.heap.size) Y7 (hdev _ hBY7).wr (by omega) (wrs_one d.wr) hE2Y7 hk8
        have hBY8 := hBY7.trans hblY8
        have hV1Y8 := own_same (B := Y8) hV1Y7 (fun g e => halY8 g (own_lt hV1Y7 g e) (fun e' => own_types hV1Y7 hE2Y7 (by decide) g e (by rw [e']; rfl)))
        obtain ⟨g8, c8, rfl⟩ := own_shape hV2Y8
        refine anyH_val (i := 11) (v := .slice g8 d.wr.length c8) (w' := Y8) (by kernel_rfl) rfl (some 16) rfl rfl (ex_append (s := .tmp 11) (x := .tmp 15) (t := 93) rfl rfl rfl hrY8) (hSof _ hBY8) ?_
        simp only [Act.put, List.setIfInBounds_toArray, List.set_cons_zero, List.set_cons_succ]
        have hbu : ∀ w0 : World, (Instr.build 95 #[(0, .slice g7 d.las.length c7), (1, .slice g8 d.wr.length c8)]).run Try.prog w0 = .ok (.agg #[.slice g7 d.las.length c7, .slice g8 d.wr.length c8]) w0 := fun w0 => by kernel_rfl
        refine anyH_val (i := 12) (v := .agg #[.slice g7 d.las.length c7, .slice g8 d.wr.length c8]) (w' := Y8) (by kernel_rfl) rfl (some 17) rfl rfl (ex_build (us := #[(0, .slice g7 d.las.length c7), (1, .slice g8 d.wr.length c8)]) rfl (by simp [Act.eval]) (hbu _)) (hSof _ hBY8) ?_
        simp only [Act.put, List.setIfInBounds_toArray, List.set_cons_zero, List.set_cons_succ]
        have hk : w.heap.size ≤ Y8.heap.size := hBY8.size
        have hBf : Below w.heap.size w (Y8.alloc (.cells #[.slice g7 d.las.length c7, .slice g8 d.wr.length c8] 95)) := hBY8.alloc hk _
        refine anyH_val (i := 13) (v := .pointer (some ⟨Y8.heap.size, 0, none⟩)) (by kernel_rfl) rfl (some 18) rfl rfl (ex_box rfl rfl (run_box_long 95 #[.slice g7 d.las.length c7, .slice g8 d.wr.length c8] Y8)) (hSof _ hBf) ?_
        simp only [Act.put, List.setIfInBounds_toArray, List.set_cons_zero, List.set_cons_succ]
        refine anyH_val (i := 14) (v := .pointer (some ⟨Y8.heap.size, 0, none⟩)) (w' := Y8.alloc (.cells #[.slice g7 d.las.length c7, .slice g8 d.wr.length c8] 95)) (by kernel_rfl) rfl (some 2) rfl rfl rfl (hSof _ hBf) ?_
        simp only [Act.put, List.setIfInBounds_toArray, List.set_cons_zero, List.set_cons_succ]
        refine wpAnyH_done (by kernel_rfl) ⟨rfl, Y8.heap.size, _, _, _, _, _, _, ⟨⟨by omega, World.alloc_heap_new Y8 _, (own_less hV1Y8 hb).alloc _, (own_less hV2Y8 hb).alloc _⟩, hBf, ?_⟩, rfl⟩ _
        rintro j (h | h | h)
        · omega
        · exact own_base hV1Y8 j h
        · exact own_base hV2Y8 j h
    · have hk2 : w.heap.size ≤ X0.heap.size := hBX0.size
      obtain ⟨Y2, hE2Y2, hrY2, halY2, hblY2⟩ := stepE2 Try.underlying93 infoWrR w.heap.size X0 hk2
      have hBY2 := hBX0.trans (hblY2.mono hk2)
      refine op_val (v := .slice (some ⟨X0.heap.size, 0, none⟩) 0 0) (w' := Y2) rfl (some 11) rfl rfl (ex_slice (us := #[]) rfl (by simp) hrY2) ⟨hSof _ hBY2, ?_⟩
      simp only [Act.put, List.setIfInBounds_toArray, List.set_cons_zero, List.set_cons_succ]
      have hk9 : w.heap.size ≤ Y2.heap.size := hBY2.size
      obtain ⟨Y9, hE1Y9, hrY9, halY9, hblY9⟩ := stepE2 Try.underlying92 infoSecR w.heap.size Y2 hk9
      have hBY9 := hBY2.trans (hblY9.mono hk9)
      have hE2Y9 := own_same (B := Y9) hE2Y2 (fun g e => halY9 g (own_lt hE2Y2 g e))
      refine anyH_val (i := 0) (v := .slice (some ⟨Y2.heap.size, 0, none⟩) 0 0) (w' := Y9) (by kernel_rfl) rfl (some 5) rfl rfl (ex_slice (us := #[]) rfl (by simp) hrY9) (hSof _ hBY9) ?_
      simp only [Act.put, List.setIfInBounds_toArray, List.set_cons_zero, List.set_cons_succ]
      have hk10 : w.heap.size ≤ Y9.heap.size := hBY9.size
      obtain ⟨v10, Y10, hrY10, hV1Y10, halY10, hblY10⟩ := stepV2 (T := 92) Try.underlying92 infoSecR (by simp [Value.cells, byteCells_len, sec0]) (by omega) (by omega) base w.heap.size (Y2.heap.size) Y9 (hdev _ hBY9).las (by omega) (las_one d.las) hE1Y9 hk10
      have hBY10 := hBY9.trans hblY10
      have hE2Y10 := own_same (B := Y10) hE2Y9 (fun g e => halY10 g (own_lt hE2Y9 g e) (fun e' => own_types hE2Y9 hE1Y9 (by decide) g e (by rw [e']; rfl)))
      obtain ⟨g10, c10, rfl⟩ := own_shape hV1Y10
      refine anyH_val (i := 5) (v := .slice g10 d.las.length c10) (w' := Y10) (by kernel_rfl) rfl (some 10) rfl rfl (ex_append (s := .tmp 5) (x := .tmp 9) (t := 92) rfl rfl rfl hrY10) (hSof _ hBY10) ?_
      simp only [Act.put, List.setIfInBounds_toArray, List.set_cons_zero, List.set_cons_succ]
      have hk11 : w.heap.size ≤ Y10.heap.size := hBY10.size
      obtain ⟨v11, Y11, hrY11, hV2Y11, halY11, hblY11⟩ := stepV2 (T := 93) Try.underlying93 infoWrR (by simp [Value.cells, wrC1, byteCells_len, sec0]) (by omega) (by omega) base w.heap.size (X0.heap.size) Y10 (hdev _ hBY10).wr (by omega) (wrs_one d.wr) hE2Y10 hk11
      have hBY11 := hBY10.trans hblY11
      have hV1Y11 := own_same (B := Y11) hV1Y10 (fun g e => halY11 g (own_lt hV1Y10 g e) (fun e' => own_types hV1Y10 hE2Y10 (by decide) g e (by rw [e']; rfl)))
      obtain ⟨g11, c11, rfl⟩ := own_shape hV2Y11
      refine anyH_val (i := 11) (v := .slice g11 d.wr.length c11) (w' := Y11) (by kernel_rfl) rfl (some 16) rfl rfl (ex_append (s := .tmp 11) (x := .tmp 15) (t := 93) rfl rfl rfl hrY11) (hSof _ hBY11) ?_
      simp only [Act.put, List.setIfInBounds_toArray, List.set_cons_zero, List.set_cons_succ]
      have hbu : ∀ w0 : World, (Instr.build 95 #[(0, .slice g10 d.las.length c10), (1, .slice g11 d.wr.length c11)]).run Try.prog w0 = .ok (.agg #[.slice g10 d.las.length c10, .slice g11 d.wr.length c11]) w0 := fun w0 => by kernel_rfl
      refine anyH_val (i := 12) (v := .agg #[.slice g10 d.las.length c10, .slice g11 d.wr.length c11]) (w' := Y11) (by kernel_rfl) rfl (some 17) rfl rfl (ex_build (us := #[(0, .slice g10 d.las.length c10), (1, .slice g11 d.wr.length c11)]) rfl (by simp [Act.eval]) (hbu _)) (hSof _ hBY11) ?_
      simp only [Act.put, List.setIfInBounds_toArray, List.set_cons_zero, List.set_cons_succ]
      have hk : w.heap.size ≤ Y11.heap.size := hBY11.size
      have hBf : Below w.heap.size w (Y11.alloc (.cells #[.slice g10 d.las.length c10, .slice g11 d.wr.length c11] 95)) := hBY11.alloc hk _
      refine anyH_val (i := 13) (v := .pointer (some ⟨Y11.heap.size, 0, none⟩)) (by kernel_rfl) rfl (some 18) rfl rfl (ex_box rfl rfl (run_box_long 95 #[.slice g10 d.las.length c10, .slice g11 d.wr.length c11] Y11)) (hSof _ hBf) ?_
      simp only [Act.put, List.setIfInBounds_toArray, List.set_cons_zero, List.set_cons_succ]
      refine anyH_val (i := 14) (v := .pointer (some ⟨Y11.heap.size, 0, none⟩)) (w' := Y11.alloc (.cells #[.slice g10 d.las.length c10, .slice g11 d.wr.length c11] 95)) (by kernel_rfl) rfl (some 2) rfl rfl rfl (hSof _ hBf) ?_
      simp only [Act.put, List.setIfInBounds_toArray, List.set_cons_zero, List.set_cons_succ]
      refine wpAnyH_done (by kernel_rfl) ⟨rfl, Y11.heap.size, _, _, _, _, _, _, ⟨⟨by omega, World.alloc_heap_new Y11 _, (own_less hV1Y11 hb).alloc _, (own_less hV2Y11 hb).alloc _⟩, hBf, ?_⟩, rfl⟩ _
      rintro j (h | h | h)
      · omega
      · exact own_base hV1Y11 j h
      · exact own_base hV2Y11 j h
  case fin =>
    rintro a w2 ⟨p', vl', vw', x1, x2, x3, x4, hfin, rfl⟩
    have HF := hide hfin
    clear hfin
    go_wp2_with fail
    go_ret
    exact ⟨_, _, _, rfl, HF.out⟩
end Go.Proofs.Ytfknjmfkkaoggaa
