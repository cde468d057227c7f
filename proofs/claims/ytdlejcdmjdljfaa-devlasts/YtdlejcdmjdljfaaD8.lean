/- The document's device: Read. -/
import Derived.Test.YtdlejcdmjdljfaaD7
namespace Go.Proofs.Ytdlejcdmjdljfaa
open Go.RowKit Go.Shelf

theorem rwr_cells {w : World} {b o : Nat} {x : Nat × Sec} (h : w.rangeAt b o (wrC1 x)) (h64 : x.2.length = 64) : w.cell? ⟨b, o, none⟩ = some (.int .i64 x.1) ∧ (Instr.loadAt 53 (.pointer (some ⟨b, o + 1, none⟩))).run Try.prog w = .ok (.agg (secA x.2)) w := by
  refine ⟨by have := h 0 (.int .i64 x.1) (by simp [wrC1]); simpa using this, ?_⟩
  refine run_loadAt_mid w b (o + 1) _ _ _ (fun j v hv => ?_) undSecR rfl (by rw [byteCells_len, h64]; exact info_size infoSecR)
  have := h (j + 1) v (by simpa [wrC1] using hv)
  rw [← this]
  congr 2
  omega
theorem rread_bad (base p : Nat) (d : Dv) (vl vw : Value) (i : Int) (w : World) (h : IsR base p d vl vw w) (hi : wrongI d.las.length i = 2) :
    Calls Try.prog 27 #[.pointer (some ⟨p, 0, none⟩), .int .i64 i] w fun e w' => e = .returned (.tuple #[.agg (secA sec0), .int .i64 2]) ∧ Below w.heap.size w w' := by
  obtain ⟨W1, hW1⟩ : ∃ W1, w.alloc (.cells (secA sec0) 53) = W1 := ⟨_, rfl⟩
  have f1 : W1.heap[w.heap.size]? = some (.cells (secA sec0) 53) := by rw [← hW1]; exact World.alloc_heap_new w _
  have hB1 : Below w.heap.size w W1 := by rw [← hW1]; exact (Below.refl _ w).alloc (Nat.le_refl _) _
  have hD1 := h.below hB1
  obtain ⟨q0, _⟩ := hD1.cells
  obtain ⟨ga, gc, rfl⟩ := own_shape hD1.las
  obtain ⟨W2, s1, s2, s3, s4, s5⟩ := run_store_sec (s' := sec0) infoSecR f1 rfl rfl
  have HS := hide s1
  have HF := hide (And.intro s2 (hB1.trans s5))
  clear h f1 s1 s2 s3 s4 s5 hB1 hD1
  unfold wrongI at hi
  by_cases h1 : i < 0
  · clear hi
    go_enter Try.func27, Try.ntmps27
    go_wp2_with (first | (refine l_alloc _ infoSecR rfl rfl ?_; rw [show (Lib.byteCells sec0).toArray = secA sec0 from rfl, hW1]) | (refine l_val rfl (.agg (secA sec0)) (by kernel_rfl) ?_) | (refine l_store _ HS.out rfl rfl rfl rfl ?_))
    exact bodyPost_ret (results_sec rfl infoSecR undSecR rfl rfl rfl rfl HF.out.1) rfl ⟨rfl, HF.out.2⟩
  · have h2 : (d.las.length : Int) ≤ i := by
      by_cases h2 : (d.las.length : Int) ≤ i
      · exact h2
      · rw [if_neg (by omega)] at hi
        omega
    clear hi
    go_enter Try.func27, Try.ntmps27
    go_wp2_with (first | (refine l_alloc _ infoSecR rfl rfl ?_; rw [show (Lib.byteCells sec0).toArray = secA sec0 from rfl, hW1]) | (refine l_val rfl (.agg (secA sec0)) (by kernel_rfl) ?_) | (refine l_store _ HS.out rfl rfl rfl rfl ?_))
    exact bodyPost_ret (results_sec rfl infoSecR undSecR rfl rfl rfl rfl HF.out.1) rfl ⟨rfl, HF.out.2⟩

set_option maxRecDepth 100000 in
set_option maxHeartbeats 2000000 in
theorem rread_any (base p : Nat) (d : Dv) (vl vw : Value) (i : Nat) (w : World) (h : IsR base p d vl vw w) (hd : DvOk d) (hi : i < d.las.length) :
    Calls Try.prog 27 #[.pointer (some ⟨p, 0, none⟩), .int .i64 i] w fun e w' => e = .returned (.tuple #[.agg (secA (readS d i)), .int .i64 0]) ∧ Below w.heap.size w w' := by
  obtain ⟨s, hs⟩ : ∃ s, d.las[i]? = some s := ⟨d.las[i], by simp [hi]⟩
  have h64 := hd.las s (List.mem_of_getElem? hs)
  obtain ⟨W1, hW1⟩ : ∃ W1, w.alloc (.cells (secA sec0) 53) = W1 := ⟨_, rfl⟩
  have z1 : W1.heap.size = w.heap.size + 1 := by rw [← hW1]; simp
  have f1 : W1.heap[w.heap.size]? = some (.cells (secA sec0) 53) := by rw [← hW1]; exact World.alloc_heap_new w _
  have hB1 : Below w.heap.size w W1 := by rw [← hW1]; exact (Below.refl _ w).alloc (Nat.le_refl _) _
  have hD1 := h.below hB1
  obtain ⟨q0, q1, _⟩ := hD1.cells
  obtain ⟨g, gc, rfl, hgc, hra, _⟩ := hD1.sec hd hs
  obtain ⟨ga2, gc2, rfl⟩ := own_shape hD1.wr
  have hmo := hd.most
  have hfew := hd.few
  have h0 : ¬ ((i : Int) < 0) := by omega
  have h2 : ¬ ((d.las.length : Int) ≤ i) := by omega
  have hl1 : (Instr.loadAt 53 (.pointer (some ⟨g, i * 64, none⟩))).run Try.prog W1 = .ok (.agg (secA s)) W1 := run_loadAt_mid W1 g (i * 64) _ _ _ hra undSecR rfl (by rw [byteCells_len, h64]; exact info_size infoSecR)
  have hst := run_store_new (P := Try.prog) infoSecR W1 (cs := secA s) (c := secA sec0) (by rw [secA_size, h64]) rfl (secA_one s)
  obtain ⟨W2, hW2⟩ : ∃ W2, W1.alloc (.cells (secA s) 53) = W2 := ⟨_, rfl⟩
  rw [hW2, z1] at hst
  have hB2 : Below w.heap.size w W2 := by rw [← hW2]; exact hB1.alloc (by omega) _
  have f2 : W2.heap[w.heap.size + 1]? = some (.cells (secA s) 53) := by rw [← hW2, ← z1]; exact World.alloc_heap_new W1 _
  have g1 : W2.heap[w.heap.size]? = some (.cells (secA sec0) 53) := by rw [← hW2]; exact (Below.heap_alloc _ _ _ (by omega)).trans f1
  have HL := hide hl1
  have HS := hide hst
  have HH := hide (And.intro h (And.intro hd (And.intro hB2 (And.intro f2 (And.intro g1 hs)))))
  clear h hd hB1 hD1 f1 hra hl1 hst hB2 f2 g1 hs
  go_enter Try.func27, Try.ntmps27
  go_wp2_with (first | (refine l_alloc (w := w) _ infoSecR rfl rfl ?_; rw [show (Lib.byteCells sec0).toArray = secA sec0 from rfl, hW1]) | (refine l_load _ HL.out rfl rfl rfl ?_; refine stopHere ?_))
  unfold Hid
  refine l_alloc _ infoSecR rfl rfl ?_
  rw [show (Lib.byteCells sec0).toArray = secA sec0 from rfl, z1]
  refine l_store _ HS.out rfl rfl rfl rfl ?_
  go_wp2_with fail
  obtain ⟨h, hd, hB2, f2, g1, hs⟩ := HH.out
  go_loopw [7] (fun j wr => ∃ k : Nat, k ≤ d.wr.length ∧ j = .int .i64 k ∧ wr.heap[w.heap.size + 1]? = some (.cells (secA (readAt d i k)) 53) ∧ wr.heap[w.heap.size]? = some (.cells (secA sec0) 53) ∧ Below w.heap.size w wr) (fun j _ => d.wr.length - (intOf j).toNat)
  case atStart => exact ⟨0, Nat.zero_le _, rfl, by have : readAt d i 0 = s := (by simp [readAt, List.getD_eq_getElem?_getD, hs]); rw [this]; exact f2, g1, hB2⟩
  case round =>
    obtain ⟨k, hk, rfl, e1, e0, hbw⟩ := hrel
    have hDr := h.below hbw
    obtain ⟨_, r1, _⟩ := hDr.cells
    have hkb : (k : Int) ≤ 1000000 := by omega
    have hw1 : IntKind.i64.wrap ((k : Int) + 1) = k + 1 := by rw [IntKind.wrap_i64]; omega
    by_cases hlt : k < d.wr.length
    · obtain ⟨x, hx⟩ : ∃ x, d.wr[k]? = some x := ⟨d.wr[k], by simp [hlt]⟩
      obtain ⟨g2, gcx, hv, hg2, hr, _⟩ := hDr.wrAt hd hx
      cases hv
      have hx2 := (hd.wr x (List.mem_of_getElem? hx)).2
      obtain ⟨b0, b1⟩ := rwr_cells hr hx2
      have hsu := readAt_succ d i k x hx
      have hra := readAt_len d hd i k
      obtain ⟨W3, s1, s2, s3, s4, s5⟩ := run_store_sec (s' := x.2) infoSecR e1 hra hx2
      have HB := hide b1
      have HS := hide s1
      have HE := hide (And.intro e1 (And.intro e0 (And.intro hbw (And.intro s2 (And.intro s3 s5)))))
      clear b1 s1 e1 e0 hbw s2 s3 s4 s5 hDr hr h hd hB2 f2 g1 HH HL hs
      by_cases he : x.1 = i
      · have he' : ((x.1 : Int) == (i : Int)) = true := by simp [he]
        rw [if_pos he] at hsu
        go_wp2_with (first | (refine l_load _ HB.out rfl rfl rfl ?_) | (refine l_store _ HS.out rfl rfl rfl rfl ?_; refine stopHere ?_))
        unfold Hid
        go_wp2_with fail
        obtain ⟨e1, e0, hbw, s2, s3, s5⟩ := HE.out
        go_roundw
        case rel => exact ⟨k + 1, by omega, by simp, by rw [hsu]; exact s2, (s3 _ (by omega)).trans e0, hbw.trans (s5.mono (by omega))⟩
        case measure => simp [intOf]; omega
      · have he' : ((x.1 : Int) == (i : Int)) = false := by rw [beq_eq_false_iff_ne]; omega
        rw [if_neg he] at hsu
        go_wp2_with fail
        obtain ⟨e1, e0, hbw, s2, s3, s5⟩ := HE.out
        go_roundw
        case rel => exact ⟨k + 1, by omega, by simp, by rw [hsu]; exact e1, e0, hbw⟩
        case measure => simp [intOf]; omega
    · obtain rfl : k = d.wr.length := by omega
      have hra := readAt_len d hd i d.wr.length
      have hlo := run_load_row (P := Try.prog) (w := wr) (cs := secA (readAt d i d.wr.length)) (g := w.heap.size + 1) (ty' := 53) infoSecR undSecR rfl (by rw [secA_size, hra]) e1
      obtain ⟨W3, s1, s2, s3, s4, s5⟩ := run_store_sec (s' := readAt d i d.wr.length) infoSecR e0 rfl hra
      have HL2 := hide hlo
      have HS2 := hide s1
      have HE := hide (And.intro s2 (hbw.trans s5))
      clear hlo s1 s2 s3 s4 s5 e1 e0 hbw hDr h hd hB2 f2 g1 HH HL HS hs
      go_wp2_with (first | (refine l_load _ HL2.out rfl rfl rfl ?_) | (refine l_store _ HS2.out rfl rfl rfl rfl ?_; refine stopHere ?_))
      unfold Hid
      go_wp2_with fail
      exact bodyPost_ret (results_sec rfl infoSecR undSecR rfl rfl rfl hra HE.out.1) rfl ⟨rfl, HE.out.2⟩
end Go.Proofs.Ytdlejcdmjdljfaa
