/- The document's Crash, by a script that lies anywhere; scripts of the call's own. -/
import Derived.Test.YtdlejcdmjdljfaaD18
import Derived.Test.YtdlejcdmjdljfaaD19
namespace Go.Proofs.Ytdlejcdmjdljfaa
open Go.RowKit Go.Shelf

set_option maxRecDepth 100000 in
set_option maxHeartbeats 2000000 in
theorem rland_gen (base p : Nat) (d : Dv) (vl vw : Value) (ao : Option Addr) (bs : List Bool) (cap : Nat) (w : World) (h : IsR base p d vl vw w) (hd : DvOk d) (hb : base ≤ w.heap.size) (hm : BoolMem w.heap.size w ao bs) :
    Calls Try.prog 36 #[.pointer (some ⟨p, 0, none⟩), .slice ao bs.length cap, .bool false] w fun e w' => (∃ v, e = .returned v) ∧ ToR base p vl vw (settled d (svOf bs)) w w' := by
  obtain ⟨W, hW⟩ : ∃ W, w.alloc (.cells #[] 53) = W := ⟨_, rfl⟩
  have hB : Below w.heap.size w W := by rw [← hW]; exact (Below.refl _ w).alloc (Nat.le_refl _) _
  have hz : W.heap.size = w.heap.size + 1 := by rw [← hW]; simp
  have hv := own_empty w w.heap.size 53 64 (Nat.le_refl _)
  rw [hW] at hv
  have hDW := h.below hB
  obtain ⟨q0, q1, _⟩ := hDW.cells
  have hfew := hd.few
  have hmost := hd.most
  have hpos := hd.pos
  obtain ⟨g0, gc0, rfl⟩ := own_shape hDW.las
  obtain ⟨v1, w1, hap, y1, y2⟩ := copied (T := 69) (t := 69) (w := w) Try.underlying69 infoSecR (by simp [Value.cells, byteCells_len, sec0]) (by omega) (by omega) hDW.las (by omega) (las_one d.las) w.heap.size hB.size hv (by omega) hB rfl
  obtain ⟨g1, c1, rfl⟩ : ∃ g1 c1, v1 = .slice (some ⟨g1, 0, none⟩) d.las.length c1 := by
    obtain ⟨_, ⟨_, h3⟩ | ⟨g, cap, cur, h2, _⟩⟩ := id y1
    · omega
    · exact ⟨g, cap, h2⟩
  have hg1 : w.heap.size ≤ g1 := own_base y1 g1 rfl
  have hc1 : d.las.length ≤ c1 := by
    obtain ⟨_, ⟨h2, _⟩ | ⟨g, cap, cur, h2, _, _, h3, _⟩⟩ := id y1
    · cases h2
    · cases h2; exact h3
  have HA := hide hap
  have HY := hide (And.intro y1 y2)
  have HH := hide (And.intro h (And.intro hd hm))
  clear h hd hap y1 y2 hv hB hDW hm
  go_enter Try.func36, Try.ntmps36
  go_wp2_with (first | (refine l_val rfl _ (ex_slice (us := #[]) rfl rfl (run_none Try.underlying69 infoSecR w)) ?_; rw [hW]) | (at_builtin; refine stopHere ?_))
  unfold Hid
  refine l_val rfl _ (ex_append (t := 69) rfl rfl rfl HA.out) ?_
  go_wp2_with fail
  go_loopw [7] (fun j wr => ∃ k : Nat, k ≤ d.wr.length ∧ j = .int .i64 k ∧ wr.ownsRow w.heap.size 53 64 (.slice (some ⟨g1, 0, none⟩) d.las.length c1) d.las.length (lasC (landAt d (svOf bs) k)) ∧ Below w.heap.size w wr) (fun j _ => d.wr.length - (intOf j).toNat)
  case atStart => exact ⟨0, Nat.zero_le _, rfl, HY.out.1, HY.out.2⟩
  case round =>
    obtain ⟨k, hk, rfl, hrow, hbw⟩ := hrel
    have hDr := HH.out.1.below hbw
    obtain ⟨_, r1, _, rf⟩ := hDr.cells
    have r0 := hDr.cells.1
    have rf0 := hDr.cells.2.2.1
    obtain ⟨ga2, gc2, rfl⟩ := own_shape hDr.wr
    have hw1 : IntKind.i64.wrap ((k : Int) + 1) = k + 1 := by rw [IntKind.wrap_i64]; omega
    by_cases hlt : k < d.wr.length
    · obtain ⟨x, hx⟩ : ∃ x, d.wr[k]? = some x := ⟨d.wr[k], by simp [hlt]⟩
      obtain ⟨g2, gcx, hv, hg2, hr, _⟩ := hDr.wrAt HH.out.2.1 hx
      cases hv
      obtain ⟨hx1, hx2⟩ := HH.out.2.1.wr x (List.mem_of_getElem? hx)
      obtain ⟨b0, _⟩ := rwr_cells hr hx2
      have hsu := landAt_succ (sv := (svOf bs)) hx
      have hrg : wr.rangeAt g2 (k * 65 + 1) (Lib.byteCells x.2) := fun j v hv => by
        have := hr (j + 1) v (by simpa [wrC1] using hv)
        rw [← this]
        congr 2
        omega
      obtain ⟨s0, hs0⟩ : ∃ s0, (landAt d (svOf bs) k)[x.1]? = some s0 := ⟨_, List.getElem?_eq_getElem (by rw [landAt_len]; exact hx1)⟩
      have hs64 := landAt_ok HH.out.2.1 (svOf bs) k s0 (List.mem_of_getElem? hs0)
      obtain ⟨gx, gcx, hvx, _, hra, hfz⟩ := own_range hrow (flat_at _ 64 _ (fun s hs => (byteCells_len s).trans (landAt_ok HH.out.2.1 (svOf bs) k s hs)) x.1 s0 hs0) hpos
      cases hvx
      have hth : wr.there g1 (x.1 * 64) 64 := fun j hj => ⟨hra.isSome j (by rw [byteCells_len, hs64]; exact hj), hfz _⟩
      have hpl : p < w.heap.size := (Array.getElem?_eq_some_iff.1 HH.out.1.here).1
      have hgl : g2 < w.heap.size := own_lt HH.out.1.wr g2 rfl
      have HRG := hide hrg
      have HTH := hide hth
      have HE := hide (And.intro hrow hbw)
      have hkb : (k : Int) ≤ 1000000 := by omega
      clear hrow hbw hDr hr hrg hth hra hfz hs0
      by_cases hkl : k < bs.length
      · obtain ⟨v, hv⟩ : ∃ v, bs[k]? = some v := ⟨bs[k], by simp [hkl]⟩
        obtain ⟨b, off, rfl, hb0, hcell⟩ := HH.out.2.2.2 k v hv
        have hsv : svOf bs k = v := by simp [svOf, List.getD_eq_getElem?_getD, hv]
        have hl1 := HH.out.2.2.1
        have hcW : wr.cell? ⟨b, off + k, none⟩ = some (.bool v) := (HE.out.2.cell (p := ⟨b, off + k, none⟩) hb0).trans hcell
        cases v with
        | true =>
          rw [hsv, if_pos rfl] at hsu
          go_wp2_with fail
          have hu53 := undSecR
          have hi53 : (Try.prog.info? 53).map (·.size) = some (Lib.byteCells x.2).length := by rw [byteCells_len, hx2]; exact info_size infoSecR
          have hbl : (Lib.byteCells x.2).length = 64 := (byteCells_len x.2).trans hx2
          have hone := one_bytes x.2
          have hth : wr.there g1 (x.1 * 64) 64 := HTH.out
          have hrg : wr.rangeAt g2 (k * 65 + 1) (Lib.byteCells x.2) := HRG.out
          go_region_held3 (fun w' => w'.cell? ⟨p, 1, none⟩ = some (.slice (some ⟨g2, 0, none⟩) d.wr.length gc2) ∧ w'.cell? ⟨g2, k * 65, none⟩ = some (.int .i64 x.1) ∧ w'.rangeAt g2 (k * 65 + 1) (Lib.byteCells x.2) ∧ w'.there g1 (x.1 * 64) 64) ((go_split_ands; refine ⟨?_, ?_, ?_, ?_⟩ <;> first | assumption | exact kc_set (by assumption) (by omega) | exact kr_set (by assumption) (by omega) | (apply World.there_setCells; assumption)))
            (fail)
          go_wp2_with fail
          obtain ⟨hrow, hbw⟩ := HE.out
          go_roundw
          case rel => exact ⟨k + 1, by omega, by simp, by rw [hsu]; exact own_setSec (i := x.1) (s := x.2) hrow.drew (landAt_len d _ k) (landAt_ok HH.out.2.1 _ k) hx1 hx2, hbw.drew.trans (below_setC hg1 _ _ _)⟩
          case measure => simp [intOf]; omega

        | false =>
          rw [hsv, if_neg (by simp)] at hsu
          go_wp2_with fail
          obtain ⟨hrow, hbw⟩ := HE.out
          go_roundw
          case rel => exact ⟨k + 1, by omega, by simp, by rw [hsu]; exact hrow, hbw⟩
          case measure => simp [intOf]; omega
      · have hsv : svOf bs k = false := by simp [svOf, List.getD_eq_getElem?_getD, List.getElem?_eq_none (show bs.length ≤ k by omega)]
        have hkl' : ¬ ((k : Int) < bs.length) := by omega
        rw [hsv, if_neg (by simp)] at hsu
        go_wp2_with fail
        obtain ⟨hrow, hbw⟩ := HE.out
        go_roundw
        case rel => exact ⟨k + 1, by omega, by simp, by rw [hsu]; exact hrow, hbw⟩
        case measure => simp [intOf]; omega
    · obtain rfl : k = d.wr.length := by omega
      have HE := hide (And.intro hrow (And.intro hbw hDr))
      clear hrow hbw hDr
      go_wp2_with fail
      obtain ⟨hrow, hbw, hDr⟩ := HE.out
      obtain ⟨h, hd, _⟩ := HH.out
      have hpl : p < w.heap.size := (Array.getElem?_eq_some_iff.1 h.here).1
      have hne : g1 ≠ p := by omega
      go_end0
      refine ⟨⟨_, rfl⟩, .slice (some ⟨g1, 0, none⟩) d.las.length c1, .slice none 0 0, ⟨h.low, ?_, ?_, World.ownsRow_nil _ _ _ _⟩, ⟨?_, fun j hj hn => ?_⟩, fun j hj => ?_⟩
      · have k1 := heap_setCell_same _ p 0 _ _ (.slice (some ⟨g1, 0, none⟩) d.las.length c1) hDr.here
        exact heap_setCell_same _ p 1 _ _ (.slice none 0 0) k1
      · have h1 : (settled d (svOf bs)).las.length = d.las.length := landAt_len d _ _
        rw [h1]
        exact own_less (own_same hrow (fun g e => by cases e; exact (Below.heap_setCell _ _ _ _ hne).trans (Below.heap_setCell _ _ _ _ hne))) hb
      · exact ((hbw.mono hb).setCell (p := ⟨p, 0, none⟩) h.low _).setCell (p := ⟨p, 1, none⟩) h.low _
      · have hjp : j ≠ p := fun e => hn (.inl e)
        exact (Below.heap_setCell _ _ _ _ hjp).trans ((Below.heap_setCell _ _ _ _ hjp).trans (hbw.block j hj))
      · rcases hj with h1 | h1 | h1
        · exact .inl (.inl h1)
        · cases h1
          exact .inr hg1
        · cases h1
theorem rcrash_gen (base p : Nat) (d : Dv) (vl vw : Value) (ao : Option Addr) (bs : List Bool) (cap : Nat) (w : World) (h : IsR base p d vl vw w) (hd : DvOk d) (hb : base ≤ w.heap.size) (hm : BoolMem w.heap.size w ao bs) :
    Calls Try.prog 21 #[.pointer (some ⟨p, 0, none⟩), .slice ao bs.length cap] w fun e w' => e = .returned (.int .i64 0) ∧ ToR base p vl vw (settled d (svOf bs)) w w' := by
  have HC := hide (rland_gen base p d vl vw ao bs cap w h hd hb hm)
  clear h hd hm
  go_enter Try.func21, Try.ntmps21
  go_wp2_with (go_at_call 36; refine HC.out.mono ?_; rintro e w' ⟨⟨v, rfl⟩, ht⟩; have HT := hide ht; clear ht)
  go_ret
  exact ⟨rfl, HT.out⟩
theorem infoBool : (Try.prog.info? 4).map (fun i => (i.zero, i.size, i.bytes)) = some (some (.bool false), 1, 1) := by kernel_rfl
/-- A row of bools of the call's own, as a script. -/
theorem bools_own {w : World} {base n : Nat} {g c : Nat} {bs : List Bool} (h : w.ownsRow base 4 1 (.slice (some ⟨g, 0, none⟩) n c) n (bs.map Value.bool)) (hl : bs.length ≤ 1000) : BoolMem w.heap.size w (some ⟨g, 0, none⟩) bs := by
  refine ⟨by omega, fun j v hj => ⟨g, 0, rfl, own_lt h g rfl, ?_⟩⟩
  have := h.cells rfl j (.bool v) (by rw [List.getElem?_map, hj]; rfl)
  rwa [Addr.add_mid] at this
end Go.Proofs.Ytdlejcdmjdljfaa
