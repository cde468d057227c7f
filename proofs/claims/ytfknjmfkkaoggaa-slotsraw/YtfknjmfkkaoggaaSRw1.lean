/- Slots: a root that is made by hand, whole. -/
import Derived.Test.YtfknjmfkkaoggaaSRw0
namespace Go.Proofs.Ytfknjmfkkaoggaa
open Go.RowKit Go.Shelf

theorem results_sec57 {fn : Func} {tmps : Array Value} {w : World} {b : Nat} {s : Sec} {k : Nat} (h : fn.results = #[.cell k 57]) (hp : tmps[k]?.getD undef = .pointer (some ⟨b, 0, none⟩)) (hs : s.length = 64) (hb : w.heap[b]? = some (.cells (secA s) 57)) : (results fn tmps).run Try.prog w = .ok (.agg (secA s)) w := by
  have h1 := run_load_row (P := Try.prog) (w := w) infoSecA undSecA rfl (by rw [secA_size, hs]) hb
  simp only [Instr.loadAt, Instr.sureAddr, Sem.run_bind, Sem.run_pure, Result.andThen_ok] at h1
  simp [results, h, hp, h1, asAddr]
/-- A byte of a block that holds a sector is set. -/
theorem set_sec {W : World} {g i : Nat} {s : Sec} {T : TypeId} (h : W.heap[g]? = some (.cells (secA s) T)) (hs : s.length = 64) (hi : i < 64) (c : UInt8) : ∃ u, W.cell? ⟨g, i, none⟩ = some u ∧ W.frozen? ⟨g, i, none⟩ = false ∧ (W.setCell ⟨g, i, none⟩ (.int .u8 c.toNat)).heap[g]? = some (.cells (secA (s.set i c)) T) ∧ (s.set i c).length = 64 ∧ ∀ n, n ≤ g → Below n W (W.setCell ⟨g, i, none⟩ (.int .u8 c.toNat)) := by
  obtain ⟨c0, hc⟩ : ∃ c, s[i]? = some c := ⟨_, List.getElem?_eq_getElem (by omega)⟩
  refine ⟨_, by simp only [World.cell?, h]; exact secA_at _ _ _ hc, by simp [World.frozen?, h], by rw [heap_setCell_same W g _ _ T _ h, secA_set], by rw [List.length_set]; exact hs, fun n hn => (Below.refl _ W).setCell (p := ⟨g, i, none⟩) hn _⟩
theorem sec_mem57 {W : World} {g : Nat} {s : Sec} {T : TypeId} (h : W.heap[g]? = some (.cells (secA s) T)) (n : Nat) : ByteMem W.heap.size W (some ⟨g, 0, none⟩) (s.take n) := fun j c hj => by
  refine ⟨g, 0, rfl, hp_lt h, ?_⟩
  have hj' : s[j]? = some c := by
    rw [List.getElem?_take] at hj
    split at hj
    · exact hj
    · cases hj
  simp only [World.cell?, h, Nat.zero_add]
  exact secA_at _ _ _ hj'
set_option maxRecDepth 100000 in
set_option maxHeartbeats 4000000 in
theorem lroot_any (ba : Option Addr) (b : List UInt8) (ln cap : Nat) (t : V) (w : World) (hB : ByteMem w.heap.size w ba b) (hln : b.length = ln) (hlm : ln ≤ 1000000) :
    Calls Try.prog 33 #[.slice ba ln cap, .int .u64 t.toNat] w fun e w' => (∃ s : Sec, s.length = 64 ∧ e = .returned (.agg (secA s))) ∧ Below w.heap.size w w' := by
  obtain ⟨W0, hW0, f0, b0, z0⟩ : ∃ W, w.alloc (.cells (secA sec0) 57) = W ∧ W.heap[w.heap.size]? = some (.cells (secA sec0) 57) ∧ Below w.heap.size w W ∧ W.heap.size = w.heap.size + 1 := ⟨_, rfl, World.alloc_heap_new _ _, (Below.refl _ _).alloc (Nat.le_refl _) _, by simp⟩
  obtain ⟨u0, p0, q0, f1, l1, b1⟩ := set_sec (i := 0) f0 rfl (by omega) 72
  obtain ⟨u1, p1, q1, f2, l2, b2⟩ := set_sec (i := 1) f1 l1 (by omega) 71
  obtain ⟨u1', p1', q1', _, _, _⟩ := set_sec (i := 1) f0 rfl (by omega) 71
  obtain ⟨s2, hs2⟩ : ∃ s, (sec0.set 0 72).set 1 71 = s := ⟨_, rfl⟩
  rw [hs2] at f2 l2
  have B2 : Below w.heap.size w ((W0.setCell ⟨w.heap.size, 0, none⟩ (.int .u8 72)).setCell ⟨w.heap.size, 1, none⟩ (.int .u8 71)) := (b0.trans (b1 _ (Nat.le_refl _))).trans (b2 _ (Nat.le_refl _))
  have HW0 := hide hW0
  have H2 := hide (And.intro f2 (And.intro l2 B2))
  have HB := hide hB
  have HLN := hide hln
  clear hW0 f0 b0 f1 l1 b1 f2 l2 b2 B2 hs2 hB hln
  have hcl : ((BitVec.ofNat 64 ln).toNat : Int) = ln := by rw [BitVec.toNat_ofNat]; omega
  have hu1 : IntKind.u64.wrap (ln : Int) = ln := by show (ln : Int) % 18446744073709551616 = _; omega
  go_enter Try.func33, Try.ntmps33
  go_wp2_with (first
    | (refine l_alloc _ infoSecA rfl rfl ?_; rw [show (Lib.byteCells sec0).toArray = secA sec0 from rfl, HW0.out])
    | (go_at_call 53; refine stopHere ?_))
  unfold Hid
  refine (lput_any w.heap.size 2 8 _ t s2 _ H2.out.1 H2.out.2.1 (by omega) (by omega)).mono ?_
  rintro e w3 ⟨⟨v3, rfl⟩, ⟨s3, l3, f3⟩, b3⟩
  have H3 := hide (And.intro f3 (And.intro l3 (H2.out.2.2.trans b3)))
  clear f3 l3 b3 p0 q0 p1 q1 p1' q1'
  have hp4 := lput_any w.heap.size 10 4 _ (BitVec.ofNat 64 ln) s3 w3 H3.out.1 H3.out.2.1 (by omega) (by omega)
  rw [hcl] at hp4
  have HP4 := hide hp4
  clear hp4
  go_wp2_with (first
    | (go_at_call 53; refine HP4.out.mono ?_; rintro e w4 ⟨⟨v4, rfl⟩, ⟨s4, l4, f4⟩, b4⟩; have H4 := hide (And.intro f4 (And.intro l4 (H3.out.2.2.trans b4))); clear f4 l4 b4; refine stopHere ?_))
  unfold Hid
  have s04 := H4.out.2.2.size
  have hs5 := rsum_any ba cap b w4 (by rw [HLN.out]; omega) (fun j c hj => by
    obtain ⟨g, o, e1, e2, e3⟩ := HB.out.below H4.out.2.2 j c hj
    exact ⟨g, o, e1, by omega, e3⟩)
  rw [HLN.out] at hs5
  obtain ⟨c5, hc5⟩ : ∃ c, (~~~ sumL b (BitVec.allOnes 32)) = c := ⟨_, rfl⟩
  rw [hc5] at hs5
  have hp5 := lput_any w.heap.size 14 4 _ (vOf c5) s4 w4 H4.out.1 H4.out.2.1 (by omega) (by omega)
  rw [vOf_nat] at hp5
  have hu5 : IntKind.u64.wrap (c5.toNat : Int) = c5.toNat := by
    have := c5.isLt
    show (c5.toNat : Int) % 18446744073709551616 = _
    omega
  have HP5 := hide (And.intro hs5 hp5)
  clear hs5 hp5 hc5
  go_wp2_with (first
    | (go_at_call 19; refine HP5.out.1.mono ?_; rintro e w' ⟨rfl, hw'⟩; rw [hw']; clear hw')
    | (go_at_call 53; refine HP5.out.2.mono ?_; rintro e w5 ⟨⟨v5, rfl⟩, ⟨s5, l5, f5⟩, b5⟩; have H5 := hide (And.intro f5 (And.intro l5 (H4.out.2.2.trans b5))); clear f5 l5 b5; refine stopHere ?_))
  unfold Hid
  have hs6 := rsum_any (some ⟨w.heap.size, 0, none⟩) 64 (s5.take 18) w5 (by rw [List.length_take]; omega) (sec_mem57 H5.out.1 18)
  rw [show (s5.take 18).length = 18 by rw [List.length_take, H5.out.2.1]; rfl] at hs6
  obtain ⟨c6, hc6⟩ : ∃ c, (~~~ sumL (s5.take 18) (BitVec.allOnes 32)) = c := ⟨_, rfl⟩
  rw [hc6] at hs6
  have hp6 := lput_any w.heap.size 18 4 _ (vOf c6) s5 w5 H5.out.1 H5.out.2.1 (by omega) (by omega)
  rw [vOf_nat] at hp6
  have hu6 : IntKind.u64.wrap (c6.toNat : Int) = c6.toNat := by
    have := c6.isLt
    show (c6.toNat : Int) % 18446744073709551616 = _
    omega
  have HP6 := hide (And.intro hs6 hp6)
  clear hs6 hp6 hc6
  go_wp2_with (first
    | (go_at_call 19; refine HP6.out.1.mono ?_; rintro e w' ⟨rfl, hw'⟩; rw [hw']; clear hw')
    | (go_at_call 53; refine HP6.out.2.mono ?_; rintro e w6 ⟨⟨v6, rfl⟩, ⟨s6, l6, f6⟩, b6⟩; have H6 := hide (And.intro f6 (And.intro l6 (H5.out.2.2.trans b6))); clear f6 l6 b6; refine stopHere ?_))
  unfold Hid
  obtain ⟨tt, htt⟩ : ∃ tt, t.toNat = tt := ⟨_, rfl⟩
  rw [htt]
  have fin : ∀ (V : World) (s : Sec), V.heap[w.heap.size]? = some (.cells (secA s) 57) → s.length = 64 → Below w.heap.size w V → (Instr.loadAt 57 (.pointer (some ⟨w.heap.size, 0, none⟩))).run Try.prog V = .ok (.agg (secA s)) V ∧ ∃ V', (Instr.storeAt 57 (.pointer (some ⟨w.heap.size, 0, none⟩)) (.agg (secA s))).run Try.prog V = .ok () V' ∧ V'.heap[w.heap.size]? = some (.cells (secA s) 57) ∧ Below w.heap.size w V' := by
    intro V s hf hl hb
    refine ⟨run_load_row (P := Try.prog) (w := V) infoSecA undSecA rfl (by rw [secA_size, hl]) hf, ?_⟩
    obtain ⟨V', h1, h2, h3, h4, h5⟩ := run_store_sec infoSecA hf hl hl
    exact ⟨V', h1, h2, hb.trans (h5.mono (Nat.le_refl _))⟩
  by_cases h7 : tt % 8 = 7
  · have hm1 : Int.tmod (tt : Int) 8 = 7 := by rw [Int.tmod_eq_emod_of_nonneg (by omega)]; omega
    have hm2 : (tt : Int) % 8 = 7 := by omega
    obtain ⟨u7, p7, q7, f7, l7, b7⟩ := set_sec (i := 60) H6.out.1 H6.out.2.1 (by omega) 1
    have B7 := H6.out.2.2.trans (b7 _ (Nat.le_refl _))
    obtain ⟨g1, V8, g2, g3, g4⟩ := fin _ _ f7 l7 B7
    have HG := hide (And.intro g1 (And.intro g2 (And.intro g3 (And.intro l7 g4))))
    clear f7 l7 b7 B7 g1 g2 g3 g4 fin
    go_wp2_with (first
      | (refine l_load _ HG.out.1 rfl rfl rfl ?_)
      | (refine l_store _ HG.out.2.1 rfl rfl rfl rfl ?_))
    exact bodyPost_ret (results_sec57 rfl rfl HG.out.2.2.2.1 HG.out.2.2.1) rfl ⟨⟨_, HG.out.2.2.2.1, rfl⟩, HG.out.2.2.2.2⟩
  · have hm1 : ¬ Int.tmod (tt : Int) 8 = 7 := by rw [Int.tmod_eq_emod_of_nonneg (by omega)]; omega
    have hm2 : ¬ (tt : Int) % 8 = 7 := by omega
    have hm3 : (Int.tmod (tt : Int) 8 == 7) = false := by rw [beq_eq_false_iff_ne]; exact hm1
    obtain ⟨g1, V8, g2, g3, g4⟩ := fin _ _ H6.out.1 H6.out.2.1 H6.out.2.2
    have HG := hide (And.intro g1 (And.intro g2 (And.intro g3 (And.intro H6.out.2.1 g4))))
    clear g1 g2 g3 g4 fin
    go_wp2_with (first
      | (refine l_load _ HG.out.1 rfl rfl rfl ?_)
      | (refine l_store _ HG.out.2.1 rfl rfl rfl rfl ?_))
    exact bodyPost_ret (results_sec57 rfl rfl HG.out.2.2.2.1 HG.out.2.2.1) rfl ⟨⟨_, HG.out.2.2.2.1, rfl⟩, HG.out.2.2.2.2⟩
end Go.Proofs.Ytfknjmfkkaoggaa
