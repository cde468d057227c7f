/- settle: its walk; Sync and Crash. -/
import Derived.Test.YtfknjmfkkaoggaaD4
namespace Go.Proofs.Ytfknjmfkkaoggaa
open Go.RowKit Go.Shelf
attribute [local go_sem] Oper.semAt_some

theorem run_load_cell {T : TypeId} {d : TypeDesc} {w : World} {b i : Nat} {v : Value} (hu : Try.prog.underlying T = some d) (hd : d.isRow = false) (hc : w.cell? ⟨b, i, none⟩ = some v) : (Instr.loadAt T (.pointer (some ⟨b, i, none⟩))).run Try.prog w = .ok v w := by
  have ha : (isAgg T).run Try.prog w = .ok false w := by
    unfold isAgg
    rw [Sem.run_bind, run_underlying hu w]
    cases d <;> simp_all
  simp [Instr.loadAt, Instr.sureAddr, loadVar, ha, hc, go_sem]
theorem cellS {g : Nat} {w w' : World} (h : ∀ j, j ≠ g → w.heap[j]? = w'.heap[j]?) {b i : Nat} (hb : b ≠ g) : w.cell? ⟨b, i, none⟩ = w'.cell? ⟨b, i, none⟩ := by
  simp [World.cell?, h b hb]
set_option maxRecDepth 100000 in
set_option maxHeartbeats 1000000 in
theorem settle_any (base p : Nat) (d : Dv) (vl vw : Value) (f : Nat) (held : Array Value) (sv : Nat → Bool) (w : World) (h : IsD base p d vl vw w) (hd : DvOk d) (hb : base ≤ w.heap.size) (hgo : ∀ xs V, (callFunc f xs).run Try.prog V = .ok (.enter f xs) V)
    (hcl : ∀ k W, k < d.wr.length → (∀ j, j < w.heap.size → ¬ foot p vl vw j → W.heap[j]? = w.heap[j]?) → Calls Try.prog f (#[.int .i64 (k : Int)] ++ held) W fun e W' => e = .returned (.bool (sv k)) ∧ W' = W) :
    Calls Try.prog 64 #[.pointer (some ⟨p, 0, none⟩), .func (.func f) #[] held] w fun e w' => (∃ v, e = .returned v) ∧ ToD base p vl vw (settled d sv) w w' := by
  have hmf : ∀ (fn : Fn) (first cap : Array Value) (w : World), (Instr.makeFunc fn first cap).run Try.prog w = .ok (.func fn first cap) w := fun _ _ _ _ => rfl
  obtain ⟨W3, hW3, f0, f1, z3, hB3⟩ := two_new w (.cells #[.pointer (some ⟨p, 0, none⟩)] 49) (.cells #[.func (.func f) #[] held] 118)
  obtain ⟨c0, _⟩ := cell1 f0
  have hD3 := h.below hB3
  have HH := hide (And.intro h (And.intro hD3 (And.intro hd (And.intro f0 (And.intro f1 (And.intro hB3 hcl))))))
  clear h hD3 hd f0 f1 hB3 hcl
  refine (callsIn_wide (n := 3)).1 ?_
  refine callsIn_of_wp_marks Try.func64 rfl trivial ?_ rfl
  simp only [Try.ntmps64, List.size_toArray, List.length_cons, List.length_nil, Nat.reduceAdd, Nat.reduceSub, Array.replicate_succ, Array.replicate_zero, List.push_toArray, List.append_toArray, List.nil_append, List.cons_append]
  gi_wp2_with fail
  refine range_own (it := 56) (pre := #[.pointer (some ⟨p, 0, none⟩)]) (held := #[]) (by omega) rfl trivial rfl (enters_of Try.func56 (by kernel_rfl) rfl) (n₀ := base) (by omega) (Below.refl _ _)
    (fun b hb => own_lt HH.out.2.1.wr b hb) (loose_seq _ base base p d vl vw W3 HH.out.2.1 HH.out.2.2.1 (fun j => vw.ownBlock = some j) (fun _ => True) (fun j hj => ⟨hj, own_base HH.out.2.1.wr j hj⟩) (fun j o hj _ => trivial) (fun j hj => .inr hj)) (fun _ => rfl)
    (fun M k W => W.heap[p]? = some (.cells #[vl, vw] 91) ∧ W.ownsRow base 59 64 vl d.las.length (lasC (landAt d sv k)) ∧ W.heap[w.heap.size]? = some (.cells #[.pointer (some ⟨p, 0, none⟩)] 49) ∧ W.heap[w.heap.size + 1]? = some (.cells #[.func (.func f) #[] held] 118) ∧ (∀ j, j ≤ w.heap.size + 1 → M j → vw.ownBlock = some j) ∧ Frees base (foot p vl vw) w W)
    (fun _ _ => False)
    ?hI ?hIx ?h0 (fun k => .cells (wrA d.wr k) 98)
    (fun k bs => { tmps := #[.pointer (some ⟨p, 0, none⟩), .func (.func f) #[] held, .pointer (some ⟨w.heap.size, 0, none⟩), .pointer (some ⟨w.heap.size + 1, 0, none⟩), .int .i64 k, .pointer (some ⟨bs, 0, none⟩), .pointer (some ⟨p, 0, none⟩), .func (.func 56) #[.pointer (some ⟨p, 0, none⟩)] #[], .int .i64 k, wrV d.wr k, undef, undef, undef, undef, undef, undef, undef, undef, undef, undef, undef, undef, undef, undef, undef], defers := [] }) ?assign ?body ?done ?stop
  case hI =>
    rintro M M' k A B ⟨i0, i1, i2, i3, i4, i5⟩ hbB hc hm
    have hw : ∀ j, vw.ownBlock = some j → j ≠ p := fun j hj => own_ne0 HH.out.1.wr HH.out.1.here (by decide) j hj
    have hl : ∀ j, vw.ownBlock = some j → vl.ownBlock ≠ some j := fun j hj => own_types HH.out.1.wr HH.out.1.las (by decide) j hj
    have hlt : ∀ j, vw.ownBlock = some j → j < w.heap.size := fun j hj => own_lt HH.out.1.wr j hj
    have hpl : p < w.heap.size := (Array.getElem?_eq_some_iff.1 HH.out.1.here).1
    refine ⟨hc _ _ i0 (.inl rfl) (fun h => hw p (i4 p (by omega) h) rfl), own_same i1 (fun g hg => ?_), hc _ _ i2 (.inl rfl) (fun h => by have := hlt _ (i4 _ (by omega) h); omega), hc _ _ i3 (.inl rfl) (fun h => by have := hlt _ (i4 _ (by omega) h); omega), fun j hj1 hj => ?_, i5.below.trans hbB, fun j hj hn => ?_⟩
    · obtain ⟨o, ho⟩ : ∃ o, A.heap[g]? = some o := ⟨_, Array.getElem?_eq_getElem (own_lt i1 g hg)⟩
      rw [ho]
      exact hc g o ho (.inr (by have := own_lt HH.out.1.las g hg; omega)) (fun h => hl g (i4 g (by have := own_lt HH.out.1.las g hg; omega) h) hg)
    · exact i4 j hj1 (hm j (by have := (Array.getElem?_eq_some_iff.1 i3).1; omega) hj)
    · obtain ⟨o, ho⟩ : ∃ o, A.heap[j]? = some o := ⟨_, Array.getElem?_eq_getElem (Nat.lt_of_lt_of_le hj i5.below.size)⟩
      rw [← i5.same j hj hn, ho]
      exact hc j o ho (.inr (by omega)) (fun h => hn (.inr (.inr (i4 j (by omega) h))))
  case hIx => exact fun k A B h => h.elim
  case h0 => exact ⟨HH.out.2.1.here, HH.out.2.1.las, HH.out.2.2.2.1, HH.out.2.2.2.2.1, fun j _ hj => hj, HH.out.2.2.2.2.2.1.mono hb, fun j hj _ => HH.out.2.2.2.2.2.1.block j hj⟩
  case assign =>
    intro l k W K hk hK
    obtain ⟨x, hx⟩ : ∃ x, d.wr[k]? = some x := ⟨d.wr[k], by simp [hk]⟩
    have hv : wrV d.wr k = .agg (wrC1 x).toArray := by simp [wrV, hx]
    have ho : wrA d.wr k = (wrC1 x).toArray := by simp [wrA, hx]
    have hx65 := wr_len1 HH.out.2.2.1 x (List.mem_of_getElem? hx)
    have hx2 := (HH.out.2.2.1.wr x (List.mem_of_getElem? hx)).2
    have hsc := run_storeCells_new (P := Try.prog) W 98 (wrC1 (0, sec0)).toArray (wrC1 x).toArray (by rw [info_size infoWrD]; simp [hx65]) (by simp [wrC1, byteCells_len, sec0, hx2]) (wr_one x)
    rw [List.toList_toArray] at hsc
    rw [hv, ho] at hK
    rw [hv]
    gi_wp2_with (first | (refine i_alloc _ infoWrD rfl rfl ?_))
    exact hK
  case body =>
    rintro l M k bs W ⟨i0, i1, i2, i3, i4, i5⟩ hk hM hbs hle
    obtain ⟨x, hx⟩ : ∃ x, d.wr[k]? = some x := ⟨d.wr[k], by simp [hk]⟩
    have hv : wrV d.wr k = .agg (wrC1 x).toArray := by simp [wrV, hx]
    have ho : wrA d.wr k = (wrC1 x).toArray := by simp [wrA, hx]
    obtain ⟨hx1, hx2⟩ := HH.out.2.2.1.wr x (List.mem_of_getElem? hx)
    rw [ho] at hbs
    have hsu := landAt_succ (sv := sv) hx
    obtain ⟨b0, _⟩ := wr_cells hbs hx2
    obtain ⟨k0, _⟩ := cell1 i2
    obtain ⟨k1, _⟩ := cell1 i3
    have hcall := HH.out.2.2.2.2.2.2 k W hk (fun j hj hn => i5.same j hj hn)
    have HC := hide hcall
    have HI := hide (And.intro i0 (And.intro i1 (And.intro i2 (And.intro i3 (And.intro i4 (And.intro i5 (And.intro hM hbs)))))))
    clear hcall i0 i1 i2 i3 i4 i5 ho hM hbs
    rw [hv]
    cases hsk : sv k with
    | false =>
      rw [hsk] at HC
      rw [hsk, if_neg (by simp)] at hsu
      gi_wp2_with (first | (refine (CallsIn.inRound l (callsIn_wide.2 HC.out)).mono ?_; rintro e w' ⟨rfl, rfl⟩) | (refine ⟨trivial, ?_⟩; refine (CallsIn.inRound l (callsIn_wide.2 HC.out)).mono ?_; rintro e w' ⟨rfl, rfl⟩))
      rename_i w'
      obtain ⟨i0, i1, i2, i3, i4, i5, hM, hbs⟩ := HI.out
      exact ⟨KeepsFrom.refl _ _, fun j hj => rfl, Below.refl _ _, i0, by rw [hsu]; exact i1, i2, i3, i4, i5⟩
    | true =>
      rw [hsk] at HC
      rw [hsk, if_pos rfl] at hsu
      gi_wp2_with (first | (refine (CallsIn.inRound l (callsIn_wide.2 HC.out)).mono ?_; rintro e w' ⟨rfl, rfl⟩) | (refine ⟨trivial, ?_⟩; refine (CallsIn.inRound l (callsIn_wide.2 HC.out)).mono ?_; rintro e w' ⟨rfl, rfl⟩))
      obtain ⟨i0, i1, i2, i3, i4, i5, hM, hbs⟩ := HI.out
      obtain ⟨s0, hs0⟩ : ∃ s0, (landAt d sv k)[x.1]? = some s0 := ⟨_, List.getElem?_eq_getElem (by rw [landAt_len]; exact hx1)⟩
      obtain ⟨g, gc, rfl, hgc, hra, hfz⟩ := own_range i1 (flat_at _ 64 _ (fun s hs => (byteCells_len s).trans (landAt_ok HH.out.2.2.1 sv k s hs)) x.1 s0 hs0) HH.out.2.2.1.pos
      have hs64 := landAt_ok HH.out.2.2.1 sv k s0 (List.mem_of_getElem? hs0)
      have hgl : g < w.heap.size := own_lt HH.out.1.las g rfl
      have hgb : base ≤ g := own_base HH.out.1.las g rfl
      have hne0 : w.heap.size ≠ g := by omega
      have hnep : p ≠ g := fun e => own_ne0 HH.out.1.las HH.out.1.here (by decide) g rfl e.symm
      have hneb : bs ≠ g := by omega
      have hmost := HH.out.2.2.1.most
      have q0 : w'.cell? ⟨p, 0, none⟩ = some (.slice (some ⟨g, 0, none⟩) d.las.length gc) := by simp [World.cell?, i0]
      have hrun9 : (Instr.storeAt 59 (.pointer (some ⟨g, x.1 * 64, none⟩)) (.agg (secA x.2))).run Try.prog w'.drew = .ok () (w'.drew.setCells g (x.1 * 64) (Lib.byteCells x.2)) := by
        have h := run_storeAt_mid (P := Try.prog) w'.drew g (x.1 * 64) 59 (secA x.2) (fun j hj => ⟨by rw [World.cell?_drew]; exact hra.isSome j (by rw [byteCells_len, hs64]; rw [secA_size, hx2] at hj; exact hj), hfz _⟩) (by rw [info_size infoSecD, secA_size, hx2]) (secA_one x.2)
        rw [show (secA x.2).toList = Lib.byteCells x.2 from List.toList_toArray] at h
        exact h
      apply region_round (S := fun w0 => ∀ j, j ≠ g → w0.heap[j]? = w'.heap[j]?) (W0 := w'.drew.setCells g (x.1 * 64) (Lib.byteCells x.2)) (hm := by kernel_rfl) (hp := by kernel_rfl)
      case h =>
        have hS0 : ∀ j, j ≠ g → w'.drew.heap[j]? = w'.heap[j]? := fun j _ => rfl
        refine anyH_take (i := 0) (v := .pointer (some ⟨p, 0, none⟩)) rfl (some 13) rfl (by kernel_rfl) (by kernel_rfl) (by kernel_rfl) (fun _ _ _ h => by cases h.1) rfl (fun w0 hw0 => ex_load rfl rfl (run_load_cell Try.underlying49 rfl ((cellS hw0 hne0).trans k0))) hS0 ?_
        simp only [Act.put, List.setIfInBounds_toArray, List.set_cons_zero, List.set_cons_succ]
        refine anyH_take (i := 1) (v := .pointer (some ⟨p, 0, none⟩)) rfl (some 14) rfl (by kernel_rfl) (by kernel_rfl) (by kernel_rfl) (fun _ _ _ h => by cases h.1) rfl (fun w0 hw0 => by kernel_rfl) hS0 ?_
        simp only [Act.put, List.setIfInBounds_toArray, List.set_cons_zero, List.set_cons_succ]
        refine anyH_take (i := 2) (v := .pointer (some ⟨p, 0, none⟩)) rfl (some 15) rfl (by kernel_rfl) (by kernel_rfl) (by kernel_rfl) (fun _ _ _ h => by cases h.1) rfl (fun w0 hw0 => by kernel_rfl) hS0 ?_
        simp only [Act.put, List.setIfInBounds_toArray, List.set_cons_zero, List.set_cons_succ]
        refine anyH_take (i := 3) (v := .slice (some ⟨g, 0, none⟩) d.las.length gc) rfl (some 16) rfl (by kernel_rfl) (by kernel_rfl) (by kernel_rfl) (fun _ _ _ h => by cases h.1) rfl (fun w0 hw0 => ex_load rfl rfl (run_load_cell Try.underlying88 rfl ((cellS hw0 hnep).trans q0))) hS0 ?_
        simp only [Act.put, List.setIfInBounds_toArray, List.set_cons_zero, List.set_cons_succ]
        refine anyH_take (i := 4) (v := .pointer (some ⟨bs, 0, none⟩)) rfl (some 17) rfl (by kernel_rfl) (by kernel_rfl) (by kernel_rfl) (fun _ _ _ h => by cases h.1) rfl (fun w0 hw0 => by kernel_rfl) hS0 ?_
        simp only [Act.put, List.setIfInBounds_toArray, List.set_cons_zero, List.set_cons_succ]
        refine anyH_take (i := 5) (v := .int .i64 x.1) rfl (some 18) rfl (by kernel_rfl) (by kernel_rfl) (by kernel_rfl) (fun _ _ _ h => by cases h.1) rfl (fun w0 hw0 => ex_load rfl rfl (run_load_cell Try.underlying3 rfl ((cellS hw0 hneb).trans b0))) hS0 ?_
        simp only [Act.put, List.setIfInBounds_toArray, List.set_cons_zero, List.set_cons_succ]
        refine anyH_take (i := 6) (v := .pointer (some ⟨bs, 1, none⟩)) rfl (some 19) rfl (by kernel_rfl) (by kernel_rfl) (by kernel_rfl) (fun _ _ _ h => by cases h.1) rfl (fun w0 hw0 => by kernel_rfl) hS0 ?_
        simp only [Act.put, List.setIfInBounds_toArray, List.set_cons_zero, List.set_cons_succ]
        refine anyH_take (i := 7) (v := .agg (secA x.2)) rfl (some 20) rfl (by kernel_rfl) (by kernel_rfl) (by kernel_rfl) (fun _ _ _ h => by cases h.1) rfl (fun w0 hw0 => ex_load rfl rfl (wr_cells ((hw0 bs hneb).trans hbs) hx2).2) hS0 ?_
        simp only [Act.put, List.setIfInBounds_toArray, List.set_cons_zero, List.set_cons_succ]
        refine anyH_take (i := 8) (v := .pointer (some ⟨g, x.1 * 64, none⟩)) rfl (some 21) rfl (by kernel_rfl) (by kernel_rfl) (by kernel_rfl) (fun _ _ _ h => by cases h.1) rfl (fun w0 hw0 => by go_simp) hS0 ?_
        simp only [Act.put, List.setIfInBounds_toArray, List.set_cons_zero, List.set_cons_succ]
        refine anyH_skip (i := 9) (by kernel_rfl) rfl none rfl rfl (ex_store (ty := 59) (x := .tmp 21) (y := .tmp 20) (u := .agg (secA x.2)) (p := ⟨g, x.1 * 64, none⟩) rfl rfl rfl hrun9) (fun j hj => heap_setCells_other g _ _ _ j hj) ?_
        exact wpAnyH_done (by kernel_rfl) ⟨rfl, rfl, rfl⟩ _
      case hq =>
        have hwl : ∀ j, vw.ownBlock = some j → j ≠ g := fun j hj e => own_types HH.out.1.wr HH.out.1.las (by decide) j hj (by rw [e]; rfl)
        have hgM : ¬ M g := fun hm => hwl g (i4 g (by omega) hm) rfl
        have hBw : Below base w' (w'.drew.setCells g (x.1 * 64) (Lib.byteCells x.2)) := (Below.refl _ w').drew.trans (below_setC hgb _ _ _)
        have hoth : ∀ j, j ≠ g → (w'.drew.setCells g (x.1 * 64) (Lib.byteCells x.2)).heap[j]? = w'.heap[j]? := fun j hj => heap_setCells_other g _ _ _ j hj
        have hrow := own_setSec (i := x.1) (s := x.2) i1.drew (landAt_len d sv k) (landAt_ok HH.out.2.2.1 sv k) hx1 hx2
        refine ⟨⟨hBw.size, fun j o hj ho hc => ?_⟩, fun j hj => hoth j (fun e => hgM (e ▸ hj)), hBw, (hoth p hnep).trans i0, by rw [hsu]; exact hrow, (hoth _ hne0).trans i2, (hoth _ (by omega)).trans i3, i4, i5.below.trans hBw, fun j hj hn => ?_⟩
        · by_cases e : j = g
          · omega
          · exact (hoth j e).trans ho
        · exact (hoth j (fun e => hn (.inr (.inl (by rw [e]; rfl))))).trans (i5.same j hj hn)
  case done =>
    rintro D M W hD ⟨i0, i1, i2, i3, i4, i5⟩ hK
    obtain ⟨k0, _⟩ := cell1 i2
    have q1 : W.cell? ⟨p, 1, none⟩ = some vw := by simp [World.cell?, i0]
    have qf : W.frozen? ⟨p, 1, none⟩ = false := by simp [World.frozen?, i0]
    have HI := hide (And.intro i0 (And.intro i1 (And.intro i5 hK)))
    clear i0 i1 i2 i3 i4 i5 hK
    gi_wp2_with fail
    obtain ⟨i0, i1, i5, hK⟩ := HI.out
    have hpw : p < w.heap.size := (Array.getElem?_eq_some_iff.1 HH.out.1.here).1
    have hpD : p ≠ D := by omega
    have hlp : ∀ g, vl.ownBlock = some g → g ≠ p ∧ g < w.heap.size := fun g hg => ⟨own_ne0 HH.out.1.las HH.out.1.here (by decide) g hg, own_lt HH.out.1.las g hg⟩
    have hK2 : (W.setCell ⟨p, 1, none⟩ (.slice none 0 0)).heap[D]? = some (.deferred (some [])) := (Below.heap_setCell _ _ _ _ (Ne.symm hpD)).trans hK
    refine ⟨by simp, .inl ⟨_, _, rfl, run_takeDeferred hK2, ?_⟩⟩
    refine ⟨_, results_none rfl _ _ _, ⟨_, rfl⟩, vl, .slice none 0 0, ⟨HH.out.1.low, (World.putObj_heap_other hpD).trans (heap_setCell_same _ _ _ _ _ _ i0), ?_, World.ownsRow_nil _ _ _ _⟩, ⟨?_, fun j hj hn => ?_⟩, fun j hj => ?_⟩
    · have h1 : (settled d sv).las.length = d.las.length := landAt_len d sv _
      rw [h1]
      exact own_same i1 (fun g hg => (World.putObj_heap_other (by have := (hlp g hg).2; omega)).trans (Below.heap_setCell _ _ _ _ (hlp g hg).1))
    · exact (i5.below.setCell (p := ⟨p, 1, none⟩) HH.out.1.low _).trans (below_put _ _ (by omega))
    · exact (World.putObj_heap_other (by omega)).trans ((Below.heap_setCell _ _ _ _ (fun e => hn (.inl e))).trans (i5.same j hj hn))
    · rcases hj with h | h | h
      · exact .inl (.inl h)
      · exact .inl (.inr (.inl h))
      · cases h
  case stop => exact fun D k W hD hk h => h.elim
/-- Everything survives. -/
theorem sync_any (base p : Nat) (d : Dv) (vl vw : Value) (w : World) (h : IsD base p d vl vw w) (hd : DvOk d) (hb : base ≤ w.heap.size) :
    Calls Try.prog 47 #[.pointer (some ⟨p, 0, none⟩)] w fun e w' => e = .returned (.int .i64 0) ∧ ToD base p vl vw (settled d fun _ => true) w w' := by
  have hc := settle_any base p d vl vw 65 #[] (fun _ => true) w h hd hb (enters_of Try.func65 (by kernel_rfl) rfl) (fun k W _ _ => by
    go_enter Try.func65, Try.ntmps65
    go_wp2_with fail
    go_ret
    exact ⟨rfl, rfl⟩)
  have HC := hide hc
  clear hc h hd
  go_enter Try.func47, Try.ntmps47
  go_wp2_with (go_at_call 64; refine HC.out.mono ?_; rintro e w' ⟨⟨v, rfl⟩, ht⟩; have HT := hide ht; clear ht)
  go_ret
  exact ⟨rfl, HT.out⟩
theorem sync_nil (w : World) : Calls Try.prog 47 #[.pointer none] w fun e w' => e = .returned (.int .i64 1) ∧ w' = w := by
  go_enter Try.func47, Try.ntmps47
  go_wp2_with fail
  go_ret
  exact ⟨rfl, rfl⟩
/-- What a script says of write k. -/
def svOf (bs : List Bool) (k : Nat) : Bool := bs.getD k false
/-- A script in memory, below n₀. -/
def BoolMem (n₀ : Nat) (w : World) (ao : Option Addr) (bs : List Bool) : Prop := bs.length ≤ 9223372036854775807 ∧ ∀ j v, bs[j]? = some v → ∃ b off, ao = some ⟨b, off, none⟩ ∧ b < n₀ ∧ w.cell? ⟨b, off + j, none⟩ = some (.bool v)
theorem BoolMem.below {n₀ : Nat} {w w' : World} {ao : Option Addr} {bs : List Bool} (h : BoolMem n₀ w ao bs) (hb : Below n₀ w w') : BoolMem n₀ w' ao bs := by
  refine ⟨h.1, fun j v hj => ?_⟩
  obtain ⟨b, off, e1, e2, e3⟩ := h.2 j v hj
  exact ⟨b, off, e1, e2, (hb.cell (p := ⟨b, _, none⟩) e2).trans e3⟩
set_option maxHeartbeats 1000000 in
theorem crash_gen (base p : Nat) (d : Dv) (vl vw : Value) (ao : Option Addr) (bs : List Bool) (cap : Nat) (w : World) (h : IsD base p d vl vw w) (hd : DvOk d) (hb : base ≤ w.heap.size) (hm : BoolMem w.heap.size w ao bs) (hno : ∀ (j : Nat) (v : Bool) (b off : Nat), bs[j]? = some v → ao = some ⟨b, off, none⟩ → ¬ foot p vl vw b) :
    Calls Try.prog 49 #[.pointer (some ⟨p, 0, none⟩), .slice ao bs.length cap] w fun e w' => e = .returned (.int .i64 0) ∧ ToD base p vl vw (settled d (svOf bs)) w w' := by
  have hmf : ∀ (fn : Fn) (first cap : Array Value) (w : World), (Instr.makeFunc fn first cap).run Try.prog w = .ok (.func fn first cap) w := fun _ _ _ _ => rfl
  obtain ⟨W1, hW1⟩ : ∃ W1, w.alloc (.cells #[.slice ao bs.length cap] 42) = W1 := ⟨_, rfl⟩
  have z1 : W1.heap.size = w.heap.size + 1 := by rw [← hW1]; simp
  have f1 : W1.heap[w.heap.size]? = some (.cells #[.slice ao bs.length cap] 42) := by rw [← hW1]; exact World.alloc_heap_new w _
  have hB1 : Below w.heap.size w W1 := by rw [← hW1]; exact (Below.refl _ w).alloc (Nat.le_refl _) _
  have hD1 := h.below hB1
  have hnf : ¬ foot p vl vw w.heap.size := fun hf => by have := (h.lt hf).2; omega
  have hfew := hd.few
  have hc := settle_any base p d vl vw 67 #[.pointer (some ⟨w.heap.size, 0, none⟩)] (svOf bs) W1 hD1 hd (by omega) (enters_of Try.func67 (by kernel_rfl) rfl) (fun k W hk hW => by
    have g1 := (hW w.heap.size (by omega) hnf).trans f1
    obtain ⟨c1, _⟩ := cell1 g1
    by_cases hkl : k < bs.length
    · obtain ⟨v, hv⟩ : ∃ v, bs[k]? = some v := ⟨bs[k], by simp [hkl]⟩
      obtain ⟨b, off, rfl, hb0, hcell⟩ := hm.2 k v hv
      have hsv : svOf bs k = v := by simp [svOf, List.getD_eq_getElem?_getD, hv]
      have hlt := World.block_lt_of_cell? w _ hcell
      have hcW : W.cell? ⟨b, off + k, none⟩ = some (.bool v) := by
        have e := (hW b (by omega) (hno k v b off hv rfl)).trans (hB1.block b (by omega))
        rw [← hcell]
        simp [World.cell?, e]
      have hl1 := hm.1
      rw [hsv]
      clear hW hm hD1 hd h hcell g1
      go_enter Try.func67, Try.ntmps67
      go_wp2_with fail
      go_ret
      exact ⟨rfl, rfl⟩
    · have hsv : svOf bs k = false := by simp [svOf, List.getD_eq_getElem?_getD, List.getElem?_eq_none (show bs.length ≤ k by omega)]
      have hkl' : ¬ ((k : Int) < bs.length) := by omega
      rw [hsv]
      clear hW hm hD1 hd h g1
      go_enter Try.func67, Try.ntmps67
      go_wp2_with fail
      go_ret
      exact ⟨rfl, rfl⟩)
  have HC := hide hc
  have HB := hide (And.intro h hB1)
  clear hc h hd hm hD1 hB1 f1 hnf hno
  go_enter Try.func49, Try.ntmps49
  go_wp2_with (go_at_call 64; refine HC.out.mono ?_; rintro e w' ⟨⟨v, rfl⟩, ht⟩; have HT := hide ht; clear ht)
  go_ret
  obtain ⟨vl', vw', h1, h2, h3⟩ := HT.out
  exact ⟨rfl, vl', vw', h1, ⟨(HB.out.2.mono hb).trans h2.below, fun j hj hn => (h2.same j (by omega) hn).trans (HB.out.2.block j hj)⟩, fun j hj => (h3 j hj).imp id (fun h => by omega)⟩
theorem crash_any (base p : Nat) (d : Dv) (vl vw : Value) (ao : Option Addr) (bs : List Bool) (cap : Nat) (w : World) (h : IsD base p d vl vw w) (hd : DvOk d) (hb : base ≤ w.heap.size) (hm : BoolMem base w ao bs) :
    Calls Try.prog 49 #[.pointer (some ⟨p, 0, none⟩), .slice ao bs.length cap] w fun e w' => e = .returned (.int .i64 0) ∧ ToD base p vl vw (settled d (svOf bs)) w w' :=
  crash_gen base p d vl vw ao bs cap w h hd hb ⟨hm.1, fun j v hj => by obtain ⟨b, off, e1, e2, e3⟩ := hm.2 j v hj; exact ⟨b, off, e1, Nat.lt_of_lt_of_le e2 hb, e3⟩⟩ (fun j v b off hj e hf => by
    obtain ⟨b', off', e1, e2, _⟩ := hm.2 j v hj
    rw [e] at e1
    cases e1
    have := (h.lt hf).1
    omega)
theorem crash_nil (ao : Option Addr) (n cap : Nat) (w : World) : Calls Try.prog 49 #[.pointer none, .slice ao n cap] w fun e w' => e = .returned (.int .i64 1) ∧ Below w.heap.size w w' := by
  go_enter Try.func49, Try.ntmps49
  go_wp2_with fail
  go_ret
  exact ⟨rfl, (Below.refl _ w).alloc (Nat.le_refl _) _⟩
end Go.Proofs.Ytfknjmfkkaoggaa
