/- circles. -/
import Derived.Test.YtffjmkngdjbjlaaC4
import Derived.Scope
namespace Go.Proofs.Ytffjmkngdjbjlaa
open Go.RowKit Go.Shelf
attribute [local go_sem] Oper.semAt_some

theorem stepR_scope {P : Program} {b : Frame} {a : Act} {k : List Item} {cs : List Frame} {w : World} {c : Code} : step P (lone (b.atR a (.code (.scope c) :: k)) cs w) = .next (lone (b.atR a (.code c :: .inScope c :: k)) cs w) :=
  step_lone_go (by simp [stepG, stepG.exec, Frame.atR])
theorem stepR_inScope {P : Program} {b : Frame} {a : Act} {k : List Item} {cs : List Frame} {w : World} {c : Code} : step P (lone (b.atR a (.inScope c :: k)) cs w) = .next (lone (b.atR a k) cs w) :=
  step_lone_go (by simp [stepG, stepG.exec, Frame.atR])
/-- A scope through which the run goes without a jump. -/
theorem wpIn_scope {F : Fence} {n : Nat} {P : Program} {Q : Exit → Act → World → Prop} {a : Act} {w : World} {c : Code} (h : c.wpIn F n P (Exit.noGoto Q) a w) : (Code.scope c).wpIn F n P Q a w := by
  intro b k cs hro hb hr
  have h0 : (lone (b.atR a (.code (.scope c) :: k)) cs w).fenced P F := fenced_calm hb hr rfl
  obtain ⟨e, a₁, w₁, hq, harr⟩ := h b (.inScope c :: k) cs hro hb hr
  cases e with
  | normal => exact ⟨.normal, a₁, w₁, hq, .head h0 stepR_scope (StepsIn.trans harr (.one (fenced_calm hb hr rfl) stepR_inScope))⟩
  | exit id =>
    have hx : exitTo id (.inScope c :: k) = exitTo id k := by simp [exitTo]
    exact ⟨.exit id, a₁, w₁, hq, fun k' hk => .head h0 stepR_scope (harr.1 k' (by rw [hx]; exact hk)),
      fun hr' hk => let ⟨k₁, h1, h2⟩ := harr.2 hr' (by rw [hx]; exact hk); ⟨k₁, h1, .head h0 stepR_scope h2⟩⟩
  | goto l => exact hq.elim
  | ret => exact ⟨_, a₁, w₁, hq, .of_steps (.one h0 stepR_scope) harr⟩
  | panic ch => exact ⟨_, a₁, w₁, hq, .of_steps (.one h0 stepR_scope) harr⟩
  | outgrown => exact ⟨_, a₁, w₁, hq, .of_steps (.one h0 stepR_scope) harr⟩
/-- The marks that loops over functions leave behind. -/
def marks (Ds : List Nat) : List Deferred := Ds.map fun D => { target := .collected D, args := #[] }
def MarksIn (base : Nat) (Ds : List Nat) (w : World) : Prop := Ds.Nodup ∧ ∀ D ∈ Ds, base ≤ D ∧ w.heap[D]? = some (.deferred (some []))
theorem leaves_marks {F : Fence} {n : Nat} {P : Program} {fn : Func} {tmps : Array Value} {R : Ending → World → Prop} {base : Nat} :
    ∀ (Ds : List Nat) (w : World), MarksIn base Ds w → (∀ w', Below base w w' → LeavesInM F n P fn tmps R [] .returning w') → LeavesInM F n P fn tmps R (marks Ds) .returning w
  | [], w, _, h => h w (Below.refl _ _)
  | D :: Ds, w, hm, h => by
    have hD := hm.2 D (by simp)
    refine ⟨by simp, .inl ⟨D, _, rfl, run_takeDeferred hD.2, ?_⟩⟩
    have hb : Below base w (w.putObj D (.deferred none)) := below_put _ _ hD.1
    refine leaves_marks Ds _ ⟨(List.nodup_cons.1 hm.1).2, fun E hE => ⟨(hm.2 E (by simp [hE])).1, ?_⟩⟩ (fun w' h' => h w' (hb.trans h'))
    exact (World.putObj_heap_other (fun e => (List.nodup_cons.1 hm.1).1 (by rw [← e]; exact hE))).trans (hm.2 E (by simp [hE])).2
/-- A name is above itself. -/
def Circ (l : List Pr) : Prop := ∃ x ∈ l, x.1 ∈ chain l l.length x.1
set_option maxRecDepth 100000 in
set_option maxHeartbeats 4000000 in
theorem circles_any (ao : Option Addr) (cap : Nat) (l : List Pr) (w : World) (hm : EdMem w.heap.size w ao l) (hr : Rising l) :
    Calls Try.prog 31 #[.slice ao l.length cap] w fun e w' => ((Circ l ∧ e = .returned (.bool true)) ∨ (¬ Circ l ∧ e = .returned (.bool false))) ∧ Below w.heap.size w w' := by
  have hlen := hm.1
  obtain ⟨m, hml⟩ : ∃ m, l.length = m := ⟨_, rfl⟩
  have HH := hide (And.intro hm (And.intro hr hml))
  rw [hml] at hlen ⊢
  clear hm hr hml
  refine (callsIn_wide (n := 3)).1 ?_
  refine callsIn_of_wp_marks Try.func31 rfl trivial ?_ rfl
  simp only [Try.ntmps31, List.size_toArray, List.length_cons, List.length_nil, Nat.reduceAdd, Nat.reduceSub, Array.replicate_succ, Array.replicate_zero, List.push_toArray, List.append_toArray, List.nil_append, List.cons_append]
  gi_wp2_with fail
  refine wpIn_scope ?_
  gi_wp2_with fail
  refine wpIn_label ?_
  gi_wp2_with fail
  refine wpIn_loop (fun a wr => ∃ (k : Nat) (Ds : List Nat) (u5 u10 u11 u12 u13 u14 u15 u16 u22 : Value), a = { tmps := #[.slice ao m cap, undef, .bool false, .pointer (some ⟨w.heap.size, 0, none⟩), undef, u5, undef, .slice ao m cap, .int .i64 m, .int .i64 k, u10, u11, u12, u13, u14, u15, u16, undef, undef, undef, undef, undef, u22, undef], defers := marks Ds } ∧ k ≤ m ∧ wr.heap[w.heap.size]? = some (.cells #[.bool false] 4) ∧ (∀ i x, i < k → l[i]? = some x → x.1 ∉ chain l m x.1) ∧ MarksIn w.heap.size Ds wr ∧ Below w.heap.size w wr) (fun a _ => m - (intOf (a.tmps.getD 9 undef)).toNat) ?start ?round
  case start =>
    exact ⟨0, [], undef, undef, undef, undef, undef, undef, undef, undef, undef, rfl, Nat.zero_le _, heap_alloc_new w _, fun i x h => by omega, ⟨List.nodup_nil, by simp⟩, (Below.refl _ w).alloc (Nat.le_refl _) _⟩
  case round =>
    rintro a wr ⟨k, Ds, u5, u10, u11, u12, u13, u14, u15, u16, u22, rfl, hk, i0, hno, hmk, hbw⟩
    have hw1 : IntKind.i64.wrap ((k : Int) + 1) = k + 1 := by rw [IntKind.wrap_i64]; omega
    have hwz := hbw.size
    by_cases hlt : k < m
    · have hlti : (k : Int) < m := by omega
      obtain ⟨x, hx⟩ : ∃ x, l[k]? = some x := ⟨l[k]'(by have := HH.out.2.2; omega), by simp⟩
      obtain ⟨b, off, rfl, hbl, c0, c1⟩ := (HH.out.1.below hbw).2 k x hx
      obtain ⟨W, hW, f1, z1, hB1⟩ := ed_box wr x
      obtain ⟨x0, x1⟩ := two_at f1
      have HU := hide (up_any (.slice (some ⟨b, off, none⟩) m cap) x.1 W ⟨_, _, _, rfl⟩)
      rw [z1] at HU
      have HI := hide (And.intro i0 (And.intro hno (And.intro hmk (And.intro hbw (And.intro hx (And.intro f1 hB1))))))
      clear i0 hno hmk hbw hx f1 hB1
      gi_wp2_with fail
      refine ⟨trivial, (callsIn_wide.2 HU.out).mono ?_⟩
      rintro e w1 ⟨rfl, u1, u2, z2, bu⟩
      obtain ⟨i0, hno, hmk, hbw, hx, f1, hB1⟩ := HI.out
      have hb1 : Below wr.heap.size wr w1 := hB1.trans (bu.mono (by omega))
      have hbw1 : Below w.heap.size w w1 := hbw.trans (hb1.mono hwz)
      have hseq := up_seq (3 - 1) w.heap.size (some ⟨b, off, none⟩) cap l x.1 (wr.heap.size + 1 + 1) (wr.heap.size + 1) w1 (HH.out.1.below hbw1) HH.out.2.1 u1 (by rw [HH.out.2.2]; exact u2) ⟨by omega, by omega⟩
      rw [HH.out.2.2] at hseq
      have i0' := (hb1.block _ (hp_lt i0)).trans i0
      have f1' := (bu.block _ (by omega)).trans f1
      have hmk' : MarksIn w.heap.size Ds w1 := ⟨hmk.1, fun D hD => ⟨(hmk.2 D hD).1, (hb1.block _ (hp_lt (hmk.2 D hD).2)).trans (hmk.2 D hD).2⟩⟩
      have hmlt : ∀ D ∈ Ds, D < wr.heap.size := fun D hD => hp_lt (hmk.2 D hD).2
      have hw0 : w.heap.size < wr.heap.size := hp_lt i0
      have HQ := hide hseq
      have HV := hide (And.intro i0' (And.intro f1' (And.intro hmk' (And.intro hbw1 (And.intro hno (And.intro hx hmlt))))))
      clear hseq i0 i0' f1 f1' hmk hmk' hbw hbw1 hb1 hno hx u1 u2 bu hB1 hmlt HI x0 x1
      gi_wp2_with fail
      obtain ⟨S, hS⟩ : ∃ S, chain l m x.1 = S := ⟨_, rfl⟩
      rw [hS] at HQ
      refine range_plain (.exit 0) (.exit 0) (.inr ⟨0, rfl, rfl⟩) (it := 54) (pre := #[]) (held := #[.pointer (some ⟨wr.heap.size + 1 + 1, 0, none⟩), .pointer (some ⟨wr.heap.size + 1, 0, none⟩)]) (by omega) rfl trivial rfl (enters_of Try.func54 (by kernel_rfl) rfl) (n₀ := w.heap.size) (by omega) (Below.refl _ _)
        (fun j hj => by rcases hj with rfl | rfl <;> omega) HQ.out (fun _ => rfl)
        (fun M j V => V.heap[w.heap.size]? = some (.cells #[.bool false] 4) ∧ V.heap[wr.heap.size]? = some (.cells #[.string x.1, .string x.2] 71) ∧ ¬ M w.heap.size ∧ ¬ M wr.heap.size ∧ x.1 ∉ S.take j ∧ MarksIn w.heap.size Ds V ∧ (∀ D ∈ Ds, ¬ M D) ∧ Below w.heap.size w V)
        (fun _ V => V.heap[w.heap.size]? = some (.cells #[.bool true] 4) ∧ x.1 ∈ S ∧ MarksIn w.heap.size Ds V ∧ Below w.heap.size w V)
        ?hI ?hIx ?h0
        (fun j => { tmps := #[.slice (some ⟨b, off, none⟩) m cap, undef, .bool false, .pointer (some ⟨w.heap.size, 0, none⟩), undef, .pointer (some ⟨wr.heap.size, 0, none⟩), nmV S j, .slice (some ⟨b, off, none⟩) m cap, .int .i64 m, .int .i64 k, .bool true, .pointer (some ⟨b, off + k * 2, none⟩), .agg #[.string x.1, .string x.2], .slice (some ⟨b, off, none⟩) m cap, .pointer (some ⟨wr.heap.size, 0, none⟩), .string x.1, upV (wr.heap.size + 1 + 1) (wr.heap.size + 1), nmV S j, undef, undef, undef, undef, u22, undef], defers := [] })
        ?assign ?body ?done ?stop
      case hI =>
        rintro M M' j A B ⟨i0, i1, i2, i3, i4, i5, i6, i7⟩ hb hc hm
        exact ⟨hc _ _ i0 (.inl rfl) i2, hc _ _ i1 (.inl rfl) i3, fun h => i2 (hm _ (hp_lt i0) h), fun h => i3 (hm _ (hp_lt i1) h), i4, ⟨i5.1, fun D hD => ⟨(i5.2 D hD).1, hc _ _ (i5.2 D hD).2 (.inr (by have := HV.out.2.2.2.2.2.2 D hD; omega)) (i6 D hD)⟩⟩, fun D hD h => i6 D hD (hm _ (hp_lt (i5.2 D hD).2) h), i7.trans hb⟩
      case hIx =>
        rintro j A B ⟨i0, i1, i5, i7⟩ hb hc
        exact ⟨hc _ _ i0 (.inl rfl), i1, ⟨i5.1, fun D hD => ⟨(i5.2 D hD).1, hc _ _ (i5.2 D hD).2 (.inr (by have := HV.out.2.2.2.2.2.2 D hD; omega))⟩⟩, i7.trans hb⟩
      case h0 => exact ⟨HV.out.1, HV.out.2.1, fun h => by rcases h with h | h <;> omega, fun h => by rcases h with h | h <;> omega, by simp, HV.out.2.2.1, fun D hD h => by have := HV.out.2.2.2.2.2.2 D hD; rcases h with h | h <;> omega, HV.out.2.2.2.1⟩
      case assign =>
        intro r j V K hj hK
        gi_wp2_with fail
        exact hK
      case body =>
        rintro r M j V ⟨i0, i1, i2, i3, i4, i5, i6, i7⟩ hj hM
        obtain ⟨y, hy⟩ : ∃ y, S[j]? = some y := ⟨S[j], by simp [hj]⟩
        have hv : nmV S j = .string y := by simp [nmV, hy]
        obtain ⟨c0', cf0⟩ := cell1 i0
        obtain ⟨e0, _⟩ := two_at i1
        have HJ := hide (And.intro i0 (And.intro i1 (And.intro i2 (And.intro i3 (And.intro i4 (And.intro i5 (And.intro i6 (And.intro i7 hy))))))))
        clear i0 i1 i2 i3 i4 i5 i6 i7 hy hM
        rw [hv]
        clear hv
        by_cases he : y = x.1
        · have hq := txt_eq he
          have HE := hide he
          clear he
          gi_wp2_with fail
          obtain ⟨i0, i1, i2, i3, i4, i5, i6, i7, hy⟩ := HJ.out
          refine ⟨rfl, (KeepsOthers.setCell _ _ _).from _, heap_setCell_same _ _ _ _ _ _ i0, by rw [← HE.out]; exact List.mem_of_getElem? hy, ⟨i5.1, fun D hD => ⟨(i5.2 D hD).1, (Below.heap_setCell _ _ _ _ (fun e => ?_)).trans (i5.2 D hD).2⟩⟩, i7.setCell (p := ⟨w.heap.size, 0, none⟩) (Nat.le_refl _) _⟩
          have e' : D = w.heap.size := e
          have hD2 := (i5.2 D hD).2
          rw [e', i0] at hD2
          cases hD2
        · have hq := txt_ne he
          have HE := hide he
          clear he
          gi_wp2_with fail
          obtain ⟨i0, i1, i2, i3, i4, i5, i6, i7, hy⟩ := HJ.out
          refine ⟨keepsFrom_below (Below.refl _ _), fun _ _ => rfl, Below.refl _ _, i0, i1, i2, i3, ?_, i5, i6, i7⟩
          rw [List.take_add_one, hy]
          intro hm
          rcases List.mem_append.1 hm with hm | hm
          · exact i4 hm
          · simp at hm
            exact HE.out hm.symm
      case done =>
        rintro D M V hD ⟨i0, i1, i2, i3, i4, i5, i6, i7⟩ hK
        rw [List.take_length, ← hS] at i4
        have hmk : MarksIn w.heap.size (D :: Ds) V := ⟨List.nodup_cons.2 ⟨fun h => by have := HV.out.2.2.2.2.2.2 D h; omega, i5.1⟩, fun E hE => by
          rcases List.mem_cons.1 hE with rfl | hE
          · exact ⟨by omega, hK⟩
          · exact i5.2 E hE⟩
        have hno2 : ∀ i y, i < k + 1 → l[i]? = some y → y.1 ∉ chain l m y.1 := fun i y hi hy => by
          rcases Nat.lt_or_ge i k with h | h
          · exact HV.out.2.2.2.2.1 i y h hy
          · obtain rfl : i = k := by omega
            rw [HV.out.2.2.2.2.2.1] at hy
            cases hy
            exact i4
        have HX := hide (And.intro i0 (And.intro hmk (And.intro hno2 i7)))
        clear i0 i1 i2 i3 i4 i5 i6 i7 hK hmk hno2
        gi_wp2_with fail
        exact ⟨⟨k + 1, D :: Ds, _, _, _, _, _, _, _, _, _, rfl, by omega, HX.out.1, HX.out.2.2.1, HX.out.2.1, HX.out.2.2.2⟩, by simp [intOf]; omega⟩
      case stop =>
        rintro D j V hD hj ⟨i0, i1, i5, i7⟩ hK
        have hmk : MarksIn w.heap.size (D :: Ds) V := ⟨List.nodup_cons.2 ⟨fun h => by have := HV.out.2.2.2.2.2.2 D h; omega, i5.1⟩, fun E hE => by
          rcases List.mem_cons.1 hE with rfl | hE
          · exact ⟨by omega, hK⟩
          · exact i5.2 E hE⟩
        have hc := (cell1 i0).1
        have hci : Circ l := ⟨x, List.mem_of_getElem? HV.out.2.2.2.2.2.1, by rw [HH.out.2.2, hS]; exact i1⟩
        have HX := hide (And.intro hmk (And.intro i7 hci))
        clear i0 i1 i5 i7 hK hmk hci
        gi_wp2_with fail
        refine leaves_marks (base := w.heap.size) (D :: Ds) V HX.out.1 fun w' hb' => ?_
        exact ⟨_, results_tmp rfl _ _ _, .inl ⟨HX.out.2.2, rfl⟩, HX.out.2.1.trans hb'⟩
    · obtain rfl : k = m := by omega
      have hlti : ¬ ((k : Int) < k) := by omega
      have hc := (cell1 i0).1
      have hnc : ¬ Circ l := fun ⟨x, hx, hc⟩ => by
        obtain ⟨i, hi⟩ := List.mem_iff_getElem?.1 hx
        rw [HH.out.2.2] at hc
        exact hno i x (by have := (List.getElem?_eq_some_iff.1 hi).1; have := HH.out.2.2; omega) hi hc
      have HI := hide (And.intro hmk (And.intro hbw hnc))
      clear i0 hno hmk hbw hnc
      gi_wp2_with fail
      refine leaves_marks (base := w.heap.size) Ds wr HI.out.1 fun w' hb' => ?_
      exact ⟨_, results_tmp rfl _ _ _, .inr ⟨HI.out.2.2, rfl⟩, HI.out.2.1.trans hb'⟩
/-- Each node has one collection, and none is above itself. -/
def RightE (l : List Pr) : Prop := l.length ≤ 64 ∧ Named l ∧ Rising l ∧ ¬ Circ l
set_option maxRecDepth 100000 in
set_option maxHeartbeats 1000000 in
theorem right_any (ao : Option Addr) (cap : Nat) (l : List Pr) (w : World) (hm : EdMem w.heap.size w ao l) :
    Calls Try.prog 17 #[.slice ao l.length cap] w fun e w' => ((RightE l ∧ e = .returned (.bool true)) ∨ (¬ RightE l ∧ e = .returned (.bool false))) ∧ Below w.heap.size w w' := by
  have HN := hide (named_any ao cap l w hm)
  have HM := hide hm
  obtain ⟨m, hml⟩ : ∃ m, l.length = m := ⟨_, rfl⟩
  have HL := hide hml
  rw [hml] at HN ⊢
  clear hm hml
  by_cases h64 : m ≤ 64
  · have h64i : (m : Int) ≤ 64 := by omega
    go_enter Try.func17, Try.ntmps17
    go_wp2_with (first
      | (go_at_call 29; refine HN.out.mono ?_; rintro e w1 ⟨h | h, b1⟩ <;> obtain ⟨hn, rfl⟩ := h)
      | (go_at_call 30; have HR := hide (rise_any ao cap l w1 ((HM.out.below b1).more b1.size)); rw [HL.out] at HR; refine HR.out.mono ?_; rintro e w2 ⟨h | h, b2⟩ <;> obtain ⟨hn2, rfl⟩ := h)
      | (go_at_call 31; have HC := hide (circles_any ao cap l w2 ((HM.out.below (b1.trans (b2.mono b1.size))).more (Nat.le_trans b1.size b2.size)) hn2); rw [HL.out] at HC; refine HC.out.mono ?_; rintro e w3 ⟨h | h, b3⟩ <;> obtain ⟨hn3, rfl⟩ := h))
    · go_ret
      exact ⟨.inr ⟨fun h => h.2.2.2 hn3, rfl⟩, b1.trans ((b2.mono b1.size).trans (b3.mono (Nat.le_trans b1.size b2.size)))⟩
    · go_ret
      exact ⟨.inl ⟨⟨by rw [HL.out]; exact h64, hn, hn2, hn3⟩, rfl⟩, b1.trans ((b2.mono b1.size).trans (b3.mono (Nat.le_trans b1.size b2.size)))⟩
    · go_ret
      exact ⟨.inr ⟨fun h => hn2 h.2.2.1, rfl⟩, b1.trans (b2.mono b1.size)⟩
    · go_ret
      exact ⟨.inr ⟨fun h => hn h.2.1, rfl⟩, b1⟩
  · have h64i : ¬ ((m : Int) ≤ 64) := by omega
    go_enter Try.func17, Try.ntmps17
    go_wp2_with fail
    go_ret
    exact ⟨.inr ⟨fun h => h64 (by rw [← HL.out]; exact h.1), rfl⟩, Below.refl _ _⟩
end Go.Proofs.Ytffjmkngdjbjlaa
