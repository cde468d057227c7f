/- The document's Decode. -/
import Derived.Test.YtpknifioflagaaaDoorXS
import Derived.Test.YtpknifioflagaaaDoorSt8
namespace Go.Proofs.YtpknifioflagaaaDoor
open Go.RowKit Go.Shelf

/-- The kind that a name has, among the first ones. -/
def kU (nm : ByteArray) : Nat → Int
  | 0 => 0
  | j + 1 => if nm = kindB ((j : Int) + 1) then (j : Int) + 1 else kU nm j
theorem kU_three (nm : ByteArray) : kU nm 3 = kNum nm := by
  unfold kU kU kU kU kNum
  by_cases h1 : nm = kindB 1
  · subst h1
    decide
  · by_cases h2 : nm = kindB 2
    · subst h2
      decide
    · by_cases h3 : nm = kindB 3
      · subst h3
        decide
      · have e1 : ¬ nm = kindB (((0 : Nat) : Int) + 1) := h1
        have e2 : ¬ nm = kindB (((1 : Nat) : Int) + 1) := h2
        have e3 : ¬ nm = kindB (((2 : Nat) : Int) + 1) := h3
        rw [if_neg e1, if_neg e2, if_neg e3, if_neg h1, if_neg h2, if_neg h3]
theorem kU_yes {nm : ByteArray} {j : Nat} (h : nm = kindB ((j : Int) + 1)) : kU nm (j + 1) = (j : Int) + 1 := if_pos h
theorem kU_no {nm : ByteArray} {j : Nat} (h : ¬ nm = kindB ((j : Int) + 1)) : kU nm (j + 1) = kU nm j := if_neg h
/-- What is inside, and no room behind it. -/
theorem ex_mid3 {o : Oper} {a : Act} {w : World} {x y z u : Operand} {b off m cap : Nat} {j : Int} (ho : o.op = .slice 23 x (some y) (some z) (some u)) (hx : a.eval x = .slice (some ⟨b, off, none⟩) m cap) (hy : a.eval y = .int .i64 1) (hz : a.eval z = .int .i64 j) (hu' : a.eval u = .int .i64 j) (hj : j = (m : Int) - 1) (h2 : 2 ≤ m) (hc : m ≤ cap) : (execOp a.eval o).run Tryd.prog w = .ok (.value (.slice (some ⟨b, if m = 2 then off else off + 4, none⟩) (m - 2) (m - 2))) w := by
  have hu : Tryd.prog.underlying 23 = some (.slice (Tryd.prog.elem 23)) := by rw [elemTk]; exact Tryd.underlying23
  have h1 := run_slice_lhm (P := Tryd.prog) (w := w) 23 (some ⟨b, off, none⟩) m cap hu .i64 .i64 .i64 1 j j (by omega) (by omega) (by omega) (by omega)
  rw [elemTk, sizeTk] at h1
  have h2' := run_sliceAt_slice (P := Tryd.prog) (w := w) 23 (.slice (some ⟨b, off, none⟩) m cap) (some (.int .i64 1)) (some (.int .i64 j)) (some (.int .i64 j)) hu
  rw [h1] at h2'
  unfold execOp
  by_cases hm : m = 2
  · subst hm
    obtain rfl : j = 1 := by omega
    simp [ho, hx, hy, hz, hu', h2', Result.andThen, sliced]
  · have hcap : ¬ j.toNat = 1 := by omega
    have e1 : j.toNat - 1 = m - 2 := by omega
    simp [ho, hx, hy, hz, hu', h2', Result.andThen, sliced, Addr.add, hcap, hm, e1]
theorem TokMem.mid3 {n₀ : Nat} {w : World} {b off m : Nat} {ts : List Tok} {av : Nat → Option Addr × Nat} (h : TokMem n₀ w (some ⟨b, off, none⟩) ts av) (hm : ts.length = m) (_h2 : 2 ≤ m) : TokMem n₀ w (some ⟨b, if m = 2 then off else off + 4, none⟩) (midT ts) (fun k => av (k + 1)) := by
  by_cases e : m = 2
  · have : midT ts = [] := by
      apply List.eq_nil_of_length_eq_zero
      rw [mid_len (by omega)]
      omega
    rw [this]
    exact ⟨by simp, by simp⟩
  · rw [if_neg e]
    exact h.mid
theorem elrow_av {base : Nat} {W : World} {v : Value} {l : List TokV} (h : ElRow base W v l) : ∀ i t, (l.map (·.1))[i]? = some t → (avOf l i).1 = none → (avOf l i).2 = 0 := by
  intro i t hi
  rw [List.getElem?_map] at hi
  cases hl : l[i]? with
  | none => rw [hl] at hi; cases hi
  | some x =>
    have ha : avOf l i = x.2 := by unfold avOf; rw [hl]; rfl
    rw [ha]
    exact own_none (h.2 x (List.mem_of_getElem? hl)).1
theorem mid_av {ts : List Tok} {av : Nat → Option Addr × Nat} (h : ∀ i t, ts[i]? = some t → (av i).1 = none → (av i).2 = 0) : ∀ i t, (midT ts)[i]? = some t → (av (i + 1)).1 = none → (av (i + 1)).2 = 0 := fun i t hi => h (i + 1) t (mid_at hi)
theorem whole_attr {ts : List Tok} {t : Tok} (h : WholeT ts) (ht : ts[0]? = some t) : ∀ a ∈ t.attrs, a.2.size ≤ 4611686018427387903 := by
  obtain ⟨_, t', ht', hk⟩ := whole_first h
  rw [ht] at ht'
  cases ht'
  intro a ha
  rcases h.1.2.1 0 t ht with ⟨_, _, _, _, hA⟩ | ⟨hk', _⟩ | ⟨hk', _⟩
  · obtain ⟨i, hi, e⟩ := List.getElem_of_mem ha
    have := (hA.2 i a (by rw [List.getElem?_eq_getElem hi, e])).2.2.1
    omega
  · rw [hk] at hk'
    cases hk'
  · rw [hk] at hk'
    cases hk'
theorem dec_small : ∀ (al : List (ByteArray × ByteArray)) (d e : D4), (∀ a ∈ al, a.2.size ≤ 4611686018427387903) → (d.ty.size ≤ 4611686018427387903 ∧ d.fr.size ≤ 4611686018427387903 ∧ d.tt.size ≤ 4611686018427387903 ∧ d.id.size ≤ 4611686018427387903) → decA d al = some e → (e.ty.size ≤ 4611686018427387903 ∧ e.fr.size ≤ 4611686018427387903 ∧ e.tt.size ≤ 4611686018427387903 ∧ e.id.size ≤ 4611686018427387903)
  | [], d, e, _, hd, h => by
    simp [decA] at h
    subst h
    exact hd
  | a :: al, d, e, ha, hd, h => by
    have h2 := ha a List.mem_cons_self
    unfold decA at h
    cases hp : putA d a with
    | none => rw [hp] at h; cases h
    | some d' =>
      rw [hp, Option.bind_some] at h
      refine dec_small al d' e (fun x hx => ha x (List.mem_cons_of_mem _ hx)) ?_ h
      unfold putA at hp
      split at hp
      · cases hp; exact ⟨h2, hd.2.1, hd.2.2.1, hd.2.2.2⟩
      · split at hp
        · cases hp; exact ⟨hd.1, h2, hd.2.2.1, hd.2.2.2⟩
        · split at hp
          · cases hp; exact ⟨hd.1, hd.2.1, h2, hd.2.2.2⟩
          · split at hp
            · cases hp; exact ⟨hd.1, hd.2.1, hd.2.2.1, h2⟩
            · cases hp
set_option maxRecDepth 100000 in
set_option maxHeartbeats 8000000 in
theorem rdecode_any (ao : Option Addr) (cap : Nat) (ts : List Tok) (av : Nat → Option Addr × Nat) (w : World) (hT : TokMem w.heap.size w ao ts av) (hav : ∀ i t, ts[i]? = some t → (av i).1 = none → (av i).2 = 0) (hc : ts.length ≤ cap) (hs : ts.length ≤ 1000) (hE : Env6 w) :
    Calls Tryd.prog 17 #[.slice ao ts.length cap] w fun e w' => ((∃ t d ga gc av', DecOk ts t d ∧ e = .returned (.tuple #[.agg #[.int .u8 (kNum t.name), .string d.ty, .string d.fr, .string d.tt, .string d.id, .slice ga (midT ts).length gc], .int .i64 0]) ∧ TokMem w'.heap.size w' ga (midT ts) av') ∨ ((¬ ∃ t d, DecOk ts t d) ∧ e = .returned (.tuple #[.agg zeroSt, .int .i64 3]))) ∧ Below w.heap.size w w' := by
  unfold zeroSt
  obtain ⟨q, hq⟩ := bool_of (WholeT ts)
  obtain ⟨Wa, hWa, aa, ba, za⟩ := newV w 25 #[.int .u8 0, .string ⟨#[]⟩, .string ⟨#[]⟩, .string ⟨#[]⟩, .string ⟨#[]⟩, .slice none 0 0]
  have mem : ∀ V, Below w.heap.size w V → TokMem V.heap.size V ao ts av := fun V hV => (hT.below hV).raise hV.size
  have hWh := rwhole_is (cap := cap) (mem Wa ba) (hE.below ba).1 hq
  obtain ⟨m, hm⟩ : ∃ m, ts.length = m := ⟨_, rfl⟩
  rw [hm] at hWh hc hs ⊢
  have HW := hide hWh
  have H0 := hide (And.intro aa ba)
  have HG := hide (And.intro mem (And.intro hav (And.intro True.intro (And.intro hE (And.intro hm (And.intro hq hT))))))
  clear aa ba mem hav hE hm hq hT hWh
  go_enter Tryd.func17, Tryd.ntmps17
  go_wp2_with (go_at_call 36; refine HW.out.mono ?_; rintro e w1 ⟨rfl, b1⟩; refine stopHere ?_)
  unfold Hid
  have g1 := (b1.block w.heap.size (hp_lt H0.out.1)).trans H0.out.1
  have B1 : Below w.heap.size w w1 := H0.out.2.trans (b1.mono H0.out.2.size)
  have hlt1 : w.heap.size < w1.heap.size := hp_lt g1
  cases q with
  | false =>
    obtain ⟨r0, r1, r2, r3, r4, r5⟩ := cells6 g1
    have fR := frozen6 g1
    have hno : ¬ ∃ t d, DecOk ts t d := fun ⟨t, d, h⟩ => by have := HG.out.2.2.2.2.2.1.2 h.1; cases this
    have HN := hide (And.intro hno (And.intro g1 B1))
    clear hno g1 B1 b1 hlt1 HW
    go_wp2_with fail
    exact bodyPost_ret (results_st rfl rfl rfl (set6 HN.out.2.1 _ _ _ _ _ _)) rfl ⟨.inr ⟨HN.out.1, rfl⟩, below6 HN.out.2.2 (Nat.le_refl _) _ _ _ _ _ _⟩
  | true =>
    have hw : WholeT ts := HG.out.2.2.2.2.2.1.1 rfl
    obtain ⟨h2l, t, ht, _⟩ := whole_first hw
    have h2 : 2 ≤ m := by rw [← HG.out.2.2.2.2.1]; exact h2l
    have h0m : (0 : Int) < m := by omega
    have h0n : 0 < m := by omega
    obtain ⟨q1, q2, q3, qA, q5, b, off, hao, hbl, k0, k1, k2, k3⟩ := HG.out.2.2.2.2.2.2.2 0 t ht
    subst hao
    have hA := qA
    obtain ⟨nm, hnm⟩ : ∃ nm, t.name = nm := ⟨_, rfl⟩
    obtain ⟨al, hal⟩ : ∃ al, t.attrs = al := ⟨_, rfl⟩
    obtain ⟨aw, haw⟩ : ∃ x, av 0 = x := ⟨_, rfl⟩
    obtain ⟨aa0, ac0⟩ := aw
    have hdec : ∀ d, (∃ t' d', DecOk ts t' d') → decA d0 al = some d ∧ StOk (kNum nm) d.ty d.fr d.tt d.id (midT ts) ∨ (decA d0 al ≠ some d) := fun d _ => by
      by_cases h : decA d0 al = some d
      · rename_i h'
        obtain ⟨t', d', hd'⟩ := h'
        have e1 : t' = t := by have := hd'.2.1; rw [ht] at this; cases this; rfl
        subst e1
        have e2 : d' = d := by have := hd'.2.2.1; rw [hal, h] at this; cases this; rfl
        subst e2
        exact .inl ⟨h, by rw [← hnm]; exact hd'.2.2.2⟩
      · exact .inr h
    rw [hnm] at k1
    rw [hal, haw] at k2 hA
    have hnA : al.length ≤ 4398046510976 := hA.1
    obtain ⟨W2, hW2, a2, c2, z2⟩ := newV w1 25 #[.int .u8 0, .string ⟨#[]⟩, .string ⟨#[]⟩, .string ⟨#[]⟩, .string ⟨#[]⟩, .slice none 0 0]
    have B2 : Below w.heap.size w W2 := B1.trans (c2.mono B1.size)
    have g2 := (c2.block w.heap.size hlt1).trans g1
    have HQ := hide (And.intro hw (And.intro ht (And.intro hnm (And.intro hal (And.intro hA (And.intro k1 (And.intro k2 (And.intro hdec haw))))))))
    have H2 := hide (And.intro a2 (And.intro g2 B2))
    clear hw ht hnm hal hA qA q1 q2 q3 q5 k0 k1 k2 k3 hdec a2 c2 g1 B1 b1 g2 B2 HW h2l haw
    go_wp2_with (refine l_alloc 25 infoSt rfl rfl ?_; unfold zeroSt; rw [hW2])
    go_loopw [5] (fun i wr => ∃ (j : Nat), j ≤ 3 ∧ i = .int .u8 ((j : Int) + 1) ∧ wr.heap[w1.heap.size]? = some (.cells #[.int .u8 (kU nm j), .string ⟨#[]⟩, .string ⟨#[]⟩, .string ⟨#[]⟩, .string ⟨#[]⟩, .slice none 0 0] 25) ∧ wr.heap[w.heap.size]? = some (.cells #[.int .u8 0, .string ⟨#[]⟩, .string ⟨#[]⟩, .string ⟨#[]⟩, .string ⟨#[]⟩, .slice none 0 0] 25) ∧ Below w.heap.size w wr) (fun i _ => 4 - (intOf i).toNat)
    case atStart => exact ⟨0, Nat.zero_le _, rfl, H2.out.1, H2.out.2.1, H2.out.2.2⟩
    case round =>
      obtain ⟨j, hj, rfl, gB, gR, gb⟩ := hrel
      have hk1 := (gb.cell (p := ⟨b, _, none⟩) hbl).trans HQ.out.2.2.2.2.2.1
      rw [show off + 0 * 4 + 1 = off + 1 by omega] at hk1
      obtain ⟨y0, y1, y2, y3, y4, y5⟩ := cells6 gB
      have fB := frozen6 gB
      have HI := hide (And.intro gB (And.intro gR gb))
      clear gB gR gb
      rcases (show j = 0 ∨ j = 1 ∨ j = 2 ∨ j = 3 by omega) with rfl | rfl | rfl | rfl
      · have hkind := hide (rkind_any 1 wr.drew)
        rw [show kindB 1 = ⟨#[105, 113]⟩ from rfl] at hkind
        by_cases e : nm = kindB 1
        · have f : (([105, 113] : List UInt8) == nm.toList) = true := by rw [lit_cmp nm (kindB 1) _ (by rw [ByteArray.toList_eq]; rfl)]; exact decide_eq_true e
          have HE := hide (kU_yes (j := 0) e)
          clear e
          go_wp2_with fail
          go_region_law
            (refine step_rkind (by first | rfl | simp [Region.wanted, yielded]) 17 _ rfl (.int .u8 1) rfl hkind.out ?_; rintro e w1 ⟨he, hw⟩; refine ⟨_, he, ?_⟩; clear he; subst hw)
          all_goals
            go_wp2_with fail
            refine ⟨⟨1, by omega, by simp, ?_, ?_, ?_⟩, by simp [intOf]⟩
            · rw [HE.out]
              exact heap_setCell_same _ _ 0 _ _ _ HI.out.1
            · exact (Below.heap_setCell _ _ _ _ (by show w.heap.size ≠ w1.heap.size; omega)).trans HI.out.2.1
            · exact HI.out.2.2.drew.setCell (p := ⟨_, 0, none⟩) (by show w.heap.size ≤ w1.heap.size; omega) _
        · have f : (([105, 113] : List UInt8) == nm.toList) = false := by rw [lit_cmp nm (kindB 1) _ (by rw [ByteArray.toList_eq]; rfl)]; exact decide_eq_false e
          have HE := hide (kU_no (j := 0) e)
          clear e
          go_wp2_with fail
          go_region_law
            (refine step_rkind (by first | rfl | simp [Region.wanted, yielded]) 17 _ rfl (.int .u8 1) rfl hkind.out ?_; rintro e w1 ⟨he, hw⟩; refine ⟨_, he, ?_⟩; clear he; subst hw)
          all_goals
            go_wp2_with fail
            exact ⟨⟨1, by omega, by simp, by rw [HE.out]; exact HI.out.1, HI.out.2.1, HI.out.2.2.drew⟩, by simp [intOf]⟩
      · have hkind := hide (rkind_any 2 wr.drew)
        rw [show kindB 2 = ⟨#[109, 101, 115, 115, 97, 103, 101]⟩ from rfl] at hkind
        by_cases e : nm = kindB 2
        · have f : (([109, 101, 115, 115, 97, 103, 101] : List UInt8) == nm.toList) = true := by rw [lit_cmp nm (kindB 2) _ (by rw [ByteArray.toList_eq]; rfl)]; exact decide_eq_true e
          have HE := hide (kU_yes (j := 1) e)
          clear e
          go_wp2_with fail
          go_region_law
            (refine step_rkind (by first | rfl | simp [Region.wanted, yielded]) 17 _ rfl (.int .u8 2) rfl hkind.out ?_; rintro e w1 ⟨he, hw⟩; refine ⟨_, he, ?_⟩; clear he; subst hw)
          all_goals
            go_wp2_with fail
            refine ⟨⟨2, by omega, by simp, ?_, ?_, ?_⟩, by simp [intOf]⟩
            · rw [HE.out]
              exact heap_setCell_same _ _ 0 _ _ _ HI.out.1
            · exact (Below.heap_setCell _ _ _ _ (by show w.heap.size ≠ w1.heap.size; omega)).trans HI.out.2.1
            · exact HI.out.2.2.drew.setCell (p := ⟨_, 0, none⟩) (by show w.heap.size ≤ w1.heap.size; omega) _
        · have f : (([109, 101, 115, 115, 97, 103, 101] : List UInt8) == nm.toList) = false := by rw [lit_cmp nm (kindB 2) _ (by rw [ByteArray.toList_eq]; rfl)]; exact decide_eq_false e
          have HE := hide (kU_no (j := 1) e)
          clear e
          go_wp2_with fail
          go_region_law
            (refine step_rkind (by first | rfl | simp [Region.wanted, yielded]) 17 _ rfl (.int .u8 2) rfl hkind.out ?_; rintro e w1 ⟨he, hw⟩; refine ⟨_, he, ?_⟩; clear he; subst hw)
          all_goals
            go_wp2_with fail
            exact ⟨⟨2, by omega, by simp, by rw [HE.out]; exact HI.out.1, HI.out.2.1, HI.out.2.2.drew⟩, by simp [intOf]⟩
      · have hkind := hide (rkind_any 3 wr.drew)
        rw [show kindB 3 = ⟨#[112, 114, 101, 115, 101, 110, 99, 101]⟩ from rfl] at hkind
        by_cases e : nm = kindB 3
        · have f : (([112, 114, 101, 115, 101, 110, 99, 101] : List UInt8) == nm.toList) = true := by rw [lit_cmp nm (kindB 3) _ (by rw [ByteArray.toList_eq]; rfl)]; exact decide_eq_true e
          have HE := hide (kU_yes (j := 2) e)
          clear e
          go_wp2_with fail
          go_region_law
            (refine step_rkind (by first | rfl | simp [Region.wanted, yielded]) 17 _ rfl (.int .u8 3) rfl hkind.out ?_; rintro e w1 ⟨he, hw⟩; refine ⟨_, he, ?_⟩; clear he; subst hw)
          all_goals
            go_wp2_with fail
            refine ⟨⟨3, by omega, by simp, ?_, ?_, ?_⟩, by simp [intOf]⟩
            · rw [HE.out]
              exact heap_setCell_same _ _ 0 _ _ _ HI.out.1
            · exact (Below.heap_setCell _ _ _ _ (by show w.heap.size ≠ w1.heap.size; omega)).trans HI.out.2.1
            · exact HI.out.2.2.drew.setCell (p := ⟨_, 0, none⟩) (by show w.heap.size ≤ w1.heap.size; omega) _
        · have f : (([112, 114, 101, 115, 101, 110, 99, 101] : List UInt8) == nm.toList) = false := by rw [lit_cmp nm (kindB 3) _ (by rw [ByteArray.toList_eq]; rfl)]; exact decide_eq_false e
          have HE := hide (kU_no (j := 2) e)
          clear e
          go_wp2_with fail
          go_region_law
            (refine step_rkind (by first | rfl | simp [Region.wanted, yielded]) 17 _ rfl (.int .u8 3) rfl hkind.out ?_; rintro e w1 ⟨he, hw⟩; refine ⟨_, he, ?_⟩; clear he; subst hw)
          all_goals
            go_wp2_with fail
            exact ⟨⟨3, by omega, by simp, by rw [HE.out]; exact HI.out.1, HI.out.2.1, HI.out.2.2.drew⟩, by simp [intOf]⟩
      · have hk3 := kU_three nm
        have H3 := hide (show wr.heap[w1.heap.size]? = some (.cells #[.int .u8 (kNum nm), .string ⟨#[]⟩, .string ⟨#[]⟩, .string ⟨#[]⟩, .string ⟨#[]⟩, .slice none 0 0] 25) by rw [← hk3]; exact HI.out.1)
        obtain ⟨V1, rfl⟩ : ∃ V, V = wr := ⟨_, rfl⟩
        have HI1 := hide (And.intro H3.out HI.out.2)
        clear hk3 H3 HI y0 y1 y2 y3 y4 y5 fB hk1
        go_wp2_with fail
        go_loopw [6] (fun i wr => ∃ (j : Nat) (d : D4), j ≤ al.length ∧ i = .int .i64 j ∧ decA d0 (al.take j) = some d ∧ wr.heap[w1.heap.size]? = some (.cells #[.int .u8 (kNum nm), .string d.ty, .string d.fr, .string d.tt, .string d.id, .slice none 0 0] 25) ∧ wr.heap[w.heap.size]? = some (.cells #[.int .u8 0, .string ⟨#[]⟩, .string ⟨#[]⟩, .string ⟨#[]⟩, .string ⟨#[]⟩, .slice none 0 0] 25) ∧ Below w.heap.size w wr) (fun i _ => al.length - (intOf i).toNat)
        case atStart => exact ⟨0, d0, Nat.zero_le _, rfl, rfl, HI1.out.1, HI1.out.2.1, HI1.out.2.2⟩
        case round =>
          obtain ⟨j, d, hj, rfl, hd, gB, gR, gb⟩ := hrel
          have hszB := (Array.getElem?_eq_some_iff.1 gB).1
          obtain ⟨y0, y1, y2, y3, y4, y5⟩ := cells6 gB
          have fB := frozen6 gB
          have fz1 := fB 1
          have fz2 := fB 2
          have fz3 := fB 3
          have fz4 := fB 4
          obtain ⟨r0, r1, r2, r3, r4, r5⟩ := cells6 gR
          have fR := frozen6 gR
          have fr0 := fR 0
          have fr1 := fR 1
          have fr2 := fR 2
          have fr3 := fR 3
          have fr4 := fR 4
          have fr5 := fR 5
          have hneB : ¬ w1.heap.size = wr.heap.size := by omega
          have hneR : ¬ w.heap.size = wr.heap.size := by omega
          have hltR : w.heap.size < wr.heap.size := by omega
          have hk2 := (gb.cell (p := ⟨b, _, none⟩) hbl).trans HQ.out.2.2.2.2.2.2.1
          rw [show off + 0 * 4 + 2 = off + 2 by omega] at hk2
          have HJ := hide (And.intro hd (And.intro gB (And.intro gR gb)))
          clear fB fR
          by_cases hlt : (j : Int) < al.length
          · obtain ⟨x, hx⟩ : ∃ x, al[j]? = some x := ⟨_, List.getElem?_eq_getElem (by omega)⟩
            obtain ⟨ba, oa, hae, hbl2, hm0, hm1⟩ := HQ.out.2.2.2.2.1.2.2 j x hx
            have hm0 := (gb.cell (p := ⟨ba, _, none⟩) hbl2).trans hm0
            have hm1 := (gb.cell (p := ⟨ba, _, none⟩) hbl2).trans hm1
            have hlt' : j < al.length := by omega
            rw [hae] at hk2
            clear hd gB gR gb
            by_cases e0 : x.1 = ⟨#[116, 121, 112, 101]⟩
            · have HP := hide (show putA d x = some { d with ty := x.2 } by unfold putA; rw [if_pos e0])
              rw [e0] at hm0
              clear e0
              go_wp2_with fail
              refine ⟨⟨j + 1, { d with ty := x.2 }, by omega, by simp, by rw [dec_succ hx HJ.out.1, HP.out], ?_, ?_, ?_⟩, by first | (simp [intOf]; omega) | simp [intOf]⟩
              · exact (Below.heap_alloc _ _ _ (by rw [World.size_setCell]; omega)).trans (heap_setCell_same _ _ 1 _ _ _ HJ.out.2.1)
              · exact (Below.heap_alloc _ _ _ (by rw [World.size_setCell]; omega)).trans ((Below.heap_setCell _ _ _ _ (by show w.heap.size ≠ w1.heap.size; omega)).trans HJ.out.2.2.1)
              · exact (HJ.out.2.2.2.setCell (p := ⟨_, 1, none⟩) (by show w.heap.size ≤ w1.heap.size; omega) _).alloc (by rw [World.size_setCell]; omega) _
            · have n0 : (x.1.toList == [116, 121, 112, 101]) = false := by rw [show ([116, 121, 112, 101] : List UInt8) = ((⟨#[116, 121, 112, 101]⟩ : ByteArray)).toList by rw [ByteArray.toList_eq]]; exact str_ne e0
              by_cases e1 : x.1 = ⟨#[102, 114, 111, 109]⟩
              · have HP := hide (show putA d x = some { d with fr := x.2 } by unfold putA; rw [if_neg e0]; rw [if_pos e1])
                clear e0
                rw [e1] at hm0
                clear e1
                go_wp2_with fail
                refine ⟨⟨j + 1, { d with fr := x.2 }, by omega, by simp, by rw [dec_succ hx HJ.out.1, HP.out], ?_, ?_, ?_⟩, by first | (simp [intOf]; omega) | simp [intOf]⟩
                · exact (Below.heap_alloc _ _ _ (by rw [World.size_setCell]; omega)).trans (heap_setCell_same _ _ 2 _ _ _ HJ.out.2.1)
                · exact (Below.heap_alloc _ _ _ (by rw [World.size_setCell]; omega)).trans ((Below.heap_setCell _ _ _ _ (by show w.heap.size ≠ w1.heap.size; omega)).trans HJ.out.2.2.1)
                · exact (HJ.out.2.2.2.setCell (p := ⟨_, 2, none⟩) (by show w.heap.size ≤ w1.heap.size; omega) _).alloc (by rw [World.size_setCell]; omega) _
              · have n1 : (x.1.toList == [102, 114, 111, 109]) = false := by rw [show ([102, 114, 111, 109] : List UInt8) = ((⟨#[102, 114, 111, 109]⟩ : ByteArray)).toList by rw [ByteArray.toList_eq]]; exact str_ne e1
                by_cases e2 : x.1 = ⟨#[116, 111]⟩
                · have HP := hide (show putA d x = some { d with tt := x.2 } by unfold putA; rw [if_neg e0]; rw [if_neg e1]; rw [if_pos e2])
                  clear e0 e1
                  rw [e2] at hm0
                  clear e2
                  go_wp2_with fail
                  refine ⟨⟨j + 1, { d with tt := x.2 }, by omega, by simp, by rw [dec_succ hx HJ.out.1, HP.out], ?_, ?_, ?_⟩, by first | (simp [intOf]; omega) | simp [intOf]⟩
                  · exact (Below.heap_alloc _ _ _ (by rw [World.size_setCell]; omega)).trans (heap_setCell_same _ _ 3 _ _ _ HJ.out.2.1)
                  · exact (Below.heap_alloc _ _ _ (by rw [World.size_setCell]; omega)).trans ((Below.heap_setCell _ _ _ _ (by show w.heap.size ≠ w1.heap.size; omega)).trans HJ.out.2.2.1)
                  · exact (HJ.out.2.2.2.setCell (p := ⟨_, 3, none⟩) (by show w.heap.size ≤ w1.heap.size; omega) _).alloc (by rw [World.size_setCell]; omega) _
                · have n2 : (x.1.toList == [116, 111]) = false := by rw [show ([116, 111] : List UInt8) = ((⟨#[116, 111]⟩ : ByteArray)).toList by rw [ByteArray.toList_eq]]; exact str_ne e2
                  by_cases e3 : x.1 = ⟨#[105, 100]⟩
                  · have HP := hide (show putA d x = some { d with id := x.2 } by unfold putA; rw [if_neg e0]; rw [if_neg e1]; rw [if_neg e2]; rw [if_pos e3])
                    clear e0 e1 e2
                    rw [e3] at hm0
                    clear e3
                    go_wp2_with fail
                    refine ⟨⟨j + 1, { d with id := x.2 }, by omega, by simp, by rw [dec_succ hx HJ.out.1, HP.out], ?_, ?_, ?_⟩, by first | (simp [intOf]; omega) | simp [intOf]⟩
                    · exact (Below.heap_alloc _ _ _ (by rw [World.size_setCell]; omega)).trans (heap_setCell_same _ _ 4 _ _ _ HJ.out.2.1)
                    · exact (Below.heap_alloc _ _ _ (by rw [World.size_setCell]; omega)).trans ((Below.heap_setCell _ _ _ _ (by show w.heap.size ≠ w1.heap.size; omega)).trans HJ.out.2.2.1)
                    · exact (HJ.out.2.2.2.setCell (p := ⟨_, 4, none⟩) (by show w.heap.size ≤ w1.heap.size; omega) _).alloc (by rw [World.size_setCell]; omega) _
                  · have n3 : (x.1.toList == [105, 100]) = false := by rw [show ([105, 100] : List UInt8) = ((⟨#[105, 100]⟩ : ByteArray)).toList by rw [ByteArray.toList_eq]]; exact str_ne e3
                    have HP := hide (show putA d x = none by unfold putA; rw [if_neg e0, if_neg e1, if_neg e2, if_neg e3])
                    clear e0 e1 e2 e3
                    go_wp2_with fail
                    refine bodyPost_ret (results_st (v0 := .int .u8 0) (v1 := .string ⟨#[]⟩) (v2 := .string ⟨#[]⟩) (v3 := .string ⟨#[]⟩) (v4 := .string ⟨#[]⟩) (v5 := .slice none 0 0) rfl rfl rfl ?_) rfl ⟨.inr ⟨?_, rfl⟩, ?_⟩
                    · exact (Below.heap_alloc _ _ _ (by rw [World.size_setCell, World.size_setCell, World.size_setCell, World.size_setCell, World.size_setCell, World.size_setCell]; omega)).trans (set6 HJ.out.2.2.1 _ _ _ _ _ _)
                    · rintro ⟨t', d', hd'⟩
                      have hb := dec_bad hx HJ.out.1 HP.out
                      have e1 : t' = t := (by have h1 := hd'.2.1; rw [HQ.out.2.1] at h1; cases h1; rfl)
                      have h2 := hd'.2.2.1
                      rw [e1, HQ.out.2.2.2.1, hb] at h2
                      cases h2
                    · exact ((((((HJ.out.2.2.2.setCell (p := ⟨_, 0, none⟩) (by show w.heap.size ≤ w.heap.size; omega) _).setCell (p := ⟨_, 1, none⟩) (by show w.heap.size ≤ w.heap.size; omega) _).setCell (p := ⟨_, 2, none⟩) (by show w.heap.size ≤ w.heap.size; omega) _).setCell (p := ⟨_, 3, none⟩) (by show w.heap.size ≤ w.heap.size; omega) _).setCell (p := ⟨_, 4, none⟩) (by show w.heap.size ≤ w.heap.size; omega) _).setCell (p := ⟨_, 5, none⟩) (by show w.heap.size ≤ w.heap.size; omega) _).alloc (by rw [World.size_setCell, World.size_setCell, World.size_setCell, World.size_setCell, World.size_setCell, World.size_setCell]; omega) _
          · obtain rfl : j = al.length := by omega
            rw [List.take_length] at hd
            have HD := hide hd
            have hsz := dec_small al d0 d (fun a ha => whole_attr HQ.out.1 HQ.out.2.1 a (by rw [HQ.out.2.2.2.1]; exact ha)) (by decide) HD.out
            have hmid : (midT ts).length = m - 2 := by rw [mid_len (by rw [HG.out.2.2.2.2.1]; exact h2), HG.out.2.2.2.2.1]
            obtain ⟨n5, hn5⟩ : ∃ n5, m - 2 = n5 := ⟨_, rfl⟩
            have hel := refElement_row ⟨#[120]⟩ none 0 [] (some ⟨b, off + 4, none⟩) (cap - 1) (midT ts) (fun k => av (k + 1)) wr (by decide) (attrMem_nil _ _) (fun _ => rfl) ((HG.out.1 wr gb).mid) (mid_av HG.out.2.1) (by omega)
            rw [hmid, hn5, show ([] : List (ByteArray × ByteArray)).length = 0 from rfl] at hel
            have HEL := hide hel
            have HN5 := hide hn5
            have hmw : IntKind.i64.wrap ((m : Int) - 1) = (m : Int) - 1 := by rw [IntKind.wrap_i64]; omega
            have HS := hide (And.intro hsz hmid)
            clear hd gB gR gb hel hn5 hsz hmid y0 y1 y2 y3 y4 y5 r0 r1 r2 r3 r4 r5 fz1 fz2 fz3 fz4 fr0 fr1 fr2 fr3 fr4 fr5
            go_wp2_with (first
              | (refine l_val rfl _ (ex_mid rfl rfl rfl rfl rfl h2 hc) ?_; rw [HN5.out])
              | (go_at_call 40; refine HEL.out.mono ?_; rintro e w5 ⟨v5, l5, rfl, e5, r5, b5⟩; refine stopHere ?_))
            unfold Hid
            have hl5 : l5.length = m := by
              have h := congrArg List.length e5
              rw [List.length_map] at h
              rw [h]
              unfold elemT
              simp
              rw [HS.out.2]
              omega
            obtain ⟨ga5, gc5, rfl⟩ := own_shape r5.1
            have hcap5 := own_cap r5.1
            obtain ⟨ao5, cap5, q5, hT5⟩ := tokMem_own r5 (by omega)
            cases q5
            rw [e5] at hT5
            obtain ⟨_, _, _, _, _, b5', off5, hao5, _⟩ := hT5.2 0 _ (elem_first _ _ _)
            subst hao5
            rw [hl5] at hcap5 r5 ⊢
            obtain ⟨oo, hoo⟩ : ∃ oo, (if m = 2 then off5 else off5 + 4) = oo := ⟨_, rfl⟩
            have HOO := hide hoo
            have g5 := (b5.block _ (Nat.lt_of_lt_of_le (hp_lt HJ.out.2.1) (Nat.le_refl _))).trans HJ.out.2.1
            have g5r := (b5.block _ hltR).trans HJ.out.2.2.1
            have B5 : Below w.heap.size w w5 := HJ.out.2.2.2.trans (b5.mono HJ.out.2.2.2.size)
            obtain ⟨W6, hW6⟩ : ∃ W, w5.setCell ⟨w1.heap.size, 5, none⟩ (.slice (some ⟨b5', oo, none⟩) n5 n5) = W := ⟨_, rfl⟩
            have g6 : W6.heap[w1.heap.size]? = some (.cells #[.int .u8 (kNum nm), .string d.ty, .string d.fr, .string d.tt, .string d.id, .slice (some ⟨b5', oo, none⟩) n5 n5] 25) := by rw [← hW6]; exact heap_setCell_same _ _ 5 _ _ _ g5
            have g6r := (show W6.heap[w.heap.size]? = w5.heap[w.heap.size]? by rw [← hW6]; exact Below.heap_setCell _ _ _ _ (by show w.heap.size ≠ w1.heap.size; omega)).trans g5r
            have r6 : ElRow wr.heap.size W6 (.slice (some ⟨b5', off5, none⟩) m gc5) l5 := by rw [← hW6]; exact r5.set hszB 5 _
            have B6 : Below w.heap.size w W6 := by rw [← hW6]; exact B5.setCell (p := ⟨w1.heap.size, 5, none⟩) (by show w.heap.size ≤ w1.heap.size; omega) _
            have hmemOf : ∀ U, ElRow wr.heap.size U (.slice (some ⟨b5', off5, none⟩) m gc5) l5 → TokMem U.heap.size U (some ⟨b5', oo, none⟩) (midT ts) (fun k => avOf l5 (k + 1)) := fun U hU => by
              have hU' := hU
              rw [← hl5] at hU'
              obtain ⟨ao6, cap6, q6, hT6⟩ := tokMem_own hU' (by omega)
              cases q6
              rw [e5] at hT6
              have h3 := hT6.mid3 (m := m) (by rw [← e5, List.length_map]; exact hl5) h2
              rw [mid_elem, hoo] at h3
              exact h3
            have hav5 : ∀ i t, (midT ts)[i]? = some t → (avOf l5 (i + 1)).1 = none → (avOf l5 (i + 1)).2 = 0 := by
              have h := mid_av (elrow_av (by rw [← hl5] at r6; exact r6))
              rw [e5, mid_elem] at h
              exact h
            have hrt := rright6_any (kNum nm) d.ty d.fr d.tt d.id (some ⟨b5', oo, none⟩) n5 (midT ts) (fun k => avOf l5 (k + 1)) W6 (hmemOf W6 r6) hav5 (by rw [HS.out.2]; omega) HS.out.1 (HG.out.2.2.2.1.below B6)
            rw [HS.out.2, HN5.out] at hrt
            have HR := hide hrt
            obtain ⟨x0, x1, x2, x3, x4, x5⟩ := cells6 g5
            have f5 := frozen6 g5
            obtain ⟨u0, u1, u2, u3, u4, u5⟩ := cells6 g6
            have hw1lt : w1.heap.size < w5.heap.size := hp_lt g5
            have H6 := hide (And.intro g6 (And.intro g6r (And.intro r6 (And.intro B6 hmemOf))))
            clear e5 r5 b5 hT5 g5 g5r B5 g6 g6r r6 B6 hmemOf hav5 hrt hl5 hoo HEL hw1lt
            go_wp2_with (first
              | (refine l_val rfl _ (ex_mid3 rfl rfl rfl rfl rfl rfl h2 hcap5) ?_; rw [HN5.out, HOO.out])
              | (go_at_call 15; refine HR.out.mono ?_; rintro e w7 ⟨⟨hok, rfl⟩ | ⟨hok, rfl⟩, b7⟩; refine stopHere ?_; rotate_left; refine stopHere ?_))
            all_goals unfold Hid
            · obtain ⟨g6, g6r, r6, B6, hmemOf⟩ := H6.out
              have g7r := (b7.block w.heap.size (hp_lt g6r)).trans g6r
              have B7 : Below w.heap.size w w7 := B6.trans (b7.mono B6.size)
              obtain ⟨r0, r1, r2, r3, r4, r5⟩ := cells6 g7r
              have fR := frozen6 g7r
              have hno : ¬ ∃ t d, DecOk ts t d := by
                rintro ⟨t', d', hd'⟩
                have e1 : t' = t := (by have h1 := hd'.2.1; rw [HQ.out.2.1] at h1; cases h1; rfl)
                have h2 := hd'.2.2.1
                rw [e1, HQ.out.2.2.2.1, HD.out] at h2
                cases h2
                have h3 := hd'.2.2.2
                rw [e1, HQ.out.2.2.1] at h3
                exact hok h3
              have HN := hide (And.intro hno (And.intro g7r B7))
              clear hno g7r B7 g6 g6r r6 B6 hmemOf hok b7 HR u0 u1 u2 u3 u4 u5 x0 x1 x2 x3 x4 x5 f5
              go_wp2_with fail
              exact bodyPost_ret (results_st rfl rfl rfl (set6 HN.out.2.1 _ _ _ _ _ _)) rfl ⟨.inr ⟨HN.out.1, rfl⟩, below6 HN.out.2.2 (Nat.le_refl _) _ _ _ _ _ _⟩
            · obtain ⟨g6, g6r, r6, B6, hmemOf⟩ := H6.out
              have g7 := (b7.block w1.heap.size (hp_lt g6)).trans g6
              have g7r := (b7.block w.heap.size (hp_lt g6r)).trans g6r
              have B7 : Below w.heap.size w w7 := B6.trans (b7.mono B6.size)
              have r7 := r6.below b7
              have hdk : DecOk ts t d := ⟨HQ.out.1, HQ.out.2.1, by rw [HQ.out.2.2.2.1]; exact HD.out, by rw [HQ.out.2.2.1]; exact hok⟩
              clear u0 u1 u2 u3 u4 u5 x0 x1 x2 x3 x4 x5 f5
              obtain ⟨u0, u1, u2, u3, u4, u5⟩ := cells6 g7
              obtain ⟨r0, r1, r2, r3, r4, r5⟩ := cells6 g7r
              have fR := frozen6 g7r
              have HN := hide (And.intro hdk (And.intro g7r (And.intro B7 (And.intro r7 hmemOf))))
              clear hdk g7 g7r B7 r7 g6 g6r r6 B6 hmemOf hok b7 HR
              go_wp2_with fail
              exact bodyPost_ret (results_st rfl rfl rfl (set6 HN.out.2.1 _ _ _ _ _ _)) rfl ⟨.inl ⟨t, d, some ⟨b5', oo, none⟩, n5, _, HN.out.1, by rw [HQ.out.2.2.1, HS.out.2, HN5.out]; rfl, HN.out.2.2.2.2 _ (HN.out.2.2.2.1.set6 hltR _ _ _ _ _ _)⟩, below6 HN.out.2.2.1 (Nat.le_refl _) _ _ _ _ _ _⟩
end Go.Proofs.YtpknifioflagaaaDoor
