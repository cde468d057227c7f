/- WriteJoins, whatever its arguments. -/
import Derived.Test.YtaglbikjnaahnacDoorWriteWraps
import Derived.Test.YtaglbikjnaahnacDoorJoinM
namespace Go.Proofs.YtaglbikjnaahnacDoor
open Go.RowKit

theorem tokCells_inv {l : List TokV} {i : Nat} {u : Value} (h : (l.flatMap tokC)[i]? = some u) : ∃ j x, l[j]? = some x ∧ ((i = j * 4 ∧ u = .int .u8 x.1.kind) ∨ (i = j * 4 + 1 ∧ u = .string x.1.name) ∨ (i = j * 4 + 2 ∧ u = .slice x.2.1 x.1.attrs.length x.2.2) ∨ (i = j * 4 + 3 ∧ u = .string x.1.text)) := by
  have hlen : (l.flatMap tokC).length = l.length * 4 := by
    clear h
    induction l with
    | nil => rfl
    | cons a l ih => simp only [List.flatMap_cons, List.length_append, tokC, List.length_cons, List.length_nil] at ih ⊢; omega
  have hlt := (List.getElem?_eq_some_iff.1 h).1
  rw [hlen] at hlt
  have hj : i / 4 < l.length := by omega
  obtain ⟨x, hx⟩ : ∃ x, l[i / 4]? = some x := ⟨l[i / 4], by simp [hj]⟩
  obtain ⟨x0, x1, x2, x3⟩ := tokCells_at l (i / 4) x hx
  refine ⟨i / 4, x, hx, ?_⟩
  have hm : i % 4 = 0 ∨ i % 4 = 1 ∨ i % 4 = 2 ∨ i % 4 = 3 := by omega
  rcases hm with hm | hm | hm | hm
  · have e : i / 4 * 4 = i := by omega
    rw [e, h] at x0
    exact .inl ⟨e.symm, by cases x0; rfl⟩
  · have e : i / 4 * 4 + 1 = i := by omega
    rw [e, h] at x1
    exact .inr (.inl ⟨e.symm, by cases x1; rfl⟩)
  · have e : i / 4 * 4 + 2 = i := by omega
    rw [e, h] at x2
    exact .inr (.inr (.inl ⟨e.symm, by cases x2; rfl⟩))
  · have e : i / 4 * 4 + 3 = i := by omega
    rw [e, h] at x3
    exact .inr (.inr (.inr ⟨e.symm, by cases x3; rfl⟩))
/-- Tokens with where their attributes lie. -/
def rowV (ts : List Tok) (av : Nat → Option Addr × Nat) : List TokV := ts.zipIdx.map fun x => (x.1, av x.2)
theorem rowV_length (ts : List Tok) (av : Nat → Option Addr × Nat) : (rowV ts av).length = ts.length := by simp [rowV]
theorem rowV_fst (ts : List Tok) (av : Nat → Option Addr × Nat) : (rowV ts av).map (·.1) = ts := by
  unfold rowV
  rw [List.map_map]
  exact List.zipIdx_map_fst 0 ts
theorem rowV_at {ts : List Tok} {av : Nat → Option Addr × Nat} {j : Nat} {x : TokV} (h : (rowV ts av)[j]? = some x) : ∃ t, ts[j]? = some t ∧ x = (t, av j) := by
  unfold rowV at h
  rw [List.getElem?_map, List.getElem?_zipIdx] at h
  cases ht : ts[j]? with
  | none => simp [ht] at h
  | some t =>
    simp [ht] at h
    exact ⟨t, rfl, h.symm⟩
/-- The cells of tokens in memory. -/
theorem rowV_cells {n₀ : Nat} {w : World} {b off : Nat} {ts : List Tok} {av : Nat → Option Addr × Nat} (h : TokMem n₀ w (some ⟨b, off, none⟩) ts av) (j : Nat) (u : Value) (hu : ((rowV ts av).flatMap tokC)[j]? = some u) : w.cell? ⟨b, off + j, none⟩ = some u := by
  obtain ⟨k, x, hx, hc⟩ := tokCells_inv hu
  obtain ⟨t, ht, rfl⟩ := rowV_at hx
  obtain ⟨_, _, _, _, _, b', off', e, _, c1, c2, c3, c4⟩ := h.2 k t ht
  cases e
  rcases hc with ⟨rfl, rfl⟩ | ⟨rfl, rfl⟩ | ⟨rfl, rfl⟩ | ⟨rfl, rfl⟩
  · exact c1
  · exact c2
  · exact c3
  · exact c4
theorem tokC_one {l : List TokV} (u : Value) (hu : u ∈ l.flatMap tokC) : u.oneCell' = true := by
  obtain ⟨x, _, h⟩ := List.mem_flatMap.1 hu
  simp [tokC] at h
  rcases h with rfl | rfl | rfl | rfl <;> rfl
theorem cellsTok_length (l : List TokV) : (l.flatMap tokC).length = l.length * 4 := by
  induction l with
  | nil => rfl
  | cons a l ih => simp only [List.flatMap_cons, List.length_append, tokC, List.length_cons, List.length_nil] at ih ⊢; omega
/-- A row of tokens of the call's own, whose attributes lie anywhere, is tokens in memory. -/
theorem tokMem_row {base : Nat} {W : World} {v : Value} {l : List TokV} (ho : W.ownsRow base 40 4 v l.length (l.flatMap tokC)) (hl : l.length ≤ 2000)
    (hx : ∀ x ∈ l, x.1.kind < 256 ∧ x.1.name.size ≤ 9223372036854775807 ∧ x.1.text.size ≤ 9223372036854775807 ∧ AttrMem W.heap.size W x.2.1 x.1.attrs ∧ x.1.attrs.length ≤ x.2.2) :
    ∃ ao cap, v = .slice ao l.length cap ∧ TokMem W.heap.size W ao (l.map (·.1)) (avOf l) := by
  obtain ⟨ga, gc, rfl⟩ := own_shape ho
  refine ⟨ga, gc, rfl, by simp; omega, fun k t hk => ?_⟩
  obtain ⟨x, hxk, rfl⟩ : ∃ x, l[k]? = some x ∧ x.1 = t := by simpa using hk
  have hav : avOf l k = x.2 := by simp [avOf, hxk]
  rw [hav]
  obtain ⟨s1, s2, s3, s4, s5⟩ := hx x (List.mem_of_getElem? hxk)
  refine ⟨s1, s2, s3, s4, s5, ?_⟩
  have hlt := (List.getElem?_eq_some_iff.1 hxk).1
  obtain ⟨hl', ⟨e, hn⟩ | ⟨g, cap, cur, e, hb, hg, hc', _, hs, ht⟩⟩ := ho
  · omega
  · cases e
    refine ⟨g, 0, rfl, (Array.getElem?_eq_some_iff.1 hg).1, ?_⟩
    obtain ⟨q1, q2, q3, q4⟩ := tokCells_at l k x hxk
    rw [← ht, List.getElem?_take_of_lt (by omega)] at q1 q2 q3 q4
    refine ⟨?_, ?_, ?_, ?_⟩ <;> (simp [World.cell?, hg]; first | simpa using q1 | simpa using q2 | simpa using q3 | simpa using q4)

/-- Tokens that lie in memory are put behind tokens of a row of the call's own. -/
theorem append_toks (w : World) {ops : Array Oper} {rest : List Oper} {o : Oper} {a : Act} {Q : Exit → Act → World → Prop} (hg : o.guard = none) (s x : Operand)
    (hop : o.op = Op.call { callee := Callee.builtin Builtin.append, args := #[s, x], argTypes := #[22, 22] }) (base : Nat) (v : Value) (l : List TokV) (hs : a.eval s = v)
    (hE : w.ownsRow base 40 4 v l.length (l.flatMap tokC)) (n₀ b off c : Nat) (ts : List Tok) (av : Nat → Option Addr × Nat) (hx : a.eval x = .slice (some ⟨b, off, none⟩) ts.length c) (hT : TokMem n₀ w (some ⟨b, off, none⟩) ts av) (hl : l.length + ts.length ≤ 2000) (hb : base ≤ w.heap.size)
    (hK : ∀ v' w', w'.ownsRow base 40 4 v' (l ++ rowV ts av).length ((l ++ rowV ts av).flatMap tokC) → Below base w w' → wpList Tryd.prog ops Q rest (a.put o.dst v') w') : wpList Tryd.prog ops Q (o :: rest) a w := by
  obtain ⟨i, hi, hz0, hz1, hz2⟩ := info_parts infoTok
  refine wpList_append_own w hg s x 22 hop base 40 i _ 4 64 Tryd.underlying22 hi hz0 hz1 hz2 rfl (by decide) v l.length (l.flatMap tokC) hs hE ⟨b, off, none⟩ ts.length c ((rowV ts av).flatMap tokC) hx (by rw [cellsTok_length, rowV_length]) (fun j u hj => ?_) (fun u hu => tokC_one u hu) (by unfold maxLen; omega) (by omega) hb ?_
  · rw [Go.WideShapes.add_plain]
    exact rowV_cells hT j u hj
  · intro v' w' ho hgr _
    exact hK v' w' (by rw [List.length_append, rowV_length, List.flatMap_append]; exact ho) ((Below.refl base w).grown hgr hb (fun k e => own_base hE k e))

set_option maxRecDepth 100000 in
set_option maxHeartbeats 4000000 in
theorem writeJoins_any (a1 a2 : Option Addr) (c1 c2 : Nat) (ts us : List Tok) (av1 av2 : Nat → Option Addr × Nat) (w : World) (_hc1 : ts.length ≤ c1) (_hc2 : us.length ≤ c2) (h1 : TokMem w.heap.size w a1 ts av1) (h2 : TokMem w.heap.size w a2 us av2) (hU : Tabs w) (hl : EntLaid w) :
    Calls Tryd.prog 6 #[.slice a1 ts.length c1, .slice a2 us.length c2] w fun e w' => e = .returned (.bool true) ∧ Below w.heap.size w w' := by
  have HG := hide (And.intro h1 h2)
  have HU := hide hU
  have HL := hide hl
  clear hU hl h1 h2
  by_cases l1 : 30 < (ts.length : Int)
  · go_enter Tryd.func6, Tryd.ntmps6
    go_wp2_with fail
    refine (live4_any w HU.out HL.out).mono ?_
    rintro e w3 ⟨rfl, hb3⟩
    have HB3 := hide hb3
    clear hb3
    go_wp2_with fail
    go_ret
    exact ⟨rfl, HB3.out⟩
  by_cases l2 : 30 < (us.length : Int)
  · go_enter Tryd.func6, Tryd.ntmps6
    go_wp2_with fail
    refine (live4_any w HU.out HL.out).mono ?_
    rintro e w3 ⟨rfl, hb3⟩
    have HB3 := hide hb3
    clear hb3
    go_wp2_with fail
    go_ret
    exact ⟨rfl, HB3.out⟩
  go_enter Tryd.func6, Tryd.ntmps6
  go_wp2_with fail
  refine (whole_any a1 c1 ts av1 w HG.out.1 HU.out).mono ?_
  rintro e w1 ⟨⟨ha, rfl⟩ | ⟨ha, rfl⟩, hb1⟩
  case inr =>
    have HB1 := hide hb1
    clear hb1
    go_wp2_with fail
    refine (live4_any w1 (tabs_below HU.out HB1.out) (HL.out.below HB1.out HL.out.size)).mono ?_
    rintro e w3 ⟨rfl, hb3⟩
    have HB3 := hide (HB1.out.trans (hb3.mono HB1.out.size))
    clear hb3
    go_wp2_with fail
    go_ret
    exact ⟨rfl, HB3.out⟩
  have HB1 := hide hb1
  clear hb1
  go_wp2_with fail
  refine (whole_any a2 c2 us av2 w1 ((HG.out.2.below HB1.out).mono HB1.out.size) (tabs_below HU.out HB1.out)).mono ?_
  rintro e w2 ⟨⟨hb, rfl⟩ | ⟨hb, rfl⟩, hb2⟩
  case inr =>
    have HB2 := hide (HB1.out.trans (hb2.mono HB1.out.size))
    clear hb2
    go_wp2_with fail
    refine (live4_any w2 (tabs_below HU.out HB2.out) (HL.out.below HB2.out HL.out.size)).mono ?_
    rintro e w3 ⟨rfl, hb3⟩
    have HB3 := hide (HB2.out.trans (hb3.mono HB2.out.size))
    clear hb3
    go_wp2_with fail
    go_ret
    exact ⟨rfl, HB3.out⟩
  have HB2 := hide (HB1.out.trans (hb2.mono HB1.out.size))
  clear hb2
  obtain ⟨b1, o1, rfl⟩ : ∃ b o, a1 = some ⟨b, o, none⟩ := by
    obtain ⟨t, ht⟩ : ∃ t, ts[0]? = some t := ⟨ts[0]'(whole_pos ha), by simp [whole_pos ha]⟩
    obtain ⟨_, _, _, _, _, b, o, e, _⟩ := HG.out.1.2 0 t ht
    exact ⟨b, o, e⟩
  obtain ⟨b2, o2, rfl⟩ : ∃ b o, a2 = some ⟨b, o, none⟩ := by
    obtain ⟨t, ht⟩ : ∃ t, us[0]? = some t := ⟨us[0]'(whole_pos hb), by simp [whole_pos hb]⟩
    obtain ⟨_, _, _, _, _, b, o, e, _⟩ := HG.out.2.2 0 t ht
    exact ⟨b, o, e⟩
  go_wp2_with (at_builtin; refine stopHere ?_)
  unfold Hid
  refine append_toks w2 rfl _ _ rfl w2.heap.size _ [] rfl (World.ownsRow_nil _ _ _ _) w.heap.size b1 o1 c1 ts av1 rfl (HG.out.1.below HB2.out) (by simp; omega) (Nat.le_refl _) ?_
  intro v3 w3 hE3 hb3
  simp only [List.nil_append] at hE3
  obtain ⟨g3, k3, rfl⟩ := own_shape hE3
  have HB3 := hide (HB2.out.trans (hb3.mono HB2.out.size))
  have HE3 := hide (And.intro hE3 hb3)
  clear hE3 hb3
  go_wp2_with (at_builtin; refine stopHere ?_)
  unfold Hid
  refine append_toks w3 rfl _ _ rfl w2.heap.size _ (rowV ts av1) rfl HE3.out.1 w.heap.size b2 o2 c2 us av2 rfl (HG.out.2.below HB3.out) (by rw [rowV_length]; omega) HE3.out.2.size ?_
  intro v4 w4 hE4 hb4
  have HB4 := hide (HB3.out.trans (hb4.mono HB2.out.size))
  have hx4 : ∀ x ∈ rowV ts av1 ++ rowV us av2, x.1.kind < 256 ∧ x.1.name.size ≤ 9223372036854775807 ∧ x.1.text.size ≤ 9223372036854775807 ∧ AttrMem w4.heap.size w4 x.2.1 x.1.attrs ∧ x.1.attrs.length ≤ x.2.2 := fun x hx => by
    rcases List.mem_append.1 hx with hx | hx
    · obtain ⟨j, hj⟩ := List.mem_iff_getElem?.1 hx
      obtain ⟨t, ht, rfl⟩ := rowV_at hj
      obtain ⟨y1, y2, y3, y4, y5, _⟩ := ((HG.out.1.below HB4.out).mono HB4.out.size).2 j t ht
      exact ⟨y1, y2, y3, y4, y5⟩
    · obtain ⟨j, hj⟩ := List.mem_iff_getElem?.1 hx
      obtain ⟨t, ht, rfl⟩ := rowV_at hj
      obtain ⟨y1, y2, y3, y4, y5, _⟩ := ((HG.out.2.below HB4.out).mono HB4.out.size).2 j t ht
      exact ⟨y1, y2, y3, y4, y5⟩
  obtain ⟨g4, k4, rfl, hT4⟩ := tokMem_row hE4 (by rw [List.length_append, rowV_length, rowV_length]; omega) hx4
  rw [List.map_append, rowV_fst, rowV_fst] at hT4
  have hln : (rowV ts av1 ++ rowV us av2).length = (ts ++ us).length := by rw [List.length_append, rowV_length, rowV_length, List.length_append]
  rw [hln]
  obtain ⟨n4, hn4⟩ : ∃ n4, (ts ++ us).length = n4 := ⟨_, rfl⟩
  rw [hn4]
  obtain ⟨sx, hsx⟩ : ∃ sx : ByteArray, ⟨(printT ts).toArray⟩ = sx := ⟨_, rfl⟩
  obtain ⟨sy, hsy⟩ : ∃ sy : ByteArray, ⟨(printT us).toArray⟩ = sy := ⟨_, rfl⟩
  obtain ⟨sz, hsz⟩ : ∃ sz : ByteArray, ⟨(printT (ts ++ us)).toArray⟩ = sz := ⟨_, rfl⟩
  have HN := hide (And.intro hn4 (And.intro hsx (And.intro hsy hsz)))
  have HT4 := hide hT4
  have hR := right_app ha.1 hb.1 (by omega)
  have hP := print_app ha.1 hb.1
  have hW := not_whole_app ha hb
  have HR := hide (And.intro hR (And.intro hP hW))
  clear hT4 hx4 hE4 hb4 hR hP hW HE3 hn4 hsx hsy hsz hln
  have hp5 := print_any (some ⟨b1, o1, none⟩) c1 ts av1 w4 ((HG.out.1.below HB4.out).mono HB4.out.size) (tabs_below HU.out HB4.out) (HL.out.below HB4.out HL.out.size)
  rw [HN.out.2.1] at hp5
  have HP5 := hide hp5
  clear hp5
  go_wp2_with fail
  refine HP5.out.mono ?_
  rintro e w5 ⟨⟨_, rfl⟩ | ⟨h, _⟩, hb5⟩
  case inr => exact absurd ha.1 h
  have HB5 := hide (HB4.out.trans (hb5.mono HB4.out.size))
  have HS5 := hide hb5
  clear hb5
  have hp6 := print_any (some ⟨b2, o2, none⟩) c2 us av2 w5 ((HG.out.2.below HB5.out).mono HB5.out.size) (tabs_below HU.out HB5.out) (HL.out.below HB5.out HL.out.size)
  rw [HN.out.2.2.1] at hp6
  have HP6 := hide hp6
  clear hp6
  go_wp2_with fail
  refine HP6.out.mono ?_
  rintro e w6 ⟨⟨_, rfl⟩ | ⟨h, _⟩, hb6⟩
  case inr => exact absurd hb.1 h
  have HB6 := hide (HB5.out.trans (hb6.mono HB5.out.size))
  have HS6 := hide (HS5.out.trans (hb6.mono HS5.out.size))
  clear hb6
  have hp7 := print_any g4 k4 (ts ++ us) _ w6 ((HT4.out.below HS6.out).mono HS6.out.size) (tabs_below HU.out HB6.out) (HL.out.below HB6.out HL.out.size)
  rw [HN.out.1, HN.out.2.2.2] at hp7
  have HP7 := hide hp7
  clear hp7
  go_wp2_with fail
  refine HP7.out.mono ?_
  rintro e w7 ⟨⟨_, rfl⟩ | ⟨h, _⟩, hb7⟩
  case inr => exact absurd HR.out.1 h
  have HB7 := hide (HB6.out.trans (hb7.mono HB6.out.size))
  have HS7 := hide (HS6.out.trans (hb7.mono HS6.out.size))
  clear hb7
  go_wp2_with fail
  refine (live4_any w7 (tabs_below HU.out HB7.out) (HL.out.below HB7.out HL.out.size)).mono ?_
  rintro e w8 ⟨rfl, hb8⟩
  have HB8 := hide (HB7.out.trans (hb8.mono HB7.out.size))
  have HS8 := hide (HS7.out.trans (hb8.mono HS7.out.size))
  clear hb8
  have q1 : sx.size ≤ 10000000 := by
    rw [← HN.out.2.1]
    show (printT ts).toArray.size ≤ _
    rw [List.size_toArray]
    have h := printTo_le ha.1.2.1 ts.length
    unfold printT
    omega
  have q2 : sy.size ≤ 10000000 := by
    rw [← HN.out.2.2.1]
    show (printT us).toArray.size ≤ _
    rw [List.size_toArray]
    have h := printTo_le hb.1.2.1 us.length
    unfold printT
    omega
  have r1 : ∀ w, (Op.stringOp .add sx sy).run Tryd.prog w = .ok (.string (sx ++ sy)) w := fun w => run_string_add_sum w _ _ (by omega)
  have hzz : sz = sx ++ sy := by
    rw [← HN.out.2.1, ← HN.out.2.2.1, ← HN.out.2.2.2, HR.out.2.1]
    apply ByteArray.ext
    simp
  have hz2 : (sz.toList == (sx ++ sy).toList) = true := by rw [hzz]; simp
  have HZ := hide hzz
  clear hzz
  have hw8 := whole_any g4 k4 (ts ++ us) _ w8 ((HT4.out.below HS8.out).mono HS8.out.size) (tabs_below HU.out HB8.out)
  rw [HN.out.1] at hw8
  have HW8 := hide hw8
  clear hw8
  go_wp2_with fail
  refine HW8.out.mono ?_
  rintro e w9 ⟨⟨h, _⟩ | ⟨_, rfl⟩, hb9⟩
  · exact absurd h HR.out.2.2
  · have HB9 := hide (HB8.out.trans (hb9.mono HB8.out.size))
    clear hb9
    go_wp2_with fail
    go_ret
    exact ⟨rfl, HB9.out⟩
end Go.Proofs.YtaglbikjnaahnacDoor
