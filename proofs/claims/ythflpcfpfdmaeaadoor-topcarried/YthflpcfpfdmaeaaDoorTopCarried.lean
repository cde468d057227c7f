/- TopCarried: a text in an element is read as it was written, whatever stands in it, and however it is cut. -/
import Derived.Test.YthflpcfpfdmaeaaDoorTcM
import Derived.Test.YthflpcfpfdmaeaaDoorLive4
import Derived.Test.YthflpcfpfdmaeaaDoorSame
namespace Go.Proofs.YthflpcfpfdmaeaaDoor.Xm
open Go.RowKit

def cTok (t : ByteArray) : List Tok := elemT sA [(sB, t)] [⟨3, ⟨#[]⟩, [], t⟩]
theorem ba_back (t : ByteArray) : (⟨t.data.toList.toArray⟩ : ByteArray) = t := by cases t; simp
theorem cTok_car (t : ByteArray) : carT t.data.toList = cTok t := by
  unfold carT cTok elemT
  rw [ba_back]
  rfl
theorem print_cTok (t : ByteArray) : printT (cTok t) = carB t.data.toList := by
  simp [printT, printTo, cTok, elemT, tokT, kindOf, beginT, attrsT, attrT, endT, carB, tagIn, sA, sB]
theorem right_cTok {t : ByteArray} (h : RightT (cTok t)) : CharsOk t.data.toList ∧ t.data.toList ≠ [] := by
  have h1 := (fit_three rfl).1 (h.2.1 1 ⟨3, ⟨#[]⟩, [], t⟩ rfl)
  refine ⟨h1.2.2.2.1.2, fun e => h1.2.2.1 ?_⟩
  show t.data.size = 0
  rw [← Array.length_toList, e]
  rfl
theorem FeedF_cut' {l : List UInt8} {a : Nat} (h : (FeedF st0 (l.take a)).1.broken ≠ 0) : FeedF st0 l = FeedF st0 (l.take a) := by
  have h2 := FeedF_app (l.take a) (l.drop a) inv0
  rw [List.take_append_drop] at h2
  rw [h2, FeedF_broken h]
  simp
theorem ElRow.less {base base' : Nat} {W : World} {v : Value} {l : List TokV} (h : ElRow base W v l) (hb : base' ≤ base) : ElRow base' W v l := ⟨own_less h.1 hb, fun x hx => ⟨own_less (h.2 x hx).1 hb, (h.2 x hx).2⟩⟩
theorem append_run (w : World) (base : Nat) (v v2 : Value) (l l2 : List TokV) (hE : ElRow base w v l) (hE2 : ElRow base w v2 l2) (hl : l.length ≤ 100000) (hl2 : l2.length ≤ 100000) (hb : base ≤ w.heap.size) :
    ∃ v' w', (Builtin.append_ #[22, 22] 22 #[v, v2]).run Tryd.prog w = .ok v' w' ∧ ElRow base w' v' (l ++ l2) ∧ w.grownBy w' v.ownBlock := by
  obtain ⟨i, hi, hz0, hz1, hz2⟩ := info_parts infoTok
  obtain ⟨h21, ⟨e2, hn2⟩ | ⟨g, cap, cur, e2, hbg, hgg, hcc, hm, hsz, htk⟩⟩ := id hE2.1
  · have hl0 : l2 = [] := List.eq_nil_of_length_eq_zero hn2
    subst hl0
    subst e2
    obtain ⟨b, c, rfl⟩ := own_shape hE.1
    have hcap : (b = none → l.length = 0 ∧ c = 0) ∧ l.length ≤ c := by
      obtain ⟨_, ⟨e1, hn1⟩ | ⟨g, cap, cur, e1, _, _, hcc, _⟩⟩ := id hE.1
      · have e1' : b = none ∧ l.length = 0 ∧ c = 0 := by simpa using e1
        exact ⟨fun _ => e1'.2, by omega⟩
      · have e1' : b = some ⟨g, 0, none⟩ ∧ c = cap := by simpa using e1
        exact ⟨fun h => absurd (e1'.1.symm.trans h) (by simp), by rw [e1'.2]; exact hcc⟩
    exact ⟨_, _, run_append_none (P := Tryd.prog) w 22 22 29 i Tryd.underlying22 hi b l.length c hcap.1 hcap.2, by simpa using hE, ⟨rfl, rfl, rfl, Nat.le_refl _, fun _ _ _ => rfl⟩⟩
  · subst e2
    obtain ⟨v', w', hap, ho, hgr, _⟩ := run_append_own_at (P := Tryd.prog) w base 22 22 29 i _ 4 64 Tryd.underlying22 hi hz0 hz1 hz2 rfl (by decide) v l.length (l.flatMap tokC) hE.1 ⟨g, 0, none⟩ l2.length cap (l2.flatMap tokC) (cellsTok_length l2) (hE2.1.cells rfl) (tokC_one l2) (by unfold maxLen; omega) (by omega) hb
    refine ⟨v', w', hap, ⟨by rw [List.length_append, List.flatMap_append]; exact ho, fun y hy => ?_⟩, hgr⟩
    have hy' : w.ownsRow base 25 2 (.slice y.2.1 y.1.attrs.length y.2.2) y.1.attrs.length (attrCells y.1.attrs) ∧ Sized y.1 := by
      rcases List.mem_append.1 hy with hy | hy
      · exact hE.2 y hy
      · exact hE2.2 y hy
    exact ⟨own_same hy'.1 (fun k hk => hgr.block k (own_lt hy'.1 k hk) (own_types hy'.1 hE.1 (by decide) k hk)), hy'.2⟩
theorem ext_take (B : ByteArray) (a : Nat) : (B.extract 0 a).data.toList = B.data.toList.take a := by simp
theorem ext_drop (B : ByteArray) (a : Nat) : (B.extract a B.size).data.toList = B.data.toList.drop a := by
  have e : (B.extract a B.size).data.toList = (B.data.toList.drop a).take (B.size - a) := by simp
  rw [e, List.take_of_length_le (by rw [List.length_drop, Array.length_toList]; exact Nat.le_refl _)]
theorem TokMem.raise {a b : Nat} {w : World} {ao : Option Addr} {ts : List Tok} {av : Nat → Option Addr × Nat} (h : TokMem a w ao ts av) (hb : a ≤ b) : TokMem b w ao ts av := by
  refine ⟨h.1, fun k t hk => ?_⟩
  obtain ⟨s1, s2, s3, ⟨m1, m2, m3⟩, s5, bb, off, e1, e2, e3⟩ := h.2 k t hk
  refine ⟨s1, s2, s3, ⟨m1, m2, fun j x hj => ?_⟩, s5, bb, off, e1, by omega, e3⟩
  obtain ⟨b', o', f1, f2, f3⟩ := m3 j x hj
  exact ⟨b', o', f1, by omega, f3⟩
theorem IsP.grown {base p bt : Nat} {st : PS} {w w' : World} {vw vo v : Value} {l : List TokV} (h : IsP base p st vw vo w) (hE : ElRow bt w v l) (hg : w.grownBy w' v.ownBlock) : IsP base p st vw vo w' :=
  ⟨h.1, (hg.block p h.lt (fun e => own_ne0 hE.1 h.2.1 (by decide) p e.symm rfl)).trans h.2.1, own_same h.2.2.1 (fun g hg' => hg.block g (own_lt h.2.2.1 g hg') (own_types h.2.2.1 hE.1 (by decide) g hg')), own_same h.2.2.2 (fun g hg' => hg.block g (own_lt h.2.2.2 g hg') (own_types h.2.2.2 hE.1 (by decide) g hg'))⟩
theorem l_valg {ops : Array Oper} {rest : List Oper} {o : Oper} {a : Act} {w w' : World} {Q : Exit → Act → World → Prop} (hw : Region.wanted o (yielded ops a.tmps) = true) (v : Value) (hr : (execOp a.eval o).run Tryd.prog w = .ok (.value v) w') (h : wpList Tryd.prog ops Q rest (a.put o.dst v) w') : wpList Tryd.prog ops Q (o :: rest) a w := by
  unfold wpList
  rw [if_pos hw]
  refine .inl ?_
  unfold Oper.wp
  rw [hr]
  exact h
theorem ex_app {o : Oper} {a : Act} {w w' : World} {s x : Operand} {t : TypeId} {u v r : Value} (ho : o.op = .call { callee := .builtin .append, args := #[s, x], argTypes := #[t, t] }) (hs : a.eval s = u) (hx : a.eval x = v) (hr : (Builtin.append_ #[t, t] o.type #[u, v]).run Tryd.prog w = .ok r w') : (execOp a.eval o).run Tryd.prog w = .ok (.value r) w' := by
  simp [execOp, ho, resolve, invoke, builtin, hs, hx, hr, Result.andThen]
/-- What both pieces do. -/
theorem feed_both {l : List UInt8} (h : CharsOk l) (hs : l ≠ []) (hl : l.length ≤ 80) (A : Nat) : ∃ F1 F2 : PS × List Tok, FeedF st0 ((carB l).take A) = F1 ∧ FeedF F1.1 ((carB l).drop A) = F2 ∧ F1.1.broken = 0 ∧ Inv F1.1 ∧ F2.1 = sShut ∧ F1.2 ++ F2.2 = carT l := by
  have hw : FeedF st0 (carB l) = (sShut, carT l) := (FeedF_of rfl _).trans (feed_car h hs hl)
  have ha := FeedF_app ((carB l).take A) ((carB l).drop A) inv0
  rw [List.take_append_drop, hw] at ha
  refine ⟨_, _, rfl, rfl, ?_, ?_, (congrArg Prod.fst ha).symm, (congrArg Prod.snd ha).symm⟩
  · refine Classical.not_not.1 (fun hn => ?_)
    have h2 := FeedF_cut' hn
    rw [hw] at h2
    rw [← h2] at hn
    exact hn rfl
  · rw [FeedF_of rfl]
    exact feedF_inv _ _ inv0
set_option maxRecDepth 100000 in
set_option maxHeartbeats 8000000 in
theorem topCarried_any (s : ByteArray) (cut : Int) (w : World) (hs9 : s.size ≤ 9223372036854775807) (hc0 : 0 ≤ cut) (hc1 : cut ≤ 255) (hE : Env w) (h4 : 4 ≤ w.heap.size) :
    Calls Tryd.prog 3 #[.string s, .int .u8 cut] w fun e w' => e = .returned (.bool true) ∧ Below w.heap.size w w' := by
  have HE := hide hE
  clear hE
  by_cases hgt : 80 < s.size
  · have hgti : (80 : Int) < s.size := by omega
    obtain ⟨t, ht⟩ : ∃ t, s.extract 0 80 = t := ⟨_, rfl⟩
    have ht80 : t.size ≤ 80 := by rw [← ht]; simp; omega
    obtain ⟨W3, hW3⟩ : ∃ W3, ((w.alloc (.cells #[.string sB, .string t] 25)).alloc (.cells #[.int .u8 3, .string ⟨#[]⟩, .slice none 0 0, .string t] 29)) = W3 := ⟨_, rfl⟩
    have z3 : W3.heap.size = w.heap.size + 2 := by rw [← hW3]; simp
    have g0 : W3.heap[w.heap.size]? = some (.cells #[.string sB, .string t] 25) := by rw [← hW3]; exact (Below.heap_alloc _ _ _ (by simp)).trans (World.alloc_heap_new w _)
    have g1 : W3.heap[w.heap.size + 1]? = some (.cells #[.int .u8 3, .string ⟨#[]⟩, .slice none 0 0, .string t] 29) := by
      rw [← hW3]
      have h := World.alloc_heap_new (w.alloc (.cells #[.string sB, .string t] 25)) (.cells #[.int .u8 3, .string ⟨#[]⟩, .slice none 0 0, .string t] 29)
      rwa [World.size_alloc] at h
    have hb3 : Below w.heap.size w W3 := by rw [← hW3]; exact ((Below.refl _ w).alloc (Nat.le_refl _) _).alloc (by simp) _
    have hA : AttrMem W3.heap.size W3 (some ⟨w.heap.size, 0, none⟩) [(sB, t)] := by
      refine ⟨by simp, fun a ha => ?_, fun j a hj => ?_⟩
      · simp at ha
        subst ha
        exact ⟨by show 1 ≤ _; decide, by show t.size ≤ _; omega⟩
      · match j, hj with
        | 0, hj => cases hj; exact ⟨_, _, rfl, by omega, by simp [World.cell?, g0], by simp [World.cell?, g0]⟩
        | j + 1, hj => simp at hj
    have hT : TokMem W3.heap.size W3 (some ⟨w.heap.size + 1, 0, none⟩) [⟨3, ⟨#[]⟩, [], t⟩] (fun _ => (none, 0)) := by
      refine ⟨by simp, fun k t hk => ?_⟩
      match k, hk with
      | 0, hk => cases hk; exact ⟨by simp, Nat.zero_le _, by show t.size ≤ _; omega, ⟨by simp, by simp, by simp⟩, by simp, _, _, rfl, by omega, by simp [World.cell?, g1], by simp [World.cell?, g1], by simp [World.cell?, g1], by simp [World.cell?, g1]⟩
      | k + 1, hk => simp at hk
    have hel := element_row sA (some ⟨w.heap.size, 0, none⟩) 1 [(sB, t)] (some ⟨w.heap.size + 1, 0, none⟩) 1 [⟨3, ⟨#[]⟩, [], t⟩] (fun _ => (none, 0)) W3 (by show 1 ≤ _; decide) hA hT (by simp)
    have HEL := hide hel
    have HB3 := hide hb3
    clear hel hA hT g0 g1 hb3
    go_enter Tryd.func3, Tryd.ntmps3
    go_wp2_with fail
    refine HEL.out.mono ?_
    rintro e w4 ⟨v4, l4, rfl, hl4, hE4, hb4⟩
    have hb04 : Below w.heap.size w w4 := HB3.out.trans (hb4.mono (by omega))
    have hz4 := hb04.size
    have hEw4 : Env w4 := HE.out.below hb04 h4
    have hlen4 : l4.length = 3 := by have h := congrArg List.length hl4; simpa [elemT] using h
    obtain ⟨ao4, cap4, hv4, hT4⟩ := tokMem_own hE4 (by omega)
    rw [hl4] at hT4
    have hl4' : (elemT sA [(sB, t)] [⟨3, ⟨#[]⟩, [], t⟩]).length = 3 := rfl
    have hpr := print_any ao4 cap4 _ _ w4 hT4 hEw4.1 hEw4.2.1
    rw [hl4'] at hpr
    rw [hlen4] at hv4
    subst hv4
    have H4 := hide (And.intro hpr (And.intro hT4 (And.intro hb04 (And.intro hEw4 (And.intro hE4 hl4)))))
    clear hpr hT4 hb04 hEw4 hE4 hl4 hb4 hlen4 hl4'
    by_cases hR : RightT (cTok t)
    · have hcar := right_cTok hR
      go_wp2_with (first
        | (go_at_call 6; refine H4.out.1.mono ?_; rintro e w5 ⟨⟨_, rfl⟩ | ⟨hn, _⟩, b5⟩; rotate_left; exact absurd hR hn; rw [show printT (elemT sA [(sB, t)] [⟨3, ⟨#[]⟩, [], t⟩]) = carB t.data.toList from print_cTok t]; have H5 := hide b5; clear b5; refine stopHere ?_))
      unfold Hid
      have hl80 : t.data.toList.length ≤ 80 := by rw [Array.length_toList]; exact ht80
      obtain ⟨B, hBB⟩ : ∃ B : ByteArray, (⟨(carB t.data.toList).toArray⟩ : ByteArray) = B := ⟨_, rfl⟩
      rw [hBB]
      have hBl : B.data.toList = carB t.data.toList := by rw [← hBB]
      have hcl := carB_len hl80
      obtain ⟨N, hN⟩ : ∃ N, B.size = N := ⟨_, rfl⟩
      have hNl : (carB t.data.toList).length = N := by rw [← hBl, Array.length_toList]; exact hN
      have hN9 : N ≤ 1000 := by rw [← hNl]; exact hcl
      obtain ⟨A, hAc, hAN⟩ : ∃ A : Nat, cut % ((N : Int) + 1) = A ∧ A ≤ N := ⟨(cut % ((N : Int) + 1)).toNat, by have := Int.emod_nonneg cut (show ((N : Int) + 1) ≠ 0 by omega); omega, by have h1 := Int.emod_nonneg cut (show ((N : Int) + 1) ≠ 0 by omega); have h2 := Int.emod_lt_of_pos cut (show (0 : Int) < (N : Int) + 1 by omega); omega⟩
      obtain ⟨F1, F2, hF1, hF2, hbr1, hInv1, hsh, hcat⟩ := feed_both hcar.1 hcar.2 hl80 A
      obtain ⟨X1, hX1⟩ : ∃ X1, B.extract 0 A = X1 := ⟨_, rfl⟩
      obtain ⟨Y1, hY1⟩ : ∃ Y1, B.extract A N = Y1 := ⟨_, rfl⟩
      have hXl : X1.data.toList = (carB t.data.toList).take A := by rw [← hX1, ext_take, hBl]
      have hYl : Y1.data.toList = (carB t.data.toList).drop A := by rw [← hY1, ← hN, ext_drop, hBl]
      have hXs : X1.size = A := by
        have h : X1.data.toList.length = A := by rw [hXl, List.length_take, hNl]; omega
        rw [Array.length_toList] at h
        exact h
      have hYs : Y1.size = N - A := by
        have h : Y1.data.toList.length = N - A := by rw [hYl, List.length_drop, hNl]
        rw [Array.length_toList] at h
        exact h
      have hXn : X1.data.toList.length = A := by rw [Array.length_toList]; exact hXs
      have hYn : Y1.data.toList.length = N - A := by rw [Array.length_toList]; exact hYs
      rw [← hXl] at hF1
      rw [← hYl] at hF2
      have hl3 : F1.2.length + F2.2.length = 3 := by rw [← List.length_append, hcat]; rfl
      have HF := hide (And.intro hF1 (And.intro hF2 (And.intro hbr1 (And.intro hInv1 (And.intro hsh (And.intro hcat hl3))))))
      have HN := hide (And.intro hXn hYn)
      clear hBB hBl hcl hNl hF1 hF2 hbr1 hInv1 hsh hcat hl3 hXl hYl hXn hYn hcar hl80
      have hz5 := H5.out.size
      have hb05 : Below w.heap.size w w5 := H4.out.2.2.1.trans (H5.out.mono hz4)
      have HB5 := hide hb05
      clear hb05
      have hz05 := HB5.out.size
      have hAi : (A : Int) ≤ N := by omega
      go_wp2_with fail
      refine (new_any w5).mono ?_
      rintro e w6 ⟨rfl, hP6, hz6, hb6⟩
      obtain ⟨V7, cap7, cv7, hW7, z7, hb7⟩ := to_bytes X1 w6
      have hP7 := hP6.below hb7
      have hbp : Below w5.heap.size w5 V7 := hb6.trans (hb7.mono (by omega))
      have hE7 : Env V7 := HE.out.below (HB5.out.trans (hbp.mono hz05)) h4
      have hB7 : Bytes V7 w5.heap.size (.slice none 0 0) (.slice none 0 0) (some ⟨w6.heap.size, 0, none⟩) X1.data.toList := bytes_block hP7 hW7.choose_spec.choose_spec.1 (by intro h; cases h) hW7.choose_spec.choose_spec.2
      have hfe := Feed_any w5.heap.size w5.heap.size st0 _ _ _ cap7 X1.data.toList V7 hP7 inv0 hE7 (by omega) (by omega) hB7 (by rw [HN.out.1]; omega)
      rw [HF.out.1, HN.out.1] at hfe
      rw [hXs] at cv7
      have H7 := hide (And.intro hfe (And.intro hP7 hbp))
      have hz7 : V7.heap.size = w5.heap.size + 2 := by omega
      clear hP6 hb6 hb7 hP7 hbp hE7 hB7 hfe hW7 z7 hz6
      go_wp2_with fail
      refine H7.out.1.mono ?_
      rintro e w8 ⟨st8, v8, l8, vw8, vo8, rfl, q1, q2, q3, q4⟩
      obtain rfl : st8 = F1.1 := q4.ok HF.out.2.2.1
      rw [HF.out.2.2.1]
      obtain ⟨V9, cap9, cv9, hW9, z9, hb9⟩ := to_bytes Y1 w8
      have hz8 := q3.below.size
      have hP9 := q3.isP.below hb9
      have hbu8 : Below w5.heap.size w5 w8 := H7.out.2.2.trans (Run.under H7.out.2.1 q3)
      have hbp9 : Below w5.heap.size w5 V9 := hbu8.trans (hb9.mono (by omega))
      have hE9 : Env V9 := HE.out.below (HB5.out.trans (hbp9.mono hz05)) h4
      have hB9 : Bytes V9 w5.heap.size vw8 vo8 (some ⟨w8.heap.size, 0, none⟩) Y1.data.toList := bytes_block hP9 hW9.choose_spec.choose_spec.1 (fun e => by have := own_lt q3.isP.2.2.1 _ e.symm; omega) hW9.choose_spec.choose_spec.2
      have hfe := Feed_any w5.heap.size w5.heap.size F1.1 _ _ _ cap9 Y1.data.toList V9 hP9 HF.out.2.2.2.1 hE9 (by omega) (by omega) hB9 (by rw [HN.out.2]; omega)
      rw [HF.out.2.1, HN.out.2] at hfe
      rw [hYs] at cv9
      have hq2 := q2.below hb9
      have H9 := hide (And.intro hfe (And.intro hP9 (And.intro hbp9 (And.intro hq2 q1))))
      clear hb9 hP9 hbp9 hE9 hB9 hfe hW9 hbu8 q1 q2 q3 q4 hq2 cv7
      go_wp2_with fail
      refine H9.out.1.mono ?_
      rintro e w10 ⟨st10, v10, l10, vw10, vo10, rfl, q1, q2, q3, q4⟩
      have hF2b : F2.1.broken = 0 := by rw [HF.out.2.2.2.2.1]; rfl
      obtain rfl : st10 = F2.1 := q4.ok hF2b
      rw [hF2b]
      have hz10 := q3.below.size
      have hx10 := H9.out.2.2.2.1.run H9.out.2.1 q3
      have hn8 : l8.length ≤ 3 := by have h := congrArg List.length H9.out.2.2.2.2; simp at h; have := HF.out.2.2.2.2.2.2; omega
      have hn10 : l10.length ≤ 3 := by have h := congrArg List.length q1; simp at h; have := HF.out.2.2.2.2.2.2; omega
      obtain ⟨v11, w11, hap, hE11, hg11⟩ := append_run w10 V7.heap.size v8 v10 l8 l10 hx10 (q2.less (by omega)) (by omega) (by omega) (by omega)
      have hbw10 : Below w5.heap.size w5 w10 := H9.out.2.2.1.trans (Run.under H9.out.2.1 q3)
      have hz11 := hg11.size
      have hbw11 : Below w5.heap.size w5 w11 := hbw10.grown hg11 (by omega) (fun k e => by have := own_base hx10.1 k e; omega)
      have hP11 := q3.isP.grown hx10 hg11
      obtain ⟨ao11, cap11, hv11, hT11⟩ := tokMem_own hE11 (by rw [List.length_append]; omega)
      have hmap : (l8 ++ l10).map (·.1) = cTok t := by rw [List.map_append, H9.out.2.2.2.2, q1, HF.out.2.2.2.2.2.1, cTok_car]
      have hlen11 : (l8 ++ l10).length = 3 := by have h := congrArg List.length hmap; simpa [cTok, elemT] using h
      rw [hmap] at hT11
      rw [hlen11] at hv11
      have hT4' : TokMem w11.heap.size w11 ao4 (cTok t) _ := TokMem.raise (H4.out.2.1.below (H5.out.trans (hbw11.mono hz5))) (by omega)
      have hsa := same_any ao11 ao4 cap11 cap4 (cTok t) (cTok t) _ _ w11 hT11 hT4'
      have hlc : (cTok t).length = 3 := rfl
      rw [hlc] at hsa
      subst hv11
      have H11 := hide (And.intro hsa (And.intro hP11 hbw11))
      have HAP := hide hap
      clear hap
      clear hsa hP11 hbw11 hT11 hT4' hlc hmap hlen11 hE11 hg11 hbw10 q1 q2 q3 q4 hx10 cv9 hF2b
      go_wp2_with (first
        | (at_builtin; refine l_valg rfl _ (ex_app (t := 22) rfl rfl rfl HAP.out) ?_)
        | (go_at_call 10; refine H11.out.1.mono ?_; rintro e w12 ⟨hte, b12⟩; obtain rfl : e = .returned (.bool true) := (by rcases hte with ⟨_, h⟩ | ⟨h, _⟩; exact h; first | exact absurd rfl h | exact absurd trivial h); have H12 := hide b12; clear b12 hte; refine stopHere ?_))
      unfold Hid
      have hde := depth_any _ _ _ _ _ w12 (H11.out.2.1.below H12.out)
      rw [HF.out.2.2.2.2.1] at hde
      have HDE := hide hde
      clear hde
      go_wp2_with (first
        | (go_at_call 11; refine HDE.out.mono ?_; rintro e w13 ⟨rfl, hw13⟩; rw [hw13]; clear hw13; rw [show ((sShut.op.length : Nat) : Int) = 0 from rfl]))
      go_ret
      have hz11' := H11.out.2.2.size
      exact ⟨rfl, HB5.out.trans ((H11.out.2.2.trans (H12.out.mono hz11')).mono hz05)⟩
    · go_wp2_with (first
        | (go_at_call 6; refine H4.out.1.mono ?_; rintro e w5 ⟨⟨hn, _⟩ | ⟨_, rfl⟩, b5⟩; exact absurd hn hR; have H5 := hide b5; clear b5; refine stopHere ?_))
      unfold Hid
      have hz5 := H5.out.size
      have hri := right_any ao4 cap4 _ _ w5 (TokMem.raise (H4.out.2.1.below H5.out) hz5) (H4.out.2.2.2.1.below (H5.out.mono (Nat.le_refl _)) (by omega)).1
      have hl4'' : (elemT sA [(sB, t)] [⟨3, ⟨#[]⟩, [], t⟩]).length = 3 := rfl
      rw [hl4''] at hri
      have HRI := hide hri
      clear hri hl4''
      go_wp2_with (first
        | (go_at_call 7; refine HRI.out.mono ?_; rintro e w6 ⟨hte, b6⟩; obtain rfl : e = .returned (.bool false) := (by rcases hte with ⟨h, _⟩ | ⟨_, h⟩; exact absurd h hR; exact h); have H6 := hide b6; clear b6 hte))
      go_ret
      exact ⟨rfl, H4.out.2.2.1.trans ((H5.out.trans (H6.out.mono hz5)).mono hz4)⟩
  · have hgti : ¬ ((80 : Int) < s.size) := by omega
    have ht80 : s.size ≤ 80 := by omega
    obtain ⟨W3, hW3⟩ : ∃ W3, ((w.alloc (.cells #[.string sB, .string s] 25)).alloc (.cells #[.int .u8 3, .string ⟨#[]⟩, .slice none 0 0, .string s] 29)) = W3 := ⟨_, rfl⟩
    have z3 : W3.heap.size = w.heap.size + 2 := by rw [← hW3]; simp
    have g0 : W3.heap[w.heap.size]? = some (.cells #[.string sB, .string s] 25) := by rw [← hW3]; exact (Below.heap_alloc _ _ _ (by simp)).trans (World.alloc_heap_new w _)
    have g1 : W3.heap[w.heap.size + 1]? = some (.cells #[.int .u8 3, .string ⟨#[]⟩, .slice none 0 0, .string s] 29) := by
      rw [← hW3]
      have h := World.alloc_heap_new (w.alloc (.cells #[.string sB, .string s] 25)) (.cells #[.int .u8 3, .string ⟨#[]⟩, .slice none 0 0, .string s] 29)
      rwa [World.size_alloc] at h
    have hb3 : Below w.heap.size w W3 := by rw [← hW3]; exact ((Below.refl _ w).alloc (Nat.le_refl _) _).alloc (by simp) _
    have hA : AttrMem W3.heap.size W3 (some ⟨w.heap.size, 0, none⟩) [(sB, s)] := by
      refine ⟨by simp, fun a ha => ?_, fun j a hj => ?_⟩
      · simp at ha
        subst ha
        exact ⟨by show 1 ≤ _; decide, by show s.size ≤ _; omega⟩
      · match j, hj with
        | 0, hj => cases hj; exact ⟨_, _, rfl, by omega, by simp [World.cell?, g0], by simp [World.cell?, g0]⟩
        | j + 1, hj => simp at hj
    have hT : TokMem W3.heap.size W3 (some ⟨w.heap.size + 1, 0, none⟩) [⟨3, ⟨#[]⟩, [], s⟩] (fun _ => (none, 0)) := by
      refine ⟨by simp, fun k t hk => ?_⟩
      match k, hk with
      | 0, hk => cases hk; exact ⟨by simp, Nat.zero_le _, by show s.size ≤ _; omega, ⟨by simp, by simp, by simp⟩, by simp, _, _, rfl, by omega, by simp [World.cell?, g1], by simp [World.cell?, g1], by simp [World.cell?, g1], by simp [World.cell?, g1]⟩
      | k + 1, hk => simp at hk
    have hel := element_row sA (some ⟨w.heap.size, 0, none⟩) 1 [(sB, s)] (some ⟨w.heap.size + 1, 0, none⟩) 1 [⟨3, ⟨#[]⟩, [], s⟩] (fun _ => (none, 0)) W3 (by show 1 ≤ _; decide) hA hT (by simp)
    have HEL := hide hel
    have HB3 := hide hb3
    clear hel hA hT g0 g1 hb3
    go_enter Tryd.func3, Tryd.ntmps3
    go_wp2_with fail
    refine HEL.out.mono ?_
    rintro e w4 ⟨v4, l4, rfl, hl4, hE4, hb4⟩
    have hb04 : Below w.heap.size w w4 := HB3.out.trans (hb4.mono (by omega))
    have hz4 := hb04.size
    have hEw4 : Env w4 := HE.out.below hb04 h4
    have hlen4 : l4.length = 3 := by have h := congrArg List.length hl4; simpa [elemT] using h
    obtain ⟨ao4, cap4, hv4, hT4⟩ := tokMem_own hE4 (by omega)
    rw [hl4] at hT4
    have hl4' : (elemT sA [(sB, s)] [⟨3, ⟨#[]⟩, [], s⟩]).length = 3 := rfl
    have hpr := print_any ao4 cap4 _ _ w4 hT4 hEw4.1 hEw4.2.1
    rw [hl4'] at hpr
    rw [hlen4] at hv4
    subst hv4
    have H4 := hide (And.intro hpr (And.intro hT4 (And.intro hb04 (And.intro hEw4 (And.intro hE4 hl4)))))
    clear hpr hT4 hb04 hEw4 hE4 hl4 hb4 hlen4 hl4'
    by_cases hR : RightT (cTok s)
    · have hcar := right_cTok hR
      go_wp2_with (first
        | (go_at_call 6; refine H4.out.1.mono ?_; rintro e w5 ⟨⟨_, rfl⟩ | ⟨hn, _⟩, b5⟩; rotate_left; exact absurd hR hn; rw [show printT (elemT sA [(sB, s)] [⟨3, ⟨#[]⟩, [], s⟩]) = carB s.data.toList from print_cTok s]; have H5 := hide b5; clear b5; refine stopHere ?_))
      unfold Hid
      have hl80 : s.data.toList.length ≤ 80 := by rw [Array.length_toList]; exact ht80
      obtain ⟨B, hBB⟩ : ∃ B : ByteArray, (⟨(carB s.data.toList).toArray⟩ : ByteArray) = B := ⟨_, rfl⟩
      rw [hBB]
      have hBl : B.data.toList = carB s.data.toList := by rw [← hBB]
      have hcl := carB_len hl80
      obtain ⟨N, hN⟩ : ∃ N, B.size = N := ⟨_, rfl⟩
      have hNl : (carB s.data.toList).length = N := by rw [← hBl, Array.length_toList]; exact hN
      have hN9 : N ≤ 1000 := by rw [← hNl]; exact hcl
      obtain ⟨A, hAc, hAN⟩ : ∃ A : Nat, cut % ((N : Int) + 1) = A ∧ A ≤ N := ⟨(cut % ((N : Int) + 1)).toNat, by have := Int.emod_nonneg cut (show ((N : Int) + 1) ≠ 0 by omega); omega, by have h1 := Int.emod_nonneg cut (show ((N : Int) + 1) ≠ 0 by omega); have h2 := Int.emod_lt_of_pos cut (show (0 : Int) < (N : Int) + 1 by omega); omega⟩
      obtain ⟨F1, F2, hF1, hF2, hbr1, hInv1, hsh, hcat⟩ := feed_both hcar.1 hcar.2 hl80 A
      obtain ⟨X1, hX1⟩ : ∃ X1, B.extract 0 A = X1 := ⟨_, rfl⟩
      obtain ⟨Y1, hY1⟩ : ∃ Y1, B.extract A N = Y1 := ⟨_, rfl⟩
      have hXl : X1.data.toList = (carB s.data.toList).take A := by rw [← hX1, ext_take, hBl]
      have hYl : Y1.data.toList = (carB s.data.toList).drop A := by rw [← hY1, ← hN, ext_drop, hBl]
      have hXs : X1.size = A := by
        have h : X1.data.toList.length = A := by rw [hXl, List.length_take, hNl]; omega
        rw [Array.length_toList] at h
        exact h
      have hYs : Y1.size = N - A := by
        have h : Y1.data.toList.length = N - A := by rw [hYl, List.length_drop, hNl]
        rw [Array.length_toList] at h
        exact h
      have hXn : X1.data.toList.length = A := by rw [Array.length_toList]; exact hXs
      have hYn : Y1.data.toList.length = N - A := by rw [Array.length_toList]; exact hYs
      rw [← hXl] at hF1
      rw [← hYl] at hF2
      have hl3 : F1.2.length + F2.2.length = 3 := by rw [← List.length_append, hcat]; rfl
      have HF := hide (And.intro hF1 (And.intro hF2 (And.intro hbr1 (And.intro hInv1 (And.intro hsh (And.intro hcat hl3))))))
      have HN := hide (And.intro hXn hYn)
      clear hBB hBl hcl hNl hF1 hF2 hbr1 hInv1 hsh hcat hl3 hXl hYl hXn hYn hcar hl80
      have hz5 := H5.out.size
      have hb05 : Below w.heap.size w w5 := H4.out.2.2.1.trans (H5.out.mono hz4)
      have HB5 := hide hb05
      clear hb05
      have hz05 := HB5.out.size
      have hAi : (A : Int) ≤ N := by omega
      go_wp2_with fail
      refine (new_any w5).mono ?_
      rintro e w6 ⟨rfl, hP6, hz6, hb6⟩
      obtain ⟨V7, cap7, cv7, hW7, z7, hb7⟩ := to_bytes X1 w6
      have hP7 := hP6.below hb7
      have hbp : Below w5.heap.size w5 V7 := hb6.trans (hb7.mono (by omega))
      have hE7 : Env V7 := HE.out.below (HB5.out.trans (hbp.mono hz05)) h4
      have hB7 : Bytes V7 w5.heap.size (.slice none 0 0) (.slice none 0 0) (some ⟨w6.heap.size, 0, none⟩) X1.data.toList := bytes_block hP7 hW7.choose_spec.choose_spec.1 (by intro h; cases h) hW7.choose_spec.choose_spec.2
      have hfe := Feed_any w5.heap.size w5.heap.size st0 _ _ _ cap7 X1.data.toList V7 hP7 inv0 hE7 (by omega) (by omega) hB7 (by rw [HN.out.1]; omega)
      rw [HF.out.1, HN.out.1] at hfe
      rw [hXs] at cv7
      have H7 := hide (And.intro hfe (And.intro hP7 hbp))
      have hz7 : V7.heap.size = w5.heap.size + 2 := by omega
      clear hP6 hb6 hb7 hP7 hbp hE7 hB7 hfe hW7 z7 hz6
      go_wp2_with fail
      refine H7.out.1.mono ?_
      rintro e w8 ⟨st8, v8, l8, vw8, vo8, rfl, q1, q2, q3, q4⟩
      obtain rfl : st8 = F1.1 := q4.ok HF.out.2.2.1
      rw [HF.out.2.2.1]
      obtain ⟨V9, cap9, cv9, hW9, z9, hb9⟩ := to_bytes Y1 w8
      have hz8 := q3.below.size
      have hP9 := q3.isP.below hb9
      have hbu8 : Below w5.heap.size w5 w8 := H7.out.2.2.trans (Run.under H7.out.2.1 q3)
      have hbp9 : Below w5.heap.size w5 V9 := hbu8.trans (hb9.mono (by omega))
      have hE9 : Env V9 := HE.out.below (HB5.out.trans (hbp9.mono hz05)) h4
      have hB9 : Bytes V9 w5.heap.size vw8 vo8 (some ⟨w8.heap.size, 0, none⟩) Y1.data.toList := bytes_block hP9 hW9.choose_spec.choose_spec.1 (fun e => by have := own_lt q3.isP.2.2.1 _ e.symm; omega) hW9.choose_spec.choose_spec.2
      have hfe := Feed_any w5.heap.size w5.heap.size F1.1 _ _ _ cap9 Y1.data.toList V9 hP9 HF.out.2.2.2.1 hE9 (by omega) (by omega) hB9 (by rw [HN.out.2]; omega)
      rw [HF.out.2.1, HN.out.2] at hfe
      rw [hYs] at cv9
      have hq2 := q2.below hb9
      have H9 := hide (And.intro hfe (And.intro hP9 (And.intro hbp9 (And.intro hq2 q1))))
      clear hb9 hP9 hbp9 hE9 hB9 hfe hW9 hbu8 q1 q2 q3 q4 hq2 cv7
      go_wp2_with fail
      refine H9.out.1.mono ?_
      rintro e w10 ⟨st10, v10, l10, vw10, vo10, rfl, q1, q2, q3, q4⟩
      have hF2b : F2.1.broken = 0 := by rw [HF.out.2.2.2.2.1]; rfl
      obtain rfl : st10 = F2.1 := q4.ok hF2b
      rw [hF2b]
      have hz10 := q3.below.size
      have hx10 := H9.out.2.2.2.1.run H9.out.2.1 q3
      have hn8 : l8.length ≤ 3 := by have h := congrArg List.length H9.out.2.2.2.2; simp at h; have := HF.out.2.2.2.2.2.2; omega
      have hn10 : l10.length ≤ 3 := by have h := congrArg List.length q1; simp at h; have := HF.out.2.2.2.2.2.2; omega
      obtain ⟨v11, w11, hap, hE11, hg11⟩ := append_run w10 V7.heap.size v8 v10 l8 l10 hx10 (q2.less (by omega)) (by omega) (by omega) (by omega)
      have hbw10 : Below w5.heap.size w5 w10 := H9.out.2.2.1.trans (Run.under H9.out.2.1 q3)
      have hz11 := hg11.size
      have hbw11 : Below w5.heap.size w5 w11 := hbw10.grown hg11 (by omega) (fun k e => by have := own_base hx10.1 k e; omega)
      have hP11 := q3.isP.grown hx10 hg11
      obtain ⟨ao11, cap11, hv11, hT11⟩ := tokMem_own hE11 (by rw [List.length_append]; omega)
      have hmap : (l8 ++ l10).map (·.1) = cTok s := by rw [List.map_append, H9.out.2.2.2.2, q1, HF.out.2.2.2.2.2.1, cTok_car]
      have hlen11 : (l8 ++ l10).length = 3 := by have h := congrArg List.length hmap; simpa [cTok, elemT] using h
      rw [hmap] at hT11
      rw [hlen11] at hv11
      have hT4' : TokMem w11.heap.size w11 ao4 (cTok s) _ := TokMem.raise (H4.out.2.1.below (H5.out.trans (hbw11.mono hz5))) (by omega)
      have hsa := same_any ao11 ao4 cap11 cap4 (cTok s) (cTok s) _ _ w11 hT11 hT4'
      have hlc : (cTok s).length = 3 := rfl
      rw [hlc] at hsa
      subst hv11
      have H11 := hide (And.intro hsa (And.intro hP11 hbw11))
      have HAP := hide hap
      clear hap
      clear hsa hP11 hbw11 hT11 hT4' hlc hmap hlen11 hE11 hg11 hbw10 q1 q2 q3 q4 hx10 cv9 hF2b
      go_wp2_with (first
        | (at_builtin; refine l_valg rfl _ (ex_app (t := 22) rfl rfl rfl HAP.out) ?_)
        | (go_at_call 10; refine H11.out.1.mono ?_; rintro e w12 ⟨hte, b12⟩; obtain rfl : e = .returned (.bool true) := (by rcases hte with ⟨_, h⟩ | ⟨h, _⟩; exact h; first | exact absurd rfl h | exact absurd trivial h); have H12 := hide b12; clear b12 hte; refine stopHere ?_))
      unfold Hid
      have hde := depth_any _ _ _ _ _ w12 (H11.out.2.1.below H12.out)
      rw [HF.out.2.2.2.2.1] at hde
      have HDE := hide hde
      clear hde
      go_wp2_with (first
        | (go_at_call 11; refine HDE.out.mono ?_; rintro e w13 ⟨rfl, hw13⟩; rw [hw13]; clear hw13; rw [show ((sShut.op.length : Nat) : Int) = 0 from rfl]))
      go_ret
      have hz11' := H11.out.2.2.size
      exact ⟨rfl, HB5.out.trans ((H11.out.2.2.trans (H12.out.mono hz11')).mono hz05)⟩
    · go_wp2_with (first
        | (go_at_call 6; refine H4.out.1.mono ?_; rintro e w5 ⟨⟨hn, _⟩ | ⟨_, rfl⟩, b5⟩; exact absurd hn hR; have H5 := hide b5; clear b5; refine stopHere ?_))
      unfold Hid
      have hz5 := H5.out.size
      have hri := right_any ao4 cap4 _ _ w5 (TokMem.raise (H4.out.2.1.below H5.out) hz5) (H4.out.2.2.2.1.below (H5.out.mono (Nat.le_refl _)) (by omega)).1
      have hl4'' : (elemT sA [(sB, s)] [⟨3, ⟨#[]⟩, [], s⟩]).length = 3 := rfl
      rw [hl4''] at hri
      have HRI := hide hri
      clear hri hl4''
      go_wp2_with (first
        | (go_at_call 7; refine HRI.out.mono ?_; rintro e w6 ⟨hte, b6⟩; obtain rfl : e = .returned (.bool false) := (by rcases hte with ⟨h, _⟩ | ⟨_, h⟩; exact absurd h hR; exact h); have H6 := hide b6; clear b6 hte))
      go_ret
      exact ⟨rfl, H4.out.2.2.1.trans ((H5.out.trans (H6.out.mono hz5)).mono hz4)⟩
end Go.Proofs.YthflpcfpfdmaeaaDoor.Xm
