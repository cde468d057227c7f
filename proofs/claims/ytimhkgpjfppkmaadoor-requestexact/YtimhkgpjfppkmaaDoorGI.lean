/- The names of what is open are names. Whether tokens are right, as the document says it. -/
import Derived.Test.YtimhkgpjfppkmaaDoorGM
import Derived.Test.YtimhkgpjfppkmaaDoorGH
import Derived.Test.YtimhkgpjfppkmaaDoorElem
namespace Go.Proofs.YtimhkgpjfppkmaaDoor
open Go.RowKit

theorem names_ok {ts : List Tok} : ∀ (k : Nat), (∀ j t, j < k → ts[j]? = some t → Fit (openAt ts j) (kindOf ts (j - 1 : Int)) t) → ∀ nm ∈ openAt ts k, NameOk nm
  | 0, _, nm, h => by simp [openAt] at h
  | k + 1, hf, nm, h => by
    have ih := names_ok k (fun j t hj ht => hf j t (by omega) ht)
    cases ht : ts[k]? with
    | none =>
      have h1 : ts.length ≤ k := by simpa using ht
      have h2 : openAt ts (k + 1) = openAt ts k := by unfold openAt; rw [List.take_of_length_le h1, List.take_of_length_le (by omega)]
      rw [h2] at h
      exact ih nm h
    | some t =>
      rw [openAt_succ ht] at h
      unfold opens at h
      split at h
      · rename_i h1
        rcases List.mem_append.1 h with h | h
        · exact ih nm h
        · simp at h
          subst h
          exact ((fit_one h1).1 (hf k t (by omega) ht)).2.1
      · split at h
        · exact ih nm (List.dropLast_subset _ h)
        · exact ih nm h
end Go.Proofs.YtimhkgpjfppkmaaDoor
namespace Go.Proofs.YtimhkgpjfppkmaaDoor
open Go.RowKit

/-- The cells of names. -/
def nameCells (op : List ByteArray) : List Value := op.map .string
/-- One more name in a row of the call's own. -/
theorem append_nm (w : World) {ops : Array Oper} {rest : List Oper} {o : Oper} {a : Act} {Q : Exit → Act → World → Prop} (hg : o.guard = none) (s x : Operand)
    (hop : o.op = Op.call { callee := Callee.builtin Builtin.append, args := #[s, x], argTypes := #[78, 78] }) (base : Nat) (v : Value) (op : List ByteArray) (hs : a.eval s = v) (hE : w.ownsRow base 9 1 v op.length (nameCells op)) (u : ByteArray) (bx : Nat)
    (hx : a.eval x = .slice (some ⟨bx, 0, none⟩) 1 1) (hc : w.heap[bx]? = some (.cells #[.string u] 9)) (hl : op.length ≤ 2000) (hb : base ≤ w.heap.size)
    (hK : ∀ v' w', w'.ownsRow base 9 1 v' (op ++ [u]).length (nameCells (op ++ [u])) → Below base w w' → wpList Tryd.prog ops Q rest (a.put o.dst v') w') : wpList Tryd.prog ops Q (o :: rest) a w := by
  obtain ⟨i, hi, hz0, hz1, hz2⟩ := info_parts infoString
  refine wpList_append_own w hg s x 78 hop base 9 i _ 1 16 Tryd.underlying78 hi hz0 hz1 hz2 rfl (by decide) v op.length (nameCells op) hs hE ⟨bx, 0, none⟩ 1 1 [.string u] hx rfl (fun j z hj => ?_) (fun z hz => ?_) (by unfold maxLen; omega) (by omega) hb ?_
  · match j, hj with
    | 0, hj => simp at hj; subst hj; simp [Addr.add, World.cell?, hc]
  · simp at hz
    subst hz
    rfl
  · intro v' w' ho hgr _
    refine hK v' w' ?_ ((Below.refl base w).grown hgr hb (fun k e => own_base hE k e))
    have h2 : nameCells (op ++ [u]) = nameCells op ++ [.string u] := by simp [nameCells]
    rw [h2, List.length_append]
    exact ho

theorem fit_iff {op : List ByteArray} {la : Nat} {t : Tok} (hop : ∀ nm ∈ op, NameOk nm) : Fit op la t ↔ (One t ∧ ((t.kind = 1 ∧ op.length < 8) ∨ (t.kind = 2 ∧ 0 < op.length ∧ op.getLast?.getD ⟨#[]⟩ = t.name) ∨ (t.kind = 3 ∧ 0 < op.length ∧ la ≠ 3))) := by
  by_cases h1 : t.kind = 1
  · rw [fit_one h1, one_one h1]
    constructor
    · rintro ⟨a, b, c, d⟩
      exact ⟨⟨b, c, d⟩, .inl ⟨h1, by omega⟩⟩
    · rintro ⟨⟨b, c, d⟩, ⟨_, e⟩ | ⟨e, _⟩ | ⟨e, _⟩⟩
      · exact ⟨by omega, b, c, d⟩
      · omega
      · omega
  · by_cases h2 : t.kind = 2
    · rw [fit_two h2, one_two h2]
      constructor
      · rintro ⟨a, b, c, d⟩
        refine ⟨⟨?_, c, d⟩, .inr (.inl ⟨h2, a, b⟩)⟩
        cases hl : op.getLast? with
        | none => rw [List.getLast?_eq_none_iff.1 hl] at a; simp at a
        | some x =>
          rw [hl] at b
          simp at b
          rw [← b]
          exact hop x (List.mem_of_getLast? hl)
      · rintro ⟨⟨a, b, c⟩, ⟨e, _⟩ | ⟨_, e, f⟩ | ⟨e, _⟩⟩
        · omega
        · exact ⟨e, f, b, c⟩
        · omega
    · by_cases h3 : t.kind = 3
      · rw [fit_three h3, one_three h3]
        constructor
        · rintro ⟨a, b, c, d, e, f⟩
          exact ⟨⟨e, f, c, d⟩, .inr (.inr ⟨h3, a, b⟩)⟩
        · rintro ⟨⟨a, b, c, d⟩, ⟨e, _⟩ | ⟨e, _⟩ | ⟨_, e, f⟩⟩
          · omega
          · omega
          · exact ⟨e, f, c, d, a, b⟩
      · exact ⟨fun h => absurd h (fit_none h1 h2 h3), fun h => absurd h.1 (one_none h1 h2 h3)⟩

set_option maxRecDepth 100000 in
set_option maxHeartbeats 4000000 in
theorem refRight_any (ao : Option Addr) (cap : Nat) (ts : List Tok) (av : Nat → Option Addr × Nat) (w : World) (hT : TokMem w.heap.size w ao ts av) (hU : Tabs w) :
    Calls Tryd.prog 21 #[.slice ao ts.length cap] w fun e w' => Tells (RightT ts) e ∧ Below w.heap.size w w' := by
  have hlen := hT.1
  have HT := hide hT
  have HU := hide hU
  clear hT hU
  by_cases h64 : 64 < (ts.length : Int)
  · go_enter Tryd.func21, Tryd.ntmps21
    go_wp2_with fail
    go_ret
    exact ⟨.inr ⟨fun x => by have := x.1; omega, rfl⟩, Below.refl _ _⟩
  go_enter Tryd.func21, Tryd.ntmps21
  go_wp2_with fail
  go_loopw [3, 4] (fun v i wr => ∃ k : Nat, k ≤ ts.length ∧ i = .int .i64 k ∧ (∀ j t, j < k → ts[j]? = some t → Fit (openAt ts j) (kindOf ts (j - 1 : Int)) t) ∧ wr.ownsRow w.heap.size 9 1 v (openAt ts k).length (nameCells (openAt ts k)) ∧ Below w.heap.size w wr) (fun _ i _ => ts.length - (intOf i).toNat)
  case atStart => exact ⟨0, Nat.zero_le _, rfl, fun j t h => by omega, World.ownsRow_nil _ _ _ _, Below.refl _ _⟩
  case round =>
    obtain ⟨k, hk, rfl, hfit, hown, hbw⟩ := hrel
    obtain ⟨gv, cv, rfl⟩ := own_shape hown
    have hsw := hbw.size
    have hol := openAt_le ts k
    have hnm := names_ok k hfit
    have HE := hide (And.intro hfit (And.intro hown hbw))
    clear hfit hown hbw
    by_cases hlt : k < ts.length
    · obtain ⟨t, ht⟩ : ∃ t, ts[k]? = some t := ⟨ts[k], by simp [hlt]⟩
      obtain ⟨x1, x2, x3, x4, x5, b, off, rfl, hb, c1, c2, c3, c4⟩ := HT.out.2 k t ht
      have d1 := (HE.out.2.2.cell (p := ⟨b, _, none⟩) hb).trans c1
      have d2 := (HE.out.2.2.cell (p := ⟨b, _, none⟩) hb).trans c2
      have d3 := (HE.out.2.2.cell (p := ⟨b, _, none⟩) hb).trans c3
      have d4 := (HE.out.2.2.cell (p := ⟨b, _, none⟩) hb).trans c4
      obtain ⟨aw, haw⟩ : ∃ aw, (av k).1 = aw := ⟨_, rfl⟩
      obtain ⟨cw, hcw⟩ : ∃ cw, (av k).2 = cw := ⟨_, rfl⟩
      rw [haw, hcw] at d3
      rw [haw] at x4
      have hs1 := openAt_succ ht
      have hfi := fit_iff (la := kindOf ts (k - 1 : Int)) (t := t) hnm
      have HX := hide (And.intro x4 (And.intro ht hs1))
      have HFI := hide hfi
      have hno : ¬ Fit (openAt ts k) (kindOf ts (k - 1 : Int)) t → ¬ RightT ts := fun h x => h (x.2.1 k t ht)
      have HNO := hide hno
      clear c1 c2 c3 c4 x4 hfi hno hnm hs1 ht haw hcw
      obtain ⟨op, hop⟩ : ∃ op, openAt ts k = op := ⟨_, rfl⟩
      rw [hop] at hol HE HX HFI HNO ⊢
      go_wp2_with fail
      obtain ⟨W1, hW1⟩ : ∃ W1, wr.alloc (.cells #[.int .u8 t.kind, .string t.name, .slice aw t.attrs.length cw, .string t.text] 46) = W1 := ⟨_, rfl⟩
      have z1 : W1.heap.size = wr.heap.size + 1 := by rw [← hW1]; simp
      have hB1 : Below wr.heap.size wr W1 := by rw [← hW1]; exact (Below.refl _ wr).alloc (Nat.le_refl _) _
      have f1 : W1.heap[wr.heap.size]? = some (.cells #[.int .u8 t.kind, .string t.name, .slice aw t.attrs.length cw, .string t.text] 46) := by rw [← hW1]; exact World.alloc_heap_new wr _
      rw [hW1]
      clear hW1
      have hbn1 : Below w.heap.size w W1 := HE.out.2.2.trans (hB1.mono hsw)
      refine (one_any w.heap.size t aw cw W1 x2 x3 (HX.out.1.below hbn1) (by omega) (tabs_below HU.out hbn1)).mono ?_
      rintro e w2 ⟨⟨ho, rfl⟩ | ⟨ho, rfl⟩, hb2⟩
      case inr =>
        have H2 := hide (hbn1.trans (hb2.mono (by omega)))
        clear hb2 hbn1 hB1 f1
        go_wp2_with fail
        go_ret
        exact ⟨.inr ⟨HNO.out (fun x => ho (HFI.out.1 x).1), rfl⟩, H2.out⟩
      have hs2 := hb2.size
      have f2 := (hb2.block wr.heap.size (by omega)).trans f1
      obtain ⟨y0, y1, y2, y3⟩ := cells4 f2
      have hown2 : w2.ownsRow w.heap.size 9 1 (.slice gv op.length cv) op.length (nameCells op) := own_same HE.out.2.1 (fun g hg => by have h := own_lt HE.out.2.1 g hg; exact (hb2.block g (by omega)).trans (hB1.block g h))
      have H2 := hide (And.intro (hbn1.trans (hb2.mono (by omega))) hown2)
      have hsw2 : w.heap.size ≤ w2.heap.size := by omega
      clear hb2 hbn1 hB1 f1 f2 hown2
      have HOP := hide hop
      have hrest : Fit op (kindOf ts (k - 1 : Int)) t → ∀ j x, j < k + 1 → ts[j]? = some x → Fit (openAt ts j) (kindOf ts (j - 1 : Int)) x := fun hF j x hj hx => by
        rcases Nat.lt_or_ge j k with h | h
        · exact HE.out.1 j x h hx
        · obtain rfl : j = k := by omega
          rw [HX.out.2.1] at hx
          cases hx
          rw [HOP.out]
          exact hF
      have HR := hide hrest
      clear hrest hop d1 d2 d3 d4
      by_cases k1 : t.kind = 1
      · have q1 : ((t.kind : Int) == 1) = true := by rw [k1]; rfl
        by_cases h8 : 8 ≤ (op.length : Int)
        · go_wp2_with fail
          go_ret
          refine ⟨.inr ⟨HNO.out (fun x => ?_), rfl⟩, H2.out.1⟩
          rcases (HFI.out.1 x).2 with ⟨_, h⟩ | ⟨h, _⟩ | ⟨h, _⟩ <;> omega
        · go_wp2_with (at_builtin; refine stopHere ?_)
          unfold Hid
          refine append_nm _ rfl _ _ rfl w.heap.size _ op rfl (own_same H2.out.2 (fun g hg => Below.heap_alloc _ _ _ (own_lt H2.out.2 g hg))) t.name w2.heap.size rfl (World.alloc_heap_new w2 _) (by omega) (by simp; omega) ?_
          intro v5 w5 hown5 hb5
          obtain ⟨g5, c5, rfl⟩ := own_shape hown5
          have hop1 : openAt ts (k + 1) = op ++ [t.name] := by rw [HX.out.2.2]; simp [opens, k1]
          have H5 := hide (And.intro hown5 (And.intro ((H2.out.1.alloc hsw2 _).trans hb5) hop1))
          clear hown5 hb5 hop1
          go_wp2_with fail
          go_roundw
          case rel => exact ⟨k + 1, by omega, by simp, HR.out (HFI.out.2 ⟨ho, .inl ⟨k1, by omega⟩⟩), by rw [H5.out.2.2]; have h := H5.out.1; simpa using h, H5.out.2.1⟩
          case measure => simp [intOf]; omega
      · have q1 : ((t.kind : Int) == 1) = false := by rw [beq_eq_false_iff_ne]; omega
        by_cases k2 : t.kind = 2
        · have q2 : ((t.kind : Int) == 2) = true := by rw [k2]; rfl
          rcases List.eq_nil_or_concat op with rfl | ⟨op', x, hopx⟩
          · have hz' : (((([] : List ByteArray).length : Nat) : Int) == 0) = true := rfl
            go_wp2_with fail
            go_quiet (fail)
            go_wp2_with fail
            go_ret
            refine ⟨.inr ⟨HNO.out (fun x => ?_), rfl⟩, below_drewN H2.out.1 nq⟩
            rcases (HFI.out.1 x).2 with ⟨h, _⟩ | ⟨_, h, _⟩ | ⟨h, _⟩
            · omega
            · simp at h
            · omega
          · rw [List.concat_eq_append] at hopx
            obtain ⟨m, hm⟩ : ∃ m, op'.length = m := ⟨_, rfl⟩
            have hol2 : op.length = m + 1 := by rw [hopx, ← hm]; simp
            have hnc : nameCells op = nameCells op' ++ [.string x] := by rw [hopx]; simp [nameCells]
            have hgl : op.getLast?.getD ⟨#[]⟩ = x := by rw [hopx]; simp
            have hdl : op.dropLast = op' := by rw [hopx]; simp
            have hown3 := H2.out.2
            rw [hnc, hol2] at hown3
            obtain ⟨g, rfl, hmc, hcx⟩ := own_last hown3
            have hpop := own_pop hown3
            have hop1 : openAt ts (k + 1) = op' := by rw [HX.out.2.2]; simp [opens, k2, hdl]
            have HP := hide (And.intro hpop (And.intro hop1 (And.intro hgl (And.intro hm hol2))))
            rw [hol2] at hol ⊢
            clear hown3 hpop hop1 hgl hnc hdl hm hopx hol2
            have hwm : IntKind.i64.wrap (m : Int) = m := wrap_id _ (by omega) (by omega)
            have hz' : ((m : Int) + 1 == 0) = false := by rw [beq_eq_false_iff_ne]; omega
            by_cases hxn : x = t.name
            · have hxe : (x.toList == t.name.toList) = true := by simp [hxn]
              go_wp2_with fail
              go_quiet (fail)
              go_wp2_with fail
              go_roundw
              case rel => exact ⟨k + 1, by omega, by simp, HR.out (HFI.out.2 ⟨ho, .inr (.inl ⟨k2, by have := HP.out.2.2.2.2; omega, by rw [HP.out.2.2.1, hxn]⟩)⟩), by rw [HP.out.2.1, HP.out.2.2.2.1]; exact own_same HP.out.1 (fun _ _ => rfl), below_drewN H2.out.1 nq⟩
              case measure => simp [intOf]; omega
            · have hxe : (x.toList == t.name.toList) = false := str_ne hxn
              go_wp2_with fail
              go_quiet (fail)
              go_wp2_with fail
              go_ret
              refine ⟨.inr ⟨HNO.out (fun y => ?_), rfl⟩, below_drewN H2.out.1 nq⟩
              rcases (HFI.out.1 y).2 with ⟨h, _⟩ | ⟨_, _, h⟩ | ⟨h, _⟩
              · omega
              · rw [HP.out.2.2.1] at h
                exact hxn h
              · omega
        · have q2 : ((t.kind : Int) == 2) = false := by rw [beq_eq_false_iff_ne]; omega
          have k3 : t.kind = 3 := by
            rcases ho with ⟨h, _⟩ | ⟨h, _⟩ | ⟨h, _⟩
            · omega
            · omega
            · exact h
          by_cases hz : op.length = 0
          · have hz' : ((op.length : Int) == 0) = true := by rw [hz]; rfl
            go_wp2_with fail
            go_ret
            refine ⟨.inr ⟨HNO.out (fun y => ?_), rfl⟩, H2.out.1⟩
            rcases (HFI.out.1 y).2 with ⟨h, _⟩ | ⟨h, _⟩ | ⟨_, h, _⟩ <;> omega
          · have hz' : ((op.length : Int) == 0) = false := by rw [beq_eq_false_iff_ne]; omega
            obtain ⟨k', rfl⟩ : ∃ k', k = k' + 1 := ⟨k - 1, by
              have h := hol
              omega⟩
            obtain ⟨u, hu⟩ : ∃ u, ts[k']? = some u := ⟨ts[k'], by simp [show k' < ts.length by omega]⟩
            obtain ⟨_, _, _, _, _, b', off', e, hb', c1, _⟩ := HT.out.2 k' u hu
            cases e
            have d1 := (H2.out.1.cell (p := ⟨b, _, none⟩) hb').trans c1
            have hla : kindOf ts (((k' + 1 : Nat) : Int) - 1) = u.kind := by rw [show (((k' + 1 : Nat) : Int) - 1) = (k' : Int) by omega]; simp [kindOf, hu]
            have hop1 : openAt ts (k' + 1 + 1) = op := by rw [HX.out.2.2]; simp [opens, k3]
            have HLA := hide (And.intro hla hop1)
            clear c1 hla hop1
            by_cases hu3 : u.kind = 3
            · have hu3' : ((u.kind : Int) == 3) = true := by rw [hu3]; rfl
              go_wp2_with fail
              go_ret
              refine ⟨.inr ⟨HNO.out (fun y => ?_), rfl⟩, H2.out.1⟩
              rcases (HFI.out.1 y).2 with ⟨h, _⟩ | ⟨h, _⟩ | ⟨_, _, h⟩
              · omega
              · omega
              · rw [HLA.out.1] at h
                exact h hu3
            · have hu3' : ((u.kind : Int) == 3) = false := by rw [beq_eq_false_iff_ne]; omega
              go_wp2_with fail
              go_roundw
              case rel => exact ⟨k' + 1 + 1, by omega, by simp, HR.out (HFI.out.2 ⟨ho, .inr (.inr ⟨k3, by omega, by rw [HLA.out.1]; exact hu3⟩)⟩), by rw [HLA.out.2]; exact H2.out.2, H2.out.1⟩
              case measure => simp [intOf]; omega
    · obtain rfl : k = ts.length := by omega
      by_cases hz : (openAt ts ts.length).length = 0
      · have hz' : (((openAt ts ts.length).length : Int) == 0) = true := by rw [hz]; rfl
        go_wp2_with fail
        go_ret
        exact ⟨.inl ⟨⟨by omega, fun k t hk => HE.out.1 k t (List.getElem?_eq_some_iff.1 hk).1 hk, hz⟩, rfl⟩, HE.out.2.2⟩
      · have hz' : (((openAt ts ts.length).length : Int) == 0) = false := by rw [beq_eq_false_iff_ne]; omega
        go_wp2_with fail
        go_ret
        exact ⟨.inr ⟨fun x => hz x.2.2, rfl⟩, HE.out.2.2⟩
end Go.Proofs.YtimhkgpjfppkmaaDoor
