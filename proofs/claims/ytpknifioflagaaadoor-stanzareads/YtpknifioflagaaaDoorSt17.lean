/- The document's tokens of a stanza. -/
import Derived.Test.YtpknifioflagaaaDoorSt16
import Derived.Test.YtpknifioflagaaaDoorRefElem
import Derived.Test.YtpknifioflagaaaDoorXQ
namespace Go.Proofs.YtpknifioflagaaaDoor
open Go.RowKit Go.Shelf

theorem own_none {w : World} {base e s n gc : Nat} {ga : Option Addr} {xs : List Value} (h : w.ownsRow base e s (.slice ga n gc) n xs) (hg : ga = none) : gc = 0 := by
  obtain ⟨_, ⟨e, _⟩ | ⟨g, cap, cur, e, _⟩⟩ := h
  · cases e
    rfl
  · cases e
    cases hg
theorem step_rkind {ops : Array Oper} {o : Oper} {a : Act} {w : World} {K : Act → World → Prop} {Q : Exit → Act → World → Prop} {E : Prop} (hw : Region.wanted o (yielded ops a.tmps) = true) (t : Nat) (ty : TypeId)
    (hop : o.op = Op.call { callee := Callee.value (.func 39), args := #[.tmp t], argTypes := #[ty] }) (v : Value) (hx : a.tmps[t]?.getD undef = v) {R : Ending → World → Prop} (hC : Calls Tryd.prog 39 #[v] w R) (hK : ∀ e w', R e w' → ∃ v, e = .returned v ∧ K (a.put o.dst v) w') :
    if Region.wanted o (yielded ops a.tmps) = true then Oper.wp Tryd.prog o a w K Q else E := by
  rw [if_pos hw]
  have _f := Tryd.func39
  unfold Oper.wp
  simp only [execOp, hop, resolve, invoke]
  go_simp
  refine hC.mono ?_
  intro e w' hR
  obtain ⟨u, rfl, hk⟩ := hK e w' hR
  exact hk
set_option maxRecDepth 100000 in
/-- A call of three arguments: a step of a region that draws. -/
theorem step_relem {ops : Array Oper} {o : Oper} {a : Act} {w : World} {K : Act → World → Prop} {Q : Exit → Act → World → Prop} {E : Prop} (hw : Region.wanted o (yielded ops a.tmps) = true) (t1 t2 t3 : Nat) (y1 y2 y3 : TypeId)
    (hop : o.op = Op.call { callee := Callee.value (.func 40), args := #[.tmp t1, .tmp t2, .tmp t3], argTypes := #[y1, y2, y3] }) (v1 v2 v3 : Value) (hx1 : a.tmps[t1]?.getD undef = v1) (hx2 : a.tmps[t2]?.getD undef = v2) (hx3 : a.tmps[t3]?.getD undef = v3) {R : Ending → World → Prop} (hC : Calls Tryd.prog 40 #[v1, v2, v3] w R) (hK : ∀ e w', R e w' → ∃ v, e = .returned v ∧ K (a.put o.dst v) w') :
    if Region.wanted o (yielded ops a.tmps) = true then Oper.wp Tryd.prog o a w K Q else E := by
  rw [if_pos hw]
  have _f := Tryd.func40
  unfold Oper.wp
  simp only [execOp, hop, resolve, invoke]
  go_simp
  refine hC.mono ?_
  intro e w' hR
  obtain ⟨u, rfl, hk⟩ := hK e w' hR
  exact hk
set_option maxRecDepth 100000 in
set_option maxHeartbeats 1000000 in
theorem rtokens_any (k : Int) (ty fr tt id : ByteArray) (pa : Option Addr) (pc : Nat) (ts : List Tok) (av : Nat → Option Addr × Nat) (w : World) (hT : TokMem w.heap.size w pa ts av) (hav : ∀ i t, ts[i]? = some t → (av i).1 = none → (av i).2 = 0) (hs : ts.length ≤ 1000) (hz : ty.size ≤ 9223372036854775807 ∧ fr.size ≤ 9223372036854775807 ∧ tt.size ≤ 9223372036854775807 ∧ id.size ≤ 9223372036854775807) :
    Calls Tryd.prog 32 #[.agg #[.int .u8 k, .string ty, .string fr, .string tt, .string id, .slice pa ts.length pc]] w fun e w' => ∃ v l, e = .returned v ∧ l.map (·.1) = elemT (kindB k) (keepA (attr4 ty fr tt id)) ts ∧ ElRow w.heap.size w' v l ∧ Below w.heap.size w w' := by
  obtain ⟨Wa, hWa, aa, ba, za⟩ := newV w 25 #[.int .u8 k, .string ty, .string fr, .string tt, .string id, .slice pa ts.length pc]
  obtain ⟨x0, x1, x2, x3, x4, x5⟩ := cells6 aa
  obtain ⟨Wb, hWb, ab, bb, zb⟩ := newV Wa 58 #[.string ⟨#[116, 121, 112, 101]⟩, .string ty, .string ⟨#[102, 114, 111, 109]⟩, .string fr, .string ⟨#[116, 111]⟩, .string tt, .string ⟨#[105, 100]⟩, .string id]
  rw [za] at ab
  have H0 := hide (And.intro ((bb.block w.heap.size (by omega)).trans aa) (And.intro ab (ba.trans (bb.mono (by omega)))))
  have HT := hide (And.intro hT hav)
  clear aa ba ab bb hT hav
  go_enter Tryd.func32, Tryd.ntmps32
  go_wp2_with fail
  go_loopw [4, 5] (fun v i wr => ∃ (j : Nat), j ≤ 4 ∧ i = .int .i64 j ∧ wr.ownsRow (w.heap.size + 1 + 1) 58 2 v (keepA ((attr4 ty fr tt id).take j)).length (attrCells (keepA ((attr4 ty fr tt id).take j))) ∧ wr.heap[w.heap.size]? = some (.cells #[.int .u8 k, .string ty, .string fr, .string tt, .string id, .slice pa ts.length pc] 25) ∧ wr.heap[w.heap.size + 1]? = some (.cells #[.string ⟨#[116, 121, 112, 101]⟩, .string ty, .string ⟨#[102, 114, 111, 109]⟩, .string fr, .string ⟨#[116, 111]⟩, .string tt, .string ⟨#[105, 100]⟩, .string id] 58) ∧ Below w.heap.size w wr) (fun _ i _ => 4 - (intOf i).toNat)
  case atStart => exact ⟨0, Nat.zero_le _, rfl, World.ownsRow_nil _ _ _ _, H0.out.1, H0.out.2.1, H0.out.2.2⟩
  case round =>
    obtain ⟨j, hj, rfl, hown, g0, g1, gb⟩ := hrel
    obtain ⟨y0, y1, y2, y3, y4, y5⟩ := cells6 g0
    obtain ⟨z0, z1, z2, z3, z4, z5, z6, z7⟩ := cells8 g1
    obtain ⟨ga, gc, rfl⟩ := own_shape hown
    have HI := hide (And.intro hown (And.intro g0 (And.intro g1 gb)))
    clear hown g0 g1 gb
    by_cases h4 : j = 4
    · subst h4
      have hall : (attr4 ty fr tt id).take 4 = attr4 ty fr tt id := rfl
      have hown := HI.out.1
      rw [hall] at hown
      have hkl := keep_len (attr4 ty fr tt id) 4
      rw [hall] at hkl ⊢
      obtain ⟨al, hal⟩ : ∃ al, keepA (attr4 ty fr tt id) = al := ⟨_, rfl⟩
      have hsz : ∀ a ∈ al, a.1.size ≤ 9223372036854775807 ∧ a.2.size ≤ 9223372036854775807 := by
        intro a ha
        rw [← hal] at ha
        have ha' := (List.mem_filter.1 ha).1
        simp only [attr4, List.mem_cons, List.mem_nil_iff, or_false] at ha'
        rcases ha' with rfl | rfl | rfl | rfl
        · exact ⟨by show (4 : Nat) ≤ 9223372036854775807; omega, hz.1⟩
        · exact ⟨by show (4 : Nat) ≤ 9223372036854775807; omega, hz.2.1⟩
        · exact ⟨by show (2 : Nat) ≤ 9223372036854775807; omega, hz.2.2.1⟩
        · exact ⟨by show (2 : Nat) ≤ 9223372036854775807; omega, hz.2.2.2⟩
      rw [hal] at hown hkl ⊢
      have HAL := hide hal
      have hnn := own_none hown
      obtain ⟨ao', cap', e, hc, hA⟩ := attrMem_own hown (by omega) hsz
      cases e
      have hzr := HI.out.2.2.2.size
      have hTr : TokMem wr.heap.size wr pa ts av := (HT.out.1.below HI.out.2.2.2).raise hzr
      have hkn : (kindB k).size ≤ 9223372036854775807 := by unfold kindB; split; decide; split; decide; split; decide; decide
      have hel := refElement_row (kindB k) ga gc al pa pc ts av wr.drew hkn hA hnn hTr HT.out.2 hs
      have HEL := hide hel
      have hkind := hide (rkind_any k wr.drew)
      clear hown hal hsz hA hTr hel hkn hc hnn
      go_wp2_with fail
      go_region_law
        (first | (refine step_rkind (by first | rfl | simp [Region.wanted, yielded]) 37 _ rfl (.int .u8 k) rfl hkind.out ?_; rintro e w1 ⟨he, hw⟩; refine ⟨_, he, ?_⟩; clear he; subst hw) | (refine step_relem (by first | rfl | simp [Region.wanted, yielded]) 38 39 41 _ _ _ rfl (.string (kindB k)) (.slice ga al.length gc) (.slice pa ts.length pc) rfl rfl rfl HEL.out ?_; rintro e w2 ⟨v2, l2, he, m1, m2, m3⟩; refine ⟨_, he, ?_⟩; clear he; have HR2 := hide (And.intro m1 (And.intro m2 m3)); clear m1 m2 m3))
      all_goals
        go_wp2_with fail
        go_ret
        exact ⟨v2, l2, rfl, by rw [HAL.out]; exact HR2.out.1, ElRow.lower HR2.out.2.1 (by show w.heap.size ≤ wr.heap.size; omega), HI.out.2.2.2.drew.trans (HR2.out.2.2.mono (by show w.heap.size ≤ wr.heap.size; omega))⟩
    · rcases (show j = 0 ∨ j = 1 ∨ j = 2 ∨ j = 3 by omega) with rfl | rfl | rfl | rfl
      · have hbx : w.heap.size + 1 + 1 ≤ wr.heap.size := by have := (Array.getElem?_eq_some_iff.1 HI.out.2.2.1).1; have := HI.out.2.2.2.size; omega
        by_cases he : ty = ty_none
        · have hie := ty_emp he
          have hk := keep_no (all := attr4 ty fr tt id) (k := 0) (a := (⟨#[116, 121, 112, 101]⟩, ty)) rfl he
          have HKp := hide hk
          clear hk he
          go_wp2_with fail
          exact ⟨⟨1, by omega, by simp, by rw [HKp.out]; exact HI.out.1, HI.out.2.1, HI.out.2.2.1, HI.out.2.2.2⟩, by simp [intOf]⟩
        · have hie := ty_ne he
          have hk := keep_yes (all := attr4 ty fr tt id) (k := 0) (a := (⟨#[116, 121, 112, 101]⟩, ty)) rfl he
          have hkl := keep_len (attr4 ty fr tt id) 0
          have HKp := hide hk
          clear hk he
          go_wp2_with (at_builtin; refine stopHere ?_)
          unfold Hid
          refine append_attr _ rfl _ _ rfl (w.heap.size + 1 + 1) _ (keepA ((attr4 ty fr tt id).take 0)) rfl (own_same HI.out.1 (fun g hg => Below.heap_alloc _ _ _ (own_lt HI.out.1 g hg))) (⟨#[116, 121, 112, 101]⟩, ty) wr.heap.size rfl (World.alloc_heap_new _ _) (by omega) (by simp; omega) ?_
          intro v' w' ho hgr
          have hbl : ∀ g, g < w.heap.size + 1 + 1 → w'.heap[g]? = wr.heap[g]? := fun g hg => (hgr.block g (by simp; omega) (fun e => by have := own_base HI.out.1 g e.symm; omega)).trans (Below.heap_alloc _ _ _ (by omega))
          have hb' : Below w.heap.size w w' := (HI.out.2.2.2.alloc (by omega) _).grown hgr (by simp; omega) (fun g hg => by have := own_base HI.out.1 g hg; omega)
          have HN := hide (And.intro ho (And.intro hbl hb'))
          clear ho hgr hbl hb'
          go_wp2_with fail
          exact ⟨⟨1, by omega, by simp, by rw [HKp.out]; exact HN.out.1, (HN.out.2.1 _ (by omega)).trans HI.out.2.1, (HN.out.2.1 _ (by omega)).trans HI.out.2.2.1, HN.out.2.2⟩, by simp [intOf]⟩
      · have hbx : w.heap.size + 1 + 1 ≤ wr.heap.size := by have := (Array.getElem?_eq_some_iff.1 HI.out.2.2.1).1; have := HI.out.2.2.2.size; omega
        by_cases he : fr = ty_none
        · have hie := ty_emp he
          have hk := keep_no (all := attr4 ty fr tt id) (k := 1) (a := (⟨#[102, 114, 111, 109]⟩, fr)) rfl he
          have HKp := hide hk
          clear hk he
          go_wp2_with fail
          exact ⟨⟨2, by omega, by simp, by rw [HKp.out]; exact HI.out.1, HI.out.2.1, HI.out.2.2.1, HI.out.2.2.2⟩, by simp [intOf]⟩
        · have hie := ty_ne he
          have hk := keep_yes (all := attr4 ty fr tt id) (k := 1) (a := (⟨#[102, 114, 111, 109]⟩, fr)) rfl he
          have hkl := keep_len (attr4 ty fr tt id) 1
          have HKp := hide hk
          clear hk he
          go_wp2_with (at_builtin; refine stopHere ?_)
          unfold Hid
          refine append_attr _ rfl _ _ rfl (w.heap.size + 1 + 1) _ (keepA ((attr4 ty fr tt id).take 1)) rfl (own_same HI.out.1 (fun g hg => Below.heap_alloc _ _ _ (own_lt HI.out.1 g hg))) (⟨#[102, 114, 111, 109]⟩, fr) wr.heap.size rfl (World.alloc_heap_new _ _) (by omega) (by simp; omega) ?_
          intro v' w' ho hgr
          have hbl : ∀ g, g < w.heap.size + 1 + 1 → w'.heap[g]? = wr.heap[g]? := fun g hg => (hgr.block g (by simp; omega) (fun e => by have := own_base HI.out.1 g e.symm; omega)).trans (Below.heap_alloc _ _ _ (by omega))
          have hb' : Below w.heap.size w w' := (HI.out.2.2.2.alloc (by omega) _).grown hgr (by simp; omega) (fun g hg => by have := own_base HI.out.1 g hg; omega)
          have HN := hide (And.intro ho (And.intro hbl hb'))
          clear ho hgr hbl hb'
          go_wp2_with fail
          exact ⟨⟨2, by omega, by simp, by rw [HKp.out]; exact HN.out.1, (HN.out.2.1 _ (by omega)).trans HI.out.2.1, (HN.out.2.1 _ (by omega)).trans HI.out.2.2.1, HN.out.2.2⟩, by simp [intOf]⟩
      · have hbx : w.heap.size + 1 + 1 ≤ wr.heap.size := by have := (Array.getElem?_eq_some_iff.1 HI.out.2.2.1).1; have := HI.out.2.2.2.size; omega
        by_cases he : tt = ty_none
        · have hie := ty_emp he
          have hk := keep_no (all := attr4 ty fr tt id) (k := 2) (a := (⟨#[116, 111]⟩, tt)) rfl he
          have HKp := hide hk
          clear hk he
          go_wp2_with fail
          exact ⟨⟨3, by omega, by simp, by rw [HKp.out]; exact HI.out.1, HI.out.2.1, HI.out.2.2.1, HI.out.2.2.2⟩, by simp [intOf]⟩
        · have hie := ty_ne he
          have hk := keep_yes (all := attr4 ty fr tt id) (k := 2) (a := (⟨#[116, 111]⟩, tt)) rfl he
          have hkl := keep_len (attr4 ty fr tt id) 2
          have HKp := hide hk
          clear hk he
          go_wp2_with (at_builtin; refine stopHere ?_)
          unfold Hid
          refine append_attr _ rfl _ _ rfl (w.heap.size + 1 + 1) _ (keepA ((attr4 ty fr tt id).take 2)) rfl (own_same HI.out.1 (fun g hg => Below.heap_alloc _ _ _ (own_lt HI.out.1 g hg))) (⟨#[116, 111]⟩, tt) wr.heap.size rfl (World.alloc_heap_new _ _) (by omega) (by simp; omega) ?_
          intro v' w' ho hgr
          have hbl : ∀ g, g < w.heap.size + 1 + 1 → w'.heap[g]? = wr.heap[g]? := fun g hg => (hgr.block g (by simp; omega) (fun e => by have := own_base HI.out.1 g e.symm; omega)).trans (Below.heap_alloc _ _ _ (by omega))
          have hb' : Below w.heap.size w w' := (HI.out.2.2.2.alloc (by omega) _).grown hgr (by simp; omega) (fun g hg => by have := own_base HI.out.1 g hg; omega)
          have HN := hide (And.intro ho (And.intro hbl hb'))
          clear ho hgr hbl hb'
          go_wp2_with fail
          exact ⟨⟨3, by omega, by simp, by rw [HKp.out]; exact HN.out.1, (HN.out.2.1 _ (by omega)).trans HI.out.2.1, (HN.out.2.1 _ (by omega)).trans HI.out.2.2.1, HN.out.2.2⟩, by simp [intOf]⟩
      · have hbx : w.heap.size + 1 + 1 ≤ wr.heap.size := by have := (Array.getElem?_eq_some_iff.1 HI.out.2.2.1).1; have := HI.out.2.2.2.size; omega
        by_cases he : id = ty_none
        · have hie := ty_emp he
          have hk := keep_no (all := attr4 ty fr tt id) (k := 3) (a := (⟨#[105, 100]⟩, id)) rfl he
          have HKp := hide hk
          clear hk he
          go_wp2_with fail
          exact ⟨⟨4, by omega, by simp, by rw [HKp.out]; exact HI.out.1, HI.out.2.1, HI.out.2.2.1, HI.out.2.2.2⟩, by simp [intOf]⟩
        · have hie := ty_ne he
          have hk := keep_yes (all := attr4 ty fr tt id) (k := 3) (a := (⟨#[105, 100]⟩, id)) rfl he
          have hkl := keep_len (attr4 ty fr tt id) 3
          have HKp := hide hk
          clear hk he
          go_wp2_with (at_builtin; refine stopHere ?_)
          unfold Hid
          refine append_attr _ rfl _ _ rfl (w.heap.size + 1 + 1) _ (keepA ((attr4 ty fr tt id).take 3)) rfl (own_same HI.out.1 (fun g hg => Below.heap_alloc _ _ _ (own_lt HI.out.1 g hg))) (⟨#[105, 100]⟩, id) wr.heap.size rfl (World.alloc_heap_new _ _) (by omega) (by simp; omega) ?_
          intro v' w' ho hgr
          have hbl : ∀ g, g < w.heap.size + 1 + 1 → w'.heap[g]? = wr.heap[g]? := fun g hg => (hgr.block g (by simp; omega) (fun e => by have := own_base HI.out.1 g e.symm; omega)).trans (Below.heap_alloc _ _ _ (by omega))
          have hb' : Below w.heap.size w w' := (HI.out.2.2.2.alloc (by omega) _).grown hgr (by simp; omega) (fun g hg => by have := own_base HI.out.1 g hg; omega)
          have HN := hide (And.intro ho (And.intro hbl hb'))
          clear ho hgr hbl hb'
          go_wp2_with fail
          exact ⟨⟨4, by omega, by simp, by rw [HKp.out]; exact HN.out.1, (HN.out.2.1 _ (by omega)).trans HI.out.2.1, (HN.out.2.1 _ (by omega)).trans HI.out.2.2.1, HN.out.2.2⟩, by simp [intOf]⟩
end Go.Proofs.YtpknifioflagaaaDoor
