/- Stanzas: their tokens. -/
import Derived.Test.YthmidlmknkbdaaaDoorXC
import Derived.Test.YthmidlmknkbdaaaDoorElem
import Derived.Deep.RegionLawGrows
namespace Go.Proofs.YthmidlmknkbdaaaDoor
open Go.RowKit

/-- A stanza's attributes, and those of them that are told. -/
def attr4 (ty fr tt id : ByteArray) : List (ByteArray × ByteArray) := [(⟨#[116, 121, 112, 101]⟩, ty), (⟨#[102, 114, 111, 109]⟩, fr), (⟨#[116, 111]⟩, tt), (⟨#[105, 100]⟩, id)]
def keepA (l : List (ByteArray × ByteArray)) : List (ByteArray × ByteArray) := l.filter fun a => !decide (a.2 = ty_none)
theorem keep_no {all : List (ByteArray × ByteArray)} {k : Nat} {a : ByteArray × ByteArray} (h : all[k]? = some a) (he : a.2 = ty_none) : keepA (all.take (k + 1)) = keepA (all.take k) := by
  unfold keepA
  rw [List.take_add_one, h, List.filter_append]
  simp [he]
theorem keep_yes {all : List (ByteArray × ByteArray)} {k : Nat} {a : ByteArray × ByteArray} (h : all[k]? = some a) (he : a.2 ≠ ty_none) : keepA (all.take (k + 1)) = keepA (all.take k) ++ [a] := by
  unfold keepA
  rw [List.take_add_one, h, List.filter_append]
  simp [he]
theorem keep_len (all : List (ByteArray × ByteArray)) (k : Nat) : (keepA (all.take k)).length ≤ k := by
  unfold keepA
  refine Nat.le_trans (List.length_filter_le _ _) ?_
  rw [List.length_take]
  omega
theorem TokMem.raise {a b : Nat} {w : World} {ao : Option Addr} {ts : List Tok} {av : Nat → Option Addr × Nat} (h : TokMem a w ao ts av) (hb : a ≤ b) : TokMem b w ao ts av := by
  refine ⟨h.1, fun k t hk => ?_⟩
  obtain ⟨s1, s2, s3, ⟨m1, m2, m3⟩, s5, bb, off, e1, e2, e3⟩ := h.2 k t hk
  refine ⟨s1, s2, s3, ⟨m1, m2, fun j x hj => ?_⟩, s5, bb, off, e1, by omega, e3⟩
  obtain ⟨b', o', f1, f2, f3⟩ := m3 j x hj
  exact ⟨b', o', f1, by omega, f3⟩
theorem own_mono {W : World} {b b' e s n : Nat} {v : Value} {xs : List Value} (h : W.ownsRow b e s v n xs) (hb : b' ≤ b) : W.ownsRow b' e s v n xs := by
  obtain ⟨h1, h2 | ⟨g, cap, cur, x0, x1, x2⟩⟩ := h
  · exact ⟨h1, .inl h2⟩
  · exact ⟨h1, .inr ⟨g, cap, cur, x0, Nat.le_trans hb x1, x2⟩⟩
theorem ElRow.lower {b b' : Nat} {W : World} {v : Value} {l : List TokV} (h : ElRow b W v l) (hb : b' ≤ b) : ElRow b' W v l := ⟨own_mono h.1 hb, fun x hx => ⟨own_mono (h.2 x hx).1 hb, (h.2 x hx).2⟩⟩
/-- One attribute more in a row of the call's own. -/
theorem append_attr (w : World) {ops : Array Oper} {rest : List Oper} {o : Oper} {a : Act} {Q : Exit → Act → World → Prop} (hg : o.guard = none) (s x : Operand)
    (hop : o.op = Op.call { callee := Callee.builtin Builtin.append, args := #[s, x], argTypes := #[53, 53] }) (base : Nat) (v : Value) (al : List (ByteArray × ByteArray)) (hs : a.eval s = v) (hE : w.ownsRow base 65 2 v al.length (attrCells al)) (y : ByteArray × ByteArray) (bx : Nat)
    (hx : a.eval x = .slice (some ⟨bx, 0, none⟩) 1 1) (hc : w.heap[bx]? = some (.cells #[.string y.1, .string y.2] 65)) (hl : al.length ≤ 200000) (hb : base ≤ w.heap.size)
    (hK : ∀ v' w', w'.ownsRow base 65 2 v' (al ++ [y]).length (attrCells (al ++ [y])) → w.grownBy w' v.ownBlock → wpList Tryd.prog ops Q rest (a.put o.dst v') w') : wpList Tryd.prog ops Q (o :: rest) a w := by
  obtain ⟨i, hi, hz0, hz1, hz2⟩ := info_parts infoAttr
  obtain ⟨v', w', hrun, r1, r2, _⟩ := run_append_own (P := Tryd.prog) w base 53 o.type 65 i _ 2 32 Tryd.underlying53 hi hz0 hz1 hz2 rfl (by decide) v al.length (attrCells al) hE ⟨bx, 0, none⟩ 1 1 [.string y.1, .string y.2] rfl (fun j u hj => by
    match j, hj with
    | 0, hj => simp at hj; subst hj; simp [Addr.add, World.cell?, hc]
    | 1, hj => simp at hj; subst hj; simp [Addr.add, World.cell?, hc]) (fun u hu => by simp at hu; rcases hu with rfl | rfl <;> rfl) (by unfold maxLen; omega) (by omega) hb
  refine wpList_plain hg fun K hK' => ?_
  unfold Oper.wp
  simp [execOp, hop, resolve, invoke, builtin, hs, hx, hrun, Result.andThen]
  have h2 : attrCells (al ++ [y]) = attrCells al ++ [.string y.1, .string y.2] := by simp [attrCells]
  exact hK' _ _ (hK v' w' (by rw [h2, List.length_append]; exact r1) r2)
theorem cells8 {w : World} {b : Nat} {v0 v1 v2 v3 v4 v5 v6 v7 : Value} {ty : TypeId} (h : w.heap[b]? = some (.cells #[v0, v1, v2, v3, v4, v5, v6, v7] ty)) : w.cell? ⟨b, 0, none⟩ = some v0 ∧ w.cell? ⟨b, 1, none⟩ = some v1 ∧ w.cell? ⟨b, 2, none⟩ = some v2 ∧ w.cell? ⟨b, 3, none⟩ = some v3 ∧ w.cell? ⟨b, 4, none⟩ = some v4 ∧ w.cell? ⟨b, 5, none⟩ = some v5 ∧ w.cell? ⟨b, 6, none⟩ = some v6 ∧ w.cell? ⟨b, 7, none⟩ = some v7 := by
  refine ⟨?_, ?_, ?_, ?_, ?_, ?_, ?_, ?_⟩ <;> simp [World.cell?, h]

set_option maxRecDepth 100000 in
/-- A call: a step of a region that draws. -/
theorem step_kind {ops : Array Oper} {o : Oper} {a : Act} {w : World} {K : Act → World → Prop} {Q : Exit → Act → World → Prop} {E : Prop} (hw : Region.wanted o (yielded ops a.tmps) = true) (t : Nat) (ty : TypeId)
    (hop : o.op = Op.call { callee := Callee.value (.func 49), args := #[.tmp t], argTypes := #[ty] }) (v : Value) (hx : a.tmps[t]?.getD undef = v) {R : Ending → World → Prop} (hC : Calls Tryd.prog 49 #[v] w R) (hK : ∀ e w', R e w' → ∃ v, e = .returned v ∧ K (a.put o.dst v) w') :
    if Region.wanted o (yielded ops a.tmps) = true then Oper.wp Tryd.prog o a w K Q else E := by
  rw [if_pos hw]
  have _f := Tryd.func49
  unfold Oper.wp
  simp only [execOp, hop, resolve, invoke]
  go_simp
  refine hC.mono ?_
  intro e w' hR
  obtain ⟨u, rfl, hk⟩ := hK e w' hR
  exact hk
set_option maxRecDepth 100000 in
/-- A call of three arguments: a step of a region that draws. -/
theorem step_elem {ops : Array Oper} {o : Oper} {a : Act} {w : World} {K : Act → World → Prop} {Q : Exit → Act → World → Prop} {E : Prop} (hw : Region.wanted o (yielded ops a.tmps) = true) (t1 t2 t3 : Nat) (y1 y2 y3 : TypeId)
    (hop : o.op = Op.call { callee := Callee.value (.func 25), args := #[.tmp t1, .tmp t2, .tmp t3], argTypes := #[y1, y2, y3] }) (v1 v2 v3 : Value) (hx1 : a.tmps[t1]?.getD undef = v1) (hx2 : a.tmps[t2]?.getD undef = v2) (hx3 : a.tmps[t3]?.getD undef = v3) {R : Ending → World → Prop} (hC : Calls Tryd.prog 25 #[v1, v2, v3] w R) (hK : ∀ e w', R e w' → ∃ v, e = .returned v ∧ K (a.put o.dst v) w') :
    if Region.wanted o (yielded ops a.tmps) = true then Oper.wp Tryd.prog o a w K Q else E := by
  rw [if_pos hw]
  have _f := Tryd.func25
  unfold Oper.wp
  simp only [execOp, hop, resolve, invoke]
  go_simp
  refine hC.mono ?_
  intro e w' hR
  obtain ⟨u, rfl, hk⟩ := hK e w' hR
  exact hk

set_option maxRecDepth 100000 in
set_option maxHeartbeats 1000000 in
theorem tokens_any (k : Int) (ty fr tt id : ByteArray) (pa : Option Addr) (pc : Nat) (ts : List Tok) (av : Nat → Option Addr × Nat) (w : World) (hT : TokMem w.heap.size w pa ts av) (hs : ts.length ≤ 1000) (hz : ty.size ≤ 9223372036854775807 ∧ fr.size ≤ 9223372036854775807 ∧ tt.size ≤ 9223372036854775807 ∧ id.size ≤ 9223372036854775807) :
    Calls Tryd.prog 32 #[.agg #[.int .u8 k, .string ty, .string fr, .string tt, .string id, .slice pa ts.length pc]] w fun e w' => ∃ v l, e = .returned v ∧ l.map (·.1) = elemT (kindB k) (keepA (attr4 ty fr tt id)) ts ∧ ElRow w.heap.size w' v l ∧ Below w.heap.size w w' := by
  obtain ⟨Wa, hWa, aa, ba, za⟩ := newV w 38 #[.int .u8 k, .string ty, .string fr, .string tt, .string id, .slice pa ts.length pc]
  obtain ⟨x0, x1, x2, x3, x4, x5⟩ := cells6 aa
  obtain ⟨Wb, hWb, ab, bb, zb⟩ := newV Wa 65 #[.string ⟨#[116, 121, 112, 101]⟩, .string ty, .string ⟨#[102, 114, 111, 109]⟩, .string fr, .string ⟨#[116, 111]⟩, .string tt, .string ⟨#[105, 100]⟩, .string id]
  rw [za] at ab
  have H0 := hide (And.intro ((bb.block w.heap.size (by omega)).trans aa) (And.intro ab (ba.trans (bb.mono (by omega)))))
  have HT := hide hT
  clear aa ba ab bb hT
  go_enter Tryd.func32, Tryd.ntmps32
  go_wp2_with fail
  go_loopw [3, 20] (fun v i wr => ∃ (j : Nat), j ≤ 4 ∧ i = .int .i64 j ∧ wr.ownsRow (w.heap.size + 1 + 1) 65 2 v (keepA ((attr4 ty fr tt id).take j)).length (attrCells (keepA ((attr4 ty fr tt id).take j))) ∧ wr.heap[w.heap.size]? = some (.cells #[.int .u8 k, .string ty, .string fr, .string tt, .string id, .slice pa ts.length pc] 38) ∧ wr.heap[w.heap.size + 1]? = some (.cells #[.string ⟨#[116, 121, 112, 101]⟩, .string ty, .string ⟨#[102, 114, 111, 109]⟩, .string fr, .string ⟨#[116, 111]⟩, .string tt, .string ⟨#[105, 100]⟩, .string id] 65) ∧ Below w.heap.size w wr) (fun _ i _ => 4 - (intOf i).toNat)
  case atStart => exact ⟨0, Nat.zero_le _, rfl, World.ownsRow_nil _ _ _ _, H0.out.1, H0.out.2.1, H0.out.2.2⟩
  case round =>
    obtain ⟨j, hj, rfl, hown, g0, g1, gb⟩ := hrel
    obtain ⟨y0, y1, y2, y3, y4, y5⟩ := cells6 g0
    obtain ⟨z0, z1, z2, z3, z4, z5, z6, z7⟩ := cells8 g1
    obtain ⟨ga, gc, rfl⟩ := own_shape hown
    have HI := hide (And.intro hown (And.intro g0 (And.intro g1 gb)))
    clear hown g0 g1 gb
    by_cases h4 : j = 4
    · subst h4
      have hall : (attr4 ty fr tt id).take 4 = attr4 ty fr tt id := rfl
      have hown := HI.out.1
      rw [hall] at hown
      have hkl := keep_len (attr4 ty fr tt id) 4
      rw [hall] at hkl ⊢
      obtain ⟨al, hal⟩ : ∃ al, keepA (attr4 ty fr tt id) = al := ⟨_, rfl⟩
      have hsz : ∀ a ∈ al, a.1.size ≤ 9223372036854775807 ∧ a.2.size ≤ 9223372036854775807 := by
        intro a ha
        rw [← hal] at ha
        have ha' := (List.mem_filter.1 ha).1
        simp only [attr4, List.mem_cons, List.mem_nil_iff, or_false] at ha'
        rcases ha' with rfl | rfl | rfl | rfl
        · exact ⟨by show (4 : Nat) ≤ 9223372036854775807; omega, hz.1⟩
        · exact ⟨by show (4 : Nat) ≤ 9223372036854775807; omega, hz.2.1⟩
        · exact ⟨by show (2 : Nat) ≤ 9223372036854775807; omega, hz.2.2.1⟩
        · exact ⟨by show (2 : Nat) ≤ 9223372036854775807; omega, hz.2.2.2⟩
      rw [hal] at hown hkl ⊢
      have HAL := hide hal
      obtain ⟨ao', cap', e, hc, hA⟩ := attrMem_own hown (by omega) hsz
      cases e
      have hzr := HI.out.2.2.2.size
      have hTr : TokMem wr.heap.size wr pa ts av := (HT.out.below HI.out.2.2.2).raise hzr
      have hkn : (kindB k).size ≤ 9223372036854775807 := by unfold kindB; split; decide; split; decide; split; decide; decide
      have hel := element_row (kindB k) ga gc al pa pc ts av wr.drew hkn hA hTr hs
      have HEL := hide hel
      have hkind := hide (kindName_any k wr.drew)
      clear hown hal hsz hA hTr hel hkn hc
      go_wp2_with fail
      go_region_law
        (first | (refine step_kind (by first | rfl | simp [Region.wanted, yielded]) 33 _ rfl (.int .u8 k) rfl hkind.out ?_; rintro e w1 ⟨he, hw⟩; refine ⟨_, he, ?_⟩; clear he; subst hw) | (refine step_elem (by first | rfl | simp [Region.wanted, yielded]) 34 35 37 _ _ _ rfl (.string (kindB k)) (.slice ga al.length gc) (.slice pa ts.length pc) rfl rfl rfl HEL.out ?_; rintro e w2 ⟨v2, l2, he, m1, m2, m3⟩; refine ⟨_, he, ?_⟩; clear he; have HR2 := hide (And.intro m1 (And.intro m2 m3)); clear m1 m2 m3))
      all_goals
        go_wp2_with fail
        go_ret
        exact ⟨v2, l2, rfl, by rw [HAL.out]; exact HR2.out.1, ElRow.lower HR2.out.2.1 (by show w.heap.size ≤ wr.heap.size; omega), HI.out.2.2.2.drew.trans (HR2.out.2.2.mono (by show w.heap.size ≤ wr.heap.size; omega))⟩
    · rcases (show j = 0 ∨ j = 1 ∨ j = 2 ∨ j = 3 by omega) with rfl | rfl | rfl | rfl
      · have hbx : w.heap.size + 1 + 1 ≤ wr.heap.size := by have := (Array.getElem?_eq_some_iff.1 HI.out.2.2.1).1; have := HI.out.2.2.2.size; omega
        by_cases he : ty = ty_none
        · have hie := ty_emp he
          have hk := keep_no (all := attr4 ty fr tt id) (k := 0) (a := (⟨#[116, 121, 112, 101]⟩, ty)) rfl he
          have HKp := hide hk
          clear hk he
          go_wp2_with fail
          refine ⟨⟨1, by omega, by simp, ?_, ?_, ?_, ?_⟩, by simp [intOf]⟩
          · rw [HKp.out]
            exact own_same HI.out.1 (fun g hg => Below.heap_alloc _ _ _ (own_lt HI.out.1 g hg))
          · exact (Below.heap_alloc _ _ _ (by omega)).trans HI.out.2.1
          · exact (Below.heap_alloc _ _ _ (by omega)).trans HI.out.2.2.1
          · exact HI.out.2.2.2.alloc (by omega) _
        · have hie := ty_ne he
          have hk := keep_yes (all := attr4 ty fr tt id) (k := 0) (a := (⟨#[116, 121, 112, 101]⟩, ty)) rfl he
          have hkl := keep_len (attr4 ty fr tt id) 0
          have HKp := hide hk
          clear hk he
          go_wp2_with (at_builtin; refine stopHere ?_)
          unfold Hid
          refine append_attr _ rfl _ _ rfl (w.heap.size + 1 + 1) _ (keepA ((attr4 ty fr tt id).take 0)) rfl (own_same HI.out.1 (fun g hg => (Below.heap_alloc _ _ _ (by have := own_lt HI.out.1 g hg; simp; omega)).trans (Below.heap_alloc _ _ _ (own_lt HI.out.1 g hg)))) (⟨#[116, 121, 112, 101]⟩, ty) (wr.heap.size + 1) rfl (Jd.new2 wr _ _) (by omega) (by simp; omega) ?_
          intro v' w' ho hgr
          have hbl : ∀ g, g < w.heap.size + 1 + 1 → w'.heap[g]? = wr.heap[g]? := fun g hg => (hgr.block g (by simp; omega) (fun e => by have := own_base HI.out.1 g e.symm; omega)).trans ((Below.heap_alloc _ _ _ (by simp; omega)).trans (Below.heap_alloc _ _ _ (by omega)))
          have hb' : Below w.heap.size w w' := ((HI.out.2.2.2.alloc (by omega) _).alloc (by simp; omega) _).grown hgr (by simp; omega) (fun g hg => by have := own_base HI.out.1 g hg; omega)
          have HN := hide (And.intro ho (And.intro hbl hb'))
          clear ho hgr hbl hb'
          go_wp2_with fail
          exact ⟨⟨1, by omega, by simp, by rw [HKp.out]; exact HN.out.1, (HN.out.2.1 _ (by omega)).trans HI.out.2.1, (HN.out.2.1 _ (by omega)).trans HI.out.2.2.1, HN.out.2.2⟩, by simp [intOf]⟩
      · have hbx : w.heap.size + 1 + 1 ≤ wr.heap.size := by have := (Array.getElem?_eq_some_iff.1 HI.out.2.2.1).1; have := HI.out.2.2.2.size; omega
        by_cases he : fr = ty_none
        · have hie := ty_emp he
          have hk := keep_no (all := attr4 ty fr tt id) (k := 1) (a := (⟨#[102, 114, 111, 109]⟩, fr)) rfl he
          have HKp := hide hk
          clear hk he
          go_wp2_with fail
          refine ⟨⟨2, by omega, by simp, ?_, ?_, ?_, ?_⟩, by simp [intOf]⟩
          · rw [HKp.out]
            exact own_same HI.out.1 (fun g hg => Below.heap_alloc _ _ _ (own_lt HI.out.1 g hg))
          · exact (Below.heap_alloc _ _ _ (by omega)).trans HI.out.2.1
          · exact (Below.heap_alloc _ _ _ (by omega)).trans HI.out.2.2.1
          · exact HI.out.2.2.2.alloc (by omega) _
        · have hie := ty_ne he
          have hk := keep_yes (all := attr4 ty fr tt id) (k := 1) (a := (⟨#[102, 114, 111, 109]⟩, fr)) rfl he
          have hkl := keep_len (attr4 ty fr tt id) 1
          have HKp := hide hk
          clear hk he
          go_wp2_with (at_builtin; refine stopHere ?_)
          unfold Hid
          refine append_attr _ rfl _ _ rfl (w.heap.size + 1 + 1) _ (keepA ((attr4 ty fr tt id).take 1)) rfl (own_same HI.out.1 (fun g hg => (Below.heap_alloc _ _ _ (by have := own_lt HI.out.1 g hg; simp; omega)).trans (Below.heap_alloc _ _ _ (own_lt HI.out.1 g hg)))) (⟨#[102, 114, 111, 109]⟩, fr) (wr.heap.size + 1) rfl (Jd.new2 wr _ _) (by omega) (by simp; omega) ?_
          intro v' w' ho hgr
          have hbl : ∀ g, g < w.heap.size + 1 + 1 → w'.heap[g]? = wr.heap[g]? := fun g hg => (hgr.block g (by simp; omega) (fun e => by have := own_base HI.out.1 g e.symm; omega)).trans ((Below.heap_alloc _ _ _ (by simp; omega)).trans (Below.heap_alloc _ _ _ (by omega)))
          have hb' : Below w.heap.size w w' := ((HI.out.2.2.2.alloc (by omega) _).alloc (by simp; omega) _).grown hgr (by simp; omega) (fun g hg => by have := own_base HI.out.1 g hg; omega)
          have HN := hide (And.intro ho (And.intro hbl hb'))
          clear ho hgr hbl hb'
          go_wp2_with fail
          exact ⟨⟨2, by omega, by simp, by rw [HKp.out]; exact HN.out.1, (HN.out.2.1 _ (by omega)).trans HI.out.2.1, (HN.out.2.1 _ (by omega)).trans HI.out.2.2.1, HN.out.2.2⟩, by simp [intOf]⟩
      · have hbx : w.heap.size + 1 + 1 ≤ wr.heap.size := by have := (Array.getElem?_eq_some_iff.1 HI.out.2.2.1).1; have := HI.out.2.2.2.size; omega
        by_cases he : tt = ty_none
        · have hie := ty_emp he
          have hk := keep_no (all := attr4 ty fr tt id) (k := 2) (a := (⟨#[116, 111]⟩, tt)) rfl he
          have HKp := hide hk
          clear hk he
          go_wp2_with fail
          refine ⟨⟨3, by omega, by simp, ?_, ?_, ?_, ?_⟩, by simp [intOf]⟩
          · rw [HKp.out]
            exact own_same HI.out.1 (fun g hg => Below.heap_alloc _ _ _ (own_lt HI.out.1 g hg))
          · exact (Below.heap_alloc _ _ _ (by omega)).trans HI.out.2.1
          · exact (Below.heap_alloc _ _ _ (by omega)).trans HI.out.2.2.1
          · exact HI.out.2.2.2.alloc (by omega) _
        · have hie := ty_ne he
          have hk := keep_yes (all := attr4 ty fr tt id) (k := 2) (a := (⟨#[116, 111]⟩, tt)) rfl he
          have hkl := keep_len (attr4 ty fr tt id) 2
          have HKp := hide hk
          clear hk he
          go_wp2_with (at_builtin; refine stopHere ?_)
          unfold Hid
          refine append_attr _ rfl _ _ rfl (w.heap.size + 1 + 1) _ (keepA ((attr4 ty fr tt id).take 2)) rfl (own_same HI.out.1 (fun g hg => (Below.heap_alloc _ _ _ (by have := own_lt HI.out.1 g hg; simp; omega)).trans (Below.heap_alloc _ _ _ (own_lt HI.out.1 g hg)))) (⟨#[116, 111]⟩, tt) (wr.heap.size + 1) rfl (Jd.new2 wr _ _) (by omega) (by simp; omega) ?_
          intro v' w' ho hgr
          have hbl : ∀ g, g < w.heap.size + 1 + 1 → w'.heap[g]? = wr.heap[g]? := fun g hg => (hgr.block g (by simp; omega) (fun e => by have := own_base HI.out.1 g e.symm; omega)).trans ((Below.heap_alloc _ _ _ (by simp; omega)).trans (Below.heap_alloc _ _ _ (by omega)))
          have hb' : Below w.heap.size w w' := ((HI.out.2.2.2.alloc (by omega) _).alloc (by simp; omega) _).grown hgr (by simp; omega) (fun g hg => by have := own_base HI.out.1 g hg; omega)
          have HN := hide (And.intro ho (And.intro hbl hb'))
          clear ho hgr hbl hb'
          go_wp2_with fail
          exact ⟨⟨3, by omega, by simp, by rw [HKp.out]; exact HN.out.1, (HN.out.2.1 _ (by omega)).trans HI.out.2.1, (HN.out.2.1 _ (by omega)).trans HI.out.2.2.1, HN.out.2.2⟩, by simp [intOf]⟩
      · have hbx : w.heap.size + 1 + 1 ≤ wr.heap.size := by have := (Array.getElem?_eq_some_iff.1 HI.out.2.2.1).1; have := HI.out.2.2.2.size; omega
        by_cases he : id = ty_none
        · have hie := ty_emp he
          have hk := keep_no (all := attr4 ty fr tt id) (k := 3) (a := (⟨#[105, 100]⟩, id)) rfl he
          have HKp := hide hk
          clear hk he
          go_wp2_with fail
          refine ⟨⟨4, by omega, by simp, ?_, ?_, ?_, ?_⟩, by simp [intOf]⟩
          · rw [HKp.out]
            exact own_same HI.out.1 (fun g hg => Below.heap_alloc _ _ _ (own_lt HI.out.1 g hg))
          · exact (Below.heap_alloc _ _ _ (by omega)).trans HI.out.2.1
          · exact (Below.heap_alloc _ _ _ (by omega)).trans HI.out.2.2.1
          · exact HI.out.2.2.2.alloc (by omega) _
        · have hie := ty_ne he
          have hk := keep_yes (all := attr4 ty fr tt id) (k := 3) (a := (⟨#[105, 100]⟩, id)) rfl he
          have hkl := keep_len (attr4 ty fr tt id) 3
          have HKp := hide hk
          clear hk he
          go_wp2_with (at_builtin; refine stopHere ?_)
          unfold Hid
          refine append_attr _ rfl _ _ rfl (w.heap.size + 1 + 1) _ (keepA ((attr4 ty fr tt id).take 3)) rfl (own_same HI.out.1 (fun g hg => (Below.heap_alloc _ _ _ (by have := own_lt HI.out.1 g hg; simp; omega)).trans (Below.heap_alloc _ _ _ (own_lt HI.out.1 g hg)))) (⟨#[105, 100]⟩, id) (wr.heap.size + 1) rfl (Jd.new2 wr _ _) (by omega) (by simp; omega) ?_
          intro v' w' ho hgr
          have hbl : ∀ g, g < w.heap.size + 1 + 1 → w'.heap[g]? = wr.heap[g]? := fun g hg => (hgr.block g (by simp; omega) (fun e => by have := own_base HI.out.1 g e.symm; omega)).trans ((Below.heap_alloc _ _ _ (by simp; omega)).trans (Below.heap_alloc _ _ _ (by omega)))
          have hb' : Below w.heap.size w w' := ((HI.out.2.2.2.alloc (by omega) _).alloc (by simp; omega) _).grown hgr (by simp; omega) (fun g hg => by have := own_base HI.out.1 g hg; omega)
          have HN := hide (And.intro ho (And.intro hbl hb'))
          clear ho hgr hbl hb'
          go_wp2_with fail
          exact ⟨⟨4, by omega, by simp, by rw [HKp.out]; exact HN.out.1, (HN.out.2.1 _ (by omega)).trans HI.out.2.1, (HN.out.2.1 _ (by omega)).trans HI.out.2.2.1, HN.out.2.2⟩, by simp [intOf]⟩
end Go.Proofs.YthmidlmknkbdaaaDoor
