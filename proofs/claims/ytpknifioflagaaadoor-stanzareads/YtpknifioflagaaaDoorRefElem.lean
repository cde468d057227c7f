/- An element's tokens as the document says them; an attribute's value. -/
import Derived.Test.YtpknifioflagaaaDoorElem
import Derived.Test.YtpknifioflagaaaDoorFit
import Derived.Laws.AppendOwnNone
namespace Go.Proofs.YtpknifioflagaaaDoor
open Go.RowKit Go.Shelf

/-- Attributes that lie in memory are put into a new row of the call's own. -/
theorem append_attrs (w : World) {ops : Array Oper} {rest : List Oper} {o : Oper} {a : Act} {Q : Exit → Act → World → Prop} (hg : o.guard = none) (s x : Operand)
    (hop : o.op = Op.call { callee := Callee.builtin Builtin.append, args := #[s, x], argTypes := #[54, 54] }) (base : Nat) (v : Value) (hs : a.eval s = v)
    (hE : w.ownsRow base 58 2 v 0 []) (n₀ : Nat) (ao : Option Addr) (c : Nat) (al : List (ByteArray × ByteArray)) (hx : a.eval x = .slice ao al.length c) (hA : AttrMem n₀ w ao al) (hc : ao = none → c = 0) (hb : base ≤ w.heap.size)
    (hK : ∀ v' w', w'.ownsRow base 58 2 v' al.length (attrCells al) → Below base w w' → wpList Tryd.prog ops Q rest (a.put o.dst v') w') : wpList Tryd.prog ops Q (o :: rest) a w := by
  obtain ⟨i, hi, hz0, hz1, hz2⟩ := info_parts infoAttr
  cases ao with
  | none =>
    have hal : al = [] := by
      cases al with
      | nil => rfl
      | cons y al => obtain ⟨_, _, e, _⟩ := hA.2.2 0 y (by simp); cases e
    subst hal
    obtain rfl := hc rfl
    exact wpList_append_own_none hg s x 54 hop base 58 i 2 Tryd.underlying54 hi v 0 [] hs hE hx (hK v w hE (Below.refl _ _))
  | some ad =>
    refine wpList_append_own w hg s x 54 hop base 58 i _ 2 32 Tryd.underlying54 hi hz0 hz1 hz2 rfl (by decide) v 0 [] hs hE ad al.length c (attrCells al) hx (attrCells_length al) (fun j u hj => ?_) (fun u hu => ?_) (by have := hA.1; unfold maxLen; omega) (by have := hA.1; omega) hb ?_
    · obtain ⟨k, y, hk, hc'⟩ := attrCells_inv hj
      obtain ⟨b', off', e, _, x1, x2⟩ := hA.2.2 k y hk
      cases e
      rw [Go.WideShapes.add_plain]
      rcases hc' with ⟨rfl, rfl⟩ | ⟨rfl, rfl⟩
      · exact x1
      · rw [← Nat.add_assoc]
        exact x2
    · obtain ⟨y, _, h⟩ := List.mem_flatMap.1 hu
      simp at h
      rcases h with rfl | rfl <;> rfl
    · intro v' w' ho hgr _
      exact hK v' w' (by rw [Nat.zero_add, List.nil_append] at ho; exact ho) ((Below.refl base w).grown hgr hb (fun k e => own_base hE k e))

set_option maxRecDepth 100000 in
set_option maxHeartbeats 2000000 in
theorem refElement_row (name : ByteArray) (aa : Option Addr) (ac : Nat) (al : List (ByteArray × ByteArray)) (ao : Option Addr) (cap : Nat) (ts : List Tok) (av : Nat → Option Addr × Nat) (w : World)
    (hN : name.size ≤ 9223372036854775807) (hA : AttrMem w.heap.size w aa al) (haa : aa = none → ac = 0) (hT : TokMem w.heap.size w ao ts av) (hav : ∀ k t, ts[k]? = some t → (av k).1 = none → (av k).2 = 0) (hs : ts.length ≤ 1000) :
    Calls Tryd.prog 40 #[.string name, .slice aa al.length ac, .slice ao ts.length cap] w fun e w' => ∃ v l, e = .returned v ∧ l.map (·.1) = elemT name al ts ∧ ElRow w.heap.size w' v l ∧ Below w.heap.size w w' := by
  have HA := hide (And.intro hA haa)
  have HT := hide (And.intro hT hav)
  clear hA haa hT hav
  go_enter Tryd.func40, Tryd.ntmps40
  go_wp2_with (at_builtin; refine stopHere ?_)
  unfold Hid
  refine append_attrs _ rfl _ _ rfl w.heap.size _ rfl (World.ownsRow_made w #[] 0 (Nat.le_refl _) (Nat.zero_le _) (by simp)) w.heap.size aa ac al rfl (HA.out.1.below ((Below.refl _ w).alloc (Nat.le_refl _) _)) HA.out.2 (by simp) ?_
  intro va w2 hva hb2
  obtain ⟨ga, gc, rfl⟩ := own_shape hva
  have hbw2 : Below w.heap.size w w2 := ((Below.refl _ w).alloc (Nat.le_refl _) _).trans hb2
  have hsz2 := hbw2.size
  have HY := hide (And.intro hva hbw2)
  clear hva hb2 hbw2
  go_wp2_with fail
  obtain ⟨w3, hw3⟩ : ∃ w3, w2.alloc (.cells #[.int .u8 1, .string name, .slice ga al.length gc, .string ⟨#[]⟩] 56) = w3 := ⟨_, rfl⟩
  have hE3 : ElRow w.heap.size w3 (.slice (some ⟨w2.heap.size, 0, none⟩) 1 1) [(⟨1, name, al, ⟨#[]⟩⟩, ga, gc)] := by
    rw [← hw3]
    refine ⟨⟨by simp [tokC], .inr ⟨w2.heap.size, 1, _, rfl, hsz2, World.alloc_heap_new w2 _, Nat.le_refl _, by unfold maxLen; omega, by simp, by simp [tokC]⟩⟩, fun x hx => ?_⟩
    simp at hx
    subst hx
    exact ⟨own_same HY.out.1 (fun g hg => Below.heap_alloc _ _ _ (own_lt HY.out.1 g hg)), ⟨by simp, hN, Nat.zero_le _, HA.out.1.1, HA.out.1.2.1⟩⟩
  have hb3 : Below w.heap.size w w3 := by rw [← hw3]; exact HY.out.2.alloc hsz2 _
  rw [hw3]
  have HE3 := hide (And.intro hE3 hb3)
  clear hE3 hb3 hw3 HY
  go_loopw [7, 8] (fun v i wr => ∃ (k : Nat) (l : List TokV), k ≤ ts.length ∧ i = .int .i64 k ∧ l.map (·.1) = [⟨1, name, al, ⟨#[]⟩⟩] ++ ts.take k ∧ ElRow w.heap.size wr v l ∧ Below w.heap.size w wr) (fun _ i _ => ts.length - (intOf i).toNat)
  case atStart => exact ⟨0, [(⟨1, name, al, ⟨#[]⟩⟩, ga, gc)], Nat.zero_le _, rfl, by simp, HE3.out.1, HE3.out.2⟩
  case round =>
    obtain ⟨k, l, hk, rfl, hl, hE, hbw⟩ := hrel
    have hll : l.length = k + 1 := by
      have h := congrArg List.length hl
      simp at h
      omega
    obtain ⟨gv, cv, rfl⟩ := own_shape hE.1
    have HLL := hide hll
    clear hll
    have hsw := hbw.size
    have HE := hide (And.intro hE (And.intro hbw hl))
    clear hE hbw hl
    by_cases hlt : k < ts.length
    · obtain ⟨t, ht⟩ : ∃ t, ts[k]? = some t := ⟨ts[k], by simp [hlt]⟩
      obtain ⟨x1, x2, x3, x4, x5, b, off, rfl, hb, c1, c2, c3, c4⟩ := HT.out.1.2 k t ht
      have d1 := (HE.out.2.1.cell (p := ⟨b, _, none⟩) hb).trans c1
      have d2 := (HE.out.2.1.cell (p := ⟨b, _, none⟩) hb).trans c2
      have d3 := (HE.out.2.1.cell (p := ⟨b, _, none⟩) hb).trans c3
      have d4 := (HE.out.2.1.cell (p := ⟨b, _, none⟩) hb).trans c4
      have HSz : Hid (Sized t) := ⟨x1, x2, x3, x4.1, x4.2.1⟩
      have HX := hide x4
      clear c1 c2 c3 c4 x4
      obtain ⟨aw, haw⟩ : ∃ aw, (av k).1 = aw := ⟨_, rfl⟩
      obtain ⟨cw, hcw⟩ : ∃ cw, (av k).2 = cw := ⟨_, rfl⟩
      have hnl := HT.out.2 k t ht
      rw [haw, hcw] at d3 hnl
      rw [haw] at HX
      have HNL := hide hnl
      clear hnl
      go_wp2_with (at_builtin; refine stopHere ?_)
      unfold Hid
      obtain ⟨W1, hW1⟩ : ∃ W1, wr.alloc (.cells #[.int .u8 t.kind, .string t.name, .slice aw t.attrs.length cw, .string t.text] 56) = W1 := ⟨_, rfl⟩
      have z1 : W1.heap.size = wr.heap.size + 1 := by rw [← hW1]; simp
      have hB1 : Below wr.heap.size wr W1 := by rw [← hW1]; exact (Below.refl _ wr).alloc (Nat.le_refl _) _
      have f1 : W1.heap[wr.heap.size]? = some (.cells #[.int .u8 t.kind, .string t.name, .slice aw t.attrs.length cw, .string t.text] 56) := by rw [← hW1]; exact World.alloc_heap_new wr _
      rw [hW1]
      have hB0 : Below W1.heap.size W1 (W1.alloc (.cells #[] 58)) := (Below.refl _ W1).alloc (Nat.le_refl _) _
      have hm0 : (W1.alloc (.cells #[] 58)).ownsRow W1.heap.size 58 2 (.slice (some ⟨wr.heap.size + 1, 0, none⟩) 0 0) 0 [] := by rw [← z1]; exact World.ownsRow_made W1 #[] 0 (Nat.le_refl _) (Nat.zero_le _) (by simp)
      refine append_attrs _ rfl _ _ rfl W1.heap.size _ rfl hm0 w.heap.size aw cw t.attrs rfl (HX.out.below ((HE.out.2.1.trans (hB1.mono hsw)).trans (hB0.mono (by omega)))) HNL.out (by simp) ?_
      intro va w4 hva hb4'
      have hb4 := hB0.trans hb4'
      obtain ⟨ga4, gc4, rfl⟩ := own_shape hva
      have hs4 := hb4.size
      have f4 := (hb4.block wr.heap.size (by omega)).trans f1
      have y0 : w4.cell? ⟨wr.heap.size, 0, none⟩ = some (.int .u8 t.kind) := by simp [World.cell?, f4]
      have y1 : w4.cell? ⟨wr.heap.size, 1, none⟩ = some (.string t.name) := by simp [World.cell?, f4]
      have y2 : w4.cell? ⟨wr.heap.size, 2, none⟩ = some (.slice aw t.attrs.length cw) := by simp [World.cell?, f4]
      have y3 : w4.cell? ⟨wr.heap.size, 3, none⟩ = some (.string t.text) := by simp [World.cell?, f4]
      have y4 : w4.frozen? ⟨wr.heap.size, 2, none⟩ = false := by simp [World.frozen?, f4]
      have hbase : ∀ g, (Value.slice ga4 t.attrs.length gc4).ownBlock = some g → wr.heap.size + 1 ≤ g := fun g hg => by have := own_base hva g hg; omega
      have HV := hide (And.intro hva (And.intro hbase (And.intro hb4 hB1)))
      clear hva hb4 hb4' hB0 hm0 hbase hB1 f1 f4 hW1 d1 d2 d3 d4
      go_wp2_with (at_builtin; refine stopHere ?_)
      unfold Hid
      refine append_tok _ rfl _ _ rfl w.heap.size _ l (t, ga4, gc4) rfl (HE.out.1.kept (fun j hj => ?hkp)) ⟨own_less (own_same HV.out.1 (fun g hg => ?hkg)) ?hkb, HSz.out⟩ w4.heap.size rfl ?hnw ?hl2 ?hbs ?_
      case hkp => exact (Below.heap_alloc _ _ _ (by simp; omega)).trans ((Below.heap_setCell _ _ _ _ (by simp; omega)).trans ((HV.out.2.2.1.block j (by omega)).trans (HV.out.2.2.2.block j hj)))
      case hkg => exact (Below.heap_alloc _ _ _ (by simp; exact own_lt HV.out.1 g hg)).trans (Below.heap_setCell _ _ _ _ (by have h := HV.out.2.1 g hg; simp; omega))
      case hkb => omega
      case hl2 => have h := HLL.out; omega
      case hbs => simp; omega
      case hnw =>
        have h := World.alloc_heap_new (w4.setCell ⟨wr.heap.size, 2, none⟩ (.slice ga4 t.attrs.length gc4)) (.cells #[.int .u8 t.kind, .string t.name, .slice ga4 t.attrs.length gc4, .string t.text] 56)
        rw [World.size_setCell] at h
        exact h
      intro v5 w5 hE5 hb5
      obtain ⟨g5, c5, rfl⟩ := own_shape hE5.1
      have HE5 := hide (And.intro hE5 hb5)
      clear hE5 hb5
      go_wp2_with fail
      refine ⟨⟨k + 1, l ++ [(t, ga4, gc4)], by omega, by simp, ?_, by have h := HE5.out.1; simpa using h, ?_⟩, by simp [intOf]; omega⟩
      · rw [List.map_append, HE.out.2.2, List.take_add_one, ht]
        simp
      · exact ((((HE.out.2.1.trans (HV.out.2.2.2.mono hsw)).trans (HV.out.2.2.1.mono (by omega))).setCell (p := ⟨wr.heap.size, 2, none⟩) hsw _).alloc (by simp; omega) _).trans HE5.out.2
    · obtain rfl : k = ts.length := by omega
      go_wp2_with (at_builtin; refine stopHere ?_)
      unfold Hid
      refine append_tok _ rfl _ _ rfl w.heap.size _ l (⟨2, name, [], ⟨#[]⟩⟩, none, 0) rfl (HE.out.1.kept (fun j hj => Below.heap_alloc _ _ _ hj)) ⟨World.ownsRow_nil _ _ _ _, ⟨by simp, hN, Nat.zero_le _, Nat.zero_le _, fun a h => by simp at h⟩⟩ wr.heap.size rfl (World.alloc_heap_new wr _) (by have h := HLL.out; omega) (by simp; omega) ?_
      intro v5 w5 hE5 hb5
      have HE5 := hide (And.intro hE5 hb5)
      clear hE5 hb5
      go_wp2_with fail
      go_ret
      refine ⟨v5, _, rfl, ?_, HE5.out.1, (HE.out.2.1.alloc hsw _).trans HE5.out.2⟩
      rw [List.map_append, HE.out.2.2, List.take_length]
      rfl
end Go.Proofs.YtpknifioflagaaaDoor
