/- What reads a tag: a beginning. -/
import Derived.Test.YthmidlmknkbdaaaDoorXRB
import Derived.Test.YthmidlmknkbdaaaDoorRows1
import Derived.Deep.RegionHeld3
import Derived.Deep.RegionLawGrows
import Derived.Deep.RegionWith
namespace Go.Proofs.YthmidlmknkbdaaaDoor.Xm
open Go.RowKit

abbrev AttrL := List UInt8 × List UInt8
def attrsGo : Nat → List UInt8 → List AttrL → Option (List AttrL × List UInt8)
  | 0, _, _ => none
  | f + 1, l, acc => if 0 < (l.takeWhile isBl).length ∧ atEndL (l.dropWhile isBl) = false then (attrL (l.dropWhile isBl)).bind (fun x => attrsGo f x.2 (acc ++ [x.1])) else some (acc, l.dropWhile isBl)
/-- What a tag says that begins an element: its name, its attributes, whether it ends it too. -/
def beginL (l : List UInt8) : Option (List UInt8 × List AttrL × Bool) :=
  (mustL [60] l).bind fun x => (nameL x).bind fun y => (attrsGo (y.2.length + 1) y.2 []).bind fun z => (mustL [62] (mayL [47] z.2).1).map fun _ => (y.1, z.1, (mayL [47] z.2).2)
/-- Attributes as the cells hold them. -/
def toB (l : List AttrL) : List (ByteArray × ByteArray) := l.map fun x => (⟨x.1.toArray⟩, ⟨x.2.toArray⟩)
def restLen (r : Nat) (w : World) : Nat := match w.cell? ⟨r, 0, none⟩ with | some (.string s) => s.size | _ => 0
theorem restLen_of {r : Nat} {s : ByteArray} {w : World} (h : IsR r s w) : restLen r w = s.size := by
  unfold restLen
  rw [h.cell.1]
theorem nameL_len {l x y : List UInt8} (h : nameL l = some (x, y)) : y.length < l.length := by
  unfold nameL at h
  split at h
  · cases h
  · rename_i h0
    cases h
    rw [List.length_drop]
    have hl : l ≠ [] := fun e => h0 (by rw [e]; rfl)
    have := List.length_pos_iff.2 hl
    omega
theorem attrL_len {l a : List UInt8} {x : AttrL} (h : attrL l = some (x, a)) : a.length < l.length := by
  unfold attrL at h
  cases h1 : nameL l with
  | none => simp [h1] at h
  | some p =>
    obtain ⟨n, y⟩ := p
    rw [h1] at h
    simp only [Option.bind_some] at h
    cases h2 : mustL [61] (y.dropWhile isBl) with
    | none => simp [h2] at h
    | some y2 =>
      rw [h2] at h
      simp only [Option.bind_some] at h
      cases h3 : valueL (y2.dropWhile isBl) with
      | none => simp [h3] at h
      | some z =>
        obtain ⟨z1, z2⟩ := z
        rw [h3] at h
        simp at h
        obtain ⟨_, rfl⟩ := h
        have e1 := nameL_len h1
        have e2 := dropWhile_len isBl y
        have e3 := mustL_len h2
        have e4 := dropWhile_len isBl y2
        have e5 := valueL_len h3
        omega

/-- One attribute more in a row of the call's own: a step of a region that draws. -/
theorem step_attr {ops : Array Oper} {o : Oper} {a : Act} {w : World} {K : Act → World → Prop} {Q : Exit → Act → World → Prop} {E : Prop} (hg : o.guard = none) (s x : Operand)
    (hop : o.op = Op.call { callee := Callee.builtin Builtin.append, args := #[s, x], argTypes := #[53, 53] }) (base : Nat) (v : Value) (al : List (ByteArray × ByteArray)) (hs : a.eval s = v) (hE : w.ownsRow base 65 2 v al.length (attrCells al)) (y : ByteArray × ByteArray) (bx : Nat)
    (hx : a.eval x = .slice (some ⟨bx, 0, none⟩) 1 1) (hc : w.heap[bx]? = some (.cells #[.string y.1, .string y.2] 65)) (hl : al.length ≤ 200000) (hb : base ≤ w.heap.size)
    (hK : ∀ v' w', w'.ownsRow base 65 2 v' (al ++ [y]).length (attrCells (al ++ [y])) → w.grownBy w' v.ownBlock → K (a.put o.dst v') w') :
    if Region.wanted o (yielded ops a.tmps) = true then Oper.wp Tryd.prog o a w K Q else E := by
  have hw : Region.wanted o (yielded ops a.tmps) = true := by simp [Region.wanted, hg]
  rw [if_pos hw]
  obtain ⟨i, hi, hz0, hz1, hz2⟩ := info_parts infoAttr
  obtain ⟨v', w', hrun, r1, r2, _⟩ := run_append_own (P := Tryd.prog) w base 53 o.type 65 i _ 2 32 Tryd.underlying53 hi hz0 hz1 hz2 rfl (by decide) v al.length (attrCells al) hE ⟨bx, 0, none⟩ 1 1 [.string y.1, .string y.2] rfl (fun j u hj => by
    match j, hj with
    | 0, hj => simp at hj; subst hj; simp [Addr.add, World.cell?, hc]
    | 1, hj => simp at hj; subst hj; simp [Addr.add, World.cell?, hc]) (fun u hu => by simp at hu; rcases hu with rfl | rfl <;> rfl) (by unfold maxLen; omega) (by omega) hb
  unfold Oper.wp
  simp [execOp, hop, resolve, invoke, builtin, hs, hx, hrun, Result.andThen]
  have h2 : attrCells (al ++ [y]) = attrCells al ++ [.string y.1, .string y.2] := by simp [attrCells]
  exact hK v' w' (by rw [h2, List.length_append]; exact r1) r2

set_option maxRecDepth 100000 in
/-- A call of a function that returns: a step of a region that draws. -/
theorem step_rattr {ops : Array Oper} {o : Oper} {a : Act} {w : World} {K : Act → World → Prop} {Q : Exit → Act → World → Prop} {E : Prop} (hg : o.guard = none) (t : Nat) (ty : TypeId)
    (hop : o.op = Op.call { callee := Callee.value (.func 105), args := #[.tmp t], argTypes := #[ty] }) (v : Value) (hx : a.tmps[t]?.getD undef = v) {R : Ending → World → Prop} (hC : Calls Tryd.prog 105 #[v] w R) (hK : ∀ e w', R e w' → ∃ v, e = .returned v ∧ K (a.put o.dst v) w') :
    if Region.wanted o (yielded ops a.tmps) = true then Oper.wp Tryd.prog o a w K Q else E := by
  have hw : Region.wanted o (yielded ops a.tmps) = true := by simp [Region.wanted, hg]
  rw [if_pos hw]
  have _f := Tryd.func105
  unfold Oper.wp
  simp only [execOp, hop, resolve, invoke]
  go_simp
  refine hC.mono ?_
  intro e w' hR
  obtain ⟨u, rfl, hk⟩ := hK e w' hR
  exact hk
set_option maxRecDepth 100000 in
/-- A call of a function that gives up: a step of a region that draws. -/
theorem step_rattr_stop {ops : Array Oper} {o : Oper} {a : Act} {w : World} {K : Act → World → Prop} {Q : Exit → Act → World → Prop} {E : Prop} (hg : o.guard = none) (t : Nat) (ty : TypeId)
    (hop : o.op = Op.call { callee := Callee.value (.func 105), args := #[.tmp t], argTypes := #[ty] }) (v : Value) (hx : a.tmps[t]?.getD undef = v) {R : Ending → World → Prop} (hC : Calls Tryd.prog 105 #[v] w R) (hK : ∀ e w', R e w' → ∃ c, e = .panicked c ∧ Q (.panic c) a w') :
    if Region.wanted o (yielded ops a.tmps) = true then Oper.wp Tryd.prog o a w K Q else E := by
  have hw : Region.wanted o (yielded ops a.tmps) = true := by simp [Region.wanted, hg]
  rw [if_pos hw]
  have _f := Tryd.func105
  unfold Oper.wp
  simp only [execOp, hop, resolve, invoke]
  go_simp
  refine hC.mono ?_
  intro e w' hR
  obtain ⟨u, rfl, hk⟩ := hK e w' hR
  exact hk
/-- What a beginning is in its box, while it is read. -/
def IsBg (B : Nat) (name : ByteArray) (v : Value) (w : World) : Prop := w.heap[B]? = some (.cells #[.string name, v, .bool false] 124)
theorem IsBg.cell {B : Nat} {n : ByteArray} {v : Value} {w : World} (h : IsBg B n v w) : w.cell? ⟨B, 0, none⟩ = some (.string n) ∧ w.cell? ⟨B, 1, none⟩ = some v ∧ w.cell? ⟨B, 2, none⟩ = some (.bool false) ∧ w.frozen? ⟨B, 1, none⟩ = false ∧ w.frozen? ⟨B, 2, none⟩ = false := by
  unfold IsBg at h
  simp [World.cell?, World.frozen?, h]
theorem results_agg3 {fn : Func} {tmps : Array Value} {w : World} {b : Nat} {x y z : Value} (h : fn.results = #[.cell 2 124]) (hp : tmps[2]?.getD undef = .pointer (some ⟨b, 0, none⟩)) (h0 : w.cell? ⟨b, 0, none⟩ = some x) (h1 : w.cell? ⟨b, 1, none⟩ = some y) (h2 : w.cell? ⟨b, 2, none⟩ = some z) : (results fn tmps).run Tryd.prog w = .ok (.agg #[x, y, z]) w := by
  simp [results, h, hp, h0, h1, h2, go_sem, Tryd.isAgg124, Tryd.sizeOf124]
theorem own_ne {W : World} {base e n b : Nat} {size : Nat} {v : Value} {xs : List Value} {cs : Array Value} {T : TypeId} (h : W.ownsRow base e size v n xs) (hb : W.heap[b]? = some (.cells cs T)) (hT : T ≠ e) (g : Nat) (hg : v.ownBlock = some g) : g ≠ b := by
  intro e1
  subst e1
  obtain ⟨_, ⟨rfl, _⟩ | ⟨g', cap, cur, rfl, _, hg', _⟩⟩ := h
  · cases hg
  · cases hg
    rw [hg'] at hb
    cases hb
    exact hT rfl

set_option maxRecDepth 100000 in
set_option maxHeartbeats 4000000 in
theorem readBeginning_any (s : ByteArray) (w : World) (hs : s.size ≤ 100000) (hE : Env w) (h4 : 4 ≤ w.heap.size) :
    Calls Tryd.prog 91 #[.string s] w fun e w' => ((beginL s.data.toList = none ∧ e = stopE 6) ∨ (∃ nm al ends v, beginL s.data.toList = some (nm, al, ends) ∧ e = .returned (.agg #[.string ⟨nm.toArray⟩, v, .bool ends]) ∧ al.length ≤ s.size ∧ w'.ownsRow w.heap.size 65 2 v (toB al).length (attrCells (toB al)))) ∧ Below w.heap.size w w' := by
  obtain ⟨W0, hW0⟩ : ∃ W0, (w.alloc (.cells #[.string ⟨#[]⟩, .slice none 0 0, .bool false] 124)).alloc (.cells #[.string s] 138) = W0 := ⟨_, rfl⟩
  have hb0 : Below w.heap.size w W0 := by rw [← hW0]; exact ((Below.refl _ w).alloc (Nat.le_refl _) _).alloc (by simp) _
  have hz0 : W0.heap.size = w.heap.size + 2 := by rw [← hW0]; simp
  have hR0 : IsR (w.heap.size + 1) s W0 := by
    rw [← hW0]
    have h := World.alloc_heap_new (w.alloc (.cells #[.string ⟨#[]⟩, .slice none 0 0, .bool false] 124)) (.cells #[.string s] 138)
    rwa [World.size_alloc] at h
  have f0 : W0.heap[w.heap.size]? = some (.cells #[.string ⟨#[]⟩, .slice none 0 0, .bool false] 124) := by
    rw [← hW0]; exact (Below.heap_alloc _ _ _ (by simp)).trans (World.alloc_heap_new w _)
  obtain ⟨r, hr⟩ : ∃ r, w.heap.size + 1 = r := ⟨_, rfl⟩
  rw [hr] at hR0
  have hmu := must_l r s ⟨#[60]⟩ W0 hR0 (by omega) (by show 1 ≤ _; omega)
  rw [show (⟨#[60]⟩ : ByteArray).data.toList = [60] from rfl] at hmu
  have HM := hide (And.intro hmu (And.intro hb0 f0))
  have HE := hide hE
  clear hmu hb0 hR0 f0 hE
  go_enter Tryd.func91, Tryd.ntmps91
  go_wp2_with fail
  refine HM.out.1.mono ?_
  rintro e w1 ⟨⟨h, rfl⟩ | ⟨y, h, rfl, hR1, hy⟩, hO1⟩
  case inl => exact ⟨rfl, .inl ⟨by simp [beginL, h], rfl⟩, HM.out.2.1.trans (hO1.below.mono (by omega))⟩
  have hna := rname_l r ⟨y.toArray⟩ w1 hR1 (by rw [size_lst, arr_list]; omega)
  rw [arr_list y, size_lst ⟨y.toArray⟩, arr_list y] at hna
  have g1 := (hO1.block w.heap.size (by omega) (by omega)).trans HM.out.2.2
  have hz1 := hO1.size
  have H1 := hide (And.intro h (And.intro hna (And.intro (HM.out.2.1.trans (hO1.below.mono (by omega))) g1)))
  clear h hna hR1 hO1 HM hW0 g1
  go_wp2_with fail
  refine H1.out.2.1.mono ?_
  rintro e w2 ⟨⟨h, rfl⟩ | ⟨x, z, h, rfl, hR2, hz⟩, hO2⟩
  case inl => exact ⟨rfl, .inl ⟨by simp [beginL, H1.out.1, h], rfl⟩, H1.out.2.2.1.trans (hO2.below.mono (by omega))⟩
  have g2 := (hO2.block w.heap.size (by omega) (by omega)).trans H1.out.2.2.2
  have hz2 := hO2.size
  have H2 := hide (And.intro h (And.intro hR2 (And.intro (H1.out.2.2.1.trans (hO2.below.mono (by omega))) g2)))
  clear h hR2 hO2 g2
  go_wp2_with fail
  obtain ⟨W3, hW3⟩ : ∃ W3, w2.alloc (.cells #[.string ⟨x.toArray⟩, .slice none 0 0, .bool false] 124) = W3 := ⟨_, rfl⟩
  have hb3 : Below w2.heap.size w2 W3 := by rw [← hW3]; exact (Below.refl _ w2).alloc (Nat.le_refl _) _
  have hB3 : IsBg w2.heap.size ⟨x.toArray⟩ (.slice none 0 0) W3 := by rw [← hW3]; exact World.alloc_heap_new w2 _
  have hR3 : IsR r ⟨z.toArray⟩ W3 := (hb3.block r (by omega)).trans H2.out.2.1
  have g3 := (hb3.block w.heap.size (by omega)).trans H2.out.2.2.2
  have hz3 : W3.heap.size = w2.heap.size + 1 := by rw [← hW3]; simp
  rw [hW3]
  obtain ⟨B, hB⟩ : ∃ B, w2.heap.size = B := ⟨_, rfl⟩
  rw [hB] at hB3 hz2 hz3 ⊢
  have H3 := hide (And.intro hB3 (And.intro hR3 (And.intro g3 (H2.out.2.2.1.trans (hb3.mono (by omega))))))
  clear hB3 hR3 g3 hb3 hW3
  obtain ⟨tot, htot⟩ : ∃ tot, attrsGo (z.length + 1) z [] = tot := ⟨_, rfl⟩
  have HTOT := hide htot
  go_loopw [] (fun wr => ∃ (f : Nat) (rest : List UInt8) (acc : List AttrL) (v : Value), rest.length < f ∧ attrsGo f rest acc = tot ∧ acc.length + rest.length ≤ z.length ∧ IsR r ⟨rest.toArray⟩ wr ∧ IsBg B ⟨x.toArray⟩ v wr ∧ wr.heap[w.heap.size]? = some (.cells #[.string ⟨#[]⟩, .slice none 0 0, .bool false] 124) ∧ wr.ownsRow w.heap.size 65 2 v (toB acc).length (attrCells (toB acc)) ∧ Below w.heap.size w wr) (fun wr => restLen r wr)
  case atStart => exact ⟨z.length + 1, z, [], _, by omega, htot, by simp, H3.out.2.1, H3.out.1, H3.out.2.2.1, World.ownsRow_nil _ _ _ _, H3.out.2.2.2⟩
  case round =>
    obtain ⟨f, rest, acc, v, hf, hgo, hal, hR, hBg, g0, hown, hbw⟩ := hrel
    obtain ⟨bl, hbl0⟩ : ∃ bl, toB acc = bl := ⟨_, rfl⟩
    have hbll : bl.length ≤ 100000 := by rw [← hbl0]; simp [toB]; omega
    rw [hbl0] at hown
    have HBL := hide hbl0
    clear hbl0
    obtain ⟨f', rfl⟩ : ∃ f', f = f' + 1 := ⟨f - 1, by omega⟩
    rw [attrsGo] at hgo
    have hrs : restLen r wr = rest.length := by rw [restLen_of hR, size_lst, arr_list]
    have hBl : B < wr.heap.size := (Array.getElem?_eq_some_iff.1 hBg).1
    have hrl : r < wr.heap.size := (Array.getElem?_eq_some_iff.1 hR).1
    have hbl := rblanks_l r ⟨rest.toArray⟩ wr hR (by rw [size_lst, arr_list]; omega)
    rw [arr_list] at hbl
    have hd := dropWhile_len isBl rest
    obtain ⟨l1, hl1⟩ : ∃ l1, rest.dropWhile isBl = l1 := ⟨_, rfl⟩
    obtain ⟨bb, hbb⟩ : ∃ bb, decide (0 < (rest.takeWhile isBl).length) = bb := ⟨_, rfl⟩
    rw [hl1] at hbl hd hgo
    rw [hbb] at hbl
    have hgo' : (if bb = true ∧ atEndL l1 = false then (attrL l1).bind (fun x => attrsGo f' x.2 (acc ++ [x.1])) else some (acc, l1)) = tot := by
      rw [← hgo, ← hbb]
      simp
    have HRR := hide hR
    have HI := hide (And.intro hbl (And.intro hgo' (And.intro hBg (And.intro g0 (And.intro hown hbw)))))
    clear hbl hgo hgo' hR hBg g0 hown hbw hl1 hbb
    go_wp2_with fail
    refine HI.out.1.mono ?_
    rintro e w4 ⟨rfl, hR4, hO4⟩
    have hBg4 : IsBg B ⟨x.toArray⟩ v w4 := (hO4.block B hBl (by omega)).trans HI.out.2.2.1
    have g4 := (hO4.block w.heap.size (by omega) (by omega)).trans HI.out.2.2.2.1
    have hown4 : w4.ownsRow w.heap.size 65 2 v bl.length (attrCells bl) := own_same HI.out.2.2.2.2.1 (fun g hg => hO4.block g (own_lt HI.out.2.2.2.2.1 g hg) (own_ne HI.out.2.2.2.2.1 HRR.out (by decide) g hg))
    have hbw4 : Below w.heap.size w w4 := HI.out.2.2.2.2.2.trans (hO4.below.mono (by omega))
    have hz4 := hO4.size
    have hat := atEnd_any r ⟨l1.toArray⟩ w4 hR4 (by rw [size_lst, arr_list]; omega)
    have hra := rattr_any r ⟨l1.toArray⟩ w4 hR4 (by rw [size_lst, arr_list]; omega) (HE.out.below hbw4 h4) (by omega)
    rw [arr_list] at hat
    rw [arr_list l1, size_lst ⟨l1.toArray⟩, arr_list l1] at hra
    have hr4 : restLen r w4 = l1.length := by rw [restLen_of hR4, size_lst, arr_list]
    have H4 := hide (And.intro hR4 (And.intro hBg4 (And.intro g4 (And.intro hown4 hbw4))))
    have HT4 := hide HI.out.2.1
    have HA4 := hide (And.intro hat hra)
    clear hR4 hBg4 g4 hown4 hbw4 hat hra hO4 HI
    cases bb with
    | false =>
      have htt : tot = some (acc, l1) := by
        have h := HT4.out
        rw [if_neg (by simp)] at h
        exact h.symm
      have hmy := may_any r ⟨l1.toArray⟩ ⟨#[47]⟩ w4 H4.out.1 (by rw [size_lst, arr_list]; omega) (by show 1 ≤ _; omega)
      rw [show (⟨#[47]⟩ : ByteArray).data.toList = [47] from rfl, arr_list l1] at hmy
      have hml := mayL_len [47] l1
      obtain ⟨me, hme⟩ : ∃ me, (mayL [47] l1).2 = me := ⟨_, rfl⟩
      obtain ⟨mr, hmr⟩ : ∃ mr, (mayL [47] l1).1 = mr := ⟨_, rfl⟩
      rw [hme, hmr] at hmy
      rw [hmr] at hml
      have HMY := hide (And.intro hmy (And.intro htt (And.intro hme hmr)))
      clear hmy htt hme hmr
      go_wp2_with fail
      refine HMY.out.1.mono ?_
      rintro e w5 ⟨rfl, s5, hs5, hR5, hO5⟩
      have hBg5 : IsBg B ⟨x.toArray⟩ v w5 := (hO5.block B (by omega) (by omega)).trans H4.out.2.1
      have g5 := (hO5.block w.heap.size (by omega) (by omega)).trans H4.out.2.2.1
      have hown5 := own_same H4.out.2.2.2.1 (fun g hg => hO5.block g (own_lt H4.out.2.2.2.1 g hg) (own_ne H4.out.2.2.2.1 H4.out.1 (by decide) g hg))
      have hz5 := hO5.size
      obtain ⟨p0, p1, p2, p3, p4⟩ := hBg5.cell
      obtain ⟨W6, hW6⟩ : ∃ W6, w5.setCell ⟨B, 2, none⟩ (.bool me) = W6 := ⟨_, rfl⟩
      have hR6 : IsR r ⟨mr.toArray⟩ W6 := by rw [← hW6, ← bytes_ext hs5]; exact (Below.heap_setCell _ _ _ _ (by simp; omega)).trans hR5
      have f6 : W6.heap[B]? = some (.cells #[.string ⟨x.toArray⟩, v, .bool me] 124) := by rw [← hW6]; exact heap_setCell_same _ _ 2 _ _ _ hBg5
      have g6 : W6.heap[w.heap.size]? = some (.cells #[.string ⟨#[]⟩, .slice none 0 0, .bool false] 124) := by rw [← hW6]; exact (Below.heap_setCell _ _ _ _ (by simp; omega)).trans g5
      have hown6 := own_same (B := W6) hown5 (fun g hg => by rw [← hW6]; exact Below.heap_setCell _ _ _ _ (own_ne hown5 hBg5 (by decide) g hg))
      have hbw6 : Below w.heap.size w W6 := by rw [← hW6]; exact (H4.out.2.2.2.2.trans (hO5.below.mono (by omega))).setCell (p := ⟨B, 2, none⟩) (by simp; omega) _
      have hz6 : W6.heap.size = w5.heap.size := by rw [← hW6]; simp
      have hmu := must_l r ⟨mr.toArray⟩ ⟨#[62]⟩ W6 hR6 (by rw [size_lst, arr_list]; omega) (by show 1 ≤ _; omega)
      rw [show (⟨#[62]⟩ : ByteArray).data.toList = [62] from rfl, arr_list mr] at hmu
      have H6 := hide (And.intro hmu (And.intro f6 (And.intro g6 (And.intro hown6 (And.intro hbw6 hR6)))))
      clear hmu f6 g6 hown6 hbw6 hR6 hown5 g5 hR5 hs5 hBg5 hO5
      go_wp2_with fail
      refine H6.out.1.mono ?_
      rintro e w7 ⟨⟨h, rfl⟩ | ⟨u, h, rfl, _, _⟩, hO7⟩
      case inl =>
        refine ⟨rfl, .inl ⟨?_, rfl⟩, H6.out.2.2.2.2.1.trans (hO7.below.mono (by omega))⟩
        simp [beginL, H1.out.1, H2.out.1, HTOT.out, HMY.out.2.1, HMY.out.2.2.2, h]
      have f7 := (hO7.block B (by omega) (by omega)).trans H6.out.2.1
      have g7 := (hO7.block w.heap.size (by omega) (by omega)).trans H6.out.2.2.1
      have hown7 := own_same H6.out.2.2.2.1 (fun g hg => hO7.block g (own_lt H6.out.2.2.2.1 g hg) (own_ne H6.out.2.2.2.1 H6.out.2.2.2.2.2 (by decide) g hg))
      have e0 : w7.cell? ⟨B, 0, none⟩ = some (.string ⟨x.toArray⟩) := by simp [World.cell?, f7]
      have e1 : w7.cell? ⟨B, 1, none⟩ = some v := by simp [World.cell?, f7]
      have e2 : w7.cell? ⟨B, 2, none⟩ = some (.bool me) := by simp [World.cell?, f7]
      have d0 : w7.cell? ⟨w.heap.size, 0, none⟩ = some (.string ⟨#[]⟩) := by simp [World.cell?, g7]
      have d1 : w7.cell? ⟨w.heap.size, 1, none⟩ = some (.slice none 0 0) := by simp [World.cell?, g7]
      have d2 : w7.cell? ⟨w.heap.size, 2, none⟩ = some (.bool false) := by simp [World.cell?, g7]
      have d3 : w7.frozen? ⟨w.heap.size, 0, none⟩ = false := by simp [World.frozen?, g7]
      have d4 : w7.frozen? ⟨w.heap.size, 1, none⟩ = false := by simp [World.frozen?, g7]
      have d5 : w7.frozen? ⟨w.heap.size, 2, none⟩ = false := by simp [World.frozen?, g7]
      obtain ⟨gv, cv, rfl⟩ := own_shape hown7
      have H7 := hide (And.intro h (And.intro g7 (And.intro hown7 (H6.out.2.2.2.2.1.trans (hO7.below.mono (by omega))))))
      clear h g7 f7 hown7 hO7
      go_wp2_with fail
      have k1 := heap_setCell_same _ _ 0 _ _ (.string ⟨x.toArray⟩) H7.out.2.1
      have k2 := heap_setCell_same _ _ 1 _ _ (.slice gv bl.length cv) k1
      have k3 := heap_setCell_same _ _ 2 _ _ (.bool me) k2
      refine bodyPost_ret (results_agg3 (x := .string ⟨x.toArray⟩) (y := .slice gv bl.length cv) (z := .bool me) rfl rfl ?_ ?_ ?_) rfl ?_
      · simp [World.cell?, k3]
      · simp [World.cell?, k3]
      · simp [World.cell?, k3]
      · refine ⟨.inr ⟨x, acc, me, .slice gv bl.length cv, ?_, rfl, by omega, ?_⟩, ?_⟩
        · simp [beginL, H1.out.1, H2.out.1, HTOT.out, HMY.out.2.1, HMY.out.2.2.1, HMY.out.2.2.2, H7.out.1]
        · rw [HBL.out]
          exact own_same H7.out.2.2.1 (fun g hg => by
            have hne := own_ne H7.out.2.2.1 H7.out.2.1 (by decide) g hg
            exact (Below.heap_setCell _ _ _ _ hne).trans ((Below.heap_setCell _ _ _ _ hne).trans (Below.heap_setCell _ _ _ _ hne)))
        · exact ((H7.out.2.2.2.setCell (p := ⟨w.heap.size, 0, none⟩) (Nat.le_refl _) _).setCell (p := ⟨w.heap.size, 1, none⟩) (Nat.le_refl _) _).setCell (p := ⟨w.heap.size, 2, none⟩) (Nat.le_refl _) _
    | true =>
      cases hae : atEndL l1 with
      | true =>
        have htt : tot = some (acc, l1) := by
          have h := HT4.out
          rw [if_neg (by simp [hae])] at h
          exact h.symm
        have hmy := may_any r ⟨l1.toArray⟩ ⟨#[47]⟩ w4 H4.out.1 (by rw [size_lst, arr_list]; omega) (by show 1 ≤ _; omega)
        rw [show (⟨#[47]⟩ : ByteArray).data.toList = [47] from rfl, arr_list l1] at hmy
        have hml := mayL_len [47] l1
        obtain ⟨me, hme⟩ : ∃ me, (mayL [47] l1).2 = me := ⟨_, rfl⟩
        obtain ⟨mr, hmr⟩ : ∃ mr, (mayL [47] l1).1 = mr := ⟨_, rfl⟩
        rw [hme, hmr] at hmy
        rw [hmr] at hml
        have HMY := hide (And.intro hmy (And.intro htt (And.intro hme hmr)))
        clear hmy htt hme hmr
        rw [hae] at HA4
        go_wp2_with fail
        refine HA4.out.1.mono ?_
        rintro e w4' ⟨rfl, hw4⟩
        subst hw4
        go_wp2_with fail
        refine HMY.out.1.mono ?_
        rintro e w5 ⟨rfl, s5, hs5, hR5, hO5⟩
        have hBg5 : IsBg B ⟨x.toArray⟩ v w5 := (hO5.block B (by omega) (by omega)).trans H4.out.2.1
        have g5 := (hO5.block w.heap.size (by omega) (by omega)).trans H4.out.2.2.1
        have hown5 := own_same H4.out.2.2.2.1 (fun g hg => hO5.block g (own_lt H4.out.2.2.2.1 g hg) (own_ne H4.out.2.2.2.1 H4.out.1 (by decide) g hg))
        have hz5 := hO5.size
        obtain ⟨p0, p1, p2, p3, p4⟩ := hBg5.cell
        obtain ⟨W6, hW6⟩ : ∃ W6, w5.setCell ⟨B, 2, none⟩ (.bool me) = W6 := ⟨_, rfl⟩
        have hR6 : IsR r ⟨mr.toArray⟩ W6 := by rw [← hW6, ← bytes_ext hs5]; exact (Below.heap_setCell _ _ _ _ (by simp; omega)).trans hR5
        have f6 : W6.heap[B]? = some (.cells #[.string ⟨x.toArray⟩, v, .bool me] 124) := by rw [← hW6]; exact heap_setCell_same _ _ 2 _ _ _ hBg5
        have g6 : W6.heap[w.heap.size]? = some (.cells #[.string ⟨#[]⟩, .slice none 0 0, .bool false] 124) := by rw [← hW6]; exact (Below.heap_setCell _ _ _ _ (by simp; omega)).trans g5
        have hown6 := own_same (B := W6) hown5 (fun g hg => by rw [← hW6]; exact Below.heap_setCell _ _ _ _ (own_ne hown5 hBg5 (by decide) g hg))
        have hbw6 : Below w.heap.size w W6 := by rw [← hW6]; exact (H4.out.2.2.2.2.trans (hO5.below.mono (by omega))).setCell (p := ⟨B, 2, none⟩) (by simp; omega) _
        have hz6 : W6.heap.size = w5.heap.size := by rw [← hW6]; simp
        have hmu := must_l r ⟨mr.toArray⟩ ⟨#[62]⟩ W6 hR6 (by rw [size_lst, arr_list]; omega) (by show 1 ≤ _; omega)
        rw [show (⟨#[62]⟩ : ByteArray).data.toList = [62] from rfl, arr_list mr] at hmu
        have H6 := hide (And.intro hmu (And.intro f6 (And.intro g6 (And.intro hown6 (And.intro hbw6 hR6)))))
        clear hmu f6 g6 hown6 hbw6 hR6 hown5 g5 hR5 hs5 hBg5 hO5
        go_wp2_with fail
        refine H6.out.1.mono ?_
        rintro e w7 ⟨⟨h, rfl⟩ | ⟨u, h, rfl, _, _⟩, hO7⟩
        case inl =>
          refine ⟨rfl, .inl ⟨?_, rfl⟩, H6.out.2.2.2.2.1.trans (hO7.below.mono (by omega))⟩
          simp [beginL, H1.out.1, H2.out.1, HTOT.out, HMY.out.2.1, HMY.out.2.2.2, h]
        have f7 := (hO7.block B (by omega) (by omega)).trans H6.out.2.1
        have g7 := (hO7.block w.heap.size (by omega) (by omega)).trans H6.out.2.2.1
        have hown7 := own_same H6.out.2.2.2.1 (fun g hg => hO7.block g (own_lt H6.out.2.2.2.1 g hg) (own_ne H6.out.2.2.2.1 H6.out.2.2.2.2.2 (by decide) g hg))
        have e0 : w7.cell? ⟨B, 0, none⟩ = some (.string ⟨x.toArray⟩) := by simp [World.cell?, f7]
        have e1 : w7.cell? ⟨B, 1, none⟩ = some v := by simp [World.cell?, f7]
        have e2 : w7.cell? ⟨B, 2, none⟩ = some (.bool me) := by simp [World.cell?, f7]
        have d0 : w7.cell? ⟨w.heap.size, 0, none⟩ = some (.string ⟨#[]⟩) := by simp [World.cell?, g7]
        have d1 : w7.cell? ⟨w.heap.size, 1, none⟩ = some (.slice none 0 0) := by simp [World.cell?, g7]
        have d2 : w7.cell? ⟨w.heap.size, 2, none⟩ = some (.bool false) := by simp [World.cell?, g7]
        have d3 : w7.frozen? ⟨w.heap.size, 0, none⟩ = false := by simp [World.frozen?, g7]
        have d4 : w7.frozen? ⟨w.heap.size, 1, none⟩ = false := by simp [World.frozen?, g7]
        have d5 : w7.frozen? ⟨w.heap.size, 2, none⟩ = false := by simp [World.frozen?, g7]
        obtain ⟨gv, cv, rfl⟩ := own_shape hown7
        have H7 := hide (And.intro h (And.intro g7 (And.intro hown7 (H6.out.2.2.2.2.1.trans (hO7.below.mono (by omega))))))
        clear h g7 f7 hown7 hO7
        go_wp2_with fail
        have k1 := heap_setCell_same _ _ 0 _ _ (.string ⟨x.toArray⟩) H7.out.2.1
        have k2 := heap_setCell_same _ _ 1 _ _ (.slice gv bl.length cv) k1
        have k3 := heap_setCell_same _ _ 2 _ _ (.bool me) k2
        refine bodyPost_ret (results_agg3 (x := .string ⟨x.toArray⟩) (y := .slice gv bl.length cv) (z := .bool me) rfl rfl ?_ ?_ ?_) rfl ?_
        · simp [World.cell?, k3]
        · simp [World.cell?, k3]
        · simp [World.cell?, k3]
        · refine ⟨.inr ⟨x, acc, me, .slice gv bl.length cv, ?_, rfl, by omega, ?_⟩, ?_⟩
          · simp [beginL, H1.out.1, H2.out.1, HTOT.out, HMY.out.2.1, HMY.out.2.2.1, HMY.out.2.2.2, H7.out.1]
          · rw [HBL.out]
            exact own_same H7.out.2.2.1 (fun g hg => by
              have hne := own_ne H7.out.2.2.1 H7.out.2.1 (by decide) g hg
              exact (Below.heap_setCell _ _ _ _ hne).trans ((Below.heap_setCell _ _ _ _ hne).trans (Below.heap_setCell _ _ _ _ hne)))
          · exact ((H7.out.2.2.2.setCell (p := ⟨w.heap.size, 0, none⟩) (Nat.le_refl _) _).setCell (p := ⟨w.heap.size, 1, none⟩) (Nat.le_refl _) _).setCell (p := ⟨w.heap.size, 2, none⟩) (Nat.le_refl _) _
      | false =>
        rw [hae] at HA4
        go_wp2_with fail
        refine HA4.out.1.mono ?_
        rintro e w5 ⟨rfl, hw5⟩
        subst hw5
        obtain ⟨p0, p1, p2, p3, p4⟩ := H4.out.2.1.cell
        obtain ⟨ga, gc, rfl⟩ := own_shape H4.out.2.2.2.1
        have ht : (attrL l1).bind (fun x => attrsGo f' x.2 (acc ++ [x.1])) = tot := by
          have h := HT4.out
          rwa [if_pos ⟨by trivial, hae⟩] at h
        cases hattr : attrL l1 with
        | none =>
          rw [hattr] at ht
          have hcall : ∀ v, IsR r ⟨l1.toArray⟩ v → Env v → Calls Tryd.prog 105 #[.pointer (some ⟨r, 0, none⟩)] v fun e w' => e = stopE 6 ∧ Only r v w' := fun v h1 h2 => by
            refine (rattr_any r ⟨l1.toArray⟩ v h1 (by rw [size_lst, arr_list]; omega) h2 (by omega)).mono ?_
            rintro e w' ⟨⟨_, rfl⟩ | ⟨nm', p', a', h, _⟩, hO⟩
            · exact ⟨rfl, hO⟩
            · rw [arr_list, hattr] at h
              cases h
          have hbn : beginL s.data.toList = none := by simp [beginL, H1.out.1, H2.out.1, HTOT.out, ← ht]
          have HCL := hide (And.intro hcall hbn)
          clear hcall ht HA4 hattr hbn
          have hEv : Env w5.drew := HE.out.below H4.out.2.2.2.2.drew h4
          have hRv : IsR r ⟨l1.toArray⟩ w5.drew := H4.out.1
          have HEV := hide (And.intro hEv hRv)
          clear hEv hRv
          go_wp2_with fail
          refine wp_region_held_drew (S := fun w' => w'.cell? ⟨B, 1, none⟩ = some (.slice ga bl.length gc)) (by kernel_rfl) (by simpa using p1) (fun hHeld => ?_)
          refine wpAnyH_ready (rs := [0, 2]) (by kernel_rfl) (by simp) ?_
          refine AllReadyH.cons rfl (fun K hK => ?_) ?_
          · go_simp
            refine hK.out _ _ (by simpa using p1) (fun hHeld2 => ?_)
            clear hK K
            refine wpAnyH_ready (rs := [1, 2]) (by kernel_rfl) (by simp) ?_
            refine AllReadyH.cons rfl (fun K hK => ?_) ?_
            · go_simp
              refine hK.out _ _ (by simpa using p1) (fun hHeld3 => ?_)
              clear hK K
              refine wpAnyH_ready (rs := [2]) (by kernel_rfl) (by simp) ?_
              refine AllReadyH.cons rfl (fun K hK => ?_) AllReadyH.nil
              (refine step_rattr_stop rfl 3 _ rfl (.pointer (some ⟨r, 0, none⟩)) rfl (HCL.out.1 w5.drew HEV.out.2 HEV.out.1) ?_; rintro e w6 ⟨he6, hO6⟩; refine ⟨_, he6, ?_⟩; exact ⟨rfl, .inl ⟨HCL.out.2, rfl⟩, H4.out.2.2.2.2.drew.trans (hO6.below.mono (by omega))⟩)
            · refine AllReadyH.cons rfl (fun K hK => ?_) AllReadyH.nil
              (refine step_rattr_stop rfl 3 _ rfl (.pointer (some ⟨r, 0, none⟩)) rfl (HCL.out.1 w5.drew HEV.out.2 HEV.out.1) ?_; rintro e w6 ⟨he6, hO6⟩; refine ⟨_, he6, ?_⟩; exact ⟨rfl, .inl ⟨HCL.out.2, rfl⟩, H4.out.2.2.2.2.drew.trans (hO6.below.mono (by omega))⟩)
          · refine AllReadyH.cons rfl (fun K hK => ?_) AllReadyH.nil
            (refine step_rattr_stop rfl 3 _ rfl (.pointer (some ⟨r, 0, none⟩)) rfl (HCL.out.1 w5.drew HEV.out.2 HEV.out.1) ?_; rintro e w6 ⟨he6, hO6⟩; refine ⟨_, he6, ?_⟩; exact ⟨rfl, .inl ⟨HCL.out.2, rfl⟩, H4.out.2.2.2.2.drew.trans (hO6.below.mono (by omega))⟩)
        | some xx =>
          obtain ⟨⟨nm, pv⟩, after⟩ := xx
          rw [hattr] at ht
          have hal2 := attrL_len hattr
          have hcall : ∀ v, IsR r ⟨l1.toArray⟩ v → Env v → Calls Tryd.prog 105 #[.pointer (some ⟨r, 0, none⟩)] v fun e w' => e = .returned (.agg #[.string ⟨nm.toArray⟩, .string ⟨pv.toArray⟩]) ∧ IsR r ⟨after.toArray⟩ w' ∧ Only r v w' := fun v h1 h2 => by
            refine (rattr_any r ⟨l1.toArray⟩ v h1 (by rw [size_lst, arr_list]; omega) h2 (by omega)).mono ?_
            rintro e w' ⟨⟨h, _⟩ | ⟨nm', p', a', h, rfl, hR', _⟩, hO⟩
            · rw [arr_list, hattr] at h
              cases h
            · rw [arr_list, hattr] at h
              cases h
              exact ⟨rfl, hR', hO⟩
          have HCL := hide (And.intro hcall ht)
          clear hcall ht HA4 hattr
          have hEv : Env w5.drew := HE.out.below H4.out.2.2.2.2.drew h4
          have hRv : IsR r ⟨l1.toArray⟩ w5.drew := H4.out.1
          have HEV := hide (And.intro hEv hRv)
          clear hEv hRv
          go_wp2_with fail
          go_region_law
            (first | (refine step_rattr rfl 3 _ rfl (.pointer (some ⟨r, 0, none⟩)) rfl (HCL.out.1 w5.drew HEV.out.2 HEV.out.1) ?_; rintro e w6 ⟨he6, hR6, hO6⟩; refine ⟨_, he6, ?_⟩; clear he6; have hB6 : IsBg B ⟨x.toArray⟩ (.slice ga bl.length gc) w6 := (hO6.block B (by simp; omega) (by omega)).trans H4.out.2.1; obtain ⟨k0, k1, k2, k3, k4⟩ := hB6.cell; have hB6l : B < w6.heap.size := (Array.getElem?_eq_some_iff.1 hB6).1; have hown6 : w6.ownsRow w.heap.size 65 2 (.slice ga bl.length gc) bl.length (attrCells bl) := own_same H4.out.2.2.2.1 (fun g hg => hO6.block g (own_lt H4.out.2.2.2.1 g hg) (own_ne H4.out.2.2.2.1 H4.out.1 (by decide) g hg)); have HW6 := hide (And.intro hR6 (And.intro hO6 (And.intro hB6 hown6))); clear hR6 hO6 hB6 hown6) | (refine step_attr rfl _ _ rfl w.heap.size _ bl rfl (own_same HW6.out.2.2.2 (fun g hg => Below.heap_alloc _ _ _ (own_lt HW6.out.2.2.2 g hg))) (⟨nm.toArray⟩, ⟨pv.toArray⟩) w6.heap.size rfl (World.alloc_heap_new w6 _) (by omega) (by have h := HW6.out.2.1.size; simp at h; simp; omega) ?_; intro v7 w7 hown7 hgr7; obtain ⟨g7, c7, rfl⟩ := own_shape hown7; have hB7 : IsBg B ⟨x.toArray⟩ (.slice ga bl.length gc) w7 := (hgr7.block B (by have := (Array.getElem?_eq_some_iff.1 HW6.out.2.2.1).1; simp; omega) (fun e => absurd rfl (own_ne HW6.out.2.2.2 HW6.out.2.2.1 (by decide) B e.symm))).trans ((Below.heap_alloc _ _ _ ((Array.getElem?_eq_some_iff.1 HW6.out.2.2.1).1)).trans HW6.out.2.2.1); clear k0 k1 k2 k3 k4; obtain ⟨k0, k1, k2, k3, k4⟩ := hB7.cell))
          all_goals
            have hW8r : IsR r ⟨after.toArray⟩ (w7.setCell ⟨B, 1, none⟩ (.slice g7 (bl.length + 1) c7)) := (Below.heap_setCell _ _ _ _ (by simp; omega)).trans ((hgr7.block r (by have := (Array.getElem?_eq_some_iff.1 HW6.out.1).1; simp; omega) (fun e => absurd rfl (own_ne HW6.out.2.2.2 HW6.out.1 (by decide) r e.symm))).trans ((Below.heap_alloc _ _ _ (Array.getElem?_eq_some_iff.1 HW6.out.1).1).trans HW6.out.1))
            have HH := hide (And.intro hW8r (And.intro hown7 (And.intro hgr7 hB7)))
            clear hW8r hown7 hgr7 hB7
            go_wp2_with fail
            have htb : toB (acc ++ [(nm, pv)]) = bl ++ [(⟨nm.toArray⟩, ⟨pv.toArray⟩)] := by rw [← HBL.out]; simp [toB]
            have hb6 : Below w.heap.size w w6 := H4.out.2.2.2.2.drew.trans (HW6.out.2.1.below.mono (by omega))
            have hs6 : w5.heap.size ≤ w6.heap.size := HW6.out.2.1.size
            refine ⟨⟨f', after, acc ++ [(nm, pv)], .slice g7 (bl.length + 1) c7, by omega, by simpa using HCL.out.2, by simp; omega, HH.out.1, heap_setCell_same _ _ 1 _ _ _ HH.out.2.2.2, ?_, ?_, ?_⟩, ?_⟩
            · exact (Below.heap_setCell _ _ _ _ (by simp; omega)).trans ((HH.out.2.2.1.block w.heap.size (by simp; omega) (fun e => absurd rfl (own_ne HW6.out.2.2.2 ((HW6.out.2.1.block w.heap.size (by simp; omega) (by omega)).trans H4.out.2.2.1) (by decide) w.heap.size e.symm))).trans ((Below.heap_alloc _ _ _ (by omega)).trans ((HW6.out.2.1.block w.heap.size (by simp; omega) (by omega)).trans H4.out.2.2.1)))
            · rw [htb]
              have h := own_same (B := w7.setCell ⟨B, 1, none⟩ (.slice g7 (bl.length + 1) c7)) HH.out.2.1 (fun g hg => Below.heap_setCell _ _ _ _ (own_ne HH.out.2.1 HH.out.2.2.2 (by decide) g hg))
              simpa using h
            · exact ((hb6.alloc (by omega) _).grown HH.out.2.2.1 (by simp; omega) (fun k e => own_base HW6.out.2.2.2 k e)).setCell (p := ⟨B, 1, none⟩) (by simp; omega) _
            · rw [restLen_of HH.out.1, size_lst, arr_list]
              omega
end Go.Proofs.YthmidlmknkbdaaaDoor.Xm
