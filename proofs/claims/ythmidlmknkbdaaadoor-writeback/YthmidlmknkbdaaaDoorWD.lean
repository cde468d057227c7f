/- The document's parser: the pieces of a beginning. The document's parser: a beginning (it ends too). The document's parser: a beginning (it ends too). -/
import Derived.Test.YthmidlmknkbdaaaDoorRf3
import Derived.Deep.RegionHeld3
import Derived.Deep.RegionLawGrows
import Derived.Deep.RegionWith
namespace Go.Proofs.YthmidlmknkbdaaaDoor.Xm
open Go.RowKit

/-- How a tag ends that is right: the tokens that it tells, and the parser behind it. -/
def RfEnds (bt base p : Nat) (st' : PS) (vw : Value) (toks : List Tok) (w : World) (e : Ending) (w' : World) : Prop := ∃ v l vo', e = .returned (.tuple #[v, .int .i64 0]) ∧ l.map (·.1) = toks ∧ ElRow bt w' v l ∧ IsF base p st' vw vo' w' ∧ Only p w w'
/-- The pieces of a beginning: the text, what lies behind the first byte, what lies behind the name, the attributes. -/
structure BCuts (nm : ByteArray) (al : List AttrL) (ends : Bool) (s s1 r A : ByteArray) (k : Nat) : Prop where
  se : ⟨(60 :: (nm.data.toList ++ (atsB al ++ endsB ends)) ++ [62]).toArray⟩ = s
  ae : ⟨(atsB al).toArray⟩ = A
  z : s.size ≤ 2048
  z1 : s.size = s1.size + 1
  zk : s.size = 1 + k + r.size + 1
  za : (atsB al).length ≤ s.size
  zn : nm.size ≤ 32
  rs : r.size ≤ s.size
  e1 : s.extract 1 s.size = s1
  ex : s.extract 1 (1 + k) = nm
  er : s.extract (1 + k) (s.size - 1) = r
  n1 : (s1.data.toList.takeWhile isNm).length = k
  re : r = ⟨(atsB al ++ endsB ends).toArray⟩
theorem BCuts.rz {nm : ByteArray} {al : List AttrL} {s s1 r A : ByteArray} {k : Nat} (C : BCuts nm al true s s1 r A k) : 0 < r.size := by
  rw [C.re, mk_size]
  simp [endsB]
theorem BCuts.rl {nm : ByteArray} {al : List AttrL} {s s1 r A : ByteArray} {k : Nat} (C : BCuts nm al true s s1 r A k) (h : r.size - 1 < r.size) : r[r.size - 1]'h = 47 := by
  have e := C.re
  subst e
  have hz : (⟨(atsB al ++ endsB true).toArray⟩ : ByteArray).size - 1 = (atsB al).length := by rw [mk_size]; simp [endsB]
  have h2 : (atsB al).length < (⟨(atsB al ++ endsB true).toArray⟩ : ByteArray).size := by rw [mk_size]; simp [endsB]
  have : (⟨(atsB al ++ endsB true).toArray⟩ : ByteArray)[(atsB al).length]'h2 = 47 := by
    rw [mk_get, List.getElem_append_right (Nat.le_refl _)]
    simp [endsB]
  simpa only [hz] using this
theorem BCuts.ra {nm : ByteArray} {al : List AttrL} {s s1 r A : ByteArray} {k : Nat} (C : BCuts nm al true s s1 r A k) : r.extract 0 (r.size - 1) = A := by
  rw [C.re, mk_ext, mk_size, ← C.ae]
  simp [endsB]
theorem BCuts.rb {nm : ByteArray} {al : List AttrL} {s s1 r A : ByteArray} {k : Nat} (C : BCuts nm al false s s1 r A k) : r = A := by
  rw [C.re, ← C.ae]
  simp [endsB]
theorem atsB_last : ∀ (al : List AttrL), al ≠ [] → ∃ l, atsB al = l ++ [39]
  | [], h => absurd rfl h
  | [a], _ => ⟨32 :: (a.1 ++ (61 :: 39 :: esc a.2)), by simp [atsB, atB]⟩
  | a :: b :: l, _ => by
    obtain ⟨m, hm⟩ := atsB_last (b :: l) (by simp)
    refine ⟨atB a ++ m, ?_⟩
    rw [List.append_assoc, ← hm]
    simp [atsB]
theorem BCuts.rc {nm : ByteArray} {al : List AttrL} {s s1 r A : ByteArray} {k : Nat} (C : BCuts nm al false s s1 r A k) (h : al ≠ []) : 0 < r.size := by
  obtain ⟨l, hl⟩ := atsB_last al h
  rw [C.re, mk_size, hl]
  simp
  omega
theorem BCuts.rm {nm : ByteArray} {al : List AttrL} {s s1 r A : ByteArray} {k : Nat} (C : BCuts nm al false s s1 r A k) (h : r.size - 1 < r.size) (ha : al ≠ []) : r[r.size - 1]'h = 39 := by
  obtain ⟨l, hl⟩ := atsB_last al ha
  have e : r = ⟨(l ++ [39]).toArray⟩ := by rw [C.re, hl]; simp [endsB]
  subst e
  have hz : (⟨(l ++ [39]).toArray⟩ : ByteArray).size - 1 = l.length := by rw [mk_size]; simp
  have h2 : l.length < (⟨(l ++ [39]).toArray⟩ : ByteArray).size := by rw [mk_size]; simp
  have : (⟨(l ++ [39]).toArray⟩ : ByteArray)[l.length]'h2 = 39 := by
    rw [mk_get]
    simp
  simpa only [hz] using this
theorem bcuts (nm : ByteArray) (al : List AttrL) (ends : Bool) (h : nmB nm.data.toList = true) (hal : ∀ a ∈ al, nmB a.1 = true) (hl : (60 :: (nm.data.toList ++ (atsB al ++ endsB ends)) ++ [62]).length ≤ 2048) : ∃ s s1 r A k, BCuts nm al ends s s1 r A k := by
  obtain ⟨L, hL⟩ : ∃ L, nm.data.toList = L := ⟨_, rfl⟩
  have hnm : (⟨L.toArray⟩ : ByteArray) = nm := by rw [← hL]
  obtain ⟨R, hR⟩ : ∃ R, atsB al ++ endsB ends = R := ⟨_, rfl⟩
  have hk := nmB_len h
  rw [hL] at h hk
  refine ⟨⟨(60 :: (L ++ R) ++ [62]).toArray⟩, ⟨(L ++ R ++ [62]).toArray⟩, ⟨R.toArray⟩, ⟨(atsB al).toArray⟩, L.length, ?_⟩
  rw [hL, hR] at hl
  have hzl : (60 :: (L ++ R) ++ [62]).length = L.length + R.length + 2 := by simp; omega
  have haR : (atsB al).length ≤ R.length := by rw [← hR, List.length_append]; omega
  refine ⟨by rw [hL, hR], rfl, by rw [mk_size]; exact hl, by simp [mk_size], by simp only [mk_size]; omega, by rw [mk_size]; omega, by rw [size_lst, hL]; exact hk.2, by simp only [mk_size]; omega, ?_, ?_, ?_, ?_, by rw [hR]⟩
  · rw [mk_ext, mk_size, List.take_length]
    rfl
  · rw [mk_ext, show 1 + L.length = L.length + 1 by omega, ← hnm]
    simp
  · rw [mk_ext, mk_size, hzl, show 1 + L.length = L.length + 1 by omega, show L.length + R.length + 2 - 1 = (L.length + R.length) + 1 by omega]
    simp
    rw [show L ++ (R ++ [62]) = (L ++ R) ++ [62] by simp, List.take_append_of_le_length (by simp), List.take_of_length_le (by simp)]
    simp
  · rw [arr_list]
    have key : ∃ c t, R ++ [62] = c :: t ∧ isNm c = false := by
      rw [← hR]
      cases al with
      | nil => cases ends
               · exact ⟨62, [], rfl, by decide⟩
               · exact ⟨47, [62], rfl, by decide⟩
      | cons a l => exact ⟨32, _, by simp [atsB, atB]; rfl, by decide⟩
    obtain ⟨c, t, hct, hc⟩ := key
    rw [List.append_assoc, hct]
    exact tw_len L c t (nm_isNm h) hc
theorem attrC_get : ∀ (al : List (ByteArray × ByteArray)) (q : Nat) (x : ByteArray × ByteArray), al[q]? = some x → (attrCells al)[q * 2]? = some (.string x.1)
  | [], q, x, h => by simp at h
  | a :: l, 0, x, h => by
    simp at h
    subst h
    rfl
  | a :: l, q + 1, x, h => by
    have := attrC_get l q x (by simpa using h)
    rw [show (q + 1) * 2 = q * 2 + 1 + 1 by omega]
    exact this
theorem _root_.Go.World.ownsRow.attrs {w : World} {base n : Nat} {al : List (ByteArray × ByteArray)} {va : Option Addr} {vc : Nat} (h : w.ownsRow base 65 2 (.slice va n vc) al.length (attrCells al)) : ∀ (q : Nat) (x : ByteArray × ByteArray), al[q]? = some x → ∃ g, va = some ⟨g, 0, none⟩ ∧ g < w.heap.size ∧ w.cell? ⟨g, q * 2, none⟩ = some (.string x.1) := by
  intro q x hq
  have hlq := (List.getElem?_eq_some_iff.1 hq).1
  obtain ⟨_, ⟨h2, h3⟩ | ⟨g, cap, cur, hv, x1, x2, x3, x4, x5, x6⟩⟩ := h
  · omega
  · have e : va = some ⟨g, 0, none⟩ := by cases hv; rfl
    refine ⟨g, e, (Array.getElem?_eq_some_iff.1 x2).1, ?_⟩
    have hc := attrC_get al q x hq
    rw [← x6, List.getElem?_take_of_lt (by omega)] at hc
    simp [World.cell?, x2]
    simpa using hc
theorem own_lower {W : World} {b b' e s n : Nat} {v : Value} {xs : List Value} (h : W.ownsRow b e s v n xs) (hb : b' ≤ b) : W.ownsRow b' e s v n xs := by
  obtain ⟨h1, h2 | ⟨g, cap, cur, x0, x1, x2⟩⟩ := h
  · exact ⟨h1, .inl h2⟩
  · exact ⟨h1, .inr ⟨g, cap, cur, x0, Nat.le_trans hb x1, x2⟩⟩
theorem at_len {al : List AttrL} {a : AttrL} (h : a ∈ al) : a.1.length ≤ (atsB al).length ∧ a.2.length ≤ (atsB al).length := by
  have h2 := unesc_len (unesc_esc a.2)
  have h3 : (atB a).length ≤ (atsB al).length := by
    unfold atsB
    obtain ⟨s, t, rfl⟩ := List.append_of_mem h
    simp
    omega
  have h4 : (atB a).length = a.1.length + (esc a.2).length + 4 := by simp [atB]; omega
  omega
/-- The token that begins an element, in a row. -/
theorem rf_begun {base p bt n : Nat} {st : PS} {vw vo : Value} {nm : ByteArray} {al : List AttrL} {va : Option Addr} {vc : Nat} {w : World} (hP : IsF base p st vw vo w) (hown : w.ownsRow bt 65 2 (.slice va n vc) (toB al).length (attrCells (toB al))) (hn : (toB al).length = n) (hb : bt ≤ w.heap.size) (hnm : nm.size ≤ 32) (hl : (atsB al).length ≤ 2048) :
    IsF base p { st with rooted := true } vw vo ((w.setCell ⟨p, 3, none⟩ (.bool true)).alloc (.cells #[.int .u8 1, .string nm, .slice va n vc, .string ⟨#[]⟩] 55)) ∧
    ElRow bt ((w.setCell ⟨p, 3, none⟩ (.bool true)).alloc (.cells #[.int .u8 1, .string nm, .slice va n vc, .string ⟨#[]⟩] 55)) (.slice (some ⟨w.heap.size, 0, none⟩) 1 1) [(⟨1, nm, toB al, ⟨#[]⟩⟩, va, vc)] ∧
    Only p w ((w.setCell ⟨p, 3, none⟩ (.bool true)).alloc (.cells #[.int .u8 1, .string nm, .slice va n vc, .string ⟨#[]⟩] 55)) ∧
    ((w.setCell ⟨p, 3, none⟩ (.bool true)).alloc (.cells #[.int .u8 1, .string nm, .slice va n vc, .string ⟨#[]⟩] 55)).heap.size = w.heap.size + 1 := by
  have hP2 := hP.set (st' := { st with rooted := true }) (vw' := vw) (vo' := vo) (v := .bool true) 3 (by omega) hP.2.2.1 hP.2.2.2 rfl
  have hpl := hP.lt
  refine ⟨hP2.below ((Below.refl _ _).alloc (Nat.le_refl _) _), ?_, ((Only.refl p w).set _).trans (Only.of_below ((Below.refl _ _).alloc (Nat.le_refl _) _) (by rw [World.size_setCell]; omega)), by simp⟩
  have hh := World.alloc_heap_new (w.setCell ⟨p, 3, none⟩ (.bool true)) (.cells #[.int .u8 1, .string nm, .slice va n vc, .string ⟨#[]⟩] 55)
  rw [World.size_setCell] at hh
  subst hn
  refine ⟨⟨by simp [tokC], .inr ⟨w.heap.size, 1, _, rfl, hb, hh, Nat.le_refl _, by unfold maxLen; omega, by simp, by simp [tokC]⟩⟩, fun x hx => ?_⟩
  simp only [List.mem_singleton] at hx
  subst hx
  have hal : al.length ≤ 2048 := Nat.le_trans (atsB_len al) hl
  refine ⟨own_same hown (fun g hg => (Below.heap_alloc _ _ _ (by rw [World.size_setCell]; exact own_lt hown g hg)).trans (Below.heap_setCell _ _ _ _ (own_ne0 hown hP.2.1 (by decide) g hg))), ⟨by simp, by show nm.size ≤ _; omega, Nat.zero_le _, by show (toB al).length ≤ _; simp [toB]; omega, fun a ha => ?_⟩⟩
  have ha' : a ∈ toB al := ha
  unfold toB at ha'
  obtain ⟨b, hb', rfl⟩ := List.mem_map.1 ha'
  have := at_len hb'
  simp only [mk_size]
  omega
theorem nameC_one (l : List ByteArray) : ∀ u ∈ nameCells l, u.oneCell' = true := by
  intro u hu
  obtain ⟨x, _, h⟩ := List.mem_map.1 hu
  rw [← h]
  rfl
/-- Names are put into a new row. -/
theorem append_nms (w : World) {ops : Array Oper} {rest : List Oper} {o : Oper} {a : Act} {Q : Exit → Act → World → Prop} (hg : o.guard = none) (s x : Operand)
    (hop : o.op = Op.call { callee := Callee.builtin Builtin.append, args := #[s, x], argTypes := #[66, 66] }) (base b2 : Nat) (v v2 : Value) (xs l2 : List ByteArray) (hs : a.eval s = v) (hx : a.eval x = v2) (hE : w.ownsRow base 9 1 v xs.length (nameCells xs)) (hE2 : w.ownsRow b2 9 1 v2 l2.length (nameCells l2))
    (hl : xs.length ≤ 2000) (hl2 : l2.length ≤ 2000) (hb : base ≤ w.heap.size)
    (hK : ∀ v' w', w'.ownsRow base 9 1 v' (xs ++ l2).length (nameCells (xs ++ l2)) → w.grownBy w' v.ownBlock → wpList Tryd.prog ops Q rest (a.put o.dst v') w') : wpList Tryd.prog ops Q (o :: rest) a w := by
  obtain ⟨i, hi, hz0, hz1, hz2⟩ := info_parts infoString
  obtain ⟨h21, ⟨e2, hn2⟩ | ⟨g, cap, cur, e2, hbg, hgg, hcc, hm, hsz, htk⟩⟩ := id hE2
  · have hl0 : l2 = [] := List.eq_nil_of_length_eq_zero hn2
    subst hl0
    subst e2
    obtain ⟨b, c, rfl⟩ := own_shape hE
    have hcap : (b = none → xs.length = 0 ∧ c = 0) ∧ xs.length ≤ c := by
      obtain ⟨_, ⟨e1, hn1⟩ | ⟨g, cap, cur, e1, _, _, hcc, _⟩⟩ := id hE
      · have e1' : b = none ∧ xs.length = 0 ∧ c = 0 := by simpa using e1
        exact ⟨fun _ => e1'.2, by omega⟩
      · have e1' : b = some ⟨g, 0, none⟩ ∧ c = cap := by simpa using e1
        exact ⟨fun h => absurd (e1'.1.symm.trans h) (by simp), by rw [e1'.2]; exact hcc⟩
    have hrun := run_append_none (P := Tryd.prog) w 66 o.type 9 i Tryd.underlying66 hi b xs.length c hcap.1 hcap.2
    refine wpList_plain hg fun K hK' => ?_
    unfold Oper.wp
    simp [execOp, hop, resolve, invoke, builtin, hs, hx, hrun, Result.andThen]
    exact hK' _ _ (hK _ w (by simpa using hE) ⟨rfl, rfl, rfl, Nat.le_refl _, fun _ _ _ => rfl⟩)
  · subst e2
    refine wpList_append_own w hg s x 66 hop base 9 i _ 1 16 Tryd.underlying66 hi hz0 hz1 hz2 rfl (by decide) v xs.length (nameCells xs) hs hE ⟨g, 0, none⟩ l2.length cap (nameCells l2) hx (by simp [nameCells]) (hE2.cells rfl) (nameC_one l2) (by unfold maxLen; omega) (by omega) hb ?_
    intro v' w' ho hgr _
    exact hK v' w' (by rw [List.length_append, show nameCells (xs ++ l2) = nameCells xs ++ nameCells l2 by simp [nameCells]]; exact ho) hgr
theorem empty_own {w : World} {base : Nat} {e : TypeId} (hb : base ≤ w.heap.size) : (w.alloc (.cells #[] e)).ownsRow base e 1 (.slice (some ⟨w.heap.size, 0, none⟩) 0 0) 0 [] := ⟨rfl, .inr ⟨w.heap.size, 0, #[], rfl, hb, World.alloc_heap_new w _, Nat.le_refl _, by unfold maxLen; omega, by simp, by simp⟩⟩
theorem one_own {w : World} {base : Nat} {e : TypeId} {u : Value} (hb : base ≤ w.heap.size) : (w.alloc (.cells #[u] e)).ownsRow base e 1 (.slice (some ⟨w.heap.size, 0, none⟩) 1 1) 1 [u] := ⟨rfl, .inr ⟨w.heap.size, 1, #[u], rfl, hb, World.alloc_heap_new w _, Nat.le_refl _, by unfold maxLen; omega, by simp, by simp⟩⟩
theorem ElRow.setF {bt p i : Nat} {w : World} {v x : Value} {l : List TokV} {cs : Array Value} (h : ElRow bt w v l) (hp : w.heap[p]? = some (.cells cs 68)) : ElRow bt (w.setCell ⟨p, i, none⟩ x) v l :=
  ⟨own_same h.1 (fun g hg => Below.heap_setCell _ _ _ _ (own_ne0 h.1 hp (by decide) g hg)), fun y hy => ⟨own_same (h.2 y hy).1 (fun g hg => Below.heap_setCell _ _ _ _ (own_ne0 (h.2 y hy).1 hp (by decide) g hg)), (h.2 y hy).2⟩⟩
theorem IsF.grown {base p bt : Nat} {st : PS} {vw vo v : Value} {l : List TokV} {w w' : World} (h : IsF base p st vw vo w) (hE : ElRow bt w v l) (hgr : w.grownBy w' v.ownBlock) : IsF base p st vw vo w' :=
  ⟨h.1, (hgr.block p h.lt (fun e => own_ne0 hE.1 h.2.1 (by decide) p e.symm rfl)).trans h.2.1, own_same h.2.2.1 (fun g hg => hgr.block g (own_lt h.2.2.1 g hg) (own_types h.2.2.1 hE.1 (by decide) g hg)), own_same h.2.2.2 (fun g hg => hgr.block g (own_lt h.2.2.2 g hg) (own_types h.2.2.2 hE.1 (by decide) g hg))⟩
end Go.Proofs.YthmidlmknkbdaaaDoor.Xm
namespace Go.Proofs.YthmidlmknkbdaaaDoor.Xm
open Go.RowKit

set_option maxRecDepth 100000 in
set_option maxHeartbeats 4000000 in
theorem rfBegin_a0 (base p bt : Nat) (st : PS) (vw vo : Value) (nm : ByteArray) (al : List AttrL) (w : World) (hP : IsF base p st vw vo w) (hn : nmB nm.data.toList = true) (hal : ∀ a ∈ al, nmB a.1 = true) (hl : (60 :: (nm.data.toList ++ (atsB al ++ endsB true)) ++ [62]).length ≤ 2048) (hbt : bt ≤ w.heap.size) (_hb4 : base ≤ w.heap.size) (h8 : al.length ≤ 8) (hno : NoRep (toB al)) (hop : st.op.length = 0) (hro : st.rooted = false) :
    Calls Tryd.prog 62 #[.pointer (some ⟨p, 0, none⟩), .string ⟨(60 :: (nm.data.toList ++ (atsB al ++ endsB true)) ++ [62]).toArray⟩] w fun e w' => RfEnds bt base p { st with rooted := true } vw [⟨1, nm, toB al, ⟨#[]⟩⟩, ⟨2, nm, [], ⟨#[]⟩⟩] w e w' := by
  obtain ⟨c0, c1, c2, c3, c4, c5, cf⟩ := hP.cells
  have cf2 := cf 2 (by omega)
  have cf3 := cf 3 (by omega)
  obtain ⟨ga, gc, rfl⟩ := own_shape hP.2.2.2
  obtain ⟨s, s1, r, A, k, C⟩ := bcuts nm al true hn hal hl
  rw [C.se]
  have hna := rfName_is s1 k w (by have := C.z; have := C.z1; omega) C.n1
  have hny := fun w => refName_yes nm w (by have := C.zn; omega) hn
  have hat := fun w => rfAttrs_any al w hal (by have := C.za; have := C.z; omega)
  rw [C.ae] at hat
  have e1 := C.e1
  have ex := C.ex
  have er := C.er
  have i1 : (1 : Int) ≤ s.size := by have := C.z1; omega
  have i2 : IntKind.i64.wrap (1 + (k : Int)) = 1 + k := by have := C.zk; have := C.z; rw [IntKind.wrap_i64]; omega
  have i3 : (1 : Int) + k ≤ s.size := by have := C.zk; omega
  have i4 : IntKind.i64.wrap ((s.size : Int) - 1) = (s.size : Int) - 1 := by have := C.z; rw [IntKind.wrap_i64]; omega
  have i5 : ((s.size : Int) - 1).toNat = s.size - 1 := by have := C.z1; omega
  have i6 : (1 : Int) + k ≤ (s.size : Int) - 1 := by have := C.zk; omega
  have i7 : (1 : Int) ≤ 1 + k := by omega
  have i8 : ¬ ((1 : Int) + k < 1) := by omega
  have i9 : (0 : Int) ≤ 1 + k := by omega
  have i10 : (1 + (k : Int)).toNat = 1 + k := by omega
  have i11 : ¬ ((s.size : Int) - 1 < 1 + k) := by omega
  have i12 : (s.size : Int) - 1 ≤ s.size := by omega
  have i13 : (0 : Int) ≤ (s.size : Int) - 1 := by omega
  have rz := C.rz
  have r1 : (0 : Int) < r.size := by omega
  have r2 : IntKind.i64.wrap ((r.size : Int) - 1) = (r.size : Int) - 1 := by have := C.z; have := C.rs; rw [IntKind.wrap_i64]; omega
  have r3 : (0 : Int) ≤ (r.size : Int) - 1 := by omega
  have r4 : (r.size : Int) - 1 < r.size := by omega
  have r5 : ((r.size : Int) - 1).toNat = r.size - 1 := by omega
  have r6 : r.size - 1 < r.size := by omega
  have r7 : r[r.size - 1]'r6 = 47 := C.rl r6
  have r8 : r.extract 0 (r.size - 1) = A := C.ra
  have r9 : (r.size : Int) - 1 ≤ r.size := by omega
  clear rz
  rw [hop] at c2
  rw [hro] at c3
  have HB := hide (And.intro hna (And.intro hny hat))
  have HP := hide (And.intro hP (And.intro hno h8))
  have HC := hide C
  have hkn : nm.size ≤ 32 := C.zn
  have HOP := hide (And.intro hop hro)
  have hpl := hP.lt
  clear hna hny hat hP hno C cf hop hro hl hn hal
  go_enter Tryd.func62, Tryd.ntmps62
  go_wp2_with fail
  refine HB.out.1.mono ?_
  rintro e w1 ⟨rfl, hw1⟩
  rw [hw1]
  clear hw1 w1
  go_wp2_with fail
  refine (HB.out.2.2 _).mono ?_
  rintro e w1 ⟨v1, rfl, hown1, hb1⟩
  have hz1 := hb1.size
  have hP1 := HP.out.1.below hb1
  obtain ⟨d0, d1, d2, d3, d4, d5, df⟩ := hP1.cells
  have df2 := df 2 (by omega)
  have df3 := df 3 (by omega)
  rw [HOP.out.1] at d2
  rw [HOP.out.2] at d3
  obtain ⟨va, vc, rfl⟩ := own_shape hown1
  have H1 := hide (And.intro hown1 (And.intro hb1 hP1))
  clear hown1 hb1 hP1 df c0 c1 c2 c3 c4 c5 cf2 cf3
  go_wp2_with fail
  refine (HB.out.2.1 _).mono ?_
  rintro e w2 ⟨rfl, hw2⟩
  rw [hw2]
  clear hw2 w2
  obtain ⟨n, hnn⟩ : ∃ n, (toB al).length = n := ⟨_, rfl⟩
  rw [hnn]
  have hn8 : (n : Int) ≤ 8 := by rw [← hnn]; simp [toB]; exact_mod_cast h8
  have n1 : ¬ ((8 : Int) < n) := by omega
  have HN := hide hnn
  clear hnn
  have n2 : n ≤ 8 := by omega
  have HA := hide (H1.out.1.attrs)
  go_wp2_with fail
  go_loopw [12] (fun i wr => ∃ q : Nat, q ≤ n ∧ i = .int .i64 q ∧ Below w1.heap.size w1 wr) (fun i _ => n - (intOf i).toNat)
  case atStart => exact ⟨0, Nat.zero_le _, rfl, Below.refl _ _⟩
  case round =>
    obtain ⟨q, hq, rfl, hbw⟩ := hrel
    have HW := hide hbw
    have hzw := hbw.size
    clear hbw
    by_cases hlt : (q : Int) < n
    · go_wp2_with fail
      go_loopw [13] (fun j wq => ∃ q2 : Nat, q2 ≤ q ∧ j = .int .i64 q2 ∧ Below w1.heap.size w1 wq) (fun j _ => q - (intOf j).toNat)
      case atStart => exact ⟨0, Nat.zero_le _, rfl, HW.out⟩
      case round =>
        obtain ⟨q2, hq2, rfl, hbw2⟩ := hrel
        have HW2 := hide hbw2
        clear hbw2
        by_cases hlt2 : (q2 : Int) < q
        · have hlq : q < (toB al).length := by rw [HN.out]; omega
          have hlq2 : q2 < (toB al).length := by omega
          have hx := HP.out.2.1 q q2 _ _ (by omega) (List.getElem?_eq_getElem hlq) (List.getElem?_eq_getElem hlq2)
          obtain ⟨x, hxe⟩ : ∃ x, (toB al)[q] = x := ⟨_, rfl⟩
          obtain ⟨y, hye⟩ : ∃ y, (toB al)[q2] = y := ⟨_, rfl⟩
          rw [hxe, hye] at hx
          obtain ⟨g, hva, hgl, fx⟩ := HA.out q x (by rw [List.getElem?_eq_getElem hlq, hxe])
          obtain ⟨g', hva', _, fy⟩ := HA.out q2 y (by rw [List.getElem?_eq_getElem hlq2, hye])
          subst hva
          cases hva'
          have fx1 := (HW2.out.cell (p := ⟨g, _, none⟩) hgl).trans fx
          have fy1 := (HW2.out.cell (p := ⟨g, _, none⟩) hgl).trans fy
          have hne : (y.1.toList == x.1.toList) = false := str_ne (fun e => hx e.symm)
          have k1 : (q : Int) < n := hlt
          have k2 : (q2 : Int) < n := by omega
          have k3 : (0 : Int) ≤ q := by omega
          have k4 : (0 : Int) ≤ q2 := by omega
          clear fx fy hxe hye hx
          go_wp2_with fail
          go_region
          all_goals
            go_wp2_with fail
            go_roundw
            case rel => exact ⟨q2 + 1, by omega, by simp, HW2.out.drew⟩
            case measure => simp [intOf]; omega
        · go_wp2_with fail
          go_roundw
          case rel => exact ⟨q + 1, by omega, by simp, HW2.out⟩
          case measure => simp [intOf]; omega
    · have hPr := H1.out.2.2.below HW.out
      obtain ⟨t0, t1, t2, t3, t4, t5, tf⟩ := hPr.cells
      have tf2 := tf 2 (by omega)
      have tf3 := tf 3 (by omega)
      rw [HOP.out.1] at t2
      have hown2 : wr.ownsRow bt 65 2 (.slice va n vc) (toB al).length (attrCells (toB al)) := by
        rw [← HN.out]
        exact own_lower (own_same H1.out.1 (fun g hg => HW.out.block g (own_lt H1.out.1 g hg))) hbt
      have hza : (atsB al).length ≤ 2048 := by have := HC.out.za; have := HC.out.z; omega
      obtain ⟨hP3, hE3, hO3, hz3⟩ := rf_begun (nm := nm) hPr hown2 HN.out (by omega) hkn hza
      obtain ⟨W3, hW3⟩ : ∃ W3, (wr.setCell ⟨p, 3, none⟩ (.bool true)).alloc (.cells #[.int .u8 1, .string nm, .slice va n vc, .string ⟨#[]⟩] 55) = W3 := ⟨_, rfl⟩
      rw [hW3] at hP3 hE3 hO3 hz3
      have hOw : Only p w W3 := (Only.of_below (H1.out.2.1.trans (HW.out.mono hz1)) (by omega)).trans hO3
      have HPr := hide (And.intro hP3 (And.intro hE3 (And.intro hOw hz3)))
      have HW3 := hide hW3
      clear hPr tf d0 d1 d2 d3 d4 d5 df2 df3 hP3 hE3 hO3 hz3 hOw hW3 hown2
      go_wp2_with (at_builtin; refine stopHere ?_)
      unfold Hid
      rw [HW3.out]
      have hEa := HPr.out.2.1.below ((Below.refl W3.heap.size W3).alloc (Nat.le_refl _) (.cells #[.int .u8 2, .string nm, .slice none 0 0, .string ⟨#[]⟩] 55))
      have hPa := HPr.out.1.below ((Below.refl W3.heap.size W3).alloc (Nat.le_refl _) (.cells #[.int .u8 2, .string nm, .slice none 0 0, .string ⟨#[]⟩] 55))
      refine append_tok2 _ rfl _ _ rfl bt _ [(⟨1, nm, toB al, ⟨#[]⟩⟩, va, vc)] (⟨2, nm, [], ⟨#[]⟩⟩, none, 0) rfl hEa ⟨World.ownsRow_nil _ _ _ _, ⟨by simp, by show nm.size ≤ _; omega, Nat.zero_le _, Nat.zero_le _, fun a h => by simp at h⟩⟩ (wr.heap.size + 1) rfl (by rw [← HPr.out.2.2.2]; exact World.alloc_heap_new W3 _) (by simp) (by simp; have := HPr.out.2.2.2; omega) ?_
      intro v5 w5 hE5 hgr5
      have hP5 := hPa.grown hEa hgr5
      have hO5 : Only p w w5 := by
        have hb0 := HPr.out.2.2.1.below.alloc (Nat.le_trans (Nat.le_of_lt hpl) HPr.out.2.2.1.size) (.cells #[.int .u8 2, .string nm, .slice none 0 0, .string ⟨#[]⟩] 55)
        refine ⟨hb0.grown hgr5 (Nat.le_of_lt hPa.lt) (fun g hg => by have e' : some wr.heap.size = some g := hg; cases e'; omega), Nat.le_trans hb0.size hgr5.size, fun j hj hjp => ?_⟩
        have hj3 := Nat.lt_of_lt_of_le hj HPr.out.2.2.1.size
        exact (hgr5.block j (by simp; omega) (fun e => by have e' : some j = some wr.heap.size := e; cases e'; omega)).trans ((Below.heap_alloc _ _ _ hj3).trans (HPr.out.2.2.1.block j hj hjp))
      have H5 := hide (And.intro hE5 (And.intro hP5 hO5))
      clear hE5 hP5 hO5 hgr5 hEa hPa
      go_wp2_with fail
      go_ret2
      exact ⟨v5, _, _, rfl, rfl, H5.out.1, H5.out.2.1, H5.out.2.2⟩
end Go.Proofs.YthmidlmknkbdaaaDoor.Xm
namespace Go.Proofs.YthmidlmknkbdaaaDoor.Xm
open Go.RowKit

set_option maxRecDepth 100000 in
set_option maxHeartbeats 4000000 in
theorem rfBegin_a1 (base p bt : Nat) (st : PS) (vw vo : Value) (nm : ByteArray) (al : List AttrL) (w : World) (hP : IsF base p st vw vo w) (hn : nmB nm.data.toList = true) (hal : ∀ a ∈ al, nmB a.1 = true) (hl : (60 :: (nm.data.toList ++ (atsB al ++ endsB true)) ++ [62]).length ≤ 2048) (hbt : bt ≤ w.heap.size) (_hb4 : base ≤ w.heap.size) (h8 : al.length ≤ 8) (hno : NoRep (toB al)) (hop : 0 < st.op.length) (hop8 : st.op.length < 8) :
    Calls Tryd.prog 62 #[.pointer (some ⟨p, 0, none⟩), .string ⟨(60 :: (nm.data.toList ++ (atsB al ++ endsB true)) ++ [62]).toArray⟩] w fun e w' => RfEnds bt base p { st with rooted := true } vw [⟨1, nm, toB al, ⟨#[]⟩⟩, ⟨2, nm, [], ⟨#[]⟩⟩] w e w' := by
  obtain ⟨c0, c1, c2, c3, c4, c5, cf⟩ := hP.cells
  have cf2 := cf 2 (by omega)
  have cf3 := cf 3 (by omega)
  obtain ⟨ga, gc, rfl⟩ := own_shape hP.2.2.2
  obtain ⟨s, s1, r, A, k, C⟩ := bcuts nm al true hn hal hl
  rw [C.se]
  have hna := rfName_is s1 k w (by have := C.z; have := C.z1; omega) C.n1
  have hny := fun w => refName_yes nm w (by have := C.zn; omega) hn
  have hat := fun w => rfAttrs_any al w hal (by have := C.za; have := C.z; omega)
  rw [C.ae] at hat
  have e1 := C.e1
  have ex := C.ex
  have er := C.er
  have i1 : (1 : Int) ≤ s.size := by have := C.z1; omega
  have i2 : IntKind.i64.wrap (1 + (k : Int)) = 1 + k := by have := C.zk; have := C.z; rw [IntKind.wrap_i64]; omega
  have i3 : (1 : Int) + k ≤ s.size := by have := C.zk; omega
  have i4 : IntKind.i64.wrap ((s.size : Int) - 1) = (s.size : Int) - 1 := by have := C.z; rw [IntKind.wrap_i64]; omega
  have i5 : ((s.size : Int) - 1).toNat = s.size - 1 := by have := C.z1; omega
  have i6 : (1 : Int) + k ≤ (s.size : Int) - 1 := by have := C.zk; omega
  have i7 : (1 : Int) ≤ 1 + k := by omega
  have i8 : ¬ ((1 : Int) + k < 1) := by omega
  have i9 : (0 : Int) ≤ 1 + k := by omega
  have i10 : (1 + (k : Int)).toNat = 1 + k := by omega
  have i11 : ¬ ((s.size : Int) - 1 < 1 + k) := by omega
  have i12 : (s.size : Int) - 1 ≤ s.size := by omega
  have i13 : (0 : Int) ≤ (s.size : Int) - 1 := by omega
  have rz := C.rz
  have r1 : (0 : Int) < r.size := by omega
  have r2 : IntKind.i64.wrap ((r.size : Int) - 1) = (r.size : Int) - 1 := by have := C.z; have := C.rs; rw [IntKind.wrap_i64]; omega
  have r3 : (0 : Int) ≤ (r.size : Int) - 1 := by omega
  have r4 : (r.size : Int) - 1 < r.size := by omega
  have r5 : ((r.size : Int) - 1).toNat = r.size - 1 := by omega
  have r6 : r.size - 1 < r.size := by omega
  have r7 : r[r.size - 1]'r6 = 47 := C.rl r6
  have r8 : r.extract 0 (r.size - 1) = A := C.ra
  have r9 : (r.size : Int) - 1 ≤ r.size := by omega
  clear rz
  obtain ⟨no, hnoe⟩ : ∃ no, st.op.length = no := ⟨_, rfl⟩
  rw [hnoe] at c2
  have o1 : ¬ ((no : Int) = 0) := by omega
  have o1' : ¬ (no = 0) := by omega
  have o2 : ¬ ((8 : Int) ≤ no) := by omega
  have HNO := hide hnoe
  have HB := hide (And.intro hna (And.intro hny hat))
  have HP := hide (And.intro hP (And.intro hno h8))
  have HC := hide C
  have hkn : nm.size ≤ 32 := C.zn
  have HOP := hide (And.intro hop hop8)
  have hpl := hP.lt
  clear hna hny hat hP hno C cf hop hop8 hnoe hl hn hal
  go_enter Tryd.func62, Tryd.ntmps62
  go_wp2_with fail
  refine HB.out.1.mono ?_
  rintro e w1 ⟨rfl, hw1⟩
  rw [hw1]
  clear hw1 w1
  go_wp2_with fail
  refine (HB.out.2.2 _).mono ?_
  rintro e w1 ⟨v1, rfl, hown1, hb1⟩
  have hz1 := hb1.size
  have hP1 := HP.out.1.below hb1
  obtain ⟨d0, d1, d2, d3, d4, d5, df⟩ := hP1.cells
  have df2 := df 2 (by omega)
  have df3 := df 3 (by omega)
  obtain ⟨va, vc, rfl⟩ := own_shape hown1
  rw [HNO.out] at d2
  have H1 := hide (And.intro hown1 (And.intro hb1 hP1))
  clear hown1 hb1 hP1 df c0 c1 c2 c3 c4 c5 cf2 cf3
  go_wp2_with fail
  refine (HB.out.2.1 _).mono ?_
  rintro e w2 ⟨rfl, hw2⟩
  rw [hw2]
  clear hw2 w2
  obtain ⟨n, hnn⟩ : ∃ n, (toB al).length = n := ⟨_, rfl⟩
  rw [hnn]
  have hn8 : (n : Int) ≤ 8 := by rw [← hnn]; simp [toB]; exact_mod_cast h8
  have n1 : ¬ ((8 : Int) < n) := by omega
  have HN := hide hnn
  clear hnn
  have n2 : n ≤ 8 := by omega
  have HA := hide (H1.out.1.attrs)
  go_wp2_with fail
  go_loopw [12] (fun i wr => ∃ q : Nat, q ≤ n ∧ i = .int .i64 q ∧ Below w1.heap.size w1 wr) (fun i _ => n - (intOf i).toNat)
  case atStart => exact ⟨0, Nat.zero_le _, rfl, Below.refl _ _⟩
  case round =>
    obtain ⟨q, hq, rfl, hbw⟩ := hrel
    have HW := hide hbw
    have hzw := hbw.size
    clear hbw
    by_cases hlt : (q : Int) < n
    · go_wp2_with fail
      go_loopw [13] (fun j wq => ∃ q2 : Nat, q2 ≤ q ∧ j = .int .i64 q2 ∧ Below w1.heap.size w1 wq) (fun j _ => q - (intOf j).toNat)
      case atStart => exact ⟨0, Nat.zero_le _, rfl, HW.out⟩
      case round =>
        obtain ⟨q2, hq2, rfl, hbw2⟩ := hrel
        have HW2 := hide hbw2
        clear hbw2
        by_cases hlt2 : (q2 : Int) < q
        · have hlq : q < (toB al).length := by rw [HN.out]; omega
          have hlq2 : q2 < (toB al).length := by omega
          have hx := HP.out.2.1 q q2 _ _ (by omega) (List.getElem?_eq_getElem hlq) (List.getElem?_eq_getElem hlq2)
          obtain ⟨x, hxe⟩ : ∃ x, (toB al)[q] = x := ⟨_, rfl⟩
          obtain ⟨y, hye⟩ : ∃ y, (toB al)[q2] = y := ⟨_, rfl⟩
          rw [hxe, hye] at hx
          obtain ⟨g, hva, hgl, fx⟩ := HA.out q x (by rw [List.getElem?_eq_getElem hlq, hxe])
          obtain ⟨g', hva', _, fy⟩ := HA.out q2 y (by rw [List.getElem?_eq_getElem hlq2, hye])
          subst hva
          cases hva'
          have fx1 := (HW2.out.cell (p := ⟨g, _, none⟩) hgl).trans fx
          have fy1 := (HW2.out.cell (p := ⟨g, _, none⟩) hgl).trans fy
          have hne : (y.1.toList == x.1.toList) = false := str_ne (fun e => hx e.symm)
          have k1 : (q : Int) < n := hlt
          have k2 : (q2 : Int) < n := by omega
          have k3 : (0 : Int) ≤ q := by omega
          have k4 : (0 : Int) ≤ q2 := by omega
          clear fx fy hxe hye hx
          go_wp2_with fail
          go_region
          all_goals
            go_wp2_with fail
            go_roundw
            case rel => exact ⟨q2 + 1, by omega, by simp, HW2.out.drew⟩
            case measure => simp [intOf]; omega
        · go_wp2_with fail
          go_roundw
          case rel => exact ⟨q + 1, by omega, by simp, HW2.out⟩
          case measure => simp [intOf]; omega
    · have hPr := H1.out.2.2.below HW.out
      obtain ⟨t0, t1, t2, t3, t4, t5, tf⟩ := hPr.cells
      have tf2 := tf 2 (by omega)
      have tf3 := tf 3 (by omega)
      rw [HNO.out] at t2
      have hown2 : wr.ownsRow bt 65 2 (.slice va n vc) (toB al).length (attrCells (toB al)) := by
        rw [← HN.out]
        exact own_lower (own_same H1.out.1 (fun g hg => HW.out.block g (own_lt H1.out.1 g hg))) hbt
      have hza : (atsB al).length ≤ 2048 := by have := HC.out.za; have := HC.out.z; omega
      obtain ⟨hP3, hE3, hO3, hz3⟩ := rf_begun (nm := nm) hPr hown2 HN.out (by omega) hkn hza
      obtain ⟨W3, hW3⟩ : ∃ W3, (wr.setCell ⟨p, 3, none⟩ (.bool true)).alloc (.cells #[.int .u8 1, .string nm, .slice va n vc, .string ⟨#[]⟩] 55) = W3 := ⟨_, rfl⟩
      rw [hW3] at hP3 hE3 hO3 hz3
      have hOw : Only p w W3 := (Only.of_below (H1.out.2.1.trans (HW.out.mono hz1)) (by omega)).trans hO3
      have HPr := hide (And.intro hP3 (And.intro hE3 (And.intro hOw hz3)))
      have HW3 := hide hW3
      clear hPr tf d0 d1 d2 d3 d4 d5 df2 df3 hP3 hE3 hO3 hz3 hOw hW3 hown2
      go_wp2_with (at_builtin; refine stopHere ?_)
      unfold Hid
      rw [HW3.out]
      have hEa := HPr.out.2.1.below ((Below.refl W3.heap.size W3).alloc (Nat.le_refl _) (.cells #[.int .u8 2, .string nm, .slice none 0 0, .string ⟨#[]⟩] 55))
      have hPa := HPr.out.1.below ((Below.refl W3.heap.size W3).alloc (Nat.le_refl _) (.cells #[.int .u8 2, .string nm, .slice none 0 0, .string ⟨#[]⟩] 55))
      refine append_tok2 _ rfl _ _ rfl bt _ [(⟨1, nm, toB al, ⟨#[]⟩⟩, va, vc)] (⟨2, nm, [], ⟨#[]⟩⟩, none, 0) rfl hEa ⟨World.ownsRow_nil _ _ _ _, ⟨by simp, by show nm.size ≤ _; omega, Nat.zero_le _, Nat.zero_le _, fun a h => by simp at h⟩⟩ (wr.heap.size + 1) rfl (by rw [← HPr.out.2.2.2]; exact World.alloc_heap_new W3 _) (by simp) (by simp; have := HPr.out.2.2.2; omega) ?_
      intro v5 w5 hE5 hgr5
      have hP5 := hPa.grown hEa hgr5
      have hO5 : Only p w w5 := by
        have hb0 := HPr.out.2.2.1.below.alloc (Nat.le_trans (Nat.le_of_lt hpl) HPr.out.2.2.1.size) (.cells #[.int .u8 2, .string nm, .slice none 0 0, .string ⟨#[]⟩] 55)
        refine ⟨hb0.grown hgr5 (Nat.le_of_lt hPa.lt) (fun g hg => by have e' : some wr.heap.size = some g := hg; cases e'; omega), Nat.le_trans hb0.size hgr5.size, fun j hj hjp => ?_⟩
        have hj3 := Nat.lt_of_lt_of_le hj HPr.out.2.2.1.size
        exact (hgr5.block j (by simp; omega) (fun e => by have e' : some j = some wr.heap.size := e; cases e'; omega)).trans ((Below.heap_alloc _ _ _ hj3).trans (HPr.out.2.2.1.block j hj hjp))
      have H5 := hide (And.intro hE5 (And.intro hP5 hO5))
      clear hE5 hP5 hO5 hgr5 hEa hPa
      go_wp2_with fail
      go_ret2
      exact ⟨v5, _, _, rfl, rfl, H5.out.1, H5.out.2.1, H5.out.2.2⟩
end Go.Proofs.YthmidlmknkbdaaaDoor.Xm
