/- The document's parser: an ending. -/
import Derived.Test.YthmidlmknkbdaaaDoorWC
import Derived.Deep.RegionHeld3
import Derived.Deep.RegionLawGrows
import Derived.Deep.RegionWith
namespace Go.Proofs.YthmidlmknkbdaaaDoor.Xm
open Go.RowKit

/-- Names are put into a new row: a step of a region that draws. -/
theorem step_nms {ops : Array Oper} {o : Oper} {a : Act} {w : World} {K : Act → World → Prop} {Q : Exit → Act → World → Prop} {E : Prop} (hg : o.guard = none) (s x : Operand)
    (hop : o.op = Op.call { callee := Callee.builtin Builtin.append, args := #[s, x], argTypes := #[66, 66] }) (base : Nat) (v : Value) (hs : a.eval s = v) (hE : w.ownsRow base 9 1 v 0 []) (xs : List ByteArray) (b n c : Nat)
    (hx : a.eval x = .slice (some ⟨b, 0, none⟩) n c) (hn : n = xs.length) (hc : ∀ j z, (nameCells xs)[j]? = some z → w.cell? ⟨b, j, none⟩ = some z) (hl : n ≤ 2000) (hb : base ≤ w.heap.size)
    (hK : ∀ v' w', w'.ownsRow base 9 1 v' n (nameCells xs) → w.grownBy w' v.ownBlock → (v'.ownBlock = v.ownBlock ∨ v'.ownBlock = some w.heap.size) → K (a.put o.dst v') w') :
    if Region.wanted o (yielded ops a.tmps) = true then Oper.wp Tryd.prog o a w K Q else E := by
  have hw : Region.wanted o (yielded ops a.tmps) = true := by simp [Region.wanted, hg]
  rw [if_pos hw]
  obtain ⟨i, hi, hz0, hz1, hz2⟩ := info_parts infoString
  obtain ⟨v', w', hrun, r1, r2, _, r4⟩ := run_append_own_at (P := Tryd.prog) w base 66 o.type 9 i _ 1 16 Tryd.underlying66 hi hz0 hz1 hz2 rfl (by decide) v 0 [] hE ⟨b, 0, none⟩ n c (nameCells xs) (by simp [nameCells, hn]) (fun j z hj => by have h := hc j z hj; simp only [Addr.add, Nat.zero_add]; split <;> simp_all) (by simp [nameCells, Value.oneCell']) (by unfold maxLen; omega) (by omega) hb
  unfold Oper.wp
  simp [execOp, hop, resolve, invoke, builtin, hs, hx, hrun, Result.andThen]
  exact hK v' w' (by simpa using r1) r2 r4
theorem nms_kept {base p : Nat} {st : PS} {vw vo : Value} {w w6 : World} (hP : IsF base p st vw vo w) (hgr : (w.alloc (.cells #[] 9)).drew.drew.grownBy w6 (some w.heap.size)) : Below w.heap.size w w6 ∧ w6.cell? ⟨p, 2, none⟩ = some vo ∧ w6.frozen? ⟨p, 2, none⟩ = false := by
  have hb : Below w.heap.size w w6 := (((Below.refl w.heap.size w).alloc (Nat.le_refl _) _).drew.drew).grown hgr (by show w.heap.size ≤ (w.alloc _).heap.size; simp) (fun g hg => by cases hg; exact Nat.le_refl _)
  have h := (hb.block p hP.lt).trans hP.2.1
  exact ⟨hb, by simp [World.cell?, h], by simp [World.frozen?, h]⟩
theorem one_row_set {bt : Nat} {w : World} {k : Nat} {nm tx : ByteArray} (q : Addr) (v : Value) (hb : bt ≤ w.heap.size) (hk : k < 256) (hn : nm.size ≤ 9223372036854775807) (ht : tx.size ≤ 9223372036854775807) :
    ElRow bt ((w.setCell q v).alloc (.cells #[.int .u8 k, .string nm, .slice none 0 0, .string tx] 55)) (.slice (some ⟨w.heap.size, 0, none⟩) 1 1) [(⟨k, nm, [], tx⟩, none, 0)] := by
  have h := one_row (bt := bt) (w := w.setCell q v) (k := k) (nm := nm) (tx := tx) (by rw [World.size_setCell]; exact hb) hk hn ht
  rw [World.size_setCell] at h
  exact h
theorem end_cut (L : List UInt8) : ((60 :: (47 :: L) ++ [62]).take (2 + L.length)).drop 2 = L := by
  rw [show 2 + L.length = L.length + 1 + 1 by omega]
  simp
set_option maxRecDepth 100000 in
set_option maxHeartbeats 2000000 in
theorem rfEnd_any (base p bt : Nat) (st : PS) (vw vo : Value) (nm : ByteArray) (w : World) (hP : IsF base p st vw vo w) (hn : nmB nm.data.toList = true) (hk : nm.size ≤ 32) (hbt : bt ≤ w.heap.size) (hol : st.op.length ≤ 1000) (hop : st.op.getLast? = some nm) :
    Calls Tryd.prog 61 #[.pointer (some ⟨p, 0, none⟩), .string ⟨(60 :: (47 :: nm.data.toList) ++ [62]).toArray⟩] w fun e w' => ∃ v vo', e = .returned (.tuple #[v, .int .i64 0]) ∧ ElRow bt w' v [(⟨2, nm, [], ⟨#[]⟩⟩, none, 0)] ∧ IsF base p { st with op := st.op.dropLast } vw vo' w' ∧ Only p w w' := by
  obtain ⟨c0, c1, c2, c3, c4, c5, cf⟩ := hP.cells
  have cf2 := cf 2 (by omega)
  have hne : st.op ≠ [] := fun e => by rw [e] at hop; cases hop
  have hlen : 0 < st.op.length := List.length_pos_iff.2 hne
  have hlast : (nameCells st.op)[st.op.length - 1]? = some (.string nm) := by
    rw [nameCells, List.getElem?_map, ← List.getLast?_eq_getElem?, hop]
    rfl
  obtain ⟨g, gc, rfl, hgc, hcl⟩ := own_at hP.2.2.2 hlast
  obtain ⟨m, hm⟩ : ∃ m, st.op.length = m + 1 := ⟨st.op.length - 1, by omega⟩
  rw [hm, Nat.add_sub_cancel] at hcl
  rw [hm] at c2 hgc hol
  have j1 : IntKind.i64.wrap (((m + 1 : Nat) : Int) - 1) = m := by rw [IntKind.wrap_i64]; omega
  have j1' : IntKind.i64.wrap ((m : Int) + 1 - 1) = m := by rw [IntKind.wrap_i64]; omega
  have j2 : (m : Int) < (m : Int) + 1 := by omega
  have j5 : IntKind.i64.wrap (m : Int) = m := by rw [IntKind.wrap_i64]; omega
  have j6 : m < m + 1 := by omega
  have j7 : (m : Int) ≤ gc := by omega
  have j8 : m ≤ gc := by omega
  have j3 : (0 : Int) ≤ m := by omega
  have j4 : ¬ ((m : Int) + 1 = 0) := by omega
  obtain ⟨s, hs⟩ : ∃ s : ByteArray, ⟨(60 :: (47 :: nm.data.toList) ++ [62]).toArray⟩ = s := ⟨_, rfl⟩
  rw [hs]
  obtain ⟨k, hkk⟩ : ∃ k, nm.size = k := ⟨_, rfl⟩
  have hkl : nm.data.toList.length = k := by rw [← size_lst]; exact hkk
  have hz : s.size = k + 3 := by rw [← hs, mk_size]; simp; omega
  obtain ⟨s2, hs2⟩ : ∃ s2, s.extract 2 s.size = s2 := ⟨_, rfl⟩
  have hs2l : s2 = ⟨(nm.data.toList ++ [62]).toArray⟩ := by
    rw [← hs2, ← hs, mk_ext, mk_size, List.take_length]
    rfl
  have hx : s.extract 2 (2 + k) = nm := by
    rw [← hs, mk_ext, ← hkl, end_cut, mk_data]
  obtain ⟨r, hr⟩ : ∃ r, s.extract (2 + k) (k + 2) = r := ⟨_, rfl⟩
  have hrl : r = ⟨#[]⟩ := by
    rw [← hr]
    refine bytes_ext ?_
    rw [ext_list, show k + 2 - (2 + k) = 0 by omega]
    rfl
  have hna := rfName_is s2 k w (by rw [hs2l, mk_size]; simp; omega) (by rw [hs2l, arr_list, tw_len _ _ _ (nm_isNm hn) (by decide)]; exact hkl)
  have hny := fun w => refName_yes nm w (by omega) hn
  have hsp : ∀ w, Calls Tryd.prog 59 #[.string r] w fun e w' => e = .returned (.bool true) ∧ w' = w := fun w => (refSpace_any r w (by rw [hrl]; decide)).mono (by rintro e w' ⟨he, hw⟩; exact ⟨he.yes (by rw [hrl]; intro b hb; cases hb), hw⟩)
  have i1 : (2 : Int) ≤ s.size := by omega
  have i2 : IntKind.i64.wrap (2 + (k : Int)) = 2 + k := by rw [IntKind.wrap_i64]; omega
  have i3 : (2 : Int) + k ≤ s.size := by omega
  have i4 : IntKind.i64.wrap ((s.size : Int) - 1) = k + 2 := by rw [IntKind.wrap_i64]; omega
  have i5 : ¬ ((k : Int) + 2 < 2 + k) := by omega
  have i6 : (2 : Int) + k ≤ k + 2 := by omega
  have i7 : (2 : Int) ≤ 2 + k := by omega
  have i8 : ¬ ((2 : Int) + k < 2) := by omega
  have i9 : (0 : Int) ≤ 2 + k := by omega
  have i10 : (2 + (k : Int)).toNat = 2 + k := by omega
  have i11 : ((k : Int) + 2).toNat = k + 2 := by omega
  have i12 : (k : Int) + 2 ≤ s.size := by omega
  have HB := hide (And.intro hna (And.intro hny hsp))
  have HP := hide (And.intro hP (And.intro hop (And.intro hkl hm)))
  have HS := hide (And.intro hs (And.intro hs2l hrl))
  clear hna hny hsp hP hop hs hs2l hrl hlast cf hm hlen hne hz hkk hkl
  go_enter Tryd.func61, Tryd.ntmps61
  go_wp2_with fail
  refine HB.out.1.mono ?_
  rintro e w1 ⟨rfl, hw1⟩
  rw [hw1]
  clear hw1 w1
  go_wp2_with fail
  go_region_held3 (fun w' => w'.cell? ⟨p, 2, none⟩ = some (.slice (some ⟨g, 0, none⟩) (m + 1) gc) ∧ w'.cell? ⟨g, m, none⟩ = some (.string nm)) ((go_split_ands; refine ⟨?_, ?_⟩ <;> assumption)) (first | (go_at_call 78; refine (HB.out.2.1 _).mono ?_; rintro e w2 ⟨rfl, hw2⟩; rw [hw2]; clear hw2 w2) | (go_at_call 59; refine (HB.out.2.2 _).mono ?_; rintro e w2 ⟨rfl, hw2⟩; rw [hw2]; clear hw2 w2))
  go_wp2_with fail
  have hpl := HP.out.1.lt
  have hgl : g < w.heap.size := own_lt HP.out.1.2.2.2 g rfl
  have q2a : (w.alloc (.cells #[] 9)).cell? ⟨p, 2, none⟩ = some (.slice (some ⟨g, 0, none⟩) (m + 1) gc) := (((Below.refl w.heap.size w).alloc (Nat.le_refl _) _).cell (p := ⟨p, 2, none⟩) hpl).trans c2
  have hown0 : (w.alloc (.cells #[] 9)).drew.drew.ownsRow base 9 1 (.slice (some ⟨w.heap.size, 0, none⟩) 0 0) 0 [] := ⟨rfl, .inr ⟨w.heap.size, 0, #[], rfl, Nat.le_trans HP.out.1.1 (Nat.le_of_lt hpl), World.alloc_heap_new w _, Nat.le_refl _, by unfold maxLen; omega, by simp, by simp⟩⟩
  have hcc : ∀ j z, (nameCells st.op.dropLast)[j]? = some z → (w.alloc (.cells #[] 9)).drew.drew.cell? ⟨g, j, none⟩ = some z := by
    intro j z hj
    have h1 : (nameCells st.op)[j]? = some z := by
      rw [nameCells, List.getElem?_map] at hj ⊢
      rw [List.dropLast_eq_take, List.getElem?_take] at hj
      split at hj
      · exact hj
      · cases hj
    obtain ⟨g', gc', e, _, hc⟩ := own_at HP.out.1.2.2.2 h1
    cases e
    exact (((Below.refl w.heap.size w).alloc (Nat.le_refl _) _).cell (p := ⟨g, j, none⟩) hgl).trans hc
  have hdl : m = st.op.dropLast.length := by rw [List.length_dropLast, HP.out.2.2.2]; rfl
  have HO := hide (And.intro hown0 (And.intro hcc hdl))
  clear hown0 hcc hdl
  go_region_law
    (refine step_nms rfl _ _ rfl base _ rfl HO.out.1 st.op.dropLast g m _ rfl HO.out.2.2 HO.out.2.1 (by omega) (by have h0 := HP.out.1.1; simp; omega) ?_; intro v6 w6 hown6 hgr6 hob6; obtain ⟨g6, c6, rfl⟩ := own_shape hown6; have hk6 := nms_kept HP.out.1 hgr6; have jc := hk6.2.1; have jf := hk6.2.2)
  all_goals
    have hb6 := hk6.1
    have hP6 := (HP.out.1.below hb6).set (st' := { st with op := st.op.dropLast }) (vw' := vw) (vo' := .slice g6 m c6) (v := .slice g6 m c6) 2 (by omega) (HP.out.1.below hb6).2.2.1 (by show w6.ownsRow base 9 1 _ st.op.dropLast.length _; rw [← HO.out.2.2]; exact hown6) rfl
    have hO6 : Only p w (w6.setCell ⟨p, 2, none⟩ (.slice g6 m c6)) := (Only.of_below hb6 (by omega)).set _
    have H6 := hide (And.intro hP6 (And.intro hO6 hown6))
    clear hb6 hP6 hO6 hown6 hgr6 hob6 hk6
    go_wp2_with fail
    go_ret2
    exact ⟨.slice (some ⟨w6.heap.size, 0, none⟩) 1 1, .slice g6 m c6, rfl, one_row_set (k := 2) _ _ (by have h := H6.out.2.1.size; rw [World.size_setCell] at h; omega) (by decide) (by omega) (Nat.zero_le _), H6.out.1.below ((Below.refl _ _).alloc (Nat.le_refl _) _), H6.out.2.1.trans (Only.of_below ((Below.refl _ _).alloc (Nat.le_refl _) _) (by have := H6.out.1.lt; omega))⟩
end Go.Proofs.YthmidlmknkbdaaaDoor.Xm
