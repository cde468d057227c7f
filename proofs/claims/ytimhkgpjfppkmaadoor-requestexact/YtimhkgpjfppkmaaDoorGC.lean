/- Addresses: small letters. Addresses: their normal form. -/
import Derived.Test.YtimhkgpjfppkmaaDoorGB
import Derived.Laws.IdiomStrings
import Derived.Deep.RegionLawGrows
namespace Go.Proofs.YtimhkgpjfppkmaaDoor.Jd
open Go.RowKit

/-- Bytes in a block of a call's own. -/
structure ByteBlk (w : World) (b : Nat) (l : List UInt8) : Prop where
  at_ : ∃ cs fr, w.heap[b]? = some (.cells cs 5 fr) ∧ l.length ≤ cs.size ∧ fr = (cs.size, cs.size + 1) ∧ ∀ (j : Nat) (c : UInt8), l[j]? = some c → cs[j]? = some (.int .u8 c.toNat)
theorem ByteBlk.cell {w : World} {b : Nat} {l : List UInt8} (h : ByteBlk w b l) {j : Nat} {c : UInt8} (hj : l[j]? = some c) : w.cell? ⟨b, j, none⟩ = some (.int .u8 c.toNat) ∧ w.frozen? ⟨b, j, none⟩ = false := by
  obtain ⟨cs, fr, h1, h2, h3, h4⟩ := h.at_
  have hlt := (List.getElem?_eq_some_iff.1 hj).1
  refine ⟨?_, ?_⟩
  · simp only [World.cell?, h1]
    have := h4 j c hj
    simpa using this
  · subst h3
    simp only [World.frozen?, h1]
    rw [decide_eq_false (by omega)]
    rfl
theorem ByteBlk.set {w : World} {b : Nat} {l : List UInt8} (h : ByteBlk w b l) {j : Nat} (hj : j < l.length) (c : UInt8) : ByteBlk (w.setCell ⟨b, j, none⟩ (.int .u8 c.toNat)) b (l.set j c) := by
  obtain ⟨cs, fr, h1, h2, h3, h4⟩ := h.at_
  refine ⟨cs.setIfInBounds j (.int .u8 c.toNat), fr, ?_, ?_, ?_, fun i x hi => ?_⟩
  · rw [setCell_eq_setRow w b j cs 5 fr _ h1]
    exact setRow_heap w b cs _ 5 _ h1
  · simpa using h2
  · simpa using h3
  · rw [List.getElem?_set] at hi
    rw [Array.getElem?_setIfInBounds]
    by_cases e : j = i
    · subst e
      rw [if_pos rfl, if_pos hj] at hi
      cases hi
      rw [if_pos rfl, if_pos (by omega)]
    · rw [if_neg e] at hi ⊢
      exact h4 i x hi
theorem ByteBlk.new (w : World) (s : ByteArray) : ByteBlk (w.drew.alloc (.cells (bytesRow s (grownCap w s.size 0 5)) 5 ((bytesRow s (grownCap w s.size 0 5)).size, (bytesRow s (grownCap w s.size 0 5)).size + 1))) w.heap.size s.data.toList := by
  refine ⟨_, _, World.alloc_heap_new w.drew _, ?_, rfl, fun j c hj => ?_⟩
  · unfold bytesRow
    rw [Array.size_append, Array.size_map, Array.length_toList]
    omega
  · have hlt := (List.getElem?_eq_some_iff.1 hj).1
    rw [Array.length_toList] at hlt
    unfold bytesRow
    rw [Array.getElem?_append_left (by rw [Array.size_map]; exact hlt), Array.getElem?_map]
    rw [Array.getElem?_toList] at hj
    rw [hj]
    rfl
/-- The first k bytes changed. -/
def mixL (f : UInt8 → UInt8) (l : List UInt8) (k : Nat) : List UInt8 := (l.take k).map f ++ l.drop k
theorem mix_zero (f : UInt8 → UInt8) (l : List UInt8) : mixL f l 0 = l := rfl
theorem mix_all (f : UInt8 → UInt8) (l : List UInt8) : mixL f l l.length = l.map f := by simp [mixL]
theorem mix_len (f : UInt8 → UInt8) (l : List UInt8) (k : Nat) : (mixL f l k).length = l.length := by
  unfold mixL
  rw [List.length_append, List.length_map, List.length_take, List.length_drop]
  omega
theorem mix_at {f : UInt8 → UInt8} {l : List UInt8} {k : Nat} {c : UInt8} (h : l[k]? = some c) : (mixL f l k)[k]? = some c := by
  have hlt := (List.getElem?_eq_some_iff.1 h).1
  unfold mixL
  rw [List.getElem?_append_right (by rw [List.length_map, List.length_take]; omega), List.length_map, List.length_take, List.getElem?_drop]
  rw [show k + (k - min k l.length) = k by omega]
  exact h
theorem mix_succ {f : UInt8 → UInt8} {l : List UInt8} {k : Nat} {c : UInt8} (h : l[k]? = some c) : mixL f l (k + 1) = (mixL f l k).set k (f c) := by
  have hlt := (List.getElem?_eq_some_iff.1 h).1
  unfold mixL
  have e1 : l.take (k + 1) = l.take k ++ [c] := by rw [List.take_add_one, h]; rfl
  have e2 : l.drop k = c :: l.drop (k + 1) := by
    rw [List.drop_eq_getElem_cons hlt]
    rw [List.getElem?_eq_getElem hlt] at h
    cases h
    rfl
  rw [e1, e2, List.map_append, List.set_append_right _ _ (by rw [List.length_map, List.length_take]; omega)]
  rw [List.length_map, List.length_take, show k - min k l.length = 0 by omega]
  simp
theorem set_same {l : List UInt8} {k : Nat} {c : UInt8} (h : l[k]? = some c) : l.set k c = l := by
  apply List.ext_getElem?
  intro i
  rw [List.getElem?_set]
  split
  · rename_i e
    subst e
    rw [h, if_pos (List.getElem?_eq_some_iff.1 h).1]
  · rfl

theorem lowB_cap {c : UInt8} (h : capB c = true) : lowB c = c + 32 := by unfold lowB; rw [if_pos h]
theorem lowB_not {c : UInt8} (h : capB c = false) : lowB c = c := by unfold lowB; rw [if_neg (by rw [h]; decide)]
set_option maxRecDepth 100000 in
theorem low_nat {c : UInt8} (h : capB c = true) : ((lowB c).toNat : Int) = c.toNat + 32 ∧ 65 ≤ c.toNat ∧ c.toNat ≤ 90 := by
  rw [lowB_cap h]
  unfold capB at h
  rw [Bool.and_eq_true, decide_eq_true_eq, decide_eq_true_eq] at h
  refine ⟨?_, h⟩
  rw [UInt8.toNat_add]
  show (((c.toNat + 32) % 256 : Nat) : Int) = _
  omega

set_option maxRecDepth 100000 in
set_option maxHeartbeats 2000000 in
theorem small_any (s : ByteArray) (w : World) (hs : s.size ≤ 9223372036854775807) : Calls Tryd.prog 61 #[.string s] w fun e w' => e = .returned (.string ⟨(s.data.toList.map lowB).toArray⟩) ∧ Below w.heap.size w w' := by
  have hl := size_list s
  obtain ⟨W1, hW1⟩ : ∃ W1, w.drew.alloc (.cells (bytesRow s (grownCap w s.size 0 5)) 5 ((bytesRow s (grownCap w s.size 0 5)).size, (bytesRow s (grownCap w s.size 0 5)).size + 1)) = W1 := ⟨_, rfl⟩
  obtain ⟨cap, hcap⟩ : ∃ cap, grownCap w s.size 0 5 = cap := ⟨_, rfl⟩
  have cv : (convert 9 104 (.string s)).run Tryd.prog w = .ok (.slice (some ⟨w.heap.size, 0, none⟩) s.size cap) W1 := by
    rw [← hW1, ← hcap]
    exact run_bytes_of_string w 9 104 5 s Tryd.underlying9 Tryd.underlying104 Tryd.underlying5
  have hB : ByteBlk W1 w.heap.size s.data.toList := by rw [← hW1]; exact ByteBlk.new w s
  have hb : Below w.heap.size w W1 := by rw [← hW1]; exact (((Below.refl _ w).drew).alloc (Nat.le_refl _) _)
  have H1 := hide (And.intro hB hb)
  clear hB hb hW1 hcap
  go_enter Tryd.func61, Tryd.ntmps61
  go_wp2_with fail
  go_loopw [10] (fun i wr => ∃ k : Nat, k ≤ s.size ∧ i = .int .i64 k ∧ ByteBlk wr w.heap.size (mixL lowB s.data.toList k) ∧ Below w.heap.size w wr) (fun i _ => s.size - (intOf i).toNat)
  case atStart => exact ⟨0, Nat.zero_le _, rfl, by rw [mix_zero]; exact H1.out.1, H1.out.2⟩
  case round =>
    obtain ⟨k, hk, rfl, hBk, hbk⟩ := hrel
    by_cases hp : k < s.size
    · have hsk := bget s k hp
      obtain ⟨cell, froz⟩ := hBk.cell (mix_at hsk)
      have hset := hBk.set (j := k) (by rw [mix_len, hl]; exact hp) (lowB s[k])
      rw [← mix_succ hsk] at hset
      have hcap := hide (capital_any s[k] wr)
      have H2 := hide (And.intro hBk (And.intro hset hbk))
      clear hBk hset hbk
      go_wp2_with fail
      refine hcap.out.mono ?_
      rintro e w2 ⟨rfl, hw⟩
      subst hw
      cases hq : capB s[k] with
      | true =>
        obtain ⟨e1, e2, e3⟩ := low_nat hq
        clear hq
        go_wp2_with fail
        rw [show ((s[k].toNat : Int) - 65 + 97) = (lowB s[k]).toNat by omega]
        exact ⟨⟨k + 1, by omega, by simp, H2.out.2.1, H2.out.2.2.setCell (p := ⟨_, k, none⟩) (Nat.le_refl _) _⟩, by simp [intOf]; omega⟩
      | false =>
        have hx := set_same (mix_at (f := lowB) hsk)
        have HX := hide (And.intro hq hx)
        clear hq hx
        go_wp2_with fail
        go_roundw
        case rel =>
          refine ⟨k + 1, by omega, by simp, ?_, H2.out.2.2⟩
          rw [mix_succ hsk, lowB_not HX.out.1, HX.out.2]
          exact H2.out.1
        case measure => simp [intOf]; omega
    · obtain rfl : k = s.size := by omega
      have hm := hBk
      rw [← hl, mix_all] at hm
      have hlm : (s.data.toList.map lowB).length = s.size := by rw [List.length_map, hl]
      have cb := run_convert_bytes_back (P := Tryd.prog) wr 104 9 5 ⟨w.heap.size, 0, none⟩ cap (s.data.toList.map lowB) Tryd.underlying104 Tryd.underlying5 Tryd.underlying9 (fun j hj => by
        have := (hm.cell (List.getElem?_eq_getElem hj)).1
        cases j with
        | zero => simpa [Addr.add] using this
        | succ j => simpa [Addr.add] using this)
      rw [hlm] at cb
      have H2 := hide hbk
      clear hm hBk hbk
      go_wp2_with fail
      go_ret
      exact ⟨rfl, H2.out⟩
end Go.Proofs.YtimhkgpjfppkmaaDoor.Jd
namespace Go.Proofs.YtimhkgpjfppkmaaDoor.Jd
open Go.RowKit

set_option maxRecDepth 100000 in
/-- A call: a step of a region that draws. -/
theorem step_small {ops : Array Oper} {o : Oper} {a : Act} {w : World} {K : Act → World → Prop} {Q : Exit → Act → World → Prop} {E : Prop} (hg : o.guard = none) (t : Nat) (ty : TypeId)
    (hop : o.op = Op.call { callee := Callee.value (.func 61), args := #[.tmp t], argTypes := #[ty] }) (v : Value) (hx : a.tmps[t]?.getD undef = v) {R : Ending → World → Prop} (hC : Calls Tryd.prog 61 #[v] w R) (hK : ∀ e w', R e w' → ∃ v, e = .returned v ∧ K (a.put o.dst v) w') :
    if Region.wanted o (yielded ops a.tmps) = true then Oper.wp Tryd.prog o a w K Q else E := by
  have hw : Region.wanted o (yielded ops a.tmps) = true := by simp [Region.wanted, hg]
  rw [if_pos hw]
  have _f := Tryd.func61
  unfold Oper.wp
  simp only [execOp, hop, resolve, invoke]
  go_simp
  refine hC.mono ?_
  intro e w' hR
  obtain ⟨u, rfl, hk⟩ := hK e w' hR
  exact hk
theorem size_map (s : ByteArray) (f : UInt8 → UInt8) : (⟨(s.data.toList.map f).toArray⟩ : ByteArray).size = s.size := by
  show (s.data.toList.map f).toArray.size = _
  rw [List.size_toArray, List.length_map, size_list]
set_option maxRecDepth 100000 in
set_option maxHeartbeats 4000000 in
theorem normal_any (lo dom res : ByteArray) (w : World) (hlo : lo.size ≤ 9223372036854775807) (hdom : dom.size ≤ 9223372036854775807) : Calls Tryd.prog 49 #[.agg #[.string lo, .string dom, .string res]] w fun e w' => e = .returned (.agg #[.string ⟨(lo.data.toList.map lowB).toArray⟩, .string ⟨(dom.data.toList.map lowB).toArray⟩, .string res]) ∧ Below w.heap.size w w' := by
  obtain ⟨Wa, hWa, aa, ba, za⟩ := newJ w (.string lo) (.string dom) (.string res)
  obtain ⟨Wb, hWb, ab, bb, zb⟩ := newJ Wa (.string ⟨#[]⟩) (.string ⟨#[]⟩) (.string ⟨#[]⟩)
  rw [za] at ab
  have ac := (bb.block w.heap.size (by omega)).trans aa
  obtain ⟨c0, c1, c2, _⟩ := cells3 ac
  have HH := hide (And.intro ac (And.intro ab (ba.trans (bb.mono (by omega)))))
  clear aa ba ab bb ac
  obtain ⟨l1, hl1⟩ : ∃ l1, (⟨(lo.data.toList.map lowB).toArray⟩ : ByteArray) = l1 := ⟨_, rfl⟩
  obtain ⟨d1, hd1⟩ : ∃ d1, (⟨(dom.data.toList.map lowB).toArray⟩ : ByteArray) = d1 := ⟨_, rfl⟩
  have hs1 : ∀ w : World, Calls Tryd.prog 61 #[.string lo] w fun e w' => e = .returned (.string l1) ∧ Below w.heap.size w w' := fun w => by rw [← hl1]; exact small_any lo w hlo
  have hs2 : ∀ w : World, Calls Tryd.prog 61 #[.string dom] w fun e w' => e = .returned (.string d1) ∧ Below w.heap.size w w' := fun w => by rw [← hd1]; exact small_any dom w hdom
  rw [hl1, hd1]
  have HS := hide (And.intro hs1 hs2)
  clear hs1 hs2 hl1 hd1
  go_enter Tryd.func49, Tryd.ntmps49
  go_wp2_with fail
  go_region_law
    (first | (refine step_small rfl 4 _ rfl (.string lo) rfl (HS.out.1 _) ?_; rintro e w1 ⟨he1, hb1⟩; refine ⟨_, he1, ?_⟩; clear he1; have z1 : Wb.heap.size ≤ w1.heap.size := hb1.size; have g1 : w1.heap[w.heap.size]? = _ := (hb1.block w.heap.size (by show w.heap.size < Wb.heap.size; omega)).trans HH.out.1; have g2 : w1.heap[w.heap.size + 1]? = _ := (hb1.block (w.heap.size + 1) (by show w.heap.size + 1 < Wb.heap.size; omega)).trans HH.out.2.1; have g3 : Below w.heap.size w w1 := HH.out.2.2.drew.trans (hb1.mono (by show w.heap.size ≤ Wb.heap.size; omega)); clear c0 c1 c2; obtain ⟨c0, c1, c2, _, _, _⟩ := cells3 g1; have H1 := hide (And.intro g1 (And.intro g2 g3)); clear g1 g2 g3 hb1) | (refine step_small rfl 7 _ rfl (.string dom) rfl (HS.out.2 _) ?_; rintro e w2 ⟨he2, hb2⟩; refine ⟨_, he2, ?_⟩; clear he2; have z2 : w1.heap.size ≤ w2.heap.size := hb2.size; have g1 : w2.heap[w.heap.size]? = _ := (hb2.block w.heap.size (by omega)).trans H1.out.1; have g2 : w2.heap[w.heap.size + 1]? = _ := (hb2.block (w.heap.size + 1) (by omega)).trans H1.out.2.1; have g3 : Below w.heap.size w w2 := H1.out.2.2.trans (hb2.mono (by omega)); clear c0 c1 c2; obtain ⟨c0, c1, c2, _⟩ := cells3 g1; obtain ⟨r0, r1, r2, s0, s1, s2⟩ := cells3 g2; have H2 := hide (And.intro g2 g3); clear g1 g2 g3 hb2))
  all_goals
    go_wp2_with fail
    obtain ⟨t0, t1, t2, _⟩ := cells3 (set3 H2.out.1 (.string l1) (.string d1) (.string res))
    refine bodyPost_ret (results_jid rfl rfl t0 t1 t2) rfl ⟨rfl, ?_⟩
    exact ((H2.out.2.setCell (p := ⟨_, 0, none⟩) (by show w.heap.size ≤ w.heap.size + 1; omega) _).setCell (p := ⟨_, 1, none⟩) (by show w.heap.size ≤ w.heap.size + 1; omega) _).setCell (p := ⟨_, 2, none⟩) (by show w.heap.size ≤ w.heap.size + 1; omega) _
end Go.Proofs.YtimhkgpjfppkmaaDoor.Jd
