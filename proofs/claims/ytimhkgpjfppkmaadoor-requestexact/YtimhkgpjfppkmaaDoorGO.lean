/- Tokens that the call holds are put into a new row of its own. Attributes behind a row of one's own, wherever they lie. What stands behind the exchanged attributes: rows that are cut, and payloads that are refused. An attribute that is handed in, and how long its value is at most. -/
import Derived.Test.YtimhkgpjfppkmaaDoorGN
import Derived.Test.YtimhkgpjfppkmaaDoorToks
import Derived.Test.YtimhkgpjfppkmaaDoorMath
import Derived.Deep.Slices
import Derived.ChangeSame
import Derived.SizedLaws
namespace Go.Proofs.YtimhkgpjfppkmaaDoor
open Go.RowKit Go.Shelf

theorem own_cells {w : World} {base e size n c : Nat} {ga : Option Addr} {xs : List Value} (h : w.ownsRow base e size (.slice ga n c) n xs) (j : Nat) (u : Value) (hj : xs[j]? = some u) : ∃ g, ga = some ⟨g, 0, none⟩ ∧ w.cell? ⟨g, j, none⟩ = some u := by
  obtain ⟨hl, ⟨hv, hn⟩ | ⟨g, cap, cur, hv, hb, hg, hc, _, hs, ht⟩⟩ := h
  · subst hn
    have := (List.getElem?_eq_some_iff.1 hj).1
    omega
  · cases hv
    refine ⟨g, rfl, ?_⟩
    rw [← ht, List.getElem?_take] at hj
    split at hj
    · simp only [World.cell?, hg]
      simpa using hj
    · cases hj
/-- Tokens behind an empty row. -/
theorem append_row (w : World) {ops : Array Oper} {rest : List Oper} {o : Oper} {a : Act} {Q : Exit → Act → World → Prop} (hg : o.guard = none) (s x : Operand)
    (hop : o.op = Op.call { callee := Callee.builtin Builtin.append, args := #[s, x], argTypes := #[27, 27] }) (base base' : Nat) (v : Value) (l : List TokV) (hs : a.eval s = v) (hE : w.ownsRow base 46 4 v 0 []) (g c n : Nat) (hn : l.length = n) (hx : a.eval x = .slice (some ⟨g, 0, none⟩) n c)
    (hL : w.ownsRow base' 46 4 (.slice (some ⟨g, 0, none⟩) n c) n (l.flatMap tokC)) (hl : n ≤ 2000) (hb : base ≤ w.heap.size)
    (hK : ∀ v' w', w'.ownsRow base 46 4 v' n (l.flatMap tokC) → Below base w w' → wpList Tryd.prog ops Q rest (a.put o.dst v') w') : wpList Tryd.prog ops Q (o :: rest) a w := by
  obtain ⟨i, hi, hz0, hz1, hz2⟩ := info_parts infoTok
  refine wpList_append_own w hg s x 27 hop base 46 i _ 4 64 Tryd.underlying27 hi hz0 hz1 hz2 rfl (by decide) v 0 [] hs hE ⟨g, 0, none⟩ n c (l.flatMap tokC) hx hL.1 (fun j u hj => ?_) (fun u hu => ?_) (by unfold maxLen; omega) (by omega) hb ?_
  · obtain ⟨g', e, h⟩ := own_cells hL j u hj
    cases e
    rw [Go.WideShapes.add_plain, Nat.zero_add]
    exact h
  · obtain ⟨y, _, h⟩ := List.mem_flatMap.1 hu
    simp [tokC] at h
    rcases h with rfl | rfl | rfl | rfl <;> rfl
  · intro v' w' ho hgr _
    exact hK v' w' (by rw [Nat.zero_add, List.nil_append] at ho; exact ho) ((Below.refl base w).grown hgr hb (fun k e => own_base hE k e))
theorem flat_set {x0 x : TokV} {rest : List TokV} (al : List (ByteArray × ByteArray)) (ga : Option Addr) (gc : Nat) : ((x0 :: x :: rest).flatMap tokC).set 6 (.slice ga al.length gc) = (x0 :: ({ x.1 with attrs := al }, ga, gc) :: rest).flatMap tokC := by
  simp [tokC]
/-- A token's attributes are exchanged. -/
theorem elRow_set {base g n c gc : Nat} {W : World} {x0 x : TokV} {rest : List TokV} {ga : Option Addr} {al : List (ByteArray × ByteArray)} (h : ElRow base W (.slice (some ⟨g, 0, none⟩) n c) (x0 :: x :: rest))
    (ho : W.ownsRow base 49 2 (.slice ga al.length gc) al.length (attrCells al)) (hs : Sized { x.1 with attrs := al }) :
    ElRow base (W.setCell ⟨g, 6, none⟩ (.slice ga al.length gc)) (.slice (some ⟨g, 0, none⟩) n c) (x0 :: ({ x.1 with attrs := al }, ga, gc) :: rest) := by
  obtain ⟨h1, h2⟩ := h
  have hkeep : ∀ {v : Value} {m : Nat} {ys : List Value}, W.ownsRow base 49 2 v m ys → (W.setCell ⟨g, 6, none⟩ (.slice ga al.length gc)).ownsRow base 49 2 v m ys := fun {v m ys} hv => by
    refine own_same hv (fun k hk => ?_)
    have hne := own_types hv h1 (by decide) k hk
    rw [Below.heap_setCell _ _ _ _ (fun e => hne (by rw [e]; rfl))]
  refine ⟨?_, ?_⟩
  · obtain ⟨hl, ⟨hv, _⟩ | ⟨g', cap, cur, hv, hb, hg, hc, hm, hz, ht⟩⟩ := h1
    · cases hv
    · cases hv
      refine ⟨by rw [← flat_set, List.length_set]; exact hl, .inr ⟨g, c, cur.setIfInBounds 6 (.slice ga al.length gc), rfl, hb, at_setQ hg, hc, hm, by simpa using hz, ?_⟩⟩
      rw [← flat_set, ← ht, Array.toList_setIfInBounds, List.take_set]
      rfl
  · intro y hy
    rcases List.mem_cons.1 hy with rfl | hy
    · exact ⟨hkeep (h2 _ (by simp)).1, (h2 _ (by simp)).2⟩
    · rcases List.mem_cons.1 hy with rfl | hy
      · exact ⟨hkeep ho, hs⟩
      · exact ⟨hkeep (h2 y (by simp [hy])).1, (h2 y (by simp [hy])).2⟩
end Go.Proofs.YtimhkgpjfppkmaaDoor
namespace Go.Proofs.YtimhkgpjfppkmaaDoor
open Go.RowKit Go.Shelf

set_option maxRecDepth 100000 in
/-- An attribute that lies anywhere, behind a row of one's own. -/
theorem pushB {wr : World} {base q n : Nat} {v : Value} {al : List (ByteArray × ByteArray)} {T : TypeId} (nm s : ByteArray) (hrow : wr.ownsRow base 49 2 v n (attrCells al)) (hb : base ≤ wr.heap.size) (hk : n ≤ 100000) (hq : wr.heap[q]? = some (.cells #[.string nm, .string s] 49)) :
    ∃ ga gc w4, (Builtin.append_ #[44, 44] T #[v, .slice (some ⟨q, 0, none⟩) 1 1]).run Tryd.prog wr = .ok (.slice ga (n + 1) gc) w4 ∧ w4.ownsRow base 49 2 (.slice ga (n + 1) gc) (n + 1) (attrCells (al ++ [(nm, s)])) ∧ Below base wr w4 := by
  obtain ⟨ti, t1, t2, t3, t4⟩ := info_parts infoAttr
  obtain ⟨v', w4, hap, q1, q2, _, _⟩ := run_append_own_at (P := Tryd.prog) wr base 44 T 49 ti _ 2 32 Tryd.underlying44 t1 t2 t3 t4 rfl (by omega) v n (attrCells al) hrow ⟨q, 0, none⟩ 1 1 [.string nm, .string s] rfl (fun j u hj => by
      match j, hj with
      | 0, hj => simp at hj; subst hj; rw [Addr.add_mid]; simp only [World.cell?, hq]; rfl
      | 1, hj => simp at hj; subst hj; rw [Addr.add_mid]; simp only [World.cell?, hq]; rfl
      | j + 2, hj => simp at hj) (fun u hu => by
      simp at hu
      rcases hu with rfl | rfl <;> rfl) (by unfold maxLen; omega) (by omega) hb
  have hB4 : Below base wr w4 := (Below.refl base wr).grown q2 hb (fun r e => own_base hrow r e)
  have htk : attrCells (al ++ [(nm, s)]) = attrCells al ++ [Value.string nm, .string s] := by rw [attrCells_app]; rfl
  rw [htk]
  obtain ⟨hq1, hq2⟩ := id q1
  rcases hq2 with ⟨rfl, hz⟩ | ⟨g, cap, cur, rfl, _⟩
  · exact absurd hz (by omega)
  · exact ⟨_, _, w4, hap, q1, hB4⟩
set_option maxRecDepth 100000 in
/-- A row of attributes, behind an empty row of one's own. -/
theorem pushAll {wr : World} {base base' g c n : Nat} {v : Value} {al : List (ByteArray × ByteArray)} {T : TypeId} (hrow : wr.ownsRow base 49 2 v 0 []) (hb : base ≤ wr.heap.size) (_ : al.length = n) (h1 : 1 ≤ n) (hk : n ≤ 100000) (hL : wr.ownsRow base' 49 2 (.slice (some ⟨g, 0, none⟩) n c) n (attrCells al)) :
    ∃ ga gc w4, (Builtin.append_ #[44, 44] T #[v, .slice (some ⟨g, 0, none⟩) n c]).run Tryd.prog wr = .ok (.slice ga n gc) w4 ∧ w4.ownsRow base 49 2 (.slice ga n gc) n (attrCells al) ∧ Below base wr w4 ∧ ∀ k, k < wr.heap.size → some k ≠ v.ownBlock → w4.heap[k]? = wr.heap[k]? := by
  obtain ⟨ti, t1, t2, t3, t4⟩ := info_parts infoAttr
  obtain ⟨v', w4, hap, q1, q2, _, _⟩ := run_append_own_at (P := Tryd.prog) wr base 44 T 49 ti _ 2 32 Tryd.underlying44 t1 t2 t3 t4 rfl (by omega) v 0 [] hrow ⟨g, 0, none⟩ n c (attrCells al) hL.1 (fun j u hj => by
      obtain ⟨g', e, h⟩ := own_cells hL j u hj
      cases e
      rw [Addr.add_mid, Nat.zero_add]
      exact h) (fun u hu => by
      obtain ⟨y, _, h⟩ := List.mem_flatMap.1 hu
      simp at h
      rcases h with rfl | rfl <;> rfl) (by unfold maxLen; omega) (by omega) hb
  have hB4 : Below base wr w4 := (Below.refl base wr).grown q2 hb (fun r e => own_base hrow r e)
  rw [Nat.zero_add, List.nil_append] at q1
  obtain ⟨hq1, hq2⟩ := id q1
  rcases hq2 with ⟨rfl, hz⟩ | ⟨g2, cap, cur, rfl, _⟩
  · exact absurd hz (by omega)
  · exact ⟨_, _, w4, hap, q1, hB4, fun k hk hne => q2.block k hk hne⟩
theorem run_store44 {w : World} {g : Nat} {x : Value} {a : Option Addr} {m c : Nat} (hc : w.cell? ⟨g, 6, none⟩ = some x) (hz : w.frozen? ⟨g, 6, none⟩ = false) : (Instr.storeAt 44 (.pointer (some ⟨g, 6, none⟩)) (.slice a m c)).run Tryd.prog w = .ok () (w.setCell ⟨g, 6, none⟩ (.slice a m c)) := by
  go_simp
theorem ld44 {w : World} {p : Addr} {a : Option Addr} {m c : Nat} (hc : w.cell? p = some (.slice a m c)) : (Instr.loadAt 44 (.pointer (some p))).run Tryd.prog w = .ok (.slice a m c) w := by
  simp [Instr.loadAt, Instr.sureAddr, loadVar, Tryd.isAgg44, hc, go_sem]
theorem ld49 {w : World} {b : Nat} {nm s : ByteArray} (h : w.heap[b]? = some (.cells #[.string nm, .string s] 49)) : (Instr.loadAt 49 (.pointer (some ⟨b, 0, none⟩))).run Tryd.prog w = .ok (.agg #[.string nm, .string s]) w := run_load_row infoAttr Tryd.underlying49 rfl rfl h
theorem bld0 (w : World) : (Instr.buildSlice 44 0 #[]).run Tryd.prog w = .ok (.slice (some ⟨w.heap.size, 0, none⟩) 0 0) (w.alloc (.cells #[] 49)) := by kernel_rfl
theorem bld1 (nm s : ByteArray) (w : World) : (Instr.buildSlice 44 1 #[(0, .agg #[.string nm, .string s])]).run Tryd.prog w = .ok (.slice (some ⟨w.heap.size, 0, none⟩) 1 1) (w.alloc (.cells #[.string nm, .string s] 49)) := by kernel_rfl
theorem empty_attrs (w : World) : (w.alloc (.cells #[] 49)).ownsRow w.heap.size 49 2 (.slice (some ⟨w.heap.size, 0, none⟩) 0 0) 0 [] :=
  ⟨rfl, .inr ⟨w.heap.size, 0, #[], rfl, Nat.le_refl _, World.alloc_heap_new _ _, Nat.le_refl _, by unfold maxLen; omega, rfl, rfl⟩⟩
end Go.Proofs.YtimhkgpjfppkmaaDoor
namespace Go.Proofs.YtimhkgpjfppkmaaDoor
open Go.RowKit Go.Shelf

theorem row_new {base base' n : Nat} {w3 W0 : World} {v v7 : Value} {l : List TokV} (hE : ElRow base w3 v l) (b : Below w3.heap.size w3 W0) (h7 : W0.ownsRow base' 46 4 v7 n (l.flatMap tokC)) (hn : l.length = n) (hb : base ≤ base') : ElRow base W0 v7 l :=
  ⟨by rw [hn]; exact own_less h7 hb, (hE.below b).2⟩
theorem sized_more {t : Tok} {al : List (ByteArray × ByteArray)} {nm s : ByteArray} (h : Sized t) (ht : t.attrs = al) (hk : al.length ≤ 100000) (h1 : nm.size ≤ 9223372036854775807) (h2 : s.size ≤ 9223372036854775807) : Sized { t with attrs := al ++ [(nm, s)] } := by
  subst ht
  obtain ⟨a1, a2, a3, a4, a5⟩ := h
  refine ⟨a1, a2, a3, by simp; omega, fun a ha => ?_⟩
  rcases List.mem_append.1 ha with ha | ha
  · exact a5 a ha
  · rw [List.mem_singleton.1 ha]
    exact ⟨h1, h2⟩
theorem sized_less {t : Tok} {al : List (ByteArray × ByteArray)} (h : Sized t) (ht : t.attrs = al) (k : Nat) : Sized { t with attrs := al.take k } := by
  subst ht
  obtain ⟨a1, a2, a3, a4, a5⟩ := h
  exact ⟨a1, a2, a3, by simp; omega, fun a ha => a5 a (List.mem_of_mem_take ha)⟩
theorem cells_take (al : List (ByteArray × ByteArray)) (k : Nat) : attrCells (al.take k) = (attrCells al).take (k * 2) := by
  induction al generalizing k with
  | nil => cases k <;> rfl
  | cons a al ih =>
    cases k with
    | zero => simp [attrCells]
    | succ k =>
      have h := ih k
      simp only [attrCells] at h ⊢
      rw [List.take_succ_cons, List.flatMap_cons, List.flatMap_cons, h, show (k + 1) * 2 = k * 2 + 2 by omega]
      simp
theorem own_prefix {W : World} {base g n c k : Nat} {al : List (ByteArray × ByteArray)} (h : W.ownsRow base 49 2 (.slice (some ⟨g, 0, none⟩) n c) n (attrCells al)) (hk : k ≤ n) : W.ownsRow base 49 2 (.slice (some ⟨g, 0, none⟩) k c) k (attrCells (al.take k)) := by
  obtain ⟨hl, ⟨hv, _⟩ | ⟨g', cap, cur, hv, hb, hg, hc, hm, hs, ht⟩⟩ := h
  · cases hv
  · cases hv
    refine ⟨?_, .inr ⟨g, c, cur, rfl, hb, hg, by omega, hm, hs, ?_⟩⟩
    · rw [cells_take, List.length_take, hl]
      omega
    · rw [cells_take, ← ht, List.take_take]
      congr 1
      omega
theorem ex_loA {o : Oper} {a : Act} {w : World} {x y : Operand} {b m cap k : Nat} (ho : o.op = .slice 44 x none (some y) none) (hx : a.eval x = .slice (some ⟨b, 0, none⟩) m cap) (hy : a.eval y = .int .i64 k) (hk : k ≤ cap) : (execOp a.eval o).run Tryd.prog w = .ok (.value (.slice (some ⟨b, 0, none⟩) k cap)) w := by
  have he : Tryd.prog.elem 44 = 49 := by kernel_rfl
  have hu : Tryd.prog.underlying 44 = some (.slice (Tryd.prog.elem 44)) := by rw [he]; exact Tryd.underlying44
  obtain ⟨ti, t1, t2, t3, t4⟩ := info_parts infoAttr
  have hsz : (Go.sizeOf 49).run Tryd.prog w = .ok 2 w := by simp [Go.sizeOf, typeInfo, t1, t3]
  have h1 := run_slice_h (P := Tryd.prog) (w := w) 44 (some ⟨b, 0, none⟩) m cap hu .i64 k (by omega) (by omega)
  rw [he, hsz] at h1
  have h2 := run_sliceAt_slice (P := Tryd.prog) (w := w) 44 (.slice (some ⟨b, 0, none⟩) m cap) none (some (.int .i64 k)) none hu
  rw [h1] at h2
  unfold execOp
  simp [ho, hx, hy, h2, Result.andThen, sliced, Addr.add]
theorem ex_subA {o : Oper} {a : Act} {w : World} {x : Operand} {m : Nat} (ho : o.op = .binOp .sub 3 x (.const (.int .i64 1)) 3) (hx : a.eval x = .int .i64 m) (h : 1 ≤ m) (h' : m ≤ 4611686018427387904) : (execOp a.eval o).run Tryd.prog w = .ok (.value (.int .i64 ((m - 1 : Nat)))) w := by
  have e : IntKind.i64.wrap ((m : Int) - 1) = (m : Int) - 1 := by rw [IntKind.wrap_i64]; omega
  have e2 : ((m - 1 : Nat) : Int) = (m : Int) - 1 := by omega
  unfold execOp
  simp only [ho, hx]
  rw [e2]
  go_simp
theorem ex_lenA {o : Oper} {a : Act} {w : World} {x : Operand} {p : Option Addr} {m cap : Nat} (ho : o.op = .call { callee := .builtin .len, args := #[x], argTypes := #[44] }) (hx : a.eval x = .slice p m cap) : (execOp a.eval o).run Tryd.prog w = .ok (.value (.int .i64 m)) w := by
  have hr : (Builtin.len_ #[44] o.type #[.slice p m cap]).run Tryd.prog w = .ok (.int .i64 m) w := by go_simp
  simp [execOp, ho, resolve, invoke, builtin, hx, hr, Result.andThen]
set_option maxRecDepth 100000 in
/-- A row of tokens that no right request has. -/
theorem decode_no {base n c : Nat} {W : World} {ga : Option Addr} {l : List TokV} (h : ElRow base W (.slice ga n c) l) (hn : l.length = n) (hl : n ≤ 2000) (hno : ∀ r, RightRq r → encT r ≠ l.map (·.1)) (hsz : ∀ x ∈ l, ∀ a ∈ x.1.attrs, a.2.size ≤ 281474976710656) (hG : GlbR W) :
    Calls Tryd.prog 8 #[.slice ga n c] W fun e w' => e = .returned (.tuple #[.agg (rqA zeroRq), .int .i64 3]) ∧ Below W.heap.size W w' := by
  obtain ⟨ao, cap, hv, hT⟩ := tokMem_own h (by omega)
  cases hv
  have hd := decode_any ga c (l.map (·.1)) (avOf l) W hT (fun t ht a ha => by
    obtain ⟨x, hx, rfl⟩ := List.mem_map.1 ht
    exact hsz x hx a ha) hG
  rw [List.length_map] at hd
  refine hd.mono ?_
  rintro e w' ⟨⟨r, hr, he, _⟩ | ⟨_, he⟩, hb⟩
  · exact absurd he (hno r hr)
  · exact ⟨he, hb⟩
theorem TokMem.drop1 {n₀ : Nat} {w : World} {g : Nat} {ts : List Tok} {av : Nat → Option Addr × Nat} (h : TokMem n₀ w (some ⟨g, 0, none⟩) ts av) : TokMem n₀ w (some ⟨g, 4, none⟩) (ts.drop 1) (fun k => av (k + 1)) := by
  obtain ⟨h1, h2⟩ := h
  refine ⟨by rw [List.length_drop]; omega, fun k t hk => ?_⟩
  rw [List.getElem?_drop] at hk
  obtain ⟨a1, a2, a3, a4, a5, b, off, hb, hlt, c0, c1, c2, c3⟩ := h2 (k + 1) t (by rw [← hk]; congr 1; omega)
  injection hb with hb
  injection hb with hb1 hb2
  subst hb1 hb2
  refine ⟨a1, a2, a3, a4, a5, g, 4, rfl, hlt, ?_, ?_, ?_, ?_⟩
  · rw [← c0]; congr 2; omega
  · rw [← c1]; congr 2; omega
  · rw [← c2]; congr 2; omega
  · rw [← c3]; congr 2; omega
set_option maxRecDepth 100000 in
/-- The tokens behind the first. -/
theorem decode_tail {base n c g : Nat} {W : World} {l : List TokV} (h : ElRow base W (.slice (some ⟨g, 0, none⟩) n c) l) (hn : l.length = n) (hl : n ≤ 2000) (hno : ∀ r, RightRq r → encT r ≠ (l.map (·.1)).drop 1) (hsz : ∀ x ∈ l, ∀ a ∈ x.1.attrs, a.2.size ≤ 281474976710656) (hG : GlbR W) :
    Calls Tryd.prog 8 #[.slice (some ⟨g, 4, none⟩) (n - 1) (c - 1)] W fun e w' => e = .returned (.tuple #[.agg (rqA zeroRq), .int .i64 3]) ∧ Below W.heap.size W w' := by
  obtain ⟨ao, cap, hv, hT⟩ := tokMem_own h (by omega)
  cases hv
  have hd := decode_any (some ⟨g, 4, none⟩) (c - 1) ((l.map (·.1)).drop 1) (fun k => avOf l (k + 1)) W hT.drop1 (fun t ht a ha => by
    obtain ⟨x, hx, rfl⟩ := List.mem_map.1 (List.mem_of_mem_drop ht)
    exact hsz x hx a ha) hG
  rw [List.length_drop, List.length_map, hn] at hd
  refine hd.mono ?_
  rintro e w' ⟨⟨r, hr, he, _⟩ | ⟨_, he⟩, hb⟩
  · exact absurd he (hno r hr)
  · exact ⟨he, hb⟩
theorem exact_map {r : Rq} {x0 x : TokV} {rest : List TokV} (hl : (x0 :: x :: rest).map (·.1) = encT r) (al : List (ByteArray × ByteArray)) (ga : Option Addr) (gc : Nat) : (x0 :: ({ x.1 with attrs := al }, ga, gc) :: rest).map (·.1) = elemT psB [] (elemT (verbB r.verb) al (charsT r.text)) := by
  unfold encT elemT at hl
  simp only [List.map_cons, List.cons_append, List.nil_append, List.append_assoc] at hl
  injection hl with h0 hl
  injection hl with h1 hl
  unfold elemT
  simp only [List.map_cons, List.cons_append, List.nil_append, List.append_assoc]
  rw [h0, h1, hl]
theorem small_set {r : Rq} (hra : RightRq r) {x0 x : TokV} {rest : List TokV} (hl : (x0 :: x :: rest).map (·.1) = encT r) {al : List (ByteArray × ByteArray)} (ga : Option Addr) (gc : Nat) (ha : ∀ a ∈ al, a.2.size ≤ 281474976710656) : ∀ y ∈ x0 :: ({ x.1 with attrs := al }, ga, gc) :: rest, ∀ a ∈ y.1.attrs, a.2.size ≤ 281474976710656 := by
  intro y hy a hya
  have hs := enc_small hra
  rw [← hl] at hs
  rcases List.mem_cons.1 hy with rfl | hy
  · exact hs _ (by simp) a hya
  · rcases List.mem_cons.1 hy with rfl | hy
    · exact ha a hya
    · exact hs _ (List.mem_map.2 ⟨y, by simp [hy], rfl⟩) a hya
theorem small_more {r : Rq} (hra : RightRq r) {nm s : ByteArray} (h : s.size ≤ 281474976710656) : ∀ a ∈ attrsR r ++ [(nm, s)], a.2.size ≤ 281474976710656 := by
  intro a ha
  rcases List.mem_append.1 ha with ha | ha
  · have := (attrs_small hra a ha).2
    omega
  · rw [List.mem_singleton.1 ha]
    exact h
theorem small_take {r : Rq} (hra : RightRq r) (k : Nat) : ∀ a ∈ (attrsR r).take k, a.2.size ≤ 281474976710656 := by
  intro a ha
  have := (attrs_small hra a (List.mem_of_mem_take ha)).2
  omega
theorem ex_hiT {o : Oper} {a : Act} {w : World} {x y : Operand} {b m cap : Nat} (ho : o.op = .slice 27 x (some y) none none) (hx : a.eval x = .slice (some ⟨b, 0, none⟩) m cap) (hy : a.eval y = .int .i64 1) (hk : 1 ≤ m) (hc : 2 ≤ cap) : (execOp a.eval o).run Tryd.prog w = .ok (.value (.slice (some ⟨b, 4, none⟩) (m - 1) (cap - 1))) w := by
  have he : Tryd.prog.elem 27 = 46 := by kernel_rfl
  have hu : Tryd.prog.underlying 27 = some (.slice (Tryd.prog.elem 27)) := by rw [he]; exact Tryd.underlying27
  obtain ⟨ti, t1, t2, t3, t4⟩ := info_parts infoTok
  have hsz : (Go.sizeOf 46).run Tryd.prog w = .ok 4 w := by simp [Go.sizeOf, typeInfo, t1, t3]
  have h1 := run_slice_l (P := Tryd.prog) (w := w) 27 (some ⟨b, 0, none⟩) m cap hu .i64 1 (by omega) (by omega)
  rw [he, hsz] at h1
  have h2 := run_sliceAt_slice (P := Tryd.prog) (w := w) 27 (.slice (some ⟨b, 0, none⟩) m cap) (some (.int .i64 1)) none none hu
  rw [h1] at h2
  have hc' : cap ≠ 1 := by omega
  unfold execOp
  simp [ho, hx, hy, h2, Result.andThen, sliced, Addr.add, hc']
theorem own_cap {W : World} {base g n c e sz : Nat} {xs : List Value} (h : W.ownsRow base e sz (.slice (some ⟨g, 0, none⟩) n c) n xs) : n ≤ c := by
  obtain ⟨_, ⟨hv, _⟩ | ⟨g', cap, cur, hv, _, _, hc, _⟩⟩ := h
  · cases hv
  · cases hv
    exact hc
end Go.Proofs.YtimhkgpjfppkmaaDoor
namespace Go.Proofs.YtimhkgpjfppkmaaDoor
open Go.RowKit Go.Deep Go.ChangeShapes Go.WideShapes

section
variable {H : Type} {enc : TypeId × Value → H} {W : World} {fuel : Nat}

/-- One attribute. -/
theorem attr_read {cs : List Value} {d : DataW H} {pl : List MemPlace} (h : DataW.trod enc Tryd.prog W 0 (fun _ => true) true fuel 49 cs = some (d, pl)) (hl : cs.length = 2) (hw : ∀ n ∈ d.weights Tryd.prog 49, n ≤ reachBytes) :
    ∃ s t : ByteArray, cs = [.string s, .string t] ∧ s.size ≤ 9223372036854775807 ∧ t.size ≤ 281474976710656 := by
  match cs, hl with
  | [c0, c1], _ =>
  obtain ⟨y0, y1, m, hx, _, h0, h1⟩ := trod_struct2 Tryd.underlying49 h
  obtain ⟨s, e0, _, w0⟩ := DataW.trod_string Tryd.underlying9 h0
  obtain ⟨t, e1, hy1, _⟩ := DataW.trod_string Tryd.underlying9 h1
  simp [show Tryd.prog.cellsOf 9 = 1 by kernel_rfl] at e0 e1
  subst e0 e1
  refine ⟨s, t, rfl, by unfold maxLen at w0; omega, ?_⟩
  have hh := hw t.size (by
    have hd : d = .agg [y0.1, y1.1] := congrArg Prod.fst hx
    subst hd hy1
    unfold DataW.weights
    rw [Tryd.underlying49]
    refine DataW.weights_mem_each (j := 1) rfl rfl t.size ?_
    rw [← size_list]
    unfold DataW.weights
    exact List.mem_singleton.2 rfl)
  rw [show reachBytes = 140737488351232 from rfl] at hh
  omega
end
end Go.Proofs.YtimhkgpjfppkmaaDoor
