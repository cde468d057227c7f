/- Bytes: lengths and texts, one behind the other. Bytes. live; a nil map. What Put makes may be in a map. -/
import Derived.Test.YtnbemfddcjhcaaaKC
import Derived.LoopN
import Derived.Lib.AppendStr
import Derived.Laws.IdiomStrings
import Derived.Laws.BytesArg
namespace Go.Proofs.Ytnbemfddcjhcaaa.Kv
open Go.RowKit

theorem info5 : (Try.prog.info? 5).map (fun i => (i.zero, i.size, i.bytes)) = some (some (.int .u8 0), 1, 1) := by kernel_rfl
theorem bc_len (l : List UInt8) : (Lib.byteCells l).length = l.length * 1 := by simp [Lib.byteCells]
theorem bc_app (a b : List UInt8) : Lib.byteCells (a ++ b) = Lib.byteCells a ++ Lib.byteCells b := by simp [Lib.byteCells]
abbrev Row (w : World) (base : Nat) (v : Value) (l : List UInt8) : Prop := w.ownsRow base 5 1 v l.length (Lib.byteCells l)
/-- One byte behind. -/
theorem put_byte {base : Nat} {v : Value} {l : List UInt8} {w : World} (c : UInt8) (h : Row w base v l) (hb : base ≤ w.heap.size) (hl : l.length ≤ 10000000) : ∃ v' w', (Builtin.append_ #[34, 34] 34 #[v, .slice (some ⟨w.heap.size, 0, none⟩) 1 1]).run Try.prog (w.alloc (.cells #[.int .u8 c.toNat] 5)) = .ok v' w' ∧ Row w' base v' (l ++ [c]) ∧ w.grownBy w' v.ownBlock ∧ (v'.ownBlock = v.ownBlock ∨ ∃ g, v'.ownBlock = some g ∧ w.heap.size ≤ g) := by
  obtain ⟨ti, t1, t2, t3, t4⟩ := info_parts info5
  have hB : Below w.heap.size w (w.alloc (.cells #[.int .u8 c.toNat] 5)) := (Below.refl _ w).alloc (Nat.le_refl _) _
  obtain ⟨v', w', hap, y1, y2, _, y4⟩ := run_append_own_at (P := Try.prog) (w.alloc (.cells #[.int .u8 c.toNat] 5)) base 34 34 5 ti _ 1 1 Try.underlying34 t1 t2 t3 t4 rfl (by omega) v l.length (Lib.byteCells l) (own_same h (fun g e => hB.block g (own_lt h g e))) ⟨w.heap.size, 0, none⟩ 1 1 [.int .u8 c.toNat] rfl (cell_one_new w _ _) (by simp [Value.oneCell']) (by unfold maxLen; omega) (by omega) (Nat.le_trans hb hB.size)
  refine ⟨v', w', hap, ?_, (World.grownBy_alloc w _ _).trans y2, ?_⟩
  · show w'.ownsRow base 5 1 v' (l ++ [c]).length (Lib.byteCells (l ++ [c]))
    rw [bc_app, List.length_append]
    exact y1
  · rcases y4 with z | z
    · exact .inl z
    · exact .inr ⟨_, z, hB.size⟩
theorem put_text {base : Nat} {v : Value} {l : List UInt8} {w : World} (s : ByteArray) (h : Row w base v l) (hb : base ≤ w.heap.size) (hl : l.length + s.size ≤ 10000000) : ∃ v' w', (Builtin.append_ #[34, 9] 34 #[v, .string s]).run Try.prog w = .ok v' w' ∧ Row w' base v' (l ++ s.toList) ∧ w.grownBy w' v.ownBlock := by
  obtain ⟨ti, t1, t2, t3, t4⟩ := info_parts info5
  obtain ⟨v', w', hap, y1, y2, _⟩ := Lib.run_append_own_string (P := Try.prog) w base 34 9 34 5 ti Try.underlying34 Try.underlying9 t1 t2 t3 t4 v l.length (Lib.byteCells l) h s (by unfold maxLen; omega) (by omega) hb
  refine ⟨v', w', hap, ?_, y2⟩
  have hsl : s.toList.length = s.size := by rw [ByteArray.toList_eq]; simp
  have hsc : Lib.byteCells s.toList = Lib.strCells s := by rw [ByteArray.toList_eq]; simp [Lib.byteCells, Lib.strCells]
  show w'.ownsRow base 5 1 v' (l ++ s.toList).length (Lib.byteCells (l ++ s.toList))
  rw [bc_app, List.length_append, hsl, hsc]
  exact y1
theorem grown_step {w w1 w2 : World} {a b : Option Nat} (h1 : w.grownBy w1 a) (h2 : w1.grownBy w2 b) (hb : b = a ∨ ∃ g, b = some g ∧ w.heap.size ≤ g) : w.grownBy w2 a := by
  refine ⟨h2.os.trans h1.os, h2.tape.trans h1.tape, h2.output.trans h1.output, Nat.le_trans h1.size h2.size, fun k hk hne => (h2.block k (Nat.lt_of_lt_of_le hk h1.size) (fun e => ?_)).trans (h1.block k hk hne)⟩
  rcases hb with z | ⟨g, z, hg⟩
  · exact hne (by rw [← z]; exact e)
  · rw [z] at e
    cases e
    omega
theorem ex_append2 {o : Oper} {a : Act} {w w' : World} {s x : Operand} {t t' : TypeId} {u v r : Value} (ho : o.op = .call { callee := .builtin .append, args := #[s, x], argTypes := #[t, t'] }) (hs : a.eval s = u) (hx : a.eval x = v) (hr : (Builtin.append_ #[t, t'] o.type #[u, v]).run Try.prog w = .ok r w') : (execOp a.eval o).run Try.prog w = .ok (.value r) w' := by
  simp [execOp, ho, resolve, invoke, builtin, hs, hx, hr, Result.andThen]
set_option maxRecDepth 100000 in
set_option maxHeartbeats 2000000 in
theorem addText1_any (base : Nat) (v : Value) (l : List UInt8) (s : ByteArray) (w : World) (h : Row w base v l) (hb : base ≤ w.heap.size) (hl : l.length ≤ 1000000) (hs : s.size ≤ 64) :
    Calls Try.prog 22 #[v, .int .i64 1, .string s] w fun e w' => ∃ v', e = .returned v' ∧ Row w' base v' (l ++ [UInt8.ofNat s.size] ++ s.toList) ∧ w.grownBy w' v.ownBlock := by
  obtain ⟨v1, w1, a1, r1, g1, p1⟩ := put_byte (UInt8.ofNat s.size) h hb (by omega)
  have hz1 := g1.size
  obtain ⟨v2, w2, a2, r2, g2⟩ := put_text s r1 (by omega) (by simp; omega)
  have hu : ((UInt8.ofNat s.size).toNat : Int) = s.size := by rw [UInt8.toNat_ofNat']; omega
  rw [hu] at a1
  have HF := hide (And.intro r2 (grown_step g1 g2 (p1.imp id (fun ⟨g, x, y⟩ => ⟨g, x, y⟩))))
  have HA1 := hide a1
  have HA2 := hide a2
  obtain ⟨ga, gc, rfl⟩ := own_shape h
  have hw8 : IntKind.u8.wrap (s.size : Int) = s.size := by rw [IntKind.wrap_u8]; omega
  clear h r1 r2 g1 g2 p1 a1 a2
  go_enter Try.func22, Try.ntmps22
  go_wp2_with fail
  refine wp_loop_rounds 2 ?_
  rw [rounds_succ]
  go_wp2_with (first | (at_builtin; refine l_val rfl _ (ex_append2 (t := 34) (t' := 34) rfl rfl rfl HA1.out) ?_))
  rw [rounds_succ]
  go_wp2_with (first | (at_builtin; refine l_val rfl _ (ex_append2 (t := 34) (t' := 9) rfl rfl rfl HA2.out) ?_))
  go_ret
  exact ⟨_, rfl, HF.out.1, HF.out.2⟩
set_option maxRecDepth 100000 in
set_option maxHeartbeats 2000000 in
theorem addText2_any (base : Nat) (v : Value) (l : List UInt8) (s : ByteArray) (w : World) (h : Row w base v l) (hb : base ≤ w.heap.size) (hl : l.length ≤ 1000000) (hs : s.size ≤ 4096) :
    Calls Try.prog 22 #[v, .int .i64 2, .string s] w fun e w' => ∃ v', e = .returned v' ∧ Row w' base v' (l ++ [UInt8.ofNat (s.size / 256)] ++ [UInt8.ofNat s.size] ++ s.toList) ∧ w.grownBy w' v.ownBlock := by
  obtain ⟨v0, w0, a0, r0, g0, p0⟩ := put_byte (UInt8.ofNat (s.size / 256)) h hb (by omega)
  have hz0 := g0.size
  obtain ⟨v1, w1, a1, r1, g1, p1⟩ := put_byte (UInt8.ofNat s.size) r0 (by omega) (by simp; omega)
  have hz1 := g1.size
  obtain ⟨v2, w2, a2, r2, g2⟩ := put_text s r1 (by omega) (by simp; omega)
  have hu0 : ((UInt8.ofNat (s.size / 256)).toNat : Int) = (s.size : Int) / 256 := by rw [UInt8.toNat_ofNat']; omega
  have hu : ((UInt8.ofNat s.size).toNat : Int) = (s.size : Int) % 256 := by rw [UInt8.toNat_ofNat']; omega
  rw [hu0] at a0
  rw [hu] at a1
  have HF := hide (And.intro r2 (grown_step (grown_step g0 g1 p0) g2 (by
    rcases p1 with z | ⟨g, z, hg⟩
    · rw [z]
      exact p0
    · exact .inr ⟨g, z, by omega⟩)))
  have HA0 := hide a0
  obtain ⟨m0, hm0⟩ : ∃ m0, (l ++ [UInt8.ofNat (s.size / 256)]).length = m0 := ⟨_, rfl⟩
  have hs0 := own_shape r0
  rw [hm0] at hs0
  obtain ⟨ga0, gc0, rfl⟩ := hs0
  clear hm0
  have HA1 := hide a1
  have HA2 := hide a2
  obtain ⟨ga, gc, rfl⟩ := own_shape h
  clear h r0 r1 r2 g0 g1 g2 p0 p1 a0 a1 a2
  go_enter Try.func22, Try.ntmps22
  go_wp2_with fail
  refine wp_loop_rounds 3 ?_
  rw [rounds_succ]
  go_wp2_with (first | (at_builtin; refine l_val rfl _ (ex_append2 (t := 34) (t' := 34) rfl rfl rfl HA0.out) ?_))
  rw [rounds_succ]
  go_wp2_with (first | (at_builtin; refine l_val rfl _ (ex_append2 (t := 34) (t' := 34) rfl rfl rfl HA1.out) ?_))
  rw [rounds_succ]
  go_wp2_with (first | (at_builtin; refine l_val rfl _ (ex_append2 (t := 34) (t' := 9) rfl rfl rfl HA2.out) ?_))
  go_ret
  exact ⟨_, rfl, HF.out.1, HF.out.2⟩
end Go.Proofs.Ytnbemfddcjhcaaa.Kv
namespace Go.Proofs.Ytnbemfddcjhcaaa.Kv
open Go.RowKit Go.Shelf
open Go.ChangeMaps (setBlock)
attribute [local go_sem] Oper.semAt_some

def encP (x : Pr) : List UInt8 := [UInt8.ofNat x.1.size] ++ x.1.toList ++ [UInt8.ofNat (x.2.size / 256)] ++ [UInt8.ofNat x.2.size] ++ x.2.toList
def bytesM (L : List Pr) : List UInt8 := L.flatMap encP
theorem tl_len (s : ByteArray) : s.toList.length = s.size := by rw [ByteArray.toList_eq]; simp
theorem encP_len (x : Pr) : (encP x).length = sz1 x := by
  simp [encP, sz1, tl_len]
  omega
theorem bytesM_len (L : List Pr) : (bytesM L).length = sizeM L := by
  induction L with
  | nil => rfl
  | cons x L ih =>
    simp only [bytesM, sizeM, List.flatMap_cons, List.length_append, List.map_cons, List.sum_cons] at ih ⊢
    rw [encP_len, ih]
theorem begB_empty (k : ByteArray) : begB ⟨#[]⟩ k = true := by
  unfold begB
  have h0 : ByteArray.size ⟨#[]⟩ = 0 := rfl
  have h1 : (⟨#[]⟩ : ByteArray).toList = [] := by rw [ByteArray.toList_eq]
  have h2 : (k.extract 0 0).toList = [] := by rw [ByteArray.toList_eq]; simp
  rw [h0, h1, h2]
  simp
theorem scan_all (L : List Pr) : scanM L ⟨#[]⟩ = L := by
  unfold scanM
  rw [List.filter_eq_self]
  intro x _
  exact begB_empty x.1
theorem size_good {L : List Pr} (hG : Good L) : sizeM L ≤ 532864 := by
  have h1 := sum_le (L := L) (fun x hx => by
    have := hG.each x hx
    simp [sz1]
    omega)
  have h2 : L.length * 4163 ≤ 128 * 4163 := Nat.mul_le_mul_right _ hG.few
  omega
theorem take_size {L : List Pr} (k : Nat) : sizeM (L.take k) ≤ sizeM L := by
  conv => rhs; rw [← List.take_append_drop k L]
  unfold sizeM
  rw [List.map_append, List.sum_append]
  omega
theorem keep5 {W w5 : World} {base j : Nat} {v : Value} {l : List UInt8} {o : Obj} (h : Row W base v l) (hg : W.grownBy w5 v.ownBlock) (hj : W.heap[j]? = some o) (hn : ∀ cs, o ≠ .cells cs 5) : w5.heap[j]? = some o := by
  refine (hg.block j (hp_lt hj) (fun e => ?_)).trans hj
  obtain ⟨_, ⟨rfl, _⟩ | ⟨g, cap, cur, rfl, _, x2, _⟩⟩ := h
  · cases e
  · cases e
    rw [hj] at x2
    cases x2
    exact hn cur rfl
theorem row_ne5 {W : World} {base j : Nat} {v : Value} {l : List UInt8} {o : Obj} (h : Row W base v l) (hj : W.heap[j]? = some o) (hn : ∀ cs, o ≠ .cells cs 5) : v.ownBlock ≠ some j := fun e => by
  obtain ⟨_, ⟨rfl, _⟩ | ⟨g, cap, cur, rfl, _, x2, _⟩⟩ := h
  · cases e
  · cases e
    rw [hj] at x2
    cases x2
    exact hn cur rfl
theorem GK_ne {o : Obj} (h : GK o) : ∀ cs, o ≠ .cells cs 5 := by
  rintro cs rfl
  obtain ⟨cs', T, e, hT⟩ := h
  cases e
  rcases hT with hT | hT <;> exact absurd hT (by decide)
set_option maxRecDepth 100000 in
set_option maxHeartbeats 8000000 in
theorem bytes_any (base p b : Nat) (L : List Pr) (w : World) (h : IsM base p b L w) (hG : Good L) :
    Calls Try.prog 9 #[.pointer (some ⟨p, 0, none⟩)] w fun e w' => ∃ v, e = .returned v ∧ Row w' w.heap.size v (bytesM L) ∧ Below w.heap.size w w' := by
  have hlo : p < w.heap.size ∧ b < w.heap.size := ⟨(h.lt (.inl rfl)).2, (h.lt (.inr rfl)).2⟩
  have HS := hide (size_any base p b L w h hG)
  have hsz := size_good hG
  obtain ⟨N, hN⟩ : ∃ N, sizeM L = N := ⟨_, rfl⟩
  rw [hN] at HS hsz
  have HH := hide (And.intro h (And.intro hG hN))
  obtain ⟨ti, t1, t2, t3, t4⟩ := info_parts info5
  clear h hG hN
  refine (callsIn_wide (n := 3)).1 ?_
  refine callsIn_of_wp_marks Try.func9 rfl trivial ?_ rfl
  simp only [Try.ntmps9, List.size_toArray, List.length_cons, List.length_nil, Nat.reduceAdd, Nat.reduceSub, Array.replicate_succ, Array.replicate_zero, List.push_toArray, List.append_toArray, List.nil_append, List.cons_append]
  gi_wp2_with fail
  refine ⟨trivial, (callsIn_wide.2 HS.out).mono ?_⟩
  rintro e w1 ⟨rfl, b1⟩
  have z1 := b1.size
  gi_wp2_with (refine wpListIn_make_own _ rfl _ _ 34 rfl w.heap.size 5 ti (.int .u8 0) 1 Try.underlying34 t1 t2 t3 .i64 .i64 _ N rfl rfl rfl (by rw [t4]; omega) (by unfold maxLen; omega) (by omega) ?_; intro w2 y1 y2; have hB2 := b1.grown y2 (by omega) (fun k e => by cases e); have H2 := hide (And.intro y1 hB2); have z2 := hB2.size; clear y1 y2 hB2)
  obtain ⟨W3, hW3⟩ : ∃ W3, w2.alloc (.cells #[.slice (some ⟨w1.heap.size, 0, none⟩) 0 N] 34) = W3 := ⟨_, rfl⟩
  have f3 : W3.heap[w2.heap.size]? = some (.cells #[.slice (some ⟨w1.heap.size, 0, none⟩) 0 N] 34) := by rw [← hW3]; exact heap_alloc_new w2 _
  have z3 : W3.heap.size = w2.heap.size + 1 := by rw [← hW3]; simp
  have hB3 : Below w2.heap.size w2 W3 := by rw [← hW3]; exact (Below.refl _ w2).alloc (Nat.le_refl _) _
  rw [hW3]
  refine ⟨trivial, (callsIn_wide.2 (rising_any p ⟨#[]⟩ W3)).mono ?_⟩
  rintro e w4 ⟨rfl, x1, x2, z4, b4⟩
  have hB4 : Below w.heap.size w w4 := H2.out.2.trans ((hB3.mono z2).trans (b4.mono (by omega)))
  have f4 := (b4.block w2.heap.size (by omega)).trans f3
  have y4 : w4.ownsRow w.heap.size 5 1 (.slice (some ⟨w1.heap.size, 0, none⟩) 0 N) 0 [] := own_same H2.out.1 (fun g e => (b4.block g (by have := own_lt H2.out.1 g e; omega)).trans (hB3.block g (own_lt H2.out.1 g e)))
  have hseq := rising_seq (3 - 1) w.heap.size base p b L ⟨#[]⟩ W3.heap.size (W3.heap.size + 1) w4 (HH.out.1.below hB4) HH.out.2.1.few hlo x1 x2 ⟨by omega, by omega⟩
  rw [scan_all] at hseq
  have HQ := hide hseq
  have HA := hide (And.intro hB4 (And.intro f4 (And.intro y4 (And.intro x1 x2))))
  have hw1B : w1.heap.size < w2.heap.size := own_lt H2.out.1 _ rfl
  obtain ⟨B, hB⟩ : ∃ B, w2.heap.size = B := ⟨_, rfl⟩
  obtain ⟨q1, hq1⟩ : ∃ q1, W3.heap.size = q1 := ⟨_, rfl⟩
  rw [hq1] at HQ HA z4 ⊢
  rw [hB] at HA hw1B ⊢
  have zB : w.heap.size ≤ B := by omega
  have zB4 : B < w4.heap.size := by omega
  have zq : q1 = B + 1 := by omega
  have HZ := hide zq
  clear hseq f3 hB3 x1 x2 b4 hB4 f4 y4 H2 hW3 z3 zq hq1 hB
  gi_wp2_with fail
  refine range_own (it := 37) (pre := #[]) (held := #[.pointer (some ⟨q1, 0, none⟩), .pointer (some ⟨q1 + 1, 0, none⟩)]) (by omega) rfl trivial rfl (enters_of Try.func37 (by kernel_rfl) rfl) (n₀ := w.heap.size) (by omega) (Below.refl _ _)
    (fun j hj => by rcases hj with rfl | rfl <;> omega) HQ.out (fun _ => rfl)
    (fun M k W => ∃ v, W.heap[B]? = some (.cells #[v] 34) ∧ Row W w.heap.size v (bytesM (L.take k)) ∧ (∀ j, v.ownBlock = some j → ¬ M j) ∧ ¬ M B ∧ Below w.heap.size w W)
    (fun _ _ => False)
    ?hI ?hIx ?h0 (fun k => .cells (obA L k) 26)
    (fun k bs => { tmps := #[.pointer (some ⟨p, 0, none⟩), undef, .slice none 0 0, .pointer (some ⟨B, 0, none⟩), .pointer (some ⟨bs, 0, none⟩), .pointer (some ⟨p, 0, none⟩), .bool false, .pointer (some ⟨p, 0, none⟩), .int .i64 N, .slice (some ⟨w1.heap.size, 0, none⟩) 0 N, .pointer (some ⟨p, 0, none⟩), riseV q1 (q1 + 1), pairV L k, undef, undef, undef, undef, undef, undef, undef, undef, undef], defers := [] })
    ?assign ?body ?done ?stop
  case hI =>
    rintro M M' k A B' ⟨v, i0, i1, i2, i3, i4⟩ hb hc hm
    refine ⟨v, hc _ _ i0 (.inl rfl) i3, own_same i1 (fun g e => ?_), fun j e hj => i2 j e (hm j (own_lt i1 j e) hj), fun h => i3 (hm _ (hp_lt i0) h), i4.trans hb⟩
    obtain ⟨_, ⟨rfl, _⟩ | ⟨g', cap, cur, rfl, x1, x2, _⟩⟩ := i1
    · cases e
    · cases e
      exact (hc g' _ x2 (.inl rfl) (i2 g' rfl)).trans x2.symm
  case hIx => exact fun k A B h => h.elim
  case h0 =>
    refine ⟨_, HA.out.2.1, HA.out.2.2.1, fun j e hj => ?_, fun h => (by have := HZ.out; rcases h with h | h <;> omega), HA.out.1⟩
    cases e
    have := HZ.out
    rcases hj with h | h
    · have h' : w1.heap.size = q1 := h
      omega
    · have h' : w1.heap.size = q1 + 1 := h
      omega
  case assign =>
    intro l k W K hk hK
    obtain ⟨x, hx⟩ : ∃ x, L[k]? = some x := ⟨L[k], by simp [hk]⟩
    have hv : pairV L k = .agg #[.string x.1, .string x.2] := by simp [pairV, hx]
    have ho : obA L k = #[.string x.1, .string x.2] := by simp [obA, hx]
    rw [hv, ho] at hK
    rw [hv]
    gi_wp2_with fail
    exact hK
  case body =>
    rintro l M k bs W ⟨v, i0, i1, i2, i3, i4⟩ hk hM hbs hle
    obtain ⟨x, hx⟩ : ∃ x, L[k]? = some x := ⟨L[k], by simp [hk]⟩
    obtain ⟨hk1, hk64, hv4⟩ := HH.out.2.1.each x (List.mem_of_getElem? hx)
    have hv : pairV L k = .agg #[.string x.1, .string x.2] := by simp [pairV, hx]
    have ho : obA L k = #[.string x.1, .string x.2] := by simp [obA, hx]
    rw [ho] at hbs
    have hc0 : W.cell? ⟨B, 0, none⟩ = some v := one_cell i0
    have hcb : W.cell? ⟨bs, 0, none⟩ = some (.string x.1) ∧ W.cell? ⟨bs, 1, none⟩ = some (.string x.2) := by simp [World.cell?, hbs]
    obtain ⟨cb0, cb1⟩ := hcb
    have hWz : w.heap.size ≤ W.heap.size := i4.size
    have hkl : (bytesM (L.take k)).length ≤ 532864 := by
      rw [bytesM_len]
      have := take_size (L := L) k
      have := HH.out.2.2
      omega
    have HC1 := hide (addText1_any w.heap.size v (bytesM (L.take k)) x.1 W i1 hWz (by omega) hk64)
    have HI := hide (And.intro i0 (And.intro i1 (And.intro i2 (And.intro i3 (And.intro i4 (And.intro hM hbs))))))
    obtain ⟨ga, gc, rfl⟩ := own_shape i1
    obtain ⟨m, hm⟩ : ∃ m, (bytesM (L.take k)).length = m := ⟨_, rfl⟩
    rw [hm] at hc0 HC1 HI
    have hltB := hp_lt i0
    have hltb := hp_lt hbs
    clear i0 i1 i2 i3 i4 hM hbs ho hm
    rw [hv]
    gi_wp2_with fail
    refine ⟨trivial, (CallsIn.inRound l (callsIn_wide.2 HC1.out)).mono ?_⟩
    rintro e w5 ⟨v5, rfl, r5, g5⟩
    obtain ⟨i0, i1, i2, i3, i4, hM, hbs⟩ := HI.out
    have i1' : Row W w.heap.size (.slice ga m gc) (bytesM (L.take k)) := i1
    have s5 := g5.size
    have f5 := keep5 i1' g5 i0 (fun cs e => by cases e)
    have d5 := keep5 i1' g5 hbs (fun cs e => by cases e)
    have hb5 : Below w.heap.size W w5 := (Below.refl _ W).grown g5 hWz (fun j e => own_base i1' j e)
    have hc5 : w5.cell? ⟨B, 0, none⟩ = some (.slice ga m gc) := one_cell f5
    have hf5 : w5.frozen? ⟨B, 0, none⟩ = false := by simp [World.frozen?, f5]
    obtain ⟨l5, hl5⟩ : ∃ l5, bytesM (L.take k) ++ [UInt8.ofNat x.1.size] ++ x.1.toList = l5 := ⟨_, rfl⟩
    have hl5n : l5.length ≤ 532964 := by rw [← hl5]; simp [tl_len]; omega
    rw [hl5] at r5
    have hneB : v5.ownBlock ≠ some B := row_ne5 r5 f5 (fun cs e => by cases e)
    obtain ⟨W6, hW6⟩ : ∃ W6, w5.setCell ⟨B, 0, none⟩ v5 = W6 := ⟨_, rfl⟩
    have f6 : W6.heap[B]? = some (.cells #[v5] 34) := by
      rw [← hW6, heap_setCell_same _ _ 0 _ _ _ f5]
      rfl
    have o6 : ∀ j, j ≠ B → W6.heap[j]? = w5.heap[j]? := fun j hj => by rw [← hW6]; exact Below.heap_setCell _ _ _ _ hj
    have r6 : Row W6 w.heap.size v5 l5 := own_same r5 (fun g e => o6 g (fun e2 => hneB (e2 ▸ e)))
    have z6 : W6.heap.size = w5.heap.size := by rw [← hW6]; simp
    have hb6 : Below w.heap.size W W6 := by rw [← hW6]; exact hb5.setCell (p := ⟨B, 0, none⟩) zB _
    have hbsB : bs ≠ B := fun e => by rw [e, i0] at hbs; cases hbs
    have d6 := (o6 bs hbsB).trans d5
    have HC2 := hide (addText2_any w.heap.size v5 l5 x.2 W6 r6 (by omega) (by omega) hv4)
    have c6 : W6.cell? ⟨B, 0, none⟩ = some v5 := one_cell f6
    have e6 : W6.cell? ⟨bs, 1, none⟩ = some (.string x.2) := by simp [World.cell?, d6]
    have H6 := hide (And.intro f6 (And.intro o6 (And.intro r6 (And.intro hb6 (And.intro d6 (And.intro r5 (And.intro g5 hl5)))))))
    obtain ⟨m5, hm5⟩ : ∃ m5, l5.length = m5 := ⟨_, rfl⟩
    have hsh := own_shape r5
    rw [hm5] at hsh
    obtain ⟨ga5, gc5, rfl⟩ := hsh
    clear r5 g5 f5 d5 hb5 f6 o6 r6 hb6 d6 i0 i1 i2 i3 i4 hM hbs hl5 hm5 hneB i1'
    gi_wp2_with fail
    refine ⟨trivial, (CallsIn.inRound l (callsIn_wide.2 HC2.out)).mono ?_⟩
    rintro e w7 ⟨v7, rfl, r7, g7⟩
    obtain ⟨f6, o6, r6, hb6, d6, r5, g5, hl5⟩ := H6.out
    obtain ⟨i0, i1, i2, i3, i4, hM, hbs⟩ := HI.out
    have i1' : Row W w.heap.size (.slice ga m gc) (bytesM (L.take k)) := i1
    have f7 := keep5 r6 g7 f6 (fun cs e => by cases e)
    have hc7 : w7.cell? ⟨B, 0, none⟩ = some (.slice ga5 m5 gc5) := one_cell f7
    have hf7 : w7.frozen? ⟨B, 0, none⟩ = false := by simp [World.frozen?, f7]
    have hb7 : Below w.heap.size W w7 := hb6.grown g7 (by omega) (fun j e => own_base r6 j e)
    have hneB7 : v7.ownBlock ≠ some B := row_ne5 r7 f7 (fun cs e => by cases e)
    have o7 : ∀ j o, j ≠ B → W.heap[j]? = some o → (∀ cs, o ≠ .cells cs 5) → (w7.setCell ⟨B, 0, none⟩ v7).heap[j]? = some o := fun j o hj ho hn =>
      (Below.heap_setCell _ _ _ _ hj).trans (keep5 r6 g7 ((o6 j hj).trans (keep5 i1' g5 ho hn)) hn)
    have hb8 : Below w.heap.size W (w7.setCell ⟨B, 0, none⟩ v7) := hb7.setCell (p := ⟨B, 0, none⟩) zB _
    have r8 : Row (w7.setCell ⟨B, 0, none⟩ v7) w.heap.size v7 (bytesM (L.take (k + 1))) := by
      have he : bytesM (L.take (k + 1)) = l5 ++ [UInt8.ofNat (x.2.size / 256)] ++ [UInt8.ofNat x.2.size] ++ x.2.toList := by
        rw [List.take_add_one, hx, ← hl5]
        simp [bytesM, encP]
      rw [he]
      exact own_same r7 (fun g e => Below.heap_setCell _ _ _ _ (fun e2 => hneB7 (by rw [e, e2])))
    have hfin : roundEnds w4.heap.size w.heap.size M (fun M k W => ∃ v, W.heap[B]? = some (.cells #[v] 34) ∧ Row W w.heap.size v (bytesM (L.take k)) ∧ (∀ j, v.ownBlock = some j → ¬ M j) ∧ ¬ M B ∧ Below w.heap.size w W) (fun _ _ => False) (k + 1) W .normal ⟨#[], []⟩ (w7.setCell ⟨B, 0, none⟩ v7) := by
      refine ⟨⟨hb8.size, fun j o hj ho hc => o7 j o (fun e => by rw [e, i0] at ho; cases ho; cases hc) ho (fun cs e => by rw [e] at hc; cases hc)⟩, fun j hj => ?_, hb8, v7, ?_, r8, fun j e hj => ?_, i3, i4.trans hb8⟩
      · obtain ⟨_, _, o, ho, hG⟩ := hM j hj
        exact (o7 j o (fun e => i3 (e ▸ hj)) ho (GK_ne hG)).trans ho.symm
      · rw [heap_setCell_same _ _ 0 _ _ _ f7]
        rfl
      · obtain ⟨_, _, o, ho, hG⟩ := hM j hj
        exact row_ne5 r8 (o7 j o (fun e => i3 (e ▸ hj)) ho (GK_ne hG)) (GK_ne hG) e
    have HF := hide hfin
    have hsh := own_shape r7
    obtain ⟨m7, hm7⟩ : ∃ m7, (l5 ++ [UInt8.ofNat (x.2.size / 256)] ++ [UInt8.ofNat x.2.size] ++ x.2.toList).length = m7 := ⟨_, rfl⟩
    rw [hm7] at hsh
    obtain ⟨ga7, gc7, rfl⟩ := hsh
    clear r7 g7 f7 hb7 o7 hb8 r8 hfin f6 o6 r6 hb6 d6 r5 g5 i0 i1 i2 i3 i4 hM hbs hl5 hm7 hneB7 i1'
    gi_wp2_with fail
    exact HF.out
  case done =>
    rintro D M W hD ⟨v, i0, i1, i2, i3, i4⟩ hK
    have hc0 : W.cell? ⟨B, 0, none⟩ = some v := one_cell i0
    rw [List.take_length] at i1
    obtain ⟨m, hm⟩ : ∃ m, (bytesM L).length = m := ⟨_, rfl⟩
    have i1' := i1
    unfold Row at i1'
    rw [hm] at i1'
    obtain ⟨ga, gc, rfl⟩ := own_shape i1'
    have HE := hide (And.intro i1 (And.intro i4 hK))
    clear i0 i1 i2 i3 i4 hK hm i1'
    gi_wp2_with fail
    obtain ⟨i1, i4, hK⟩ := HE.out
    refine ⟨by simp, .inl ⟨_, _, rfl, run_takeDeferred hK, ?_⟩⟩
    have hgD : ∀ g, (Value.slice ga m gc).ownBlock = some g → g ≠ D := fun g e e2 => by
      obtain ⟨_, ⟨u1, _⟩ | ⟨g', cap, cur, u1, _, u2, _⟩⟩ := i1
      · rw [u1] at e
        cases e
      · rw [u1] at e
        cases e
        have e3 : g' = D := e2
        rw [e3, hK] at u2
        cases u2
    refine ⟨_, results_tmp rfl _ _ _, _, rfl, ?_, i4.trans (below_put _ _ (by omega))⟩
    exact own_same i1 (fun g e => World.putObj_heap_other (hgD g e))
  case stop => exact fun D k W hD hk h => h.elim
end Go.Proofs.Ytnbemfddcjhcaaa.Kv
namespace Go.Proofs.Ytnbemfddcjhcaaa.Kv
open Go.RowKit

/-- Bytes as a text. -/
theorem conv_row {w : World} {base : Nat} {v : Value} {l : List UInt8} (h : Row w base v l) : (convert 34 9 v).run Try.prog w = .ok (.string (ofS l)) w := by
  obtain ⟨h1, ⟨rfl, h2⟩ | ⟨g, cap, cur, rfl, x1, x2, x3, x4, x5, x6⟩⟩ := h
  · have hl : l = [] := List.eq_nil_of_length_eq_zero h2
    subst hl
    exact run_convert_bytes_nil (P := Try.prog) w 34 5 Try.underlying34 Try.underlying5 0 0 9 Try.underlying9
  · refine run_convert_bytes_back (P := Try.prog) w _ 9 5 ⟨g, 0, none⟩ cap l Try.underlying34 Try.underlying5 Try.underlying9 (fun j hj => ?_)
    have hx : (Lib.byteCells l)[j]? = some (.int .u8 (l[j].toNat : Int)) := by simp [Lib.byteCells, hj]
    rw [← x6, List.getElem?_take_of_lt (by omega)] at hx
    rw [Addr.add_mid]
    simp [World.cell?, x2]
    simpa using hx
def kA : ByteArray := ⟨#[97]⟩
def kB : ByteArray := ⟨#[98]⟩
theorem live_put : putE [] kA kB = 0 ∧ putL [] kA kB = [(kA, kB)] := by
  have h : ¬ badKV kA kB := by unfold badKV; simp [kA, kB, ByteArray.size]
  have e : putE [] kA kB = 0 := by unfold putE; rw [if_neg h, if_neg (by simp)]
  refine ⟨e, ?_⟩
  unfold putL
  rw [e, if_pos rfl]
  rfl
theorem live_get : getM [(kA, kB)] kA = some kB := by simp [getM]
theorem live_good : Good [(kA, kB)] := ⟨by simp, fun x hx => by
  simp at hx
  subst hx
  decide⟩
theorem live_size : sizeM [(kA, kB)] = 5 := by decide
theorem ta : kA.toList = [97] := by rw [ByteArray.toList_eq]; rfl
theorem tb : kB.toList = [98] := by rw [ByteArray.toList_eq]; rfl
theorem live_bytes : bytesM [(kA, kB)] = [1, 97, 0, 1, 98] := by
  simp only [bytesM, List.flatMap_cons, List.flatMap_nil, encP, ta, tb, List.append_nil]
  decide
theorem put_nil (k v : ByteArray) (w : World) : Calls Try.prog 5 #[.pointer none, .string k, .string v] w fun e w' => e = .returned (.int .i64 1) ∧ w' = w := by
  go_enter Try.func5, Try.ntmps5
  go_wp2_with fail
  go_ret
  exact ⟨rfl, rfl⟩
theorem scan_nil (k : ByteArray) (w : World) : Calls Try.prog 14 #[.pointer none, .string k] w fun e w' => e = .returned (.slice none 0 0) ∧ w' = w := by
  go_enter Try.func14, Try.ntmps14
  go_wp2_with fail
  go_ret
  exact ⟨rfl, rfl⟩
theorem len_nil (w : World) : Calls Try.prog 12 #[.pointer none] w fun e w' => e = .returned (.int .i64 0) ∧ w' = w := by
  go_enter Try.func12, Try.ntmps12
  go_wp2_with fail
  go_ret
  exact ⟨rfl, rfl⟩
theorem size_nil (w : World) : Calls Try.prog 13 #[.pointer none] w fun e w' => e = .returned (.int .i64 0) ∧ w' = w := by
  go_enter Try.func13, Try.ntmps13
  go_wp2_with fail
  go_ret
  exact ⟨rfl, rfl⟩
set_option maxRecDepth 100000 in
theorem bytes_nil (w : World) : Calls Try.prog 9 #[.pointer none] w fun e w' => e = .returned (.slice none 0 0) ∧ w' = w := by
  go_enter Try.func9, Try.ntmps9
  go_wp2_with fail
  go_ret
  exact ⟨rfl, rfl⟩
end Go.Proofs.Ytnbemfddcjhcaaa.Kv
namespace Go.Proofs.Ytnbemfddcjhcaaa.Kv
open Go.RowKit

theorem frees_box {base : Nat} {M : Blk} {A B : World} (h : Frees base M A B) {b : Nat} {o : Obj} (hb : A.heap[b]? = some o) (hm : ¬ M b) : B.heap[b]? = some o := (h.same b (Array.getElem?_eq_some_iff.1 hb).1 hm).trans hb
theorem less_yes {a b : Str} (h : a < b) : Op.bytesLess a b = true := by rw [bytesLess_eq]; exact decide_eq_true h
theorem less_no {a b : Str} (h : ¬ a < b) : Op.bytesLess a b = false := by rw [bytesLess_eq]; exact decide_eq_false h
theorem results_three {fn : Func} {tmps : Array Value} {w : World} {a b c : Nat} {x y z : Value} (h : fn.results = #[.tmp a, .tmp b, .tmp c]) (ha : tmps[a]?.getD undef = x) (hb : tmps[b]?.getD undef = y) (hc : tmps[c]?.getD undef = z) : (results fn tmps).run Try.prog w = .ok (.tuple #[x, y, z]) w := by
  simp [results, h, ha, hb, hc]
theorem good_put {L : List Pr} (h : Good L) (hR : Rising L) (k v : ByteArray) : Good (putL L k v) := by
  unfold putL
  by_cases h0 : putE L k v = 0
  · rw [if_pos h0]
    unfold putE at h0
    by_cases hb : badKV k v
    · rw [if_pos hb] at h0
      cases h0
    · rw [if_neg hb] at h0
      have hb' := hb
      unfold badKV at hb'
      refine ⟨?_, fun x hx => ?_⟩
      · rw [putM_len hR]
        by_cases hn : getM L k = none
        · rw [if_pos hn]
          by_cases h1 : 128 ≤ L.length
          · rw [if_pos ⟨hn, h1⟩] at h0
            cases h0
          · omega
        · rw [if_neg hn]
          exact h.few
      · rcases mem_putM.1 hx with rfl | ⟨hx, _⟩
        · refine ⟨?_, ?_, ?_⟩ <;> simp <;> omega
        · exact h.each x hx
  · rw [if_neg h0]
    exact h
theorem IsM.less {base base' p b : Nat} {L : List Pr} {w : World} (h : IsM base p b L w) (hb : base' ≤ base) : IsM base' p b L w := ⟨Nat.le_trans hb h.low, Nat.le_trans hb h.lowb, h.here, h.rise, h.held⟩
end Go.Proofs.Ytnbemfddcjhcaaa.Kv
