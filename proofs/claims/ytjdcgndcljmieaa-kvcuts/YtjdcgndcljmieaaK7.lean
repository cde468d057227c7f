/- Bytes: lengths and texts, one behind the other. -/
import Derived.Test.YtjdcgndcljmieaaK6
import Derived.LoopN
import Derived.Lib.AppendStr
namespace Go.Proofs.Ytjdcgndcljmieaa
open Go.RowKit

theorem info5 : (Try.prog.info? 5).map (fun i => (i.zero, i.size, i.bytes)) = some (some (.int .u8 0), 1, 1) := by kernel_rfl
theorem bc_len (l : List UInt8) : (Lib.byteCells l).length = l.length * 1 := by simp [Lib.byteCells]
theorem bc_app (a b : List UInt8) : Lib.byteCells (a ++ b) = Lib.byteCells a ++ Lib.byteCells b := by simp [Lib.byteCells]
abbrev Row (w : World) (base : Nat) (v : Value) (l : List UInt8) : Prop := w.ownsRow base 5 1 v l.length (Lib.byteCells l)
/-- One byte behind. -/
theorem put_byte {base : Nat} {v : Value} {l : List UInt8} {w : World} (c : UInt8) (h : Row w base v l) (hb : base ≤ w.heap.size) (hl : l.length ≤ 10000000) : ∃ v' w', (Builtin.append_ #[30, 30] 30 #[v, .slice (some ⟨w.heap.size, 0, none⟩) 1 1]).run Try.prog (w.alloc (.cells #[.int .u8 c.toNat] 5)) = .ok v' w' ∧ Row w' base v' (l ++ [c]) ∧ w.grownBy w' v.ownBlock ∧ (v'.ownBlock = v.ownBlock ∨ ∃ g, v'.ownBlock = some g ∧ w.heap.size ≤ g) := by
  obtain ⟨ti, t1, t2, t3, t4⟩ := info_parts info5
  have hB : Below w.heap.size w (w.alloc (.cells #[.int .u8 c.toNat] 5)) := (Below.refl _ w).alloc (Nat.le_refl _) _
  obtain ⟨v', w', hap, y1, y2, _, y4⟩ := run_append_own_at (P := Try.prog) (w.alloc (.cells #[.int .u8 c.toNat] 5)) base 30 30 5 ti _ 1 1 Try.underlying30 t1 t2 t3 t4 rfl (by omega) v l.length (Lib.byteCells l) (own_same h (fun g e => hB.block g (own_lt h g e))) ⟨w.heap.size, 0, none⟩ 1 1 [.int .u8 c.toNat] rfl (cell_one_new w _ _) (by simp [Value.oneCell']) (by unfold maxLen; omega) (by omega) (Nat.le_trans hb hB.size)
  refine ⟨v', w', hap, ?_, (World.grownBy_alloc w _ _).trans y2, ?_⟩
  · show w'.ownsRow base 5 1 v' (l ++ [c]).length (Lib.byteCells (l ++ [c]))
    rw [bc_app, List.length_append]
    exact y1
  · rcases y4 with z | z
    · exact .inl z
    · exact .inr ⟨_, z, hB.size⟩
theorem put_text {base : Nat} {v : Value} {l : List UInt8} {w : World} (s : ByteArray) (h : Row w base v l) (hb : base ≤ w.heap.size) (hl : l.length + s.size ≤ 10000000) : ∃ v' w', (Builtin.append_ #[30, 9] 30 #[v, .string s]).run Try.prog w = .ok v' w' ∧ Row w' base v' (l ++ s.toList) ∧ w.grownBy w' v.ownBlock := by
  obtain ⟨ti, t1, t2, t3, t4⟩ := info_parts info5
  obtain ⟨v', w', hap, y1, y2, _⟩ := Lib.run_append_own_string (P := Try.prog) w base 30 9 30 5 ti Try.underlying30 Try.underlying9 t1 t2 t3 t4 v l.length (Lib.byteCells l) h s (by unfold maxLen; omega) (by omega) hb
  refine ⟨v', w', hap, ?_, y2⟩
  have hsl : s.toList.length = s.size := by rw [ByteArray.toList_eq]; simp
  have hsc : Lib.byteCells s.toList = Lib.strCells s := by rw [ByteArray.toList_eq]; simp [Lib.byteCells, Lib.strCells]
  show w'.ownsRow base 5 1 v' (l ++ s.toList).length (Lib.byteCells (l ++ s.toList))
  rw [bc_app, List.length_append, hsl, hsc]
  exact y1
theorem grown_step {w w1 w2 : World} {a b : Option Nat} (h1 : w.grownBy w1 a) (h2 : w1.grownBy w2 b) (hb : b = a ∨ ∃ g, b = some g ∧ w.heap.size ≤ g) : w.grownBy w2 a := by
  refine ⟨h2.os.trans h1.os, h2.tape.trans h1.tape, h2.output.trans h1.output, Nat.le_trans h1.size h2.size, fun k hk hne => (h2.block k (Nat.lt_of_lt_of_le hk h1.size) (fun e => ?_)).trans (h1.block k hk hne)⟩
  rcases hb with z | ⟨g, z, hg⟩
  · exact hne (by rw [← z]; exact e)
  · rw [z] at e
    cases e
    omega
theorem ex_append2 {o : Oper} {a : Act} {w w' : World} {s x : Operand} {t t' : TypeId} {u v r : Value} (ho : o.op = .call { callee := .builtin .append, args := #[s, x], argTypes := #[t, t'] }) (hs : a.eval s = u) (hx : a.eval x = v) (hr : (Builtin.append_ #[t, t'] o.type #[u, v]).run Try.prog w = .ok r w') : (execOp a.eval o).run Try.prog w = .ok (.value r) w' := by
  simp [execOp, ho, resolve, invoke, builtin, hs, hx, hr, Result.andThen]
set_option maxRecDepth 100000 in
set_option maxHeartbeats 2000000 in
theorem addText1_any (base : Nat) (v : Value) (l : List UInt8) (s : ByteArray) (w : World) (h : Row w base v l) (hb : base ≤ w.heap.size) (hl : l.length ≤ 1000000) (hs : s.size ≤ 64) :
    Calls Try.prog 35 #[v, .int .i64 1, .string s] w fun e w' => ∃ v', e = .returned v' ∧ Row w' base v' (l ++ [UInt8.ofNat s.size] ++ s.toList) ∧ w.grownBy w' v.ownBlock := by
  obtain ⟨v1, w1, a1, r1, g1, p1⟩ := put_byte (UInt8.ofNat s.size) h hb (by omega)
  have hz1 := g1.size
  obtain ⟨v2, w2, a2, r2, g2⟩ := put_text s r1 (by omega) (by simp; omega)
  have hu : ((UInt8.ofNat s.size).toNat : Int) = s.size := by rw [UInt8.toNat_ofNat']; omega
  rw [hu] at a1
  have HF := hide (And.intro r2 (grown_step g1 g2 (p1.imp id (fun ⟨g, x, y⟩ => ⟨g, x, y⟩))))
  have HA1 := hide a1
  have HA2 := hide a2
  obtain ⟨ga, gc, rfl⟩ := own_shape h
  have hw8 : IntKind.u8.wrap (s.size : Int) = s.size := by rw [IntKind.wrap_u8]; omega
  clear h r1 r2 g1 g2 p1 a1 a2
  go_enter Try.func35, Try.ntmps35
  go_wp2_with fail
  refine wp_loop_rounds 2 ?_
  rw [rounds_succ]
  go_wp2_with (first | (at_builtin; refine l_val rfl _ (ex_append2 (t := 30) (t' := 30) rfl rfl rfl HA1.out) ?_))
  rw [rounds_succ]
  go_wp2_with (first | (at_builtin; refine l_val rfl _ (ex_append2 (t := 30) (t' := 9) rfl rfl rfl HA2.out) ?_))
  go_ret
  exact ⟨_, rfl, HF.out.1, HF.out.2⟩
set_option maxRecDepth 100000 in
set_option maxHeartbeats 2000000 in
theorem addText2_any (base : Nat) (v : Value) (l : List UInt8) (s : ByteArray) (w : World) (h : Row w base v l) (hb : base ≤ w.heap.size) (hl : l.length ≤ 1000000) (hs : s.size ≤ 4096) :
    Calls Try.prog 35 #[v, .int .i64 2, .string s] w fun e w' => ∃ v', e = .returned v' ∧ Row w' base v' (l ++ [UInt8.ofNat (s.size / 256)] ++ [UInt8.ofNat s.size] ++ s.toList) ∧ w.grownBy w' v.ownBlock := by
  obtain ⟨v0, w0, a0, r0, g0, p0⟩ := put_byte (UInt8.ofNat (s.size / 256)) h hb (by omega)
  have hz0 := g0.size
  obtain ⟨v1, w1, a1, r1, g1, p1⟩ := put_byte (UInt8.ofNat s.size) r0 (by omega) (by simp; omega)
  have hz1 := g1.size
  obtain ⟨v2, w2, a2, r2, g2⟩ := put_text s r1 (by omega) (by simp; omega)
  have hu0 : ((UInt8.ofNat (s.size / 256)).toNat : Int) = (s.size : Int) / 256 := by rw [UInt8.toNat_ofNat']; omega
  have hu : ((UInt8.ofNat s.size).toNat : Int) = (s.size : Int) % 256 := by rw [UInt8.toNat_ofNat']; omega
  rw [hu0] at a0
  rw [hu] at a1
  have HF := hide (And.intro r2 (grown_step (grown_step g0 g1 p0) g2 (by
    rcases p1 with z | ⟨g, z, hg⟩
    · rw [z]
      exact p0
    · exact .inr ⟨g, z, by omega⟩)))
  have HA0 := hide a0
  obtain ⟨m0, hm0⟩ : ∃ m0, (l ++ [UInt8.ofNat (s.size / 256)]).length = m0 := ⟨_, rfl⟩
  have hs0 := own_shape r0
  rw [hm0] at hs0
  obtain ⟨ga0, gc0, rfl⟩ := hs0
  clear hm0
  have HA1 := hide a1
  have HA2 := hide a2
  obtain ⟨ga, gc, rfl⟩ := own_shape h
  clear h r0 r1 r2 g0 g1 g2 p0 p1 a0 a1 a2
  go_enter Try.func35, Try.ntmps35
  go_wp2_with fail
  refine wp_loop_rounds 3 ?_
  rw [rounds_succ]
  go_wp2_with (first | (at_builtin; refine l_val rfl _ (ex_append2 (t := 30) (t' := 30) rfl rfl rfl HA0.out) ?_))
  rw [rounds_succ]
  go_wp2_with (first | (at_builtin; refine l_val rfl _ (ex_append2 (t := 30) (t' := 30) rfl rfl rfl HA1.out) ?_))
  rw [rounds_succ]
  go_wp2_with (first | (at_builtin; refine l_val rfl _ (ex_append2 (t := 30) (t' := 9) rfl rfl rfl HA2.out) ?_))
  go_ret
  exact ⟨_, rfl, HF.out.1, HF.out.2⟩
end Go.Proofs.Ytjdcgndcljmieaa
