/- The same node is told the same. -/
import Derived.Test.YtffjmkngdjbjlaaDoorNe4
namespace Go.Proofs.YtffjmkngdjbjlaaDoor
open Go.RowKit Go.Shelf

theorem guard_a : Tryd.prog.eqGuardType Tryd.prog.depth 55 = false := by kernel_rfl
theorem neq_a (w : World) (x : ByteArray × Nat) : (binOp .neq 55 (.agg #[.string x.1, .int .u8 x.2]) (.agg #[.string x.1, .int .u8 x.2])).run Tryd.prog w = .ok (.bool false) w := by
  have hS : Tryd.prog.underlying 55 = some (.struct (Tryd.prog.fieldsOf 55)) := by kernel_rfl
  have hp : Tryd.prog.stoodInHeld 55 = false := by kernel_rfl
  have u9 := Tryd.underlying9
  have a9 := Tryd.isAgg9
  have z9 := Tryd.sizeOf9
  have uR := Tryd.underlying33
  have aR := Tryd.isAgg33
  have zR := Tryd.sizeOf33
  rw [run_neq_struct, show (10000 : Nat) = 9999 + 1 from rfl, run_equalIn_agg w 9999 55 _ _ hS hp]
  simp only [Program.fieldsOf, Tryd.underlying55]
  go_simp
set_option maxRecDepth 100000 in
set_option maxHeartbeats 4000000 in
theorem equal_a (o1 o2 : Option Addr) (c1 c2 : Nat) (L : List (ByteArray × Nat)) (w : World) (h1 : AffMem w.heap.size w o1 L) (h2 : AffMem w.heap.size w o2 L) :
    Calls Tryd.prog 35 #[.slice o1 L.length c1, .slice o2 L.length c2] w fun e w' => e = .returned (.bool true) ∧ Below w.heap.size w w' := by
  have hl1 := h1.1
  obtain ⟨m, hml⟩ : ∃ m, L.length = m := ⟨_, rfl⟩
  have HT := hide (And.intro h1 (And.intro h2 hml))
  have hgd := guard_a
  rw [hml] at hl1 ⊢
  clear h1 h2 hml
  go_enter Tryd.func35, Tryd.ntmps35
  go_wp2_with fail
  go_loopw [5, 13] (fun _ i wr => ∃ k : Nat, k ≤ m ∧ i = .int .i64 k ∧ Below w.heap.size w wr) (fun _ i _ => m - (intOf i).toNat)
  case atStart => exact ⟨0, Nat.zero_le _, rfl, Below.refl _ _⟩
  case round =>
    obtain ⟨k, hk, rfl, hbw⟩ := hrel
    have hw1 : IntKind.i64.wrap ((k : Int) + 1) = k + 1 := by rw [IntKind.wrap_i64]; omega
    by_cases hlt : k < m
    · have hlti : (k : Int) < m := by omega
      obtain ⟨x, hx⟩ : ∃ x, L[k]? = some x := ⟨L[k]'(by have := HT.out.2.2; omega), by simp⟩
      obtain ⟨b, off, rfl, hb, p0, p1⟩ := (HT.out.1.below hbw).2 k x hx
      obtain ⟨b', off', rfl, hb', q0, q1⟩ := (HT.out.2.1.below hbw).2 k x hx
      have HB := hide hbw
      have hne : ∀ v, (binOp .neq 55 (.agg #[.string x.1, .int .u8 x.2]) (.agg #[.string x.1, .int .u8 x.2])).run Tryd.prog v = .ok (.bool false) v := fun v => neq_a v x
      clear hbw hx
      go_wp2_with fail
      go_quiet (fail)
      go_wp2_with fail
      exact ⟨⟨k + 1, by omega, by simp, below_drewN HB.out _⟩, by simp [intOf]; omega⟩
    · have HB := hide hbw
      have hkm : k = m := by omega
      subst hkm
      clear hbw
      go_wp2_with fail
      go_ret
      exact ⟨rfl, HB.out⟩
theorem guard_s : Tryd.prog.eqGuardType Tryd.prog.depth 39 = false := by kernel_rfl
theorem neq_s (w : World) (x : ByteArray × Bool × Int) : (binOp .neq 39 (.agg #[.string x.1, .bool x.2.1, .int .i64 x.2.2]) (.agg #[.string x.1, .bool x.2.1, .int .i64 x.2.2])).run Tryd.prog w = .ok (.bool false) w := by
  have hS : Tryd.prog.underlying 39 = some (.struct (Tryd.prog.fieldsOf 39)) := by kernel_rfl
  have hp : Tryd.prog.stoodInHeld 39 = false := by kernel_rfl
  have u9 := Tryd.underlying9
  have a9 := Tryd.isAgg9
  have z9 := Tryd.sizeOf9
  have u4 := Tryd.underlying4
  have a4 := Tryd.isAgg4
  have z4 := Tryd.sizeOf4
  have u3 := Tryd.underlying3
  have a3 := Tryd.isAgg3
  have z3 := Tryd.sizeOf3
  rw [run_neq_struct, show (10000 : Nat) = 9999 + 1 from rfl, run_equalIn_agg w 9999 39 _ _ hS hp]
  simp only [Program.fieldsOf, Tryd.underlying39]
  go_simp
set_option maxRecDepth 100000 in
set_option maxHeartbeats 4000000 in
theorem equal_s (o1 o2 : Option Addr) (c1 c2 : Nat) (L : List (ByteArray × Bool × Int)) (w : World) (h1 : SubMem w.heap.size w o1 L) (h2 : SubMem w.heap.size w o2 L) :
    Calls Tryd.prog 36 #[.slice o1 L.length c1, .slice o2 L.length c2] w fun e w' => e = .returned (.bool true) ∧ Below w.heap.size w w' := by
  have hl1 := h1.1
  obtain ⟨m, hml⟩ : ∃ m, L.length = m := ⟨_, rfl⟩
  have HT := hide (And.intro h1 (And.intro h2 hml))
  have hgd := guard_s
  rw [hml] at hl1 ⊢
  clear h1 h2 hml
  go_enter Tryd.func36, Tryd.ntmps36
  go_wp2_with fail
  go_loopw [5, 13] (fun _ i wr => ∃ k : Nat, k ≤ m ∧ i = .int .i64 k ∧ Below w.heap.size w wr) (fun _ i _ => m - (intOf i).toNat)
  case atStart => exact ⟨0, Nat.zero_le _, rfl, Below.refl _ _⟩
  case round =>
    obtain ⟨k, hk, rfl, hbw⟩ := hrel
    have hw1 : IntKind.i64.wrap ((k : Int) + 1) = k + 1 := by rw [IntKind.wrap_i64]; omega
    by_cases hlt : k < m
    · have hlti : (k : Int) < m := by omega
      obtain ⟨x, hx⟩ : ∃ x, L[k]? = some x := ⟨L[k]'(by have := HT.out.2.2; omega), by simp⟩
      obtain ⟨b, off, rfl, hb, p0, p1, p2⟩ := (HT.out.1.below hbw).2 k x hx
      obtain ⟨b', off', rfl, hb', q0, q1, q2⟩ := (HT.out.2.1.below hbw).2 k x hx
      have HB := hide hbw
      have hne : ∀ v, (binOp .neq 39 (.agg #[.string x.1, .bool x.2.1, .int .i64 x.2.2]) (.agg #[.string x.1, .bool x.2.1, .int .i64 x.2.2])).run Tryd.prog v = .ok (.bool false) v := fun v => neq_s v x
      clear hbw hx
      go_wp2_with fail
      go_quiet (fail)
      go_wp2_with fail
      exact ⟨⟨k + 1, by omega, by simp, below_drewN HB.out _⟩, by simp [intOf]; omega⟩
    · have HB := hide hbw
      have hkm : k = m := by omega
      subst hkm
      clear hbw
      go_wp2_with fail
      go_ret
      exact ⟨rfl, HB.out⟩
theorem guard_i : Tryd.prog.eqGuardType Tryd.prog.depth 50 = false := by kernel_rfl
theorem neq_i (w : World) (x : ByteArray × ByteArray × ByteArray) : (binOp .neq 50 (.agg #[.string x.1, .string x.2.1, .string x.2.2]) (.agg #[.string x.1, .string x.2.1, .string x.2.2])).run Tryd.prog w = .ok (.bool false) w := by
  have hS : Tryd.prog.underlying 50 = some (.struct (Tryd.prog.fieldsOf 50)) := by kernel_rfl
  have hp : Tryd.prog.stoodInHeld 50 = false := by kernel_rfl
  have u9 := Tryd.underlying9
  have a9 := Tryd.isAgg9
  have z9 := Tryd.sizeOf9
  rw [run_neq_struct, show (10000 : Nat) = 9999 + 1 from rfl, run_equalIn_agg w 9999 50 _ _ hS hp]
  simp only [Program.fieldsOf, Tryd.underlying50]
  go_simp
set_option maxRecDepth 100000 in
set_option maxHeartbeats 4000000 in
theorem equal_i (o1 o2 : Option Addr) (c1 c2 : Nat) (L : List (ByteArray × ByteArray × ByteArray)) (w : World) (h1 : ItMem w.heap.size w o1 L) (h2 : ItMem w.heap.size w o2 L) :
    Calls Tryd.prog 37 #[.slice o1 L.length c1, .slice o2 L.length c2] w fun e w' => e = .returned (.bool true) ∧ Below w.heap.size w w' := by
  have hl1 := h1.1
  obtain ⟨m, hml⟩ : ∃ m, L.length = m := ⟨_, rfl⟩
  have HT := hide (And.intro h1 (And.intro h2 hml))
  have hgd := guard_i
  rw [hml] at hl1 ⊢
  clear h1 h2 hml
  go_enter Tryd.func37, Tryd.ntmps37
  go_wp2_with fail
  go_loopw [5, 13] (fun _ i wr => ∃ k : Nat, k ≤ m ∧ i = .int .i64 k ∧ Below w.heap.size w wr) (fun _ i _ => m - (intOf i).toNat)
  case atStart => exact ⟨0, Nat.zero_le _, rfl, Below.refl _ _⟩
  case round =>
    obtain ⟨k, hk, rfl, hbw⟩ := hrel
    have hw1 : IntKind.i64.wrap ((k : Int) + 1) = k + 1 := by rw [IntKind.wrap_i64]; omega
    by_cases hlt : k < m
    · have hlti : (k : Int) < m := by omega
      obtain ⟨x, hx⟩ : ∃ x, L[k]? = some x := ⟨L[k]'(by have := HT.out.2.2; omega), by simp⟩
      obtain ⟨b, off, rfl, hb, p0, p1, p2⟩ := (HT.out.1.below hbw).2 k x hx
      obtain ⟨b', off', rfl, hb', q0, q1, q2⟩ := (HT.out.2.1.below hbw).2 k x hx
      have HB := hide hbw
      have hne : ∀ v, (binOp .neq 50 (.agg #[.string x.1, .string x.2.1, .string x.2.2]) (.agg #[.string x.1, .string x.2.1, .string x.2.2])).run Tryd.prog v = .ok (.bool false) v := fun v => neq_i v x
      clear hbw hx
      go_wp2_with fail
      go_quiet (fail)
      go_wp2_with fail
      exact ⟨⟨k + 1, by omega, by simp, below_drewN HB.out _⟩, by simp [intOf]; omega⟩
    · have HB := hide hbw
      have hkm : k = m := by omega
      subst hkm
      clear hbw
      go_wp2_with fail
      go_ret
      exact ⟨rfl, HB.out⟩
set_option maxRecDepth 100000 in
set_option maxHeartbeats 4000000 in
theorem same_yes (n : Nd) (v u : NdW) (w : World) (h1 : NdM w.heap.size w n v) (h2 : NdM w.heap.size w n u) :
    Calls Tryd.prog 15 #[.agg (ndA n v), .agg (ndA n u)] w fun e w' => e = .returned (.bool true) ∧ Below w.heap.size w w' := by
  obtain ⟨Wa, hWa⟩ : ∃ Wa, w.alloc (.cells (ndA n v) 28) = Wa := ⟨_, rfl⟩
  have fa := World.alloc_heap_new w (.cells (ndA n v) 28)
  have ba : Below w.heap.size w Wa := by rw [← hWa]; exact (Below.refl _ w).alloc (Nat.le_refl _) _
  have za : Wa.heap.size = w.heap.size + 1 := by rw [← hWa]; simp
  obtain ⟨W, hW⟩ : ∃ W, Wa.alloc (.cells (ndA n u) 28) = W := ⟨_, rfl⟩
  have fb := World.alloc_heap_new Wa (.cells (ndA n u) 28)
  have bb : Below Wa.heap.size Wa W := by rw [← hW]; exact (Below.refl _ Wa).alloc (Nat.le_refl _) _
  have zb : W.heap.size = w.heap.size + 2 := by rw [← hW, World.size_alloc, za]
  rw [hWa] at fa
  rw [hW, za] at fb
  have f0 := (bb.block _ (by omega)).trans fa
  have bW := ba.trans (bb.mono ba.size)
  rw [← hWa] at hW
  have HH := hide (And.intro f0 (And.intro fb (And.intro bW (And.intro (h1.move bW) (h2.move bW)))))
  have HE1 := hide (equal_a v.aa u.aa v.ac u.ac n.affs W (h1.move bW).ok.1 (h2.move bW).ok.1)
  have HW := hide hW
  obtain ⟨c0, c1, c2, c3, c4, c5, c6, c7⟩ := nd_box f0
  obtain ⟨d0, d1, d2, d3, d4, d5, d6, d7⟩ := nd_box fb
  rw [← hW] at c0 c1 c2 c3 c4 c5 c6 c7 d0 d1 d2 d3 d4 d5 d6 d7 HE1
  clear fa ba za fb bb zb f0 bW hWa hW h1 h2
  go_enter Tryd.func15, Tryd.ntmps15
  go_wp2_with fail
  refine HE1.out.mono ?_
  rintro e w1 ⟨rfl, b1⟩
  have b1' : Below W.heap.size W w1 := by
    have h := HW.out
    rw [h] at b1
    exact b1
  have g0 := (b1'.block _ (Array.getElem?_eq_some_iff.1 HH.out.1).1).trans HH.out.1
  have g1 := (b1'.block _ (Array.getElem?_eq_some_iff.1 HH.out.2.1).1).trans HH.out.2.1
  have m1 := HH.out.2.2.2.1.move b1'
  have m2 := HH.out.2.2.2.2.move b1'
  have HE2 := hide (equal_s v.sa u.sa v.sc u.sc n.subs w1 m1.ok.2.1 m2.ok.2.1)
  have H1 := hide (And.intro g0 (And.intro g1 (And.intro m1 (And.intro m2 (HH.out.2.2.1.trans (b1'.mono HH.out.2.2.1.size))))))
  clear c0 c1 c2 c3 c4 c5 c6 c7 d0 d1 d2 d3 d4 d5 d6 d7
  have c5 := (nd_box g0).2.2.2.2.2.1
  have d5 := (nd_box g1).2.2.2.2.2.1
  clear g0 g1 m1 m2 b1 b1' HE1 HW
  go_wp2_with fail
  refine HE2.out.mono ?_
  rintro e w2 ⟨rfl, b2⟩
  have g0 := (b2.block _ (Array.getElem?_eq_some_iff.1 H1.out.1).1).trans H1.out.1
  have g1 := (b2.block _ (Array.getElem?_eq_some_iff.1 H1.out.2.1).1).trans H1.out.2.1
  have m1 := H1.out.2.2.1.move b2
  have m2 := H1.out.2.2.2.1.move b2
  have HE3 := hide (equal_i v.ia u.ia v.ic u.ic n.items w2 m1.it m2.it)
  have H2 := hide (H1.out.2.2.2.2.trans (b2.mono H1.out.2.2.2.2.size))
  clear c5 d5
  have c6 := (nd_box g0).2.2.2.2.2.2.1
  have d6 := (nd_box g1).2.2.2.2.2.2.1
  clear g0 g1 m1 m2 b2 HE2
  go_wp2_with fail
  refine HE3.out.mono ?_
  rintro e w3 ⟨rfl, b3⟩
  have H3 := hide (H2.out.trans (b3.mono H2.out.size))
  clear b3 c6 d6
  go_wp2_with fail
  go_ret
  exact ⟨rfl, H3.out⟩
end Go.Proofs.YtffjmkngdjbjlaaDoor
