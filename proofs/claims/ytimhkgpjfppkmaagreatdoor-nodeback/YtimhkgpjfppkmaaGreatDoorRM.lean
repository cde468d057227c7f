/- The same node is told the same. law11's few, and its beginning. -/
import Derived.Test.YtimhkgpjfppkmaaGreatDoorRK
import Derived.Test.YtimhkgpjfppkmaaGreatDoorQL
namespace Go.Proofs.YtimhkgpjfppkmaaGreatDoor
open Go.RowKit Go.Shelf

theorem guard_a : Tryz.prog.eqGuardType Tryz.prog.depth 55 = false := by kernel_rfl
theorem neq_a (w : World) (x : ByteArray × Nat) : (binOp .neq 55 (.agg #[.string x.1, .int .u8 x.2]) (.agg #[.string x.1, .int .u8 x.2])).run Tryz.prog w = .ok (.bool false) w := by
  have hS : Tryz.prog.underlying 55 = some (.struct (Tryz.prog.fieldsOf 55)) := by kernel_rfl
  have hp : Tryz.prog.stoodInHeld 55 = false := by kernel_rfl
  have u9 := Tryz.underlying9
  have a9 := Tryz.isAgg9
  have z9 := Tryz.sizeOf9
  have uR := Tryz.underlying53
  have aR := Tryz.isAgg53
  have zR := Tryz.sizeOf53
  rw [run_neq_struct, show (10000 : Nat) = 9999 + 1 from rfl, run_equalIn_agg w 9999 55 _ _ hS hp]
  simp only [Program.fieldsOf, Tryz.underlying55]
  go_simp
set_option maxRecDepth 100000 in
set_option maxHeartbeats 4000000 in
theorem equal_a (o1 o2 : Option Addr) (c1 c2 : Nat) (L : List (ByteArray × Nat)) (w : World) (h1 : AffMem w.heap.size w o1 L) (h2 : AffMem w.heap.size w o2 L) :
    Calls Tryz.prog 15 #[.slice o1 L.length c1, .slice o2 L.length c2] w fun e w' => e = .returned (.bool true) ∧ Below w.heap.size w w' := by
  have hl1 := h1.1
  obtain ⟨m, hml⟩ : ∃ m, L.length = m := ⟨_, rfl⟩
  have HT := hide (And.intro h1 (And.intro h2 hml))
  have hgd := guard_a
  rw [hml] at hl1 ⊢
  clear h1 h2 hml
  go_enter Tryz.func15, Tryz.ntmps15
  go_wp2_with fail
  go_loopw [5, 13] (fun _ i wr => ∃ k : Nat, k ≤ m ∧ i = .int .i64 k ∧ Below w.heap.size w wr) (fun _ i _ => m - (intOf i).toNat)
  case atStart => exact ⟨0, Nat.zero_le _, rfl, Below.refl _ _⟩
  case round =>
    obtain ⟨k, hk, rfl, hbw⟩ := hrel
    have hw1 : IntKind.i64.wrap ((k : Int) + 1) = k + 1 := by rw [IntKind.wrap_i64]; omega
    by_cases hlt : k < m
    · have hlti : (k : Int) < m := by omega
      obtain ⟨x, hx⟩ : ∃ x, L[k]? = some x := ⟨L[k]'(by have := HT.out.2.2; omega), by simp⟩
      obtain ⟨b, off, rfl, hb, p0, p1⟩ := (HT.out.1.below hbw).2 k x hx
      obtain ⟨b', off', rfl, hb', q0, q1⟩ := (HT.out.2.1.below hbw).2 k x hx
      have HB := hide hbw
      have hne : ∀ v, (binOp .neq 55 (.agg #[.string x.1, .int .u8 x.2]) (.agg #[.string x.1, .int .u8 x.2])).run Tryz.prog v = .ok (.bool false) v := fun v => neq_a v x
      clear hbw hx
      go_wp2_with fail
      go_quiet (fail)
      go_wp2_with fail
      exact ⟨⟨k + 1, by omega, by simp, below_drewN HB.out _⟩, by simp [intOf]; omega⟩
    · have HB := hide hbw
      have hkm : k = m := by omega
      subst hkm
      clear hbw
      go_wp2_with fail
      go_ret
      exact ⟨rfl, HB.out⟩
theorem guard_s : Tryz.prog.eqGuardType Tryz.prog.depth 58 = false := by kernel_rfl
theorem neq_s (w : World) (x : ByteArray × Bool × Int) : (binOp .neq 58 (.agg #[.string x.1, .bool x.2.1, .int .i64 x.2.2]) (.agg #[.string x.1, .bool x.2.1, .int .i64 x.2.2])).run Tryz.prog w = .ok (.bool false) w := by
  have hS : Tryz.prog.underlying 58 = some (.struct (Tryz.prog.fieldsOf 58)) := by kernel_rfl
  have hp : Tryz.prog.stoodInHeld 58 = false := by kernel_rfl
  have u9 := Tryz.underlying9
  have a9 := Tryz.isAgg9
  have z9 := Tryz.sizeOf9
  have u4 := Tryz.underlying4
  have a4 := Tryz.isAgg4
  have z4 := Tryz.sizeOf4
  have u3 := Tryz.underlying3
  have a3 := Tryz.isAgg3
  have z3 := Tryz.sizeOf3
  rw [run_neq_struct, show (10000 : Nat) = 9999 + 1 from rfl, run_equalIn_agg w 9999 58 _ _ hS hp]
  simp only [Program.fieldsOf, Tryz.underlying58]
  go_simp
set_option maxRecDepth 100000 in
set_option maxHeartbeats 4000000 in
theorem equal_s (o1 o2 : Option Addr) (c1 c2 : Nat) (L : List (ByteArray × Bool × Int)) (w : World) (h1 : SubMem w.heap.size w o1 L) (h2 : SubMem w.heap.size w o2 L) :
    Calls Tryz.prog 16 #[.slice o1 L.length c1, .slice o2 L.length c2] w fun e w' => e = .returned (.bool true) ∧ Below w.heap.size w w' := by
  have hl1 := h1.1
  obtain ⟨m, hml⟩ : ∃ m, L.length = m := ⟨_, rfl⟩
  have HT := hide (And.intro h1 (And.intro h2 hml))
  have hgd := guard_s
  rw [hml] at hl1 ⊢
  clear h1 h2 hml
  go_enter Tryz.func16, Tryz.ntmps16
  go_wp2_with fail
  go_loopw [5, 13] (fun _ i wr => ∃ k : Nat, k ≤ m ∧ i = .int .i64 k ∧ Below w.heap.size w wr) (fun _ i _ => m - (intOf i).toNat)
  case atStart => exact ⟨0, Nat.zero_le _, rfl, Below.refl _ _⟩
  case round =>
    obtain ⟨k, hk, rfl, hbw⟩ := hrel
    have hw1 : IntKind.i64.wrap ((k : Int) + 1) = k + 1 := by rw [IntKind.wrap_i64]; omega
    by_cases hlt : k < m
    · have hlti : (k : Int) < m := by omega
      obtain ⟨x, hx⟩ : ∃ x, L[k]? = some x := ⟨L[k]'(by have := HT.out.2.2; omega), by simp⟩
      obtain ⟨b, off, rfl, hb, p0, p1, p2⟩ := (HT.out.1.below hbw).2 k x hx
      obtain ⟨b', off', rfl, hb', q0, q1, q2⟩ := (HT.out.2.1.below hbw).2 k x hx
      have HB := hide hbw
      have hne : ∀ v, (binOp .neq 58 (.agg #[.string x.1, .bool x.2.1, .int .i64 x.2.2]) (.agg #[.string x.1, .bool x.2.1, .int .i64 x.2.2])).run Tryz.prog v = .ok (.bool false) v := fun v => neq_s v x
      clear hbw hx
      go_wp2_with fail
      go_quiet (fail)
      go_wp2_with fail
      exact ⟨⟨k + 1, by omega, by simp, below_drewN HB.out _⟩, by simp [intOf]; omega⟩
    · have HB := hide hbw
      have hkm : k = m := by omega
      subst hkm
      clear hbw
      go_wp2_with fail
      go_ret
      exact ⟨rfl, HB.out⟩
theorem guard_i : Tryz.prog.eqGuardType Tryz.prog.depth 61 = false := by kernel_rfl
theorem neq_i (w : World) (x : ByteArray × ByteArray × ByteArray) : (binOp .neq 61 (.agg #[.string x.1, .string x.2.1, .string x.2.2]) (.agg #[.string x.1, .string x.2.1, .string x.2.2])).run Tryz.prog w = .ok (.bool false) w := by
  have hS : Tryz.prog.underlying 61 = some (.struct (Tryz.prog.fieldsOf 61)) := by kernel_rfl
  have hp : Tryz.prog.stoodInHeld 61 = false := by kernel_rfl
  have u9 := Tryz.underlying9
  have a9 := Tryz.isAgg9
  have z9 := Tryz.sizeOf9
  rw [run_neq_struct, show (10000 : Nat) = 9999 + 1 from rfl, run_equalIn_agg w 9999 61 _ _ hS hp]
  simp only [Program.fieldsOf, Tryz.underlying61]
  go_simp
set_option maxRecDepth 100000 in
set_option maxHeartbeats 4000000 in
theorem equal_i (o1 o2 : Option Addr) (c1 c2 : Nat) (L : List (ByteArray × ByteArray × ByteArray)) (w : World) (h1 : ItMem w.heap.size w o1 L) (h2 : ItMem w.heap.size w o2 L) :
    Calls Tryz.prog 17 #[.slice o1 L.length c1, .slice o2 L.length c2] w fun e w' => e = .returned (.bool true) ∧ Below w.heap.size w w' := by
  have hl1 := h1.1
  obtain ⟨m, hml⟩ : ∃ m, L.length = m := ⟨_, rfl⟩
  have HT := hide (And.intro h1 (And.intro h2 hml))
  have hgd := guard_i
  rw [hml] at hl1 ⊢
  clear h1 h2 hml
  go_enter Tryz.func17, Tryz.ntmps17
  go_wp2_with fail
  go_loopw [5, 13] (fun _ i wr => ∃ k : Nat, k ≤ m ∧ i = .int .i64 k ∧ Below w.heap.size w wr) (fun _ i _ => m - (intOf i).toNat)
  case atStart => exact ⟨0, Nat.zero_le _, rfl, Below.refl _ _⟩
  case round =>
    obtain ⟨k, hk, rfl, hbw⟩ := hrel
    have hw1 : IntKind.i64.wrap ((k : Int) + 1) = k + 1 := by rw [IntKind.wrap_i64]; omega
    by_cases hlt : k < m
    · have hlti : (k : Int) < m := by omega
      obtain ⟨x, hx⟩ : ∃ x, L[k]? = some x := ⟨L[k]'(by have := HT.out.2.2; omega), by simp⟩
      obtain ⟨b, off, rfl, hb, p0, p1, p2⟩ := (HT.out.1.below hbw).2 k x hx
      obtain ⟨b', off', rfl, hb', q0, q1, q2⟩ := (HT.out.2.1.below hbw).2 k x hx
      have HB := hide hbw
      have hne : ∀ v, (binOp .neq 61 (.agg #[.string x.1, .string x.2.1, .string x.2.2]) (.agg #[.string x.1, .string x.2.1, .string x.2.2])).run Tryz.prog v = .ok (.bool false) v := fun v => neq_i v x
      clear hbw hx
      go_wp2_with fail
      go_quiet (fail)
      go_wp2_with fail
      exact ⟨⟨k + 1, by omega, by simp, below_drewN HB.out _⟩, by simp [intOf]; omega⟩
    · have HB := hide hbw
      have hkm : k = m := by omega
      subst hkm
      clear hbw
      go_wp2_with fail
      go_ret
      exact ⟨rfl, HB.out⟩
set_option maxRecDepth 100000 in
set_option maxHeartbeats 4000000 in
theorem same_yes (n : Nd) (v u : NdW) (w : World) (h1 : NdM w.heap.size w n v) (h2 : NdM w.heap.size w n u) :
    Calls Tryz.prog 7 #[.agg (ndA n v), .agg (ndA n u)] w fun e w' => e = .returned (.bool true) ∧ Below w.heap.size w w' := by
  obtain ⟨Wa, hWa⟩ : ∃ Wa, w.alloc (.cells (ndA n v) 27) = Wa := ⟨_, rfl⟩
  have fa := World.alloc_heap_new w (.cells (ndA n v) 27)
  have ba : Below w.heap.size w Wa := by rw [← hWa]; exact (Below.refl _ w).alloc (Nat.le_refl _) _
  have za : Wa.heap.size = w.heap.size + 1 := by rw [← hWa]; simp
  obtain ⟨W, hW⟩ : ∃ W, Wa.alloc (.cells (ndA n u) 27) = W := ⟨_, rfl⟩
  have fb := World.alloc_heap_new Wa (.cells (ndA n u) 27)
  have bb : Below Wa.heap.size Wa W := by rw [← hW]; exact (Below.refl _ Wa).alloc (Nat.le_refl _) _
  have zb : W.heap.size = w.heap.size + 2 := by rw [← hW, World.size_alloc, za]
  rw [hWa] at fa
  rw [hW, za] at fb
  have f0 := (bb.block _ (by omega)).trans fa
  have bW := ba.trans (bb.mono ba.size)
  rw [← hWa] at hW
  have HH := hide (And.intro f0 (And.intro fb (And.intro bW (And.intro (h1.move bW) (h2.move bW)))))
  have HE1 := hide (equal_a v.aa u.aa v.ac u.ac n.affs W (h1.move bW).ok.1 (h2.move bW).ok.1)
  have HW := hide hW
  obtain ⟨c0, c1, c2, c3, c4, c5, c6, c7⟩ := nd_box f0
  obtain ⟨d0, d1, d2, d3, d4, d5, d6, d7⟩ := nd_box fb
  rw [← hW] at c0 c1 c2 c3 c4 c5 c6 c7 d0 d1 d2 d3 d4 d5 d6 d7 HE1
  clear fa ba za fb bb zb f0 bW hWa hW h1 h2
  go_enter Tryz.func7, Tryz.ntmps7
  go_wp2_with fail
  refine HE1.out.mono ?_
  rintro e w1 ⟨rfl, b1⟩
  have b1' : Below W.heap.size W w1 := by
    have h := HW.out
    rw [h] at b1
    exact b1
  have g0 := (b1'.block _ (Array.getElem?_eq_some_iff.1 HH.out.1).1).trans HH.out.1
  have g1 := (b1'.block _ (Array.getElem?_eq_some_iff.1 HH.out.2.1).1).trans HH.out.2.1
  have m1 := HH.out.2.2.2.1.move b1'
  have m2 := HH.out.2.2.2.2.move b1'
  have HE2 := hide (equal_s v.sa u.sa v.sc u.sc n.subs w1 m1.ok.2.1 m2.ok.2.1)
  have H1 := hide (And.intro g0 (And.intro g1 (And.intro m1 (And.intro m2 (HH.out.2.2.1.trans (b1'.mono HH.out.2.2.1.size))))))
  clear c0 c1 c2 c3 c4 c5 c6 c7 d0 d1 d2 d3 d4 d5 d6 d7
  have c5 := (nd_box g0).2.2.2.2.2.1
  have d5 := (nd_box g1).2.2.2.2.2.1
  clear g0 g1 m1 m2 b1 b1' HE1 HW
  go_wp2_with fail
  refine HE2.out.mono ?_
  rintro e w2 ⟨rfl, b2⟩
  have g0 := (b2.block _ (Array.getElem?_eq_some_iff.1 H1.out.1).1).trans H1.out.1
  have g1 := (b2.block _ (Array.getElem?_eq_some_iff.1 H1.out.2.1).1).trans H1.out.2.1
  have m1 := H1.out.2.2.1.move b2
  have m2 := H1.out.2.2.2.1.move b2
  have HE3 := hide (equal_i v.ia u.ia v.ic u.ic n.items w2 m1.it m2.it)
  have H2 := hide (H1.out.2.2.2.2.trans (b2.mono H1.out.2.2.2.2.size))
  clear c5 d5
  have c6 := (nd_box g0).2.2.2.2.2.2.1
  have d6 := (nd_box g1).2.2.2.2.2.2.1
  clear g0 g1 m1 m2 b2 HE2
  go_wp2_with fail
  refine HE3.out.mono ?_
  rintro e w3 ⟨rfl, b3⟩
  have H3 := hide (H2.out.trans (b3.mono H2.out.size))
  clear b3 c6 d6
  go_wp2_with fail
  go_ret
  exact ⟨rfl, H3.out⟩
end Go.Proofs.YtimhkgpjfppkmaaGreatDoor
namespace Go.Proofs.YtimhkgpjfppkmaaGreatDoor
open Go.RowKit

/-- A node with not too much in it. -/
def fewN (n : Nd) : Nd := { n with affs := n.affs.take 20, subs := n.subs.take 20, items := n.items.take 20 }
/-- A node that is handed in. -/
structure RawM (w : World) (n : Nd) (v : NdW) : Prop where
  mem : NdM w.heap.size w (fewN n) v
  ac : n.affs.length ≤ v.ac
  sc : n.subs.length ≤ v.sc
  ic : n.items.length ≤ v.ic
theorem RawM.move {w w' : World} {n : Nd} {v : NdW} (h : RawM w n v) (hb : Below w.heap.size w w') : RawM w' n v := ⟨h.mem.move hb, h.ac, h.sc, h.ic⟩
theorem load_one {T : TypeId} {w : World} {b i : Nat} {v : Value} (ha : (isAgg T).run Tryz.prog w = .ok false w) (hc : w.cell? ⟨b, i, none⟩ = some v) : (Instr.loadAt T (.pointer (some ⟨b, i, none⟩))).run Tryz.prog w = .ok v w := by
  simp [Instr.loadAt, Instr.sureAddr, loadVar, ha, hc, go_sem]
theorem agg_one24 (w : World) : (isAgg 23).run Tryz.prog w = .ok false w := by
  unfold isAgg
  rw [Sem.run_bind, run_underlying Tryz.underlying23 w]
  simp
theorem box_affs {W : World} {b : Nat} {n : Nd} {v : NdW} (h : W.heap[b]? = some (.cells (ndA n v) 27)) (hl : 20 < n.affs.length) : (W.setCell ⟨b, 4, none⟩ (.slice v.aa 20 v.ac)).heap[b]? = some (.cells (ndA { n with affs := n.affs.take 20 } v) 27) := by
  have e : (n.affs.take 20).length = 20 := by rw [List.length_take]; omega
  have h1 := heap_setk (i := 4) (v := .slice v.aa 20 v.ac) h
  rw [h1]
  unfold ndA
  rw [e]
  rfl
theorem agg_one25 (w : World) : (isAgg 24).run Tryz.prog w = .ok false w := by
  unfold isAgg
  rw [Sem.run_bind, run_underlying Tryz.underlying24 w]
  simp
theorem box_subs {W : World} {b : Nat} {n : Nd} {v : NdW} (h : W.heap[b]? = some (.cells (ndA n v) 27)) (hl : 20 < n.subs.length) : (W.setCell ⟨b, 5, none⟩ (.slice v.sa 20 v.sc)).heap[b]? = some (.cells (ndA { n with subs := n.subs.take 20 } v) 27) := by
  have e : (n.subs.take 20).length = 20 := by rw [List.length_take]; omega
  have h1 := heap_setk (i := 5) (v := .slice v.sa 20 v.sc) h
  rw [h1]
  unfold ndA
  rw [e]
  rfl
theorem agg_one26 (w : World) : (isAgg 25).run Tryz.prog w = .ok false w := by
  unfold isAgg
  rw [Sem.run_bind, run_underlying Tryz.underlying25 w]
  simp
theorem box_items {W : World} {b : Nat} {n : Nd} {v : NdW} (h : W.heap[b]? = some (.cells (ndA n v) 27)) (hl : 20 < n.items.length) : (W.setCell ⟨b, 6, none⟩ (.slice v.ia 20 v.ic)).heap[b]? = some (.cells (ndA { n with items := n.items.take 20 } v) 27) := by
  have e : (n.items.take 20).length = 20 := by rw [List.length_take]; omega
  have h1 := heap_setk (i := 6) (v := .slice v.ia 20 v.ic) h
  rw [h1]
  unfold ndA
  rw [e]
  rfl
set_option maxRecDepth 100000 in
set_option maxHeartbeats 8000000 in
theorem few_any (n : Nd) (v : NdW) (w : World) (hr : RawM w n v) :
    Calls Tryz.prog 4 #[.agg (ndA n v)] w fun e w' => e = .returned (.agg (ndA (fewN n) v)) ∧ Below w.heap.size w w' := by
  obtain ⟨W, hW, fa, fr, bw, zw⟩ := boxes w n v
  have HK := hide (And.intro hr.ac (And.intro hr.sc hr.ic))
  have HB0 := hide (And.intro fa (And.intro fr bw))
  have hl := (nd_box fa).2.2.2.2.1
  rw [show (ndA noN noW : Array Value) = #[.string ⟨#[]⟩, .bool false, .int .u8 0, .int .i64 0, .slice none 0 0, .slice none 0 0, .slice none 0 0, .string ⟨#[]⟩] from rfl] at hW
  rw [← hW] at hl
  have HL := hide (load_one (agg_one24 _) hl)
  have HW := hide hW
  clear hr hW fa fr bw zw hl
  go_enter Tryz.func4, Tryz.ntmps4
  go_wp2_with (refine l_load _ HL.out rfl rfl rfl ?_; refine stopNd ?_)
  unfold Hid
  have hW := HW.out
  rw [hW]
  clear hW HW HL
  have c4 : W.cell? ⟨w.heap.size, 4, none⟩ = some (.slice v.aa n.affs.length v.ac) := (nd_box HB0.out.1).2.2.2.2.1
  by_cases hc0 : (20 : Int) < n.affs.length
  · have hcap : (20 : Int) ≤ v.ac := by have := HK.out.1; omega
    have zf : W.frozen? ⟨w.heap.size, 4, none⟩ = false := by simp [World.frozen?, HB0.out.1]
    have HC0 := hide (show 20 < n.affs.length by omega)
    go_wp2_with (refine l_store _ (store_any (size_one24 _) c4 zf) rfl rfl rfl rfl ?_; refine stopNd ?_)
    unfold Hid
    have hn : (W.setCell ⟨w.heap.size, 4, none⟩ (.slice v.aa 20 v.ac)).heap[w.heap.size]? = some (.cells (ndA { n with affs := n.affs.take 20 } v) 27) := box_affs HB0.out.1 HC0.out
    have hn2 : (W.setCell ⟨w.heap.size, 4, none⟩ (.slice v.aa 20 v.ac)).heap[w.heap.size + 1]? = some (.cells (ndA noN noW) 27) := (set_blk _ _ _ _ (by simp)).trans HB0.out.2.1
    have hn3 : Below w.heap.size w (W.setCell ⟨w.heap.size, 4, none⟩ (.slice v.aa 20 v.ac)) := HB0.out.2.2.setCell (p := ⟨w.heap.size, 4, none⟩) (Nat.le_refl _) _
    obtain ⟨W1, hWn⟩ : ∃ W1, W.setCell ⟨w.heap.size, 4, none⟩ (.slice v.aa 20 v.ac) = W1 := ⟨_, rfl⟩
    rw [hWn] at hn hn2 hn3 ⊢
    have HB1 := hide (And.intro hn (And.intro hn2 hn3))
    clear hn hn2 hn3 hWn c4 zf hcap hc0
    have c5 : W1.cell? ⟨w.heap.size, 5, none⟩ = some (.slice v.sa n.subs.length v.sc) := (nd_box HB1.out.1).2.2.2.2.2.1
    by_cases hc1 : (20 : Int) < n.subs.length
    · have hcap : (20 : Int) ≤ v.sc := by have := HK.out.2.1; omega
      have zf : W1.frozen? ⟨w.heap.size, 5, none⟩ = false := by simp [World.frozen?, HB1.out.1]
      have HC1 := hide (show 20 < n.subs.length by omega)
      go_wp2_with (refine l_store _ (store_any (size_one25 _) c5 zf) rfl rfl rfl rfl ?_; refine stopNd ?_)
      unfold Hid
      have hn : (W1.setCell ⟨w.heap.size, 5, none⟩ (.slice v.sa 20 v.sc)).heap[w.heap.size]? = some (.cells (ndA { n with affs := n.affs.take 20, subs := n.subs.take 20 } v) 27) := box_subs HB1.out.1 HC1.out
      have hn2 : (W1.setCell ⟨w.heap.size, 5, none⟩ (.slice v.sa 20 v.sc)).heap[w.heap.size + 1]? = some (.cells (ndA noN noW) 27) := (set_blk _ _ _ _ (by simp)).trans HB1.out.2.1
      have hn3 : Below w.heap.size w (W1.setCell ⟨w.heap.size, 5, none⟩ (.slice v.sa 20 v.sc)) := HB1.out.2.2.setCell (p := ⟨w.heap.size, 5, none⟩) (Nat.le_refl _) _
      obtain ⟨W12, hWn⟩ : ∃ W12, W1.setCell ⟨w.heap.size, 5, none⟩ (.slice v.sa 20 v.sc) = W12 := ⟨_, rfl⟩
      rw [hWn] at hn hn2 hn3 ⊢
      have HB2 := hide (And.intro hn (And.intro hn2 hn3))
      clear hn hn2 hn3 hWn c5 zf hcap hc1
      have c6 : W12.cell? ⟨w.heap.size, 6, none⟩ = some (.slice v.ia n.items.length v.ic) := (nd_box HB2.out.1).2.2.2.2.2.2.1
      by_cases hc2 : (20 : Int) < n.items.length
      · have hcap : (20 : Int) ≤ v.ic := by have := HK.out.2.2; omega
        have zf : W12.frozen? ⟨w.heap.size, 6, none⟩ = false := by simp [World.frozen?, HB2.out.1]
        have HC2 := hide (show 20 < n.items.length by omega)
        go_wp2_with (refine l_store _ (store_any (size_one26 _) c6 zf) rfl rfl rfl rfl ?_; refine stopNd ?_)
        unfold Hid
        have hn : (W12.setCell ⟨w.heap.size, 6, none⟩ (.slice v.ia 20 v.ic)).heap[w.heap.size]? = some (.cells (ndA { n with affs := n.affs.take 20, subs := n.subs.take 20, items := n.items.take 20 } v) 27) := box_items HB2.out.1 HC2.out
        have hn2 : (W12.setCell ⟨w.heap.size, 6, none⟩ (.slice v.ia 20 v.ic)).heap[w.heap.size + 1]? = some (.cells (ndA noN noW) 27) := (set_blk _ _ _ _ (by simp)).trans HB2.out.2.1
        have hn3 : Below w.heap.size w (W12.setCell ⟨w.heap.size, 6, none⟩ (.slice v.ia 20 v.ic)) := HB2.out.2.2.setCell (p := ⟨w.heap.size, 6, none⟩) (Nat.le_refl _) _
        obtain ⟨W123, hWn⟩ : ∃ W123, W12.setCell ⟨w.heap.size, 6, none⟩ (.slice v.ia 20 v.ic) = W123 := ⟨_, rfl⟩
        rw [hWn] at hn hn2 hn3 ⊢
        have HB3 := hide (And.intro hn (And.intro hn2 hn3))
        clear hn hn2 hn3 hWn c6 zf hcap hc2
        have hfw : { n with affs := n.affs.take 20, subs := n.subs.take 20, items := n.items.take 20 } = fewN n := by
          unfold fewN
          rfl
        have hbox := HB3.out.1
        rw [hfw] at hbox
        have HX := hide hbox
        have HR := hide HB3.out.2.1
        clear hbox hfw
        go_wp2_with (refine l_load _ (load_nd HX.out) rfl rfl rfl ?_; refine stopNd ?_)
        unfold Hid
        refine l_store _ (store_nd (n := fewN n) (u := v) HR.out) rfl rfl rfl rfl ?_
        go_wp2_with fail
        exact bodyPost_ret (results_nd rfl rfl (setNd_heap HR.out)) rfl ⟨rfl, setNd_below HB3.out.2.2 (Nat.le_succ _)⟩
      · have HC2 := hide (show n.items.length ≤ 20 by omega)
        have HB3 := HB2
        have hfw : { n with affs := n.affs.take 20, subs := n.subs.take 20 } = fewN n := by
          unfold fewN
          rw [List.take_of_length_le HC2.out]
        have hbox := HB3.out.1
        rw [hfw] at hbox
        have HX := hide hbox
        have HR := hide HB3.out.2.1
        clear hbox hfw
        go_wp2_with (refine l_load _ (load_nd HX.out) rfl rfl rfl ?_; refine stopNd ?_)
        unfold Hid
        refine l_store _ (store_nd (n := fewN n) (u := v) HR.out) rfl rfl rfl rfl ?_
        go_wp2_with fail
        exact bodyPost_ret (results_nd rfl rfl (setNd_heap HR.out)) rfl ⟨rfl, setNd_below HB3.out.2.2 (Nat.le_succ _)⟩
    · have HC1 := hide (show n.subs.length ≤ 20 by omega)
      have HB2 := HB1
      have c6 : W1.cell? ⟨w.heap.size, 6, none⟩ = some (.slice v.ia n.items.length v.ic) := (nd_box HB2.out.1).2.2.2.2.2.2.1
      by_cases hc2 : (20 : Int) < n.items.length
      · have hcap : (20 : Int) ≤ v.ic := by have := HK.out.2.2; omega
        have zf : W1.frozen? ⟨w.heap.size, 6, none⟩ = false := by simp [World.frozen?, HB2.out.1]
        have HC2 := hide (show 20 < n.items.length by omega)
        go_wp2_with (refine l_store _ (store_any (size_one26 _) c6 zf) rfl rfl rfl rfl ?_; refine stopNd ?_)
        unfold Hid
        have hn : (W1.setCell ⟨w.heap.size, 6, none⟩ (.slice v.ia 20 v.ic)).heap[w.heap.size]? = some (.cells (ndA { n with affs := n.affs.take 20, items := n.items.take 20 } v) 27) := box_items HB2.out.1 HC2.out
        have hn2 : (W1.setCell ⟨w.heap.size, 6, none⟩ (.slice v.ia 20 v.ic)).heap[w.heap.size + 1]? = some (.cells (ndA noN noW) 27) := (set_blk _ _ _ _ (by simp)).trans HB2.out.2.1
        have hn3 : Below w.heap.size w (W1.setCell ⟨w.heap.size, 6, none⟩ (.slice v.ia 20 v.ic)) := HB2.out.2.2.setCell (p := ⟨w.heap.size, 6, none⟩) (Nat.le_refl _) _
        obtain ⟨W13, hWn⟩ : ∃ W13, W1.setCell ⟨w.heap.size, 6, none⟩ (.slice v.ia 20 v.ic) = W13 := ⟨_, rfl⟩
        rw [hWn] at hn hn2 hn3 ⊢
        have HB3 := hide (And.intro hn (And.intro hn2 hn3))
        clear hn hn2 hn3 hWn c6 zf hcap hc2
        have hfw : { n with affs := n.affs.take 20, items := n.items.take 20 } = fewN n := by
          unfold fewN
          rw [List.take_of_length_le HC1.out]
        have hbox := HB3.out.1
        rw [hfw] at hbox
        have HX := hide hbox
        have HR := hide HB3.out.2.1
        clear hbox hfw
        go_wp2_with (refine l_load _ (load_nd HX.out) rfl rfl rfl ?_; refine stopNd ?_)
        unfold Hid
        refine l_store _ (store_nd (n := fewN n) (u := v) HR.out) rfl rfl rfl rfl ?_
        go_wp2_with fail
        exact bodyPost_ret (results_nd rfl rfl (setNd_heap HR.out)) rfl ⟨rfl, setNd_below HB3.out.2.2 (Nat.le_succ _)⟩
      · have HC2 := hide (show n.items.length ≤ 20 by omega)
        have HB3 := HB2
        have hfw : { n with affs := n.affs.take 20 } = fewN n := by
          unfold fewN
          rw [List.take_of_length_le HC1.out, List.take_of_length_le HC2.out]
        have hbox := HB3.out.1
        rw [hfw] at hbox
        have HX := hide hbox
        have HR := hide HB3.out.2.1
        clear hbox hfw
        go_wp2_with (refine l_load _ (load_nd HX.out) rfl rfl rfl ?_; refine stopNd ?_)
        unfold Hid
        refine l_store _ (store_nd (n := fewN n) (u := v) HR.out) rfl rfl rfl rfl ?_
        go_wp2_with fail
        exact bodyPost_ret (results_nd rfl rfl (setNd_heap HR.out)) rfl ⟨rfl, setNd_below HB3.out.2.2 (Nat.le_succ _)⟩
  · have HC0 := hide (show n.affs.length ≤ 20 by omega)
    have HB1 := HB0
    have c5 : W.cell? ⟨w.heap.size, 5, none⟩ = some (.slice v.sa n.subs.length v.sc) := (nd_box HB1.out.1).2.2.2.2.2.1
    by_cases hc1 : (20 : Int) < n.subs.length
    · have hcap : (20 : Int) ≤ v.sc := by have := HK.out.2.1; omega
      have zf : W.frozen? ⟨w.heap.size, 5, none⟩ = false := by simp [World.frozen?, HB1.out.1]
      have HC1 := hide (show 20 < n.subs.length by omega)
      go_wp2_with (refine l_store _ (store_any (size_one25 _) c5 zf) rfl rfl rfl rfl ?_; refine stopNd ?_)
      unfold Hid
      have hn : (W.setCell ⟨w.heap.size, 5, none⟩ (.slice v.sa 20 v.sc)).heap[w.heap.size]? = some (.cells (ndA { n with subs := n.subs.take 20 } v) 27) := box_subs HB1.out.1 HC1.out
      have hn2 : (W.setCell ⟨w.heap.size, 5, none⟩ (.slice v.sa 20 v.sc)).heap[w.heap.size + 1]? = some (.cells (ndA noN noW) 27) := (set_blk _ _ _ _ (by simp)).trans HB1.out.2.1
      have hn3 : Below w.heap.size w (W.setCell ⟨w.heap.size, 5, none⟩ (.slice v.sa 20 v.sc)) := HB1.out.2.2.setCell (p := ⟨w.heap.size, 5, none⟩) (Nat.le_refl _) _
      obtain ⟨W2, hWn⟩ : ∃ W2, W.setCell ⟨w.heap.size, 5, none⟩ (.slice v.sa 20 v.sc) = W2 := ⟨_, rfl⟩
      rw [hWn] at hn hn2 hn3 ⊢
      have HB2 := hide (And.intro hn (And.intro hn2 hn3))
      clear hn hn2 hn3 hWn c5 zf hcap hc1
      have c6 : W2.cell? ⟨w.heap.size, 6, none⟩ = some (.slice v.ia n.items.length v.ic) := (nd_box HB2.out.1).2.2.2.2.2.2.1
      by_cases hc2 : (20 : Int) < n.items.length
      · have hcap : (20 : Int) ≤ v.ic := by have := HK.out.2.2; omega
        have zf : W2.frozen? ⟨w.heap.size, 6, none⟩ = false := by simp [World.frozen?, HB2.out.1]
        have HC2 := hide (show 20 < n.items.length by omega)
        go_wp2_with (refine l_store _ (store_any (size_one26 _) c6 zf) rfl rfl rfl rfl ?_; refine stopNd ?_)
        unfold Hid
        have hn : (W2.setCell ⟨w.heap.size, 6, none⟩ (.slice v.ia 20 v.ic)).heap[w.heap.size]? = some (.cells (ndA { n with subs := n.subs.take 20, items := n.items.take 20 } v) 27) := box_items HB2.out.1 HC2.out
        have hn2 : (W2.setCell ⟨w.heap.size, 6, none⟩ (.slice v.ia 20 v.ic)).heap[w.heap.size + 1]? = some (.cells (ndA noN noW) 27) := (set_blk _ _ _ _ (by simp)).trans HB2.out.2.1
        have hn3 : Below w.heap.size w (W2.setCell ⟨w.heap.size, 6, none⟩ (.slice v.ia 20 v.ic)) := HB2.out.2.2.setCell (p := ⟨w.heap.size, 6, none⟩) (Nat.le_refl _) _
        obtain ⟨W23, hWn⟩ : ∃ W23, W2.setCell ⟨w.heap.size, 6, none⟩ (.slice v.ia 20 v.ic) = W23 := ⟨_, rfl⟩
        rw [hWn] at hn hn2 hn3 ⊢
        have HB3 := hide (And.intro hn (And.intro hn2 hn3))
        clear hn hn2 hn3 hWn c6 zf hcap hc2
        have hfw : { n with subs := n.subs.take 20, items := n.items.take 20 } = fewN n := by
          unfold fewN
          rw [List.take_of_length_le HC0.out]
        have hbox := HB3.out.1
        rw [hfw] at hbox
        have HX := hide hbox
        have HR := hide HB3.out.2.1
        clear hbox hfw
        go_wp2_with (refine l_load _ (load_nd HX.out) rfl rfl rfl ?_; refine stopNd ?_)
        unfold Hid
        refine l_store _ (store_nd (n := fewN n) (u := v) HR.out) rfl rfl rfl rfl ?_
        go_wp2_with fail
        exact bodyPost_ret (results_nd rfl rfl (setNd_heap HR.out)) rfl ⟨rfl, setNd_below HB3.out.2.2 (Nat.le_succ _)⟩
      · have HC2 := hide (show n.items.length ≤ 20 by omega)
        have HB3 := HB2
        have hfw : { n with subs := n.subs.take 20 } = fewN n := by
          unfold fewN
          rw [List.take_of_length_le HC0.out, List.take_of_length_le HC2.out]
        have hbox := HB3.out.1
        rw [hfw] at hbox
        have HX := hide hbox
        have HR := hide HB3.out.2.1
        clear hbox hfw
        go_wp2_with (refine l_load _ (load_nd HX.out) rfl rfl rfl ?_; refine stopNd ?_)
        unfold Hid
        refine l_store _ (store_nd (n := fewN n) (u := v) HR.out) rfl rfl rfl rfl ?_
        go_wp2_with fail
        exact bodyPost_ret (results_nd rfl rfl (setNd_heap HR.out)) rfl ⟨rfl, setNd_below HB3.out.2.2 (Nat.le_succ _)⟩
    · have HC1 := hide (show n.subs.length ≤ 20 by omega)
      have HB2 := HB1
      have c6 : W.cell? ⟨w.heap.size, 6, none⟩ = some (.slice v.ia n.items.length v.ic) := (nd_box HB2.out.1).2.2.2.2.2.2.1
      by_cases hc2 : (20 : Int) < n.items.length
      · have hcap : (20 : Int) ≤ v.ic := by have := HK.out.2.2; omega
        have zf : W.frozen? ⟨w.heap.size, 6, none⟩ = false := by simp [World.frozen?, HB2.out.1]
        have HC2 := hide (show 20 < n.items.length by omega)
        go_wp2_with (refine l_store _ (store_any (size_one26 _) c6 zf) rfl rfl rfl rfl ?_; refine stopNd ?_)
        unfold Hid
        have hn : (W.setCell ⟨w.heap.size, 6, none⟩ (.slice v.ia 20 v.ic)).heap[w.heap.size]? = some (.cells (ndA { n with items := n.items.take 20 } v) 27) := box_items HB2.out.1 HC2.out
        have hn2 : (W.setCell ⟨w.heap.size, 6, none⟩ (.slice v.ia 20 v.ic)).heap[w.heap.size + 1]? = some (.cells (ndA noN noW) 27) := (set_blk _ _ _ _ (by simp)).trans HB2.out.2.1
        have hn3 : Below w.heap.size w (W.setCell ⟨w.heap.size, 6, none⟩ (.slice v.ia 20 v.ic)) := HB2.out.2.2.setCell (p := ⟨w.heap.size, 6, none⟩) (Nat.le_refl _) _
        obtain ⟨W3, hWn⟩ : ∃ W3, W.setCell ⟨w.heap.size, 6, none⟩ (.slice v.ia 20 v.ic) = W3 := ⟨_, rfl⟩
        rw [hWn] at hn hn2 hn3 ⊢
        have HB3 := hide (And.intro hn (And.intro hn2 hn3))
        clear hn hn2 hn3 hWn c6 zf hcap hc2
        have hfw : { n with items := n.items.take 20 } = fewN n := by
          unfold fewN
          rw [List.take_of_length_le HC0.out, List.take_of_length_le HC1.out]
        have hbox := HB3.out.1
        rw [hfw] at hbox
        have HX := hide hbox
        have HR := hide HB3.out.2.1
        clear hbox hfw
        go_wp2_with (refine l_load _ (load_nd HX.out) rfl rfl rfl ?_; refine stopNd ?_)
        unfold Hid
        refine l_store _ (store_nd (n := fewN n) (u := v) HR.out) rfl rfl rfl rfl ?_
        go_wp2_with fail
        exact bodyPost_ret (results_nd rfl rfl (setNd_heap HR.out)) rfl ⟨rfl, setNd_below HB3.out.2.2 (Nat.le_succ _)⟩
      · have HC2 := hide (show n.items.length ≤ 20 by omega)
        have HB3 := HB2
        have hfw : n = fewN n := by
          unfold fewN
          rw [List.take_of_length_le HC0.out, List.take_of_length_le HC1.out, List.take_of_length_le HC2.out]
        have hbox := HB3.out.1
        rw [hfw] at hbox
        have HX := hide hbox
        have HR := hide HB3.out.2.1
        clear hbox hfw
        go_wp2_with (refine l_load _ (load_nd HX.out) rfl rfl rfl ?_; refine stopNd ?_)
        unfold Hid
        refine l_store _ (store_nd (n := fewN n) (u := v) HR.out) rfl rfl rfl rfl ?_
        go_wp2_with fail
        exact bodyPost_ret (results_nd rfl rfl (setNd_heap HR.out)) rfl ⟨rfl, setNd_below HB3.out.2.2 (Nat.le_succ _)⟩
end Go.Proofs.YtimhkgpjfppkmaaGreatDoor
