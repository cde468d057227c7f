/- A node's reader: several. A node's reader: several of those who subscribe, of items. -/
import Derived.Test.YtimhkgpjfppkmaaGreatDoorRA
import Derived.Test.YtimhkgpjfppkmaaGreatDoorRJ
namespace Go.Proofs.YtimhkgpjfppkmaaGreatDoor
open Go.RowKit Go.Shelf

theorem ex_sliceK {o : Oper} {a : Act} {w w' : World} {T : TypeId} {n : Nat} {ps : Array (Nat × Operand)} {v : Value} {us : Array (Nat × Value)} (ho : o.op = .buildSlice T n ps) (hp : (ps.map fun x => (x.1, a.eval x.2)) = us) (hr : (Instr.buildSlice T n us).run Tryz.prog w = .ok v w') : (execOp a.eval o).run Tryz.prog w = .ok (.value v) w' := by
  unfold execOp
  simp only [ho]
  rw [show (ps.map fun (i, x) => (i, a.eval x)) = us from hp]
  simp [hr]
theorem one_aK (x : ByteArray × Nat) (W : World) : ∃ W3, (Instr.buildSlice 23 1 #[(0, .agg #[.string x.1, .int .u8 x.2])]).run Tryz.prog W = .ok (.slice (some ⟨W.heap.size, 0, none⟩) 1 1) W3 ∧ W3.heap[W.heap.size]? = some (.cells #[.string x.1, .int .u8 x.2] 55) ∧ Below W.heap.size W W3 :=
  ⟨W.alloc (.cells #[.string x.1, .int .u8 x.2] 55), by kernel_rfl, World.alloc_heap_new _ _, (Below.refl _ W).alloc (Nat.le_refl _) _⟩
theorem one_sK (x : ByteArray × Bool × Int) (W : World) : ∃ W3, (Instr.buildSlice 24 1 #[(0, .agg #[.string x.1, .bool x.2.1, .int .i64 x.2.2])]).run Tryz.prog W = .ok (.slice (some ⟨W.heap.size, 0, none⟩) 1 1) W3 ∧ W3.heap[W.heap.size]? = some (.cells #[.string x.1, .bool x.2.1, .int .i64 x.2.2] 58) ∧ Below W.heap.size W W3 :=
  ⟨W.alloc (.cells #[.string x.1, .bool x.2.1, .int .i64 x.2.2] 58), by kernel_rfl, World.alloc_heap_new _ _, (Below.refl _ W).alloc (Nat.le_refl _) _⟩
theorem grown_own {w W W' : World} {r q : Option Nat} (h : w.grownBy W r) (h2 : W.grownBy W' q) (hq : ∀ g, q = some g → w.heap.size ≤ g) : w.grownBy W' r :=
  ⟨h2.os.trans h.os, h2.tape.trans h.tape, h2.output.trans h.output, Nat.le_trans h.size h2.size, fun k hk hne => (h2.block k (Nat.lt_of_lt_of_le hk h.size) (fun e => by have := hq k e.symm; omega)).trans (h.block k hk hne)⟩
theorem many_step {α : Type} {one : List UInt8 → Option (α × List UInt8)} {K i : Nat} {s1 s r : List UInt8} {l : List α} {x : α} (hi : i < K) (h : manyF one K s1 = (manyF one (K - i) s).map fun y => (l ++ y.1, y.2)) (hx : one s = some (x, r)) : manyF one K s1 = (manyF one (K - (i + 1)) r).map fun y => ((l ++ [x]) ++ y.1, y.2) := by
  rw [h, show K - i = (K - (i + 1)) + 1 by omega]
  simp only [manyF, hx, Option.bind_some]
  cases manyF one (K - (i + 1)) r with
  | none => rfl
  | some y => simp
theorem many_stop {α : Type} {one : List UInt8 → Option (α × List UInt8)} {K i : Nat} {s1 s : List UInt8} {l : List α} (hi : i < K) (h : manyF one K s1 = (manyF one (K - i) s).map fun y => (l ++ y.1, y.2)) (hx : one s = none) : manyF one K s1 = none := by
  rw [h, show K - i = (K - (i + 1)) + 1 by omega]
  simp only [manyF, hx]
  rfl
theorem aff_len {s r : List UInt8} {x : ByteArray × Nat} (h : affF s = some (x, r)) : r.length ≤ s.length := by
  have e := affF_some h
  rw [e]
  simp
set_option maxRecDepth 100000 in
set_option maxHeartbeats 8000000 in
theorem sevAff_any (s0 : List UInt8) (hs : s0.length ≤ 281474976710656) (most b B : Nat) (hmost : most ≤ 100) (w : World) (hb : B ≤ b) (hg : EnvR B w) (hr : Rdr w b s0) :
    Calls Tryz.prog 56 #[.pointer (some ⟨b, 0, none⟩), .int .i64 most, .func (.func 57) #[.pointer (some ⟨b, 0, none⟩)] #[]] w fun e w' =>
      ((∃ l r, sevF affF most s0 = some (l, r) ∧ ∃ v, e = .returned v ∧ w'.ownsRow w.heap.size 55 2 v l.length (aC l) ∧ Rdr w' b r ∧ l.length ≤ most) ∨ (sevF affF most s0 = none ∧ e = stopN)) ∧ w.grownBy w' (some b) := by
  have HN := hide (number_any s0 hs most b B w hb hg hr)
  have hbl := (Array.getElem?_eq_some_iff.1 hr).1
  have HG := hide (And.intro hg hbl)
  clear hg hr
  go_enter Tryz.func56, Tryz.ntmps56
  go_wp2_with fail
  refine HN.out.mono ?_
  rintro e W1 ⟨⟨K, s1, hx, rfl, hr1⟩ | ⟨hx, rfl⟩, g1⟩
  · have hK := (numF_some hx).2
    have HK := hide (And.intro hx (And.intro hr1 (And.intro g1 (Nat.le_trans (num_len hx) hs))))
    clear hx hr1 g1 hs hbl HN
    have hK1 : K ≤ 100 := by omega
    go_wp2_with fail
    go_loopw [7, 11] (fun lv iv wr => ∃ (i : Nat) (l : List (ByteArray × Nat)) (s : List UInt8), i ≤ K ∧ iv = .int .i64 i ∧ l.length = i ∧ wr.ownsRow w.heap.size 55 2 lv l.length (aC l) ∧ Rdr wr b s ∧ s.length ≤ 281474976710656 ∧ w.grownBy wr (some b) ∧ manyF affF K s1 = (manyF affF (K - i) s).map fun y => (l ++ y.1, y.2)) (fun _ iv _ => K - (intOf iv).toNat)
    case atStart =>
      refine ⟨0, [], s1, Nat.zero_le _, rfl, rfl, World.ownsRow_nil _ _ _ _, HK.out.2.1, HK.out.2.2.2, HK.out.2.2.1, ?_⟩
      cases manyF affF K s1 <;> simp
    case round =>
      rename_i u7 _
      obtain ⟨i, l, s, hiK, rfl, hl, hown, hrd, hsl, hgr, hmany⟩ := hrel
      have HR := hide (And.intro hl (And.intro hown (And.intro hrd (And.intro hsl (And.intro hgr hmany)))))
      have HE := hide (HG.out.1.grown hb hgr)
      have HO := hide (rdAff_any s hsl b B wr hb HE.out hrd)
      clear hl hown hrd hsl hgr hmany
      by_cases hlt : (i : Int) < K
      · go_wp2_with fail
        refine HO.out.mono ?_
        rintro e W2 ⟨⟨x, r, hx, rfl, hr2⟩ | ⟨hx, rfl⟩, g2⟩
        · have hown2 := own_same (B := W2) HR.out.2.1 (fun g e => g2.block g (own_lt HR.out.2.1 g e) (fun h => by have := own_base HR.out.2.1 g e; have := HG.out.2; injection h with h; omega))
          obtain ⟨W3, hbs, f3, b3⟩ := one_aK x W2
          have hown3 := own_same (B := W3) hown2 (fun g e => b3.block g (own_lt hown2 g e))
          have hl3 := (Array.getElem?_eq_some_iff.1 f3).1
          have hone : AffMem W3.heap.size W3 (some ⟨W2.heap.size, 0, none⟩) [x] := by
            refine ⟨by simp, fun j y hy => ?_⟩
            match j, hy with
            | 0, hy =>
              simp at hy
              subst hy
              exact ⟨W2.heap.size, 0, rfl, hl3, by simp [World.cell?, f3], by simp [World.cell?, f3]⟩
          have g13 := grown_trans (grown_trans HR.out.2.2.2.2.1 g2) (grown_of (b := b) b3)
          obtain ⟨v4, W4, hap, hown4, hgr4, _⟩ := app_a (T := 23) (cap := 1) hown3 hone g13.size (by simp; have := HR.out.1; omega)
          have hne : (some b : Option Nat) ≠ Value.ownBlock u7 := fun h => by have := own_base hown3 b h.symm; have := HG.out.2; omega
          have hrb := hr2.keep b3
          have HZ := hide (And.intro (affF_some hx) (And.intro hx (And.intro hown4 (And.intro (show Rdr W4 b r from (hgr4.block b (Array.getElem?_eq_some_iff.1 hrb).1 hne).trans hrb) (And.intro (grown_own g13 hgr4 (fun g e => own_base hown3 g e)) (Nat.le_trans (aff_len hx) HR.out.2.2.2.1))))))
          have h1 : ([x] : List (ByteArray × Nat)).length = 1 := rfl
          rw [h1] at hap
          clear hx hr2 g2 hown2 f3 b3 hown3 hl3 hone g13 hown4 hgr4 hne hrb h1
          go_wp2_with (first | refine l_val rfl _ (ex_sliceK (us := #[(0, .agg #[.string x.1, .int .u8 x.2])]) rfl (by simp [Act.eval]) hbs) ?_ | refine l_val rfl _ (ex_appN rfl rfl rfl hap) ?_)
          go_roundw
          case rel => exact ⟨i + 1, l ++ [x], r, by omega, by simp, by simp [HR.out.1], HZ.out.2.2.1, HZ.out.2.2.2.1, HZ.out.2.2.2.2.2, HZ.out.2.2.2.2.1, many_step (by omega) HR.out.2.2.2.2.2 HZ.out.2.1⟩
          case measure => simp [intOf]; omega
        · have HZ := hide (And.intro hx g2)
          clear hx g2
          go_wp2_with fail
          refine ⟨rfl, .inr ⟨?_, rfl⟩, grown_trans HR.out.2.2.2.2.1 HZ.out.2⟩
          unfold sevF
          rw [HK.out.1]
          exact many_stop (by omega) HR.out.2.2.2.2.2 HZ.out.1
      · obtain rfl : i = K := by omega
        go_wp2_with fail
        go_ret
        refine ⟨.inl ⟨l, s, ?_, _, rfl, HR.out.2.1, HR.out.2.2.1, by have := HR.out.1; omega⟩, HR.out.2.2.2.2.1⟩
        unfold sevF
        rw [HK.out.1]
        refine HR.out.2.2.2.2.2.trans ?_
        rw [Nat.sub_self]
        simp [manyF]
  · have HK := hide (And.intro hx g1)
    clear hx g1
    go_wp2_with fail
    refine ⟨rfl, .inr ⟨?_, rfl⟩, HK.out.2⟩
    unfold sevF
    rw [HK.out.1]
    rfl
end Go.Proofs.YtimhkgpjfppkmaaGreatDoor
namespace Go.Proofs.YtimhkgpjfppkmaaGreatDoor
open Go.RowKit Go.Shelf

theorem one_iK (x : ByteArray × ByteArray × ByteArray) (W : World) : ∃ W3, (Instr.buildSlice 25 1 #[(0, .agg #[.string x.1, .string x.2.1, .string x.2.2])]).run Tryz.prog W = .ok (.slice (some ⟨W.heap.size, 0, none⟩) 1 1) W3 ∧ W3.heap[W.heap.size]? = some (.cells #[.string x.1, .string x.2.1, .string x.2.2] 61) ∧ Below W.heap.size W W3 :=
  ⟨W.alloc (.cells #[.string x.1, .string x.2.1, .string x.2.2] 61), by kernel_rfl, World.alloc_heap_new _ _, (Below.refl _ W).alloc (Nat.le_refl _) _⟩
theorem sub_len {s r : List UInt8} {x : ByteArray × Bool × Int} (h : subF s = some (x, r)) : r.length ≤ s.length := by
  have e := subF_some h
  rw [e]
  simp
set_option maxRecDepth 100000 in
set_option maxHeartbeats 8000000 in
theorem sevSub_any (s0 : List UInt8) (hs : s0.length ≤ 281474976710656) (most b B : Nat) (hmost : most ≤ 100) (w : World) (hb : B ≤ b) (hg : EnvR B w) (hr : Rdr w b s0) :
    Calls Tryz.prog 58 #[.pointer (some ⟨b, 0, none⟩), .int .i64 most, .func (.func 59) #[.pointer (some ⟨b, 0, none⟩)] #[]] w fun e w' =>
      ((∃ l r, sevF subF most s0 = some (l, r) ∧ ∃ v, e = .returned v ∧ w'.ownsRow w.heap.size 58 3 v l.length (sC l) ∧ Rdr w' b r ∧ l.length ≤ most) ∨ (sevF subF most s0 = none ∧ e = stopN)) ∧ w.grownBy w' (some b) := by
  have HN := hide (number_any s0 hs most b B w hb hg hr)
  have hbl := (Array.getElem?_eq_some_iff.1 hr).1
  have HG := hide (And.intro hg hbl)
  clear hg hr
  go_enter Tryz.func58, Tryz.ntmps58
  go_wp2_with fail
  refine HN.out.mono ?_
  rintro e W1 ⟨⟨K, s1, hx, rfl, hr1⟩ | ⟨hx, rfl⟩, g1⟩
  · have hK := (numF_some hx).2
    have HK := hide (And.intro hx (And.intro hr1 (And.intro g1 (Nat.le_trans (num_len hx) hs))))
    clear hx hr1 g1 hs hbl HN
    have hK1 : K ≤ 100 := by omega
    go_wp2_with fail
    go_loopw [7, 11] (fun lv iv wr => ∃ (i : Nat) (l : List (ByteArray × Bool × Int)) (s : List UInt8), i ≤ K ∧ iv = .int .i64 i ∧ l.length = i ∧ wr.ownsRow w.heap.size 58 3 lv l.length (sC l) ∧ Rdr wr b s ∧ s.length ≤ 281474976710656 ∧ w.grownBy wr (some b) ∧ manyF subF K s1 = (manyF subF (K - i) s).map fun y => (l ++ y.1, y.2)) (fun _ iv _ => K - (intOf iv).toNat)
    case atStart =>
      refine ⟨0, [], s1, Nat.zero_le _, rfl, rfl, World.ownsRow_nil _ _ _ _, HK.out.2.1, HK.out.2.2.2, HK.out.2.2.1, ?_⟩
      cases manyF subF K s1 <;> simp
    case round =>
      rename_i u7 _
      obtain ⟨i, l, s, hiK, rfl, hl, hown, hrd, hsl, hgr, hmany⟩ := hrel
      have HR := hide (And.intro hl (And.intro hown (And.intro hrd (And.intro hsl (And.intro hgr hmany)))))
      have HE := hide (HG.out.1.grown hb hgr)
      have HO := hide (rdSub_any s hsl b B wr hb HE.out hrd)
      clear hl hown hrd hsl hgr hmany
      by_cases hlt : (i : Int) < K
      · go_wp2_with fail
        refine HO.out.mono ?_
        rintro e W2 ⟨⟨x, r, hx, rfl, hr2⟩ | ⟨hx, rfl⟩, g2⟩
        · have hown2 := own_same (B := W2) HR.out.2.1 (fun g e => g2.block g (own_lt HR.out.2.1 g e) (fun h => by have := own_base HR.out.2.1 g e; have := HG.out.2; injection h with h; omega))
          obtain ⟨W3, hbs, f3, b3⟩ := one_sK x W2
          have hown3 := own_same (B := W3) hown2 (fun g e => b3.block g (own_lt hown2 g e))
          have hl3 := (Array.getElem?_eq_some_iff.1 f3).1
          have hone : SubMem W3.heap.size W3 (some ⟨W2.heap.size, 0, none⟩) [x] := by
            refine ⟨by simp, fun j y hy => ?_⟩
            match j, hy with
            | 0, hy =>
              simp at hy
              subst hy
              exact ⟨W2.heap.size, 0, rfl, hl3, by simp [World.cell?, f3], by simp [World.cell?, f3], by simp [World.cell?, f3]⟩
          have g13 := grown_trans (grown_trans HR.out.2.2.2.2.1 g2) (grown_of (b := b) b3)
          obtain ⟨v4, W4, hap, hown4, hgr4, _⟩ := app_s (T := 24) (cap := 1) hown3 hone g13.size (by simp; have := HR.out.1; omega)
          have hne : (some b : Option Nat) ≠ Value.ownBlock u7 := fun h => by have := own_base hown3 b h.symm; have := HG.out.2; omega
          have hrb := hr2.keep b3
          have HZ := hide (And.intro (subF_some hx) (And.intro hx (And.intro hown4 (And.intro (show Rdr W4 b r from (hgr4.block b (Array.getElem?_eq_some_iff.1 hrb).1 hne).trans hrb) (And.intro (grown_own g13 hgr4 (fun g e => own_base hown3 g e)) (Nat.le_trans (sub_len hx) HR.out.2.2.2.1))))))
          have h1 : ([x] : List (ByteArray × Bool × Int)).length = 1 := rfl
          rw [h1] at hap
          clear hx hr2 g2 hown2 f3 b3 hown3 hl3 hone g13 hown4 hgr4 hne hrb h1
          go_wp2_with (first | refine l_val rfl _ (ex_sliceK (us := #[(0, .agg #[.string x.1, .bool x.2.1, .int .i64 x.2.2])]) rfl (by simp [Act.eval]) hbs) ?_ | refine l_val rfl _ (ex_appN rfl rfl rfl hap) ?_)
          go_roundw
          case rel => exact ⟨i + 1, l ++ [x], r, by omega, by simp, by simp [HR.out.1], HZ.out.2.2.1, HZ.out.2.2.2.1, HZ.out.2.2.2.2.2, HZ.out.2.2.2.2.1, many_step (by omega) HR.out.2.2.2.2.2 HZ.out.2.1⟩
          case measure => simp [intOf]; omega
        · have HZ := hide (And.intro hx g2)
          clear hx g2
          go_wp2_with fail
          refine ⟨rfl, .inr ⟨?_, rfl⟩, grown_trans HR.out.2.2.2.2.1 HZ.out.2⟩
          unfold sevF
          rw [HK.out.1]
          exact many_stop (by omega) HR.out.2.2.2.2.2 HZ.out.1
      · obtain rfl : i = K := by omega
        go_wp2_with fail
        go_ret
        refine ⟨.inl ⟨l, s, ?_, _, rfl, HR.out.2.1, HR.out.2.2.1, by have := HR.out.1; omega⟩, HR.out.2.2.2.2.1⟩
        unfold sevF
        rw [HK.out.1]
        refine HR.out.2.2.2.2.2.trans ?_
        rw [Nat.sub_self]
        simp [manyF]
  · have HK := hide (And.intro hx g1)
    clear hx g1
    go_wp2_with fail
    refine ⟨rfl, .inr ⟨?_, rfl⟩, HK.out.2⟩
    unfold sevF
    rw [HK.out.1]
    rfl
theorem it_len {s r : List UInt8} {x : ByteArray × ByteArray × ByteArray} (h : itF s = some (x, r)) : r.length ≤ s.length := by
  have e := itF_some h
  rw [e]
  simp
set_option maxRecDepth 100000 in
set_option maxHeartbeats 8000000 in
theorem sevIt_any (s0 : List UInt8) (hs : s0.length ≤ 281474976710656) (most b B : Nat) (hmost : most ≤ 100) (w : World) (hb : B ≤ b) (hg : EnvR B w) (hr : Rdr w b s0) :
    Calls Tryz.prog 60 #[.pointer (some ⟨b, 0, none⟩), .int .i64 most, .func (.func 61) #[.pointer (some ⟨b, 0, none⟩)] #[]] w fun e w' =>
      ((∃ l r, sevF itF most s0 = some (l, r) ∧ ∃ v, e = .returned v ∧ w'.ownsRow w.heap.size 61 3 v l.length (iC l) ∧ Rdr w' b r ∧ l.length ≤ most) ∨ (sevF itF most s0 = none ∧ e = stopN)) ∧ w.grownBy w' (some b) := by
  have HN := hide (number_any s0 hs most b B w hb hg hr)
  have hbl := (Array.getElem?_eq_some_iff.1 hr).1
  have HG := hide (And.intro hg hbl)
  clear hg hr
  go_enter Tryz.func60, Tryz.ntmps60
  go_wp2_with fail
  refine HN.out.mono ?_
  rintro e W1 ⟨⟨K, s1, hx, rfl, hr1⟩ | ⟨hx, rfl⟩, g1⟩
  · have hK := (numF_some hx).2
    have HK := hide (And.intro hx (And.intro hr1 (And.intro g1 (Nat.le_trans (num_len hx) hs))))
    clear hx hr1 g1 hs hbl HN
    have hK1 : K ≤ 100 := by omega
    go_wp2_with fail
    go_loopw [7, 11] (fun lv iv wr => ∃ (i : Nat) (l : List (ByteArray × ByteArray × ByteArray)) (s : List UInt8), i ≤ K ∧ iv = .int .i64 i ∧ l.length = i ∧ wr.ownsRow w.heap.size 61 3 lv l.length (iC l) ∧ Rdr wr b s ∧ s.length ≤ 281474976710656 ∧ w.grownBy wr (some b) ∧ manyF itF K s1 = (manyF itF (K - i) s).map fun y => (l ++ y.1, y.2)) (fun _ iv _ => K - (intOf iv).toNat)
    case atStart =>
      refine ⟨0, [], s1, Nat.zero_le _, rfl, rfl, World.ownsRow_nil _ _ _ _, HK.out.2.1, HK.out.2.2.2, HK.out.2.2.1, ?_⟩
      cases manyF itF K s1 <;> simp
    case round =>
      rename_i u7 _
      obtain ⟨i, l, s, hiK, rfl, hl, hown, hrd, hsl, hgr, hmany⟩ := hrel
      have HR := hide (And.intro hl (And.intro hown (And.intro hrd (And.intro hsl (And.intro hgr hmany)))))
      have HE := hide (HG.out.1.grown hb hgr)
      have HO := hide (rdIt_any s hsl b B wr hb HE.out hrd)
      clear hl hown hrd hsl hgr hmany
      by_cases hlt : (i : Int) < K
      · go_wp2_with fail
        refine HO.out.mono ?_
        rintro e W2 ⟨⟨x, r, hx, rfl, hr2⟩ | ⟨hx, rfl⟩, g2⟩
        · have hown2 := own_same (B := W2) HR.out.2.1 (fun g e => g2.block g (own_lt HR.out.2.1 g e) (fun h => by have := own_base HR.out.2.1 g e; have := HG.out.2; injection h with h; omega))
          obtain ⟨W3, hbs, f3, b3⟩ := one_iK x W2
          have hown3 := own_same (B := W3) hown2 (fun g e => b3.block g (own_lt hown2 g e))
          have hl3 := (Array.getElem?_eq_some_iff.1 f3).1
          have hone : ItMem W3.heap.size W3 (some ⟨W2.heap.size, 0, none⟩) [x] := by
            refine ⟨by simp, fun j y hy => ?_⟩
            match j, hy with
            | 0, hy =>
              simp at hy
              subst hy
              exact ⟨W2.heap.size, 0, rfl, hl3, by simp [World.cell?, f3], by simp [World.cell?, f3], by simp [World.cell?, f3]⟩
          have g13 := grown_trans (grown_trans HR.out.2.2.2.2.1 g2) (grown_of (b := b) b3)
          obtain ⟨v4, W4, hap, hown4, hgr4, _⟩ := app_i (T := 25) (cap := 1) hown3 hone g13.size (by simp; have := HR.out.1; omega)
          have hne : (some b : Option Nat) ≠ Value.ownBlock u7 := fun h => by have := own_base hown3 b h.symm; have := HG.out.2; omega
          have hrb := hr2.keep b3
          have HZ := hide (And.intro (itF_some hx) (And.intro hx (And.intro hown4 (And.intro (show Rdr W4 b r from (hgr4.block b (Array.getElem?_eq_some_iff.1 hrb).1 hne).trans hrb) (And.intro (grown_own g13 hgr4 (fun g e => own_base hown3 g e)) (Nat.le_trans (it_len hx) HR.out.2.2.2.1))))))
          have h1 : ([x] : List (ByteArray × ByteArray × ByteArray)).length = 1 := rfl
          rw [h1] at hap
          clear hx hr2 g2 hown2 f3 b3 hown3 hl3 hone g13 hown4 hgr4 hne hrb h1
          go_wp2_with (first | refine l_val rfl _ (ex_sliceK (us := #[(0, .agg #[.string x.1, .string x.2.1, .string x.2.2])]) rfl (by simp [Act.eval]) hbs) ?_ | refine l_val rfl _ (ex_appN rfl rfl rfl hap) ?_)
          go_roundw
          case rel => exact ⟨i + 1, l ++ [x], r, by omega, by simp, by simp [HR.out.1], HZ.out.2.2.1, HZ.out.2.2.2.1, HZ.out.2.2.2.2.2, HZ.out.2.2.2.2.1, many_step (by omega) HR.out.2.2.2.2.2 HZ.out.2.1⟩
          case measure => simp [intOf]; omega
        · have HZ := hide (And.intro hx g2)
          clear hx g2
          go_wp2_with fail
          refine ⟨rfl, .inr ⟨?_, rfl⟩, grown_trans HR.out.2.2.2.2.1 HZ.out.2⟩
          unfold sevF
          rw [HK.out.1]
          exact many_stop (by omega) HR.out.2.2.2.2.2 HZ.out.1
      · obtain rfl : i = K := by omega
        go_wp2_with fail
        go_ret
        refine ⟨.inl ⟨l, s, ?_, _, rfl, HR.out.2.1, HR.out.2.2.1, by have := HR.out.1; omega⟩, HR.out.2.2.2.2.1⟩
        unfold sevF
        rw [HK.out.1]
        refine HR.out.2.2.2.2.2.trans ?_
        rw [Nat.sub_self]
        simp [manyF]
  · have HK := hide (And.intro hx g1)
    clear hx g1
    go_wp2_with fail
    refine ⟨rfl, .inr ⟨?_, rfl⟩, HK.out.2⟩
    unfold sevF
    rw [HK.out.1]
    rfl
end Go.Proofs.YtimhkgpjfppkmaaGreatDoor
