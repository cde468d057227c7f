/- Addresses: what a text says. Addresses: whether they are right. Addresses: what must be whatever is asked. -/
import Derived.Test.YtimhkgpjfppkmaaDoorGA
import Derived.Test.YtimhkgpjfppkmaaDoorShelf
import Derived.ScopeJumps
import Derived.WalkMore
import Derived.Laws.StructEq
namespace Go.Proofs.YtimhkgpjfppkmaaDoor.Jd
open Go.RowKit

/-- The variable that strings.Cut reads, whatever its value. -/
def MaxG (w : World) : Prop := ∃ m, w.cell? ⟨3, 0, none⟩ = some (.int .i64 m)
theorem MaxG.below {w w' : World} {B : Nat} (h : MaxG w) (hb : Below B w w') (hB : 3 < B) : MaxG w' := by
  obtain ⟨m, hm⟩ := h
  exact ⟨m, (hb.cell (p := ⟨_, 0, none⟩) hB).trans hm⟩
theorem arr_list (l : List UInt8) : (⟨l.toArray⟩ : ByteArray).data.toList = l := rfl
theorem arr_self (s : ByteArray) : (⟨s.data.toList.toArray⟩ : ByteArray) = s := by simp

theorem results3 {fn : Func} {tmps : Array Value} {w : World} {x y z : Value} (h : fn.results = #[.tmp 2, .tmp 3, .tmp 4]) (h0 : tmps[2]?.getD undef = x) (h1 : tmps[3]?.getD undef = y) (h2 : tmps[4]?.getD undef = z) : (results fn tmps).run Tryd.prog w = .ok (.tuple #[x, y, z]) w := by
  simp [results, h, h0, h1, h2, go_sem]

set_option maxRecDepth 100000 in
theorem cutLocal_any (s : ByteArray) (w : World) (hs : s.size < 4294967281) (hm : MaxG w) : Calls Tryd.prog 60 #[.string s] w fun e w' => e = .returned (.tuple #[.string ⟨(locL s.data.toList).1.toArray⟩, .string ⟨(locL s.data.toList).2.1.toArray⟩, .bool (locL s.data.toList).2.2]) ∧ ∃ n, w' = w.drewN n := by
  obtain ⟨m, hm⟩ := hm
  have hcut := stringsCut s ⟨#[64]⟩ m w hs hm
  rw [show (⟨#[64]⟩ : ByteArray).data.toList = [64] from rfl] at hcut
  unfold locL
  cases hf : (Lib.cut s.data.toList [64]).2.2 with
  | true =>
    rw [hf] at hcut
    rw [if_pos rfl]
    have HC := hide hcut
    obtain ⟨a, ha⟩ : ∃ a, (⟨(Lib.cut s.data.toList [64]).1.toArray⟩ : ByteArray) = a := ⟨_, rfl⟩
    obtain ⟨b, hb⟩ : ∃ b, (⟨(Lib.cut s.data.toList [64]).2.1.toArray⟩ : ByteArray) = b := ⟨_, rfl⟩
    rw [ha, hb] at HC
    show Calls _ _ _ _ fun e w' => e = .returned (.tuple #[.string ⟨(Lib.cut s.data.toList [64]).1.toArray⟩, .string ⟨(Lib.cut s.data.toList [64]).2.1.toArray⟩, .bool true]) ∧ _
    rw [ha, hb]
    clear hcut ha hb hf
    go_enter Tryd.func60, Tryd.ntmps60
    go_wp2_with fail
    refine HC.out.mono ?_
    rintro e w2 ⟨rfl, hw⟩
    go_wp2_with fail
    exact bodyPost_ret (results3 rfl rfl rfl rfl) rfl ⟨rfl, hw⟩
  | false =>
    rw [hf] at hcut
    rw [if_neg (by decide)]
    have HC := hide hcut
    show Calls _ _ _ _ fun e w' => e = .returned (.tuple #[.string ⟨#[]⟩, .string ⟨s.data.toList.toArray⟩, .bool false]) ∧ _
    rw [arr_self]
    clear hcut hf
    go_enter Tryd.func60, Tryd.ntmps60
    go_wp2_with fail
    refine HC.out.mono ?_
    rintro e w2 ⟨rfl, hw⟩
    go_wp2_with fail
    exact bodyPost_ret (results3 rfl rfl rfl rfl) rfl ⟨rfl, hw⟩

theorem cut_lens {s : List UInt8} {q : UInt8} {a b : List UInt8} {f : Bool} (h : Lib.cut s [q] = (a, b, f)) : a.length ≤ s.length ∧ b.length ≤ s.length := by
  rcases cut_q q s with ⟨_, h2, _⟩ | ⟨h1, _⟩
  · rw [h] at h2
    have h3 : s = a ++ q :: b := h2
    have := congrArg List.length h3
    rw [List.length_append, List.length_cons] at this
    omega
  · rw [h] at h1
    cases h1
    simp
theorem loc_len {d a b : List UInt8} {f : Bool} (h : locL d = (a, b, f)) : a.length ≤ d.length ∧ b.length ≤ d.length := by
  unfold locL at h
  obtain ⟨⟨x, y, z⟩, hc⟩ : ∃ c, Lib.cut d [64] = c := ⟨_, rfl⟩
  have hl := cut_lens hc
  rw [hc] at h
  split at h
  · cases h
    exact hl
  · cases h
    simp
theorem set12 {w : World} {b : Nat} {x y z : Value} {T : TypeId} (h : w.heap[b]? = some (.cells #[x, y, z] T)) (u v : Value) : ((w.setCell ⟨b, 1, none⟩ u).setCell ⟨b, 2, none⟩ v).heap[b]? = some (.cells #[x, u, v] T) :=
  heap_setCell_same _ _ 2 _ _ v (heap_setCell_same _ _ 1 _ _ u h)
theorem set12_off {w : World} {b c : Nat} {o : Obj} (h : w.heap[c]? = some o) (hn : c ≠ b) (u v : Value) : ((w.setCell ⟨b, 1, none⟩ u).setCell ⟨b, 2, none⟩ v).heap[c]? = some o :=
  (Below.heap_setCell _ _ _ _ hn).trans ((Below.heap_setCell _ _ _ _ hn).trans h)
theorem below12 {w w' : World} {b B : Nat} (h : Below B w w') (hb : B ≤ b) (u v : Value) : Below B w ((w'.setCell ⟨b, 1, none⟩ u).setCell ⟨b, 2, none⟩ v) :=
  (h.setCell (p := ⟨_, 1, none⟩) hb _).setCell (p := ⟨_, 2, none⟩) hb _
theorem set01 {w : World} {b : Nat} {x y z : Value} {T : TypeId} (h : w.heap[b]? = some (.cells #[x, y, z] T)) (u v : Value) : ((w.setCell ⟨b, 0, none⟩ u).setCell ⟨b, 1, none⟩ v).heap[b]? = some (.cells #[u, v, z] T) :=
  heap_setCell_same _ _ 1 _ _ v (heap_setCell_same _ _ 0 _ _ u h)
theorem set01_off {w : World} {b c : Nat} {o : Obj} (h : w.heap[c]? = some o) (hn : c ≠ b) (u v : Value) : ((w.setCell ⟨b, 0, none⟩ u).setCell ⟨b, 1, none⟩ v).heap[c]? = some o :=
  (Below.heap_setCell _ _ _ _ hn).trans ((Below.heap_setCell _ _ _ _ hn).trans h)
theorem below01 {w w' : World} {b B : Nat} (h : Below B w w') (hb : B ≤ b) (u v : Value) : Below B w ((w'.setCell ⟨b, 0, none⟩ u).setCell ⟨b, 1, none⟩ v) :=
  (h.setCell (p := ⟨_, 0, none⟩) hb _).setCell (p := ⟨_, 1, none⟩) hb _
theorem new1 (w : World) (A B : Obj) : ((w.alloc A).alloc B).heap[w.heap.size]? = some A :=
  (Below.heap_alloc _ _ _ (by simp)).trans (World.alloc_heap_new w A)
def jv (j : JL) : Value := .agg #[.string ⟨j.lo.toArray⟩, .string ⟨j.dom.toArray⟩, .string ⟨j.res.toArray⟩]
def noJ : JL := ⟨[], [], []⟩
theorem below_drewN {B : Nat} {a b : World} (h : Below B a b) (n : Nat) : Below B a (b.drewN n) := ⟨h.os, h.tape, h.output, h.size, h.block⟩

set_option maxRecDepth 100000 in
set_option maxHeartbeats 4000000 in
theorem parse_any (s : ByteArray) (w : World) (hs : s.size ≤ 9223372036854775807) (hm : MaxG w) (h1 : 3 < w.heap.size) :
    Calls Tryd.prog 48 #[.string s] w fun e w' => ((∃ j, parseL s.data.toList = some j ∧ e = .returned (.tuple #[jv j, .int .i64 0])) ∨ (parseL s.data.toList = none ∧ e = .returned (.tuple #[jv noJ, .int .i64 3]))) ∧ Below w.heap.size w w' := by
  have HM := hide hm
  clear hm
  go_enter Tryd.func48, Tryd.ntmps48
  go_wp2_with fail
  refine wp_scope_jumps 0 (fun a' w' => w'.heap[w.heap.size]? = some (.cells #[.string ⟨#[]⟩, .string ⟨#[]⟩, .string ⟨#[]⟩] 82) ∧ Below w.heap.size w w' ∧ parseL s.data.toList = none ∧ ∃ u0 u1 u3 u4 u5 u6 u7 u8 u9 u10 u11 u12 u13 u14 u15 u16 u17 u18 u19 u20 u21 u22 u23 u24 u25 u26 u27 u28 u29 u30 u31 u32 u33 u34 u35 u36 u37 u38 u39 u40 u41 u42 u43 u44 u45 u46 : Value, a' = { tmps := #[u0, u1, .pointer (some ⟨w.heap.size, 0, none⟩), u3, u4, u5, u6, u7, u8, u9, u10, u11, u12, u13, u14, u15, u16, u17, u18, u19, u20, u21, u22, u23, u24, u25, u26, u27, u28, u29, u30, u31, u32, u33, u34, u35, u36, u37, u38, u39, u40, u41, u42, u43, u44, u45, u46], defers := [] }) (fun _ _ => 0) rfl ?_ ?_
  · have n0 := new1 w (.cells #[.string ⟨#[]⟩, .string ⟨#[]⟩, .string ⟨#[]⟩] 82) (.cells #[.string ⟨#[]⟩, .string ⟨#[]⟩, .string ⟨#[]⟩] 82)
    have n1 := new2 w (.cells #[.string ⟨#[]⟩, .string ⟨#[]⟩, .string ⟨#[]⟩] 82) (.cells #[.string ⟨#[]⟩, .string ⟨#[]⟩, .string ⟨#[]⟩] 82)
    have nb : Below w.heap.size w ((w.alloc (.cells #[.string ⟨#[]⟩, .string ⟨#[]⟩, .string ⟨#[]⟩] 82)).alloc (.cells #[.string ⟨#[]⟩, .string ⟨#[]⟩, .string ⟨#[]⟩] 82)) := ((Below.refl _ w).alloc (Nat.le_refl _) _).alloc (by simp) _
    have HN := hide (And.intro n0 (And.intro n1 nb))
    clear n0 n1 nb
    by_cases h64 : 64 < (s.size : Int)
    · go_wp2_with fail
      go_step3
      refine ⟨rfl, HN.out.1, HN.out.2.2, ?_, _, _, _, _, _, _, _, _, _, _, _, _, _, _, _, _, _, _, _, _, _, _, _, _, _, _, _, _, _, _, _, _, _, _, _, _, _, _, _, _, _, _, _, _, _, _, rfl⟩
      unfold parseL
      rw [if_pos (by rw [size_list]; omega)]
    · obtain ⟨m, hm⟩ := HM.out.below HN.out.2.2 h1
      have hcut := stringsCut s ⟨#[47]⟩ m _ (by omega) hm
      rw [show (⟨#[47]⟩ : ByteArray).data.toList = [47] from rfl] at hcut
      have HC := hide hcut
      clear hcut hm
      go_wp2_with fail
      refine HC.out.mono ?_
      rintro e w2 ⟨rfl, nd, hw⟩
      have g0 : w2.heap[w.heap.size]? = some (.cells #[.string ⟨#[]⟩, .string ⟨#[]⟩, .string ⟨#[]⟩] 82) := by rw [hw]; exact HN.out.1
      have g1 : w2.heap[w.heap.size + 1]? = some (.cells #[.string ⟨#[]⟩, .string ⟨#[]⟩, .string ⟨#[]⟩] 82) := by rw [hw]; exact HN.out.2.1
      have hb2 : Below w.heap.size w w2 := by rw [hw]; exact below_drewN HN.out.2.2 nd
      have Hpa := hide (show parseL s.data.toList = (if (Lib.cut s.data.toList [47]).2.2 = true ∧ partL (Lib.cut s.data.toList [47]).2.1 = false then none
        else if (locL (Lib.cut s.data.toList [47]).1).2.2 = true ∧ partL (locL (Lib.cut s.data.toList [47]).1).1 = false then none
        else if partL (locL (Lib.cut s.data.toList [47]).1).2.1 = false then none
        else some ⟨(locL (Lib.cut s.data.toList [47]).1).1, (locL (Lib.cut s.data.toList [47]).1).2.1, (Lib.cut s.data.toList [47]).2.1⟩) by unfold parseL; rw [if_neg (by rw [size_list]; omega)])
      obtain ⟨⟨dl, rl, fr⟩, hcc⟩ : ∃ c, Lib.cut s.data.toList [47] = c := ⟨_, rfl⟩
      have hdl := cut_lens hcc
      have hsl := size_list s
      rw [hcc] at Hpa ⊢
      obtain ⟨c0, c1, c2, f0, f1, f2⟩ := cells3 g1
      have H2 := hide (And.intro g0 (And.intro g1 hb2))
      clear g0 g1 hb2 hw HC HN hcc
      cases fr with
      | true =>
        have HPr := hide (part_any ⟨rl.toArray⟩ ((w2.setCell ⟨w.heap.size + 1, 1, none⟩ (.string ⟨dl.toArray⟩)).setCell ⟨w.heap.size + 1, 2, none⟩ (.string ⟨rl.toArray⟩)) (by show rl.toArray.size ≤ _; simp; omega))
        rw [arr_list] at HPr
        go_wp2_with fail
        refine HPr.out.mono ?_
        rintro e w3 ⟨rfl, hw⟩
        subst hw
        cases hpr : partL rl with
        | false =>
          have Hn := hide (show parseL s.data.toList = none by have h := Hpa.out; rw [if_pos ⟨by first | rfl | trivial, hpr⟩] at h; exact h)
          clear hpr
          go_wp2_with fail
          go_step3
          exact ⟨rfl, set12_off H2.out.1 (b := w.heap.size + 1) (by omega) _ _, below12 H2.out.2.2 (b := w.heap.size + 1) (by omega) _ _, Hn.out, _, _, _, _, _, _, _, _, _, _, _, _, _, _, _, _, _, _, _, _, _, _, _, _, _, _, _, _, _, _, _, _, _, _, _, _, _, _, _, _, _, _, _, _, _, _, rfl⟩
        | true =>
          have Hpb := hide (show parseL s.data.toList = (if (locL dl).2.2 = true ∧ partL (locL dl).1 = false then none else if partL (locL dl).2.1 = false then none else some ⟨(locL dl).1, (locL dl).2.1, rl⟩) by have h := Hpa.out; rw [if_neg (fun h => by rw [hpr] at h; exact absurd h.2 (by decide))] at h; exact h)
          clear hpr Hpa HPr
          go_wp2_with fail
          have k0 := set12_off H2.out.1 (b := w.heap.size + 1) (by omega) (.string ⟨dl.toArray⟩) (.string ⟨rl.toArray⟩)
          have k1 := set12 H2.out.2.1 (.string ⟨dl.toArray⟩) (.string ⟨rl.toArray⟩)
          have kb := below12 H2.out.2.2 (b := w.heap.size + 1) (by omega) (.string ⟨dl.toArray⟩) (.string ⟨rl.toArray⟩)
          have hloc := cutLocal_any ⟨dl.toArray⟩ _ (by show dl.toArray.size < _; simp; omega) (HM.out.below kb h1)
          rw [arr_list] at hloc
          have HL := hide hloc
          have H3 := hide (And.intro k0 (And.intro k1 kb))
          clear k0 k1 kb hloc
          refine HL.out.mono ?_
          rintro e w4 ⟨rfl, nd2, hw⟩
          have g0 := hw ▸ (show ((((w2.setCell ⟨w.heap.size + 1, 1, none⟩ (.string ⟨dl.toArray⟩)).setCell ⟨w.heap.size + 1, 2, none⟩ (.string ⟨rl.toArray⟩)).drewN nd2).heap[w.heap.size]? = _) from H3.out.1)
          have g1 := hw ▸ (show ((((w2.setCell ⟨w.heap.size + 1, 1, none⟩ (.string ⟨dl.toArray⟩)).setCell ⟨w.heap.size + 1, 2, none⟩ (.string ⟨rl.toArray⟩)).drewN nd2).heap[w.heap.size + 1]? = _) from H3.out.2.1)
          have hb4 := hw ▸ below_drewN H3.out.2.2 nd2
          clear hw HL c0 c1 c2 f0 f1 f2
          obtain ⟨⟨ll, ml, fl⟩, hll⟩ : ∃ c, locL dl = c := ⟨_, rfl⟩
          have hlen := loc_len hll
          have Hpc := Hpb.out
          rw [hll] at Hpc ⊢
          obtain ⟨c0, c1, c2, f0, f1, f2⟩ := cells3 g1
          have H4 := hide (And.intro g0 (And.intro g1 (And.intro hb4 Hpc)))
          clear g0 g1 hb4 Hpc hll
          have HPl := hide (part_any ⟨ll.toArray⟩ ((w4.setCell ⟨w.heap.size + 1, 0, none⟩ (.string ⟨ll.toArray⟩)).setCell ⟨w.heap.size + 1, 1, none⟩ (.string ⟨ml.toArray⟩)) (by show ll.toArray.size ≤ _; simp; omega))
          have HPm := hide (part_any ⟨ml.toArray⟩ ((w4.setCell ⟨w.heap.size + 1, 0, none⟩ (.string ⟨ll.toArray⟩)).setCell ⟨w.heap.size + 1, 1, none⟩ (.string ⟨ml.toArray⟩)) (by show ml.toArray.size ≤ _; simp; omega))
          rw [arr_list] at HPl HPm
          have q0 := set01_off H4.out.1 (b := w.heap.size + 1) (by omega) (.string ⟨ll.toArray⟩) (.string ⟨ml.toArray⟩)
          have q1 := set01 H4.out.2.1 (.string ⟨ll.toArray⟩) (.string ⟨ml.toArray⟩)
          have qb := below01 H4.out.2.2.1 (b := w.heap.size + 1) (by omega) (.string ⟨ll.toArray⟩) (.string ⟨ml.toArray⟩)
          have H5 := hide (And.intro q0 (And.intro q1 qb))
          obtain ⟨r0, r1, r2, s0, s1, s2⟩ := cells3 q0
          clear q0 q1 qb
          cases fl with
          | true =>
            go_wp2_with fail
            refine HPl.out.mono ?_
            rintro e w6 ⟨rfl, hw⟩
            subst hw
            cases hpl : partL ll with
            | false =>
              have Hn := hide (show parseL s.data.toList = none by have h := H4.out.2.2.2; rw [if_pos ⟨by first | rfl | trivial, hpl⟩] at h; exact h)
              clear hpl
              go_wp2_with fail
              go_step3
              exact ⟨rfl, H5.out.1, H5.out.2.2, Hn.out, _, _, _, _, _, _, _, _, _, _, _, _, _, _, _, _, _, _, _, _, _, _, _, _, _, _, _, _, _, _, _, _, _, _, _, _, _, _, _, _, _, _, _, _, _, _, rfl⟩
            | true =>
              have Hl := hide (show ¬ (true = true ∧ partL ll = false) from fun h => by rw [hpl] at h; exact absurd h.2 (by decide))
              clear hpl
              go_wp2_with fail
              refine HPm.out.mono ?_
              rintro e w7 ⟨rfl, hw⟩
              subst hw
              cases hpm : partL ml with
              | false =>
                have Hn := hide (show parseL s.data.toList = none by have h := H4.out.2.2.2; rw [if_neg Hl.out, if_pos hpm] at h; exact h)
                clear hpm
                go_wp2_with fail
                go_step3
                exact ⟨rfl, H5.out.1, H5.out.2.2, Hn.out, _, _, _, _, _, _, _, _, _, _, _, _, _, _, _, _, _, _, _, _, _, _, _, _, _, _, _, _, _, _, _, _, _, _, _, _, _, _, _, _, _, _, _, _, _, _, rfl⟩
              | true =>
                have Hn := hide (show parseL s.data.toList = some ⟨ll, ml, rl⟩ by have h := H4.out.2.2.2; rw [if_neg Hl.out, if_neg (by rw [hpm]; decide)] at h; exact h)
                clear hpm
                go_wp2_with fail
                simp only [Exit.jump]
                obtain ⟨d0, d1, d2, _⟩ := cells3 (set3 H5.out.1 (.string ⟨ll.toArray⟩) (.string ⟨ml.toArray⟩) (.string ⟨rl.toArray⟩))
                refine bodyPost_ret (results_jid2 rfl rfl rfl d0 d1 d2) rfl ⟨.inl ⟨_, Hn.out, rfl⟩, ?_⟩
                exact ((H5.out.2.2.setCell (p := ⟨_, 0, none⟩) (Nat.le_refl _) _).setCell (p := ⟨_, 1, none⟩) (Nat.le_refl _) _).setCell (p := ⟨_, 2, none⟩) (Nat.le_refl _) _
          | false =>
            go_wp2_with fail
            refine HPm.out.mono ?_
            rintro e w7 ⟨rfl, hw⟩
            subst hw
            cases hpm : partL ml with
            | false =>
              have Hn := hide (show parseL s.data.toList = none by have h := H4.out.2.2.2; rw [if_neg (fun h => by simp at h), if_pos hpm] at h; exact h)
              clear hpm
              go_wp2_with fail
              go_step3
              exact ⟨rfl, H5.out.1, H5.out.2.2, Hn.out, _, _, _, _, _, _, _, _, _, _, _, _, _, _, _, _, _, _, _, _, _, _, _, _, _, _, _, _, _, _, _, _, _, _, _, _, _, _, _, _, _, _, _, _, _, _, rfl⟩
            | true =>
              have Hn := hide (show parseL s.data.toList = some ⟨ll, ml, rl⟩ by have h := H4.out.2.2.2; rw [if_neg (fun h => by simp at h), if_neg (by rw [hpm]; decide)] at h; exact h)
              clear hpm
              go_wp2_with fail
              simp only [Exit.jump]
              obtain ⟨d0, d1, d2, _⟩ := cells3 (set3 H5.out.1 (.string ⟨ll.toArray⟩) (.string ⟨ml.toArray⟩) (.string ⟨rl.toArray⟩))
              refine bodyPost_ret (results_jid2 rfl rfl rfl d0 d1 d2) rfl ⟨.inl ⟨_, Hn.out, rfl⟩, ?_⟩
              exact ((H5.out.2.2.setCell (p := ⟨_, 0, none⟩) (Nat.le_refl _) _).setCell (p := ⟨_, 1, none⟩) (Nat.le_refl _) _).setCell (p := ⟨_, 2, none⟩) (Nat.le_refl _) _
      | false =>
        have Hpb := hide (show parseL s.data.toList = (if (locL dl).2.2 = true ∧ partL (locL dl).1 = false then none else if partL (locL dl).2.1 = false then none else some ⟨(locL dl).1, (locL dl).2.1, rl⟩) by have h := Hpa.out; rw [if_neg (fun h => by simp at h)] at h; exact h)
        clear Hpa
        go_wp2_with fail
        have k0 := set12_off H2.out.1 (b := w.heap.size + 1) (by omega) (.string ⟨dl.toArray⟩) (.string ⟨rl.toArray⟩)
        have k1 := set12 H2.out.2.1 (.string ⟨dl.toArray⟩) (.string ⟨rl.toArray⟩)
        have kb := below12 H2.out.2.2 (b := w.heap.size + 1) (by omega) (.string ⟨dl.toArray⟩) (.string ⟨rl.toArray⟩)
        have hloc := cutLocal_any ⟨dl.toArray⟩ _ (by show dl.toArray.size < _; simp; omega) (HM.out.below kb h1)
        rw [arr_list] at hloc
        have HL := hide hloc
        have H3 := hide (And.intro k0 (And.intro k1 kb))
        clear k0 k1 kb hloc
        refine HL.out.mono ?_
        rintro e w4 ⟨rfl, nd2, hw⟩
        have g0 := hw ▸ (show ((((w2.setCell ⟨w.heap.size + 1, 1, none⟩ (.string ⟨dl.toArray⟩)).setCell ⟨w.heap.size + 1, 2, none⟩ (.string ⟨rl.toArray⟩)).drewN nd2).heap[w.heap.size]? = _) from H3.out.1)
        have g1 := hw ▸ (show ((((w2.setCell ⟨w.heap.size + 1, 1, none⟩ (.string ⟨dl.toArray⟩)).setCell ⟨w.heap.size + 1, 2, none⟩ (.string ⟨rl.toArray⟩)).drewN nd2).heap[w.heap.size + 1]? = _) from H3.out.2.1)
        have hb4 := hw ▸ below_drewN H3.out.2.2 nd2
        clear hw HL c0 c1 c2 f0 f1 f2
        obtain ⟨⟨ll, ml, fl⟩, hll⟩ : ∃ c, locL dl = c := ⟨_, rfl⟩
        have hlen := loc_len hll
        have Hpc := Hpb.out
        rw [hll] at Hpc ⊢
        obtain ⟨c0, c1, c2, f0, f1, f2⟩ := cells3 g1
        have H4 := hide (And.intro g0 (And.intro g1 (And.intro hb4 Hpc)))
        clear g0 g1 hb4 Hpc hll
        have HPl := hide (part_any ⟨ll.toArray⟩ ((w4.setCell ⟨w.heap.size + 1, 0, none⟩ (.string ⟨ll.toArray⟩)).setCell ⟨w.heap.size + 1, 1, none⟩ (.string ⟨ml.toArray⟩)) (by show ll.toArray.size ≤ _; simp; omega))
        have HPm := hide (part_any ⟨ml.toArray⟩ ((w4.setCell ⟨w.heap.size + 1, 0, none⟩ (.string ⟨ll.toArray⟩)).setCell ⟨w.heap.size + 1, 1, none⟩ (.string ⟨ml.toArray⟩)) (by show ml.toArray.size ≤ _; simp; omega))
        rw [arr_list] at HPl HPm
        have q0 := set01_off H4.out.1 (b := w.heap.size + 1) (by omega) (.string ⟨ll.toArray⟩) (.string ⟨ml.toArray⟩)
        have q1 := set01 H4.out.2.1 (.string ⟨ll.toArray⟩) (.string ⟨ml.toArray⟩)
        have qb := below01 H4.out.2.2.1 (b := w.heap.size + 1) (by omega) (.string ⟨ll.toArray⟩) (.string ⟨ml.toArray⟩)
        have H5 := hide (And.intro q0 (And.intro q1 qb))
        obtain ⟨r0, r1, r2, s0, s1, s2⟩ := cells3 q0
        clear q0 q1 qb
        cases fl with
        | true =>
          go_wp2_with fail
          refine HPl.out.mono ?_
          rintro e w6 ⟨rfl, hw⟩
          subst hw
          cases hpl : partL ll with
          | false =>
            have Hn := hide (show parseL s.data.toList = none by have h := H4.out.2.2.2; rw [if_pos ⟨by first | rfl | trivial, hpl⟩] at h; exact h)
            clear hpl
            go_wp2_with fail
            go_step3
            exact ⟨rfl, H5.out.1, H5.out.2.2, Hn.out, _, _, _, _, _, _, _, _, _, _, _, _, _, _, _, _, _, _, _, _, _, _, _, _, _, _, _, _, _, _, _, _, _, _, _, _, _, _, _, _, _, _, _, _, _, _, rfl⟩
          | true =>
            have Hl := hide (show ¬ (true = true ∧ partL ll = false) from fun h => by rw [hpl] at h; exact absurd h.2 (by decide))
            clear hpl
            go_wp2_with fail
            refine HPm.out.mono ?_
            rintro e w7 ⟨rfl, hw⟩
            subst hw
            cases hpm : partL ml with
            | false =>
              have Hn := hide (show parseL s.data.toList = none by have h := H4.out.2.2.2; rw [if_neg Hl.out, if_pos hpm] at h; exact h)
              clear hpm
              go_wp2_with fail
              go_step3
              exact ⟨rfl, H5.out.1, H5.out.2.2, Hn.out, _, _, _, _, _, _, _, _, _, _, _, _, _, _, _, _, _, _, _, _, _, _, _, _, _, _, _, _, _, _, _, _, _, _, _, _, _, _, _, _, _, _, _, _, _, _, rfl⟩
            | true =>
              have Hn := hide (show parseL s.data.toList = some ⟨ll, ml, rl⟩ by have h := H4.out.2.2.2; rw [if_neg Hl.out, if_neg (by rw [hpm]; decide)] at h; exact h)
              clear hpm
              go_wp2_with fail
              simp only [Exit.jump]
              obtain ⟨d0, d1, d2, _⟩ := cells3 (set3 H5.out.1 (.string ⟨ll.toArray⟩) (.string ⟨ml.toArray⟩) (.string ⟨rl.toArray⟩))
              refine bodyPost_ret (results_jid2 rfl rfl rfl d0 d1 d2) rfl ⟨.inl ⟨_, Hn.out, rfl⟩, ?_⟩
              exact ((H5.out.2.2.setCell (p := ⟨_, 0, none⟩) (Nat.le_refl _) _).setCell (p := ⟨_, 1, none⟩) (Nat.le_refl _) _).setCell (p := ⟨_, 2, none⟩) (Nat.le_refl _) _
        | false =>
          go_wp2_with fail
          refine HPm.out.mono ?_
          rintro e w7 ⟨rfl, hw⟩
          subst hw
          cases hpm : partL ml with
          | false =>
            have Hn := hide (show parseL s.data.toList = none by have h := H4.out.2.2.2; rw [if_neg (fun h => by simp at h), if_pos hpm] at h; exact h)
            clear hpm
            go_wp2_with fail
            go_step3
            exact ⟨rfl, H5.out.1, H5.out.2.2, Hn.out, _, _, _, _, _, _, _, _, _, _, _, _, _, _, _, _, _, _, _, _, _, _, _, _, _, _, _, _, _, _, _, _, _, _, _, _, _, _, _, _, _, _, _, _, _, _, rfl⟩
          | true =>
            have Hn := hide (show parseL s.data.toList = some ⟨ll, ml, rl⟩ by have h := H4.out.2.2.2; rw [if_neg (fun h => by simp at h), if_neg (by rw [hpm]; decide)] at h; exact h)
            clear hpm
            go_wp2_with fail
            simp only [Exit.jump]
            obtain ⟨d0, d1, d2, _⟩ := cells3 (set3 H5.out.1 (.string ⟨ll.toArray⟩) (.string ⟨ml.toArray⟩) (.string ⟨rl.toArray⟩))
            refine bodyPost_ret (results_jid2 rfl rfl rfl d0 d1 d2) rfl ⟨.inl ⟨_, Hn.out, rfl⟩, ?_⟩
            exact ((H5.out.2.2.setCell (p := ⟨_, 0, none⟩) (Nat.le_refl _) _).setCell (p := ⟨_, 1, none⟩) (Nat.le_refl _) _).setCell (p := ⟨_, 2, none⟩) (Nat.le_refl _) _
  · rintro a' w' ⟨hc, hb, hn, u0, u1, u3, u4, u5, u6, u7, u8, u9, u10, u11, u12, u13, u14, u15, u16, u17, u18, u19, u20, u21, u22, u23, u24, u25, u26, u27, u28, u29, u30, u31, u32, u33, u34, u35, u36, u37, u38, u39, u40, u41, u42, u43, u44, u45, u46, rfl⟩
    obtain ⟨c0, c1, c2, f0, f1, f2⟩ := cells3 hc
    have HH := hide (And.intro hc (And.intro hb hn))
    clear hc hb hn
    go_wp2_with fail
    simp only [Exit.jump]
    have k := set3 HH.out.1 (.string ⟨#[]⟩) (.string ⟨#[]⟩) (.string ⟨#[]⟩)
    obtain ⟨d0, d1, d2, _⟩ := cells3 k
    refine bodyPost_ret (results_jid2 rfl rfl rfl d0 d1 d2) rfl ⟨.inr ⟨HH.out.2.2, rfl⟩, ?_⟩
    exact ((HH.out.2.1.setCell (p := ⟨_, 0, none⟩) (Nat.le_refl _) _).setCell (p := ⟨_, 1, none⟩) (Nat.le_refl _) _).setCell (p := ⟨_, 2, none⟩) (Nat.le_refl _) _
end Go.Proofs.YtimhkgpjfppkmaaDoor.Jd
namespace Go.Proofs.YtimhkgpjfppkmaaDoor.Jd
open Go.RowKit

theorem joinB_size (lo dom res : ByteArray) : (joinB lo dom res).size ≤ lo.size + dom.size + res.size + 2 := by
  unfold joinB
  have h1 : (⟨#[64]⟩ : ByteArray).size = 1 := rfl
  have h2 : (⟨#[47]⟩ : ByteArray).size = 1 := rfl
  by_cases a : lo = emp <;> by_cases b : res = emp
  · rw [if_pos a, if_pos b]; omega
  · rw [if_pos a, if_neg b, size_app, size_app]; omega
  · rw [if_neg a, if_pos b, size_app, size_app]; omega
  · rw [if_neg a, if_neg b, size_app, size_app, size_app, size_app]; omega
theorem jv_jl (lo dom res : ByteArray) : jv (jl lo dom res) = .agg #[.string lo, .string dom, .string res] := by
  unfold jv jl
  rw [arr_self, arr_self, arr_self]
theorem jl_ext {j : JL} {lo dom res : ByteArray} (h1 : (⟨j.lo.toArray⟩ : ByteArray) = lo) (h2 : (⟨j.dom.toArray⟩ : ByteArray) = dom) (h3 : (⟨j.res.toArray⟩ : ByteArray) = res) : j = jl lo dom res := by
  subst h1 h2 h3
  rfl
theorem str_iff (a b : ByteArray) : (a.toList == b.toList) = decide (a = b) := by
  by_cases h : a = b
  · rw [decide_eq_true h, h]
    simp
  · rw [decide_eq_false h]
    exact str_ne h
theorem right_no {j : JL} {lo dom res : ByteArray} (h : parseL (textJ (jl lo dom res)) = some j) : decide (RightJ (jl lo dom res)) = (decide ((⟨j.lo.toArray⟩ : ByteArray) = lo) && (decide ((⟨j.dom.toArray⟩ : ByteArray) = dom) && decide ((⟨j.res.toArray⟩ : ByteArray) = res))) := by
  rw [Bool.eq_iff_iff, decide_eq_true_eq, ← right_iff, h]
  simp only [Bool.and_eq_true, decide_eq_true_eq, Option.some.injEq]
  constructor
  · intro e
    subst e
    unfold jl
    exact ⟨arr_self _, arr_self _, arr_self _⟩
  · rintro ⟨h1, h2, h3⟩
    exact jl_ext h1 h2 h3
end Go.Proofs.YtimhkgpjfppkmaaDoor.Jd
namespace Go.Proofs.YtimhkgpjfppkmaaDoor.Jd
open Go.RowKit

theorem str_ext {a b : ByteArray} (h : a.data.toList = b.data.toList) : a = b := by
  rw [← arr_self a, ← arr_self b, h]
theorem right_sum {x y z : ByteArray} (h : RightJ (jl x y z)) : x.size + y.size + z.size ≤ 64 := by
  have h4 : ((if x.data.toList = [] then [] else x.data.toList ++ [64]) ++ (y.data.toList ++ (if z.data.toList = [] then [] else 47 :: z.data.toList))).length ≤ 64 := h.2.2.2
  rw [List.length_append, List.length_append] at h4
  have e1 : x.size ≤ (if x.data.toList = [] then [] else x.data.toList ++ [64]).length := by
    split
    · rename_i h; rw [← size_list, h]; simp
    · rw [List.length_append, size_list]; simp
  have e2 : z.size ≤ (if z.data.toList = [] then [] else 47 :: z.data.toList).length := by
    split
    · rename_i h; rw [← size_list, h]; simp
    · rw [List.length_cons, size_list]; omega
  have e3 : y.data.toList.length = y.size := size_list y
  omega
theorem newJ (w : World) (x y z : Value) : ∃ W, w.alloc (.cells #[x, y, z] 82) = W ∧ W.heap[w.heap.size]? = some (.cells #[x, y, z] 82) ∧ Below w.heap.size w W ∧ W.heap.size = w.heap.size + 1 :=
  ⟨_, rfl, World.alloc_heap_new _ _, (Below.refl _ _).alloc (Nat.le_refl _) _, by simp⟩
def romeo : ByteArray := ⟨#[114, 111, 109, 101, 111]⟩
def exNet : ByteArray := ⟨#[101, 120, 97, 109, 112, 108, 101, 46, 110, 101, 116]⟩
def orchard : ByteArray := ⟨#[111, 114, 99, 104, 97, 114, 100]⟩
theorem field2 (x y z : ByteArray) (w : World) : (Instr.field 82 (.agg #[.string x, .string y, .string z]) 2).run Tryd.prog w = .ok (.string z) w := by kernel_rfl
theorem live_right : RightJ (jl romeo exNet orchard) := by decide
set_option maxRecDepth 100000 in
theorem live_parse (w : World) (hm : MaxG w) (h1 : 3 < w.heap.size) : Calls Tryd.prog 48 #[.string ⟨#[114, 111, 109, 101, 111, 64, 101, 120, 97, 109, 112, 108, 101, 46, 110, 101, 116, 47, 111, 114, 99, 104, 97, 114, 100]⟩] w fun e w' => e = .returned (.tuple #[.agg #[.string romeo, .string exNet, .string orchard], .int .i64 0]) ∧ Below w.heap.size w w' := by
  refine (parse_any _ w (by decide) hm h1).mono ?_
  have ht : textJ (jl romeo exNet orchard) = [114, 111, 109, 101, 111, 64, 101, 120, 97, 109, 112, 108, 101, 46, 110, 101, 116, 47, 111, 114, 99, 104, 97, 114, 100] := by decide
  have hp := parse_text live_right
  rw [ht] at hp
  rintro e w' ⟨⟨j, hj, rfl⟩ | ⟨hj, rfl⟩, hb⟩
  · have : some (jl romeo exNet orchard) = some j := hp.symm.trans hj
    cases this
    exact ⟨rfl, hb⟩
  · have : some (jl romeo exNet orchard) = none := hp.symm.trans hj
    cases this
end Go.Proofs.YtimhkgpjfppkmaaDoor.Jd
