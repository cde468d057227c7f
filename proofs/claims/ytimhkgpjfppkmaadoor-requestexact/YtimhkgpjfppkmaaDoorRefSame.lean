/- Whether tokens are the same, as the document says it (plain loops). -/
import Derived.Test.YtimhkgpjfppkmaaDoorToks
import Derived.Deep.RegionHeld3
import Derived.Laws.StructEq
import Derived.BigRegion
import Derived.Deep.QuietTactic
import Derived.BigQuiet
import Derived.RangeFuncRecord
import Derived.Deep.DeepCutAuto
namespace Go.Proofs.YtimhkgpjfppkmaaDoor
open Go.RowKit

theorem below_drewN {B : Nat} {a w : World} (h : Below B a w) (n : Nat) : Below B a (w.drewN n) := ⟨h.os, h.tape, h.output, h.size, h.block⟩
theorem two_boxes (w : World) (o1 o2 : Obj) : ((w.alloc o1).alloc o2).drew.heap[w.heap.size]? = some o1 ∧ ((w.alloc o1).alloc o2).drew.heap[w.heap.size + 1]? = some o2 ∧ Below w.heap.size w ((w.alloc o1).alloc o2).drew := by
  refine ⟨(Below.heap_alloc _ _ _ (by simp)).trans (World.alloc_heap_new w o1), ?_, (((Below.refl _ w).alloc (Nat.le_refl _) _).alloc (by simp) _).drew⟩
  have h := World.alloc_heap_new (w.alloc o1) o2
  rwa [World.size_alloc] at h
theorem cells4 {w : World} {b : Nat} {v0 v1 v2 v3 : Value} {ty : TypeId} (h : w.heap[b]? = some (.cells #[v0, v1, v2, v3] ty)) : w.cell? ⟨b, 0, none⟩ = some v0 ∧ w.cell? ⟨b, 1, none⟩ = some v1 ∧ w.cell? ⟨b, 2, none⟩ = some v2 ∧ w.cell? ⟨b, 3, none⟩ = some v3 := by
  simp [World.cell?, h]

theorem attrGuard : Tryd.prog.eqGuardType Tryd.prog.depth 49 = false := by kernel_rfl
theorem attr_neq (w : World) (a b c d : ByteArray) : (binOp .neq 49 (.agg #[.string a, .string b]) (.agg #[.string c, .string d])).run Tryd.prog w = .ok (.bool (!(a.toList == c.toList && b.toList == d.toList))) w := by
  have hS : Tryd.prog.underlying 49 = some (.struct (Tryd.prog.fieldsOf 49)) := by kernel_rfl
  have hp : Tryd.prog.stoodInHeld 49 = false := by kernel_rfl
  have u9 := Tryd.underlying9
  have a9 := Tryd.isAgg9
  have z9 := Tryd.sizeOf9
  rw [run_neq_struct, show (10000 : Nat) = 9999 + 1 from rfl, run_equalIn_agg w 9999 49 _ _ hS hp]
  simp only [Program.fieldsOf, Tryd.underlying49]
  go_simp
  by_cases h1 : a.toList = c.toList <;> by_cases h2 : b.toList = d.toList <;> simp [h1, h2]

set_option maxRecDepth 100000 in
set_option maxHeartbeats 4000000 in
theorem refSame_any (a1 a2 : Option Addr) (c1 c2 : Nat) (ts us : List Tok) (av1 av2 : Nat → Option Addr × Nat) (w : World) (h1 : TokMem w.heap.size w a1 ts av1) (h2 : TokMem w.heap.size w a2 us av2) :
    Calls Tryd.prog 11 #[.slice a1 ts.length c1, .slice a2 us.length c2] w fun e w' => Tells (ts = us) e ∧ Below w.heap.size w w' := by
  have hl1 := h1.1
  have hl2 := h2.1
  have HT := hide (And.intro h1 h2)
  clear h1 h2
  by_cases hlen : ts.length = us.length
  · rw [← hlen]
    have HL := hide hlen
    clear hlen hl2
    go_enter Tryd.func11, Tryd.ntmps11
    go_wp2_with fail
    go_loopw [5] (fun i wr => ∃ k : Nat, k ≤ ts.length ∧ i = .int .i64 k ∧ ts.take k = us.take k ∧ Below w.heap.size w wr) (fun i _ => ts.length - (intOf i).toNat)
    case atStart => exact ⟨0, Nat.zero_le _, rfl, rfl, Below.refl _ _⟩
    case round =>
      obtain ⟨k, hk, rfl, heq, hbw⟩ := hrel
      have hsw := hbw.size
      have HB := hide (And.intro heq hbw)
      clear heq hbw
      by_cases hlt : k < ts.length
      · obtain ⟨t, ht⟩ : ∃ t, ts[k]? = some t := ⟨ts[k], by simp [hlt]⟩
        obtain ⟨u, hu⟩ : ∃ u, us[k]? = some u := ⟨us[k]'(by rw [← HL.out]; exact hlt), by simp [show k < us.length by rw [← HL.out]; exact hlt]⟩
        obtain ⟨x1, x2, x3, x4, x5, b, off, rfl, hb, t1, t2, t3, t4⟩ := HT.out.1.2 k t ht
        obtain ⟨y1, y2, y3, y4, y5, b', off', rfl, hb', u1, u2, u3, u4⟩ := HT.out.2.2 k u hu
        have p1 := (HB.out.2.cell (p := ⟨b, _, none⟩) hb).trans t1
        have p2 := (HB.out.2.cell (p := ⟨b, _, none⟩) hb).trans t2
        have p3 := (HB.out.2.cell (p := ⟨b, _, none⟩) hb).trans t3
        have p4 := (HB.out.2.cell (p := ⟨b, _, none⟩) hb).trans t4
        have q1 := (HB.out.2.cell (p := ⟨b', _, none⟩) hb').trans u1
        have q2 := (HB.out.2.cell (p := ⟨b', _, none⟩) hb').trans u2
        have q3 := (HB.out.2.cell (p := ⟨b', _, none⟩) hb').trans u3
        have q4 := (HB.out.2.cell (p := ⟨b', _, none⟩) hb').trans u4
        clear t1 t2 t3 t4 u1 u2 u3 u4
        obtain ⟨aw, haw⟩ : ∃ aw, (av1 k).1 = aw := ⟨_, rfl⟩
        obtain ⟨cw, hcw⟩ : ∃ cw, (av1 k).2 = cw := ⟨_, rfl⟩
        obtain ⟨bw, hbw⟩ : ∃ bw, (av2 k).1 = bw := ⟨_, rfl⟩
        obtain ⟨dw, hdw⟩ : ∃ dw, (av2 k).2 = dw := ⟨_, rfl⟩
        rw [haw, hcw] at p3
        rw [hbw, hdw] at q3
        rw [haw] at x4
        rw [hbw] at y4
        have HX := hide (And.intro x4 y4)
        clear x4 y4
        have hb1 : b < wr.heap.size := by omega
        have hb2 : b' < wr.heap.size := by omega
        go_wp2_with fail
        go_cut [6, 7] (fun s6 s7 wx => ∃ X Y, s6 = .pointer (some ⟨X, 0, none⟩) ∧ s7 = .pointer (some ⟨Y, 0, none⟩) ∧ wx.heap[X]? = some (.cells #[.int .u8 t.kind, .string t.name, .slice aw t.attrs.length cw, .string t.text] 46) ∧ wx.heap[Y]? = some (.cells #[.int .u8 u.kind, .string u.name, .slice bw u.attrs.length dw, .string u.text] 46) ∧ Below wr.heap.size wr wx)
        case first =>
          go_region
          all_goals (go_wp2_with fail; go_meet)
          case rel => exact ⟨_, _, rfl, rfl, (two_boxes _ _ _).1, (two_boxes _ _ _).2.1, (two_boxes _ _ _).2.2⟩
          case rel => exact ⟨_, _, rfl, rfl, (two_boxes _ _ _).2.1, (two_boxes _ _ _).1, (two_boxes _ _ _).2.2⟩
        case rest =>
          obtain ⟨X, Y, rfl, rfl, g1, g2, hb3⟩ := hcut
          obtain ⟨f0, f1, f2, f3⟩ := cells4 g1
          obtain ⟨e0, e1, e2, e3⟩ := cells4 g2
          have HW := hide (And.intro g1 (And.intro g2 hb3))
          clear g1 g2 hb3 p1 p2 p3 p4 q1 q2 q3 q4
          have hno : t ≠ u → ¬ ts = us := fun hne h => hne (by rw [h, hu] at ht; cases ht; rfl)
          by_cases d1 : t.kind = u.kind
          case neg =>
            have z1 : ((t.kind : Int) == u.kind) = false := by rw [beq_eq_false_iff_ne]; omega
            go_wp2_with fail
            go_ret
            exact ⟨.inr ⟨hno (fun h => d1 (by rw [h])), rfl⟩, HB.out.2.trans (HW.out.2.2.mono hsw)⟩
          have z1 : ((t.kind : Int) == u.kind) = true := by simp [d1]
          by_cases d2 : t.name = u.name
          case neg =>
            have z2 := str_ne d2
            go_wp2_with fail
            go_ret
            exact ⟨.inr ⟨hno (fun h => d2 (by rw [h])), rfl⟩, HB.out.2.trans (HW.out.2.2.mono hsw)⟩
          have z2 : (t.name.toList == u.name.toList) = true := by simp [d2]
          by_cases d3 : t.text = u.text
          case neg =>
            have z3 := str_ne d3
            go_wp2_with fail
            go_ret
            exact ⟨.inr ⟨hno (fun h => d3 (by rw [h])), rfl⟩, HB.out.2.trans (HW.out.2.2.mono hsw)⟩
          have z3 : (t.text.toList == u.text.toList) = true := by simp [d3]
          by_cases d4 : t.attrs.length = u.attrs.length
          case neg =>
            have z4 : ((t.attrs.length : Int) == u.attrs.length) = false := by rw [beq_eq_false_iff_ne]; omega
            go_wp2_with fail
            go_ret
            exact ⟨.inr ⟨hno (fun h => d4 (by rw [h])), rfl⟩, HB.out.2.trans (HW.out.2.2.mono hsw)⟩
          have z4 : ((t.attrs.length : Int) == t.attrs.length) = true := by simp
          rw [← d4] at e2
          have HD := hide d4
          clear d4
          go_wp2_with fail
          have xl := HX.out.1.1
          have HC := hide (HB.out.2.trans (HW.out.2.2.mono hsw))
          have hgd := attrGuard
          go_loopw [8] (fun i wq => (wq.heap = wc.heap ∧ Below w.heap.size w wq) ∧ ∃ j : Nat, j ≤ t.attrs.length ∧ i = .int .i64 j ∧ t.attrs.take j = u.attrs.take j) (fun i _ => t.attrs.length - (intOf i).toNat)
          case atStart => exact ⟨⟨rfl, HC.out⟩, 0, Nat.zero_le _, rfl, rfl⟩
          case round =>
            obtain ⟨⟨hqh, hqb⟩, j, hj, rfl, hjq⟩ := hrel
            have f2' : wr.cell? ⟨X, 2, none⟩ = some (.slice aw t.attrs.length cw) := by simpa [World.cell?, hqh] using f2
            have e2' : wr.cell? ⟨Y, 2, none⟩ = some (.slice bw t.attrs.length dw) := by simpa [World.cell?, hqh] using e2
            have HQ := hide (And.intro hqh (And.intro hjq hqb))
            clear hqh hjq hqb f0 f1 f2 f3 e0 e1 e2 e3
            by_cases hjl : j < t.attrs.length
            · obtain ⟨x, hx⟩ : ∃ x, t.attrs[j]? = some x := ⟨t.attrs[j], by simp [hjl]⟩
              obtain ⟨y, hy⟩ : ∃ y, u.attrs[j]? = some y := ⟨u.attrs[j]'(by rw [← HD.out]; exact hjl), by simp [show j < u.attrs.length by rw [← HD.out]; exact hjl]⟩
              obtain ⟨ba, oa, rfl, hba, m1, m2⟩ := HX.out.1.2.2 j x hx
              obtain ⟨bb, ob, rfl, hbb, n1, n2⟩ := HX.out.2.2.2 j y hy
              have m1' : wr.cell? ⟨ba, oa + j * 2, none⟩ = some (.string x.1) := by have h := (HC.out.cell (p := ⟨ba, _, none⟩) hba).trans m1; simpa [World.cell?, HQ.out.1] using h
              have m2' : wr.cell? ⟨ba, oa + j * 2 + 1, none⟩ = some (.string x.2) := by have h := (HC.out.cell (p := ⟨ba, _, none⟩) hba).trans m2; simpa [World.cell?, HQ.out.1] using h
              have n1' : wr.cell? ⟨bb, ob + j * 2, none⟩ = some (.string y.1) := by have h := (HC.out.cell (p := ⟨bb, _, none⟩) hbb).trans n1; simpa [World.cell?, HQ.out.1] using h
              have n2' : wr.cell? ⟨bb, ob + j * 2 + 1, none⟩ = some (.string y.2) := by have h := (HC.out.cell (p := ⟨bb, _, none⟩) hbb).trans n2; simpa [World.cell?, HQ.out.1] using h
              clear m1 m2 n1 n2
              by_cases hxy : x = y
              · have hne : ∀ v, (binOp .neq 49 (.agg #[.string x.1, .string x.2]) (.agg #[.string y.1, .string y.2])).run Tryd.prog v = .ok (.bool false) v := fun v => by rw [attr_neq, hxy]; simp
                go_wp2_with fail
                go_quiet (fail)
                go_wp2_with fail
                refine ⟨⟨⟨HQ.out.1, below_drewN HQ.out.2.2 nq⟩, j + 1, by omega, by simp, ?_⟩, by simp [intOf]; omega⟩
                rw [List.take_add_one, List.take_add_one, HQ.out.2.1, hx, hy, hxy]
              · have hne : ∀ v, (binOp .neq 49 (.agg #[.string x.1, .string x.2]) (.agg #[.string y.1, .string y.2])).run Tryd.prog v = .ok (.bool true) v := fun v => by
                  rw [attr_neq]
                  by_cases h1 : x.1 = y.1
                  · have h2 : x.2 ≠ y.2 := fun h2 => hxy (Prod.ext h1 h2)
                    simp [str_ne h2]
                  · simp [str_ne h1]
                go_wp2_with fail
                go_quiet (fail)
                go_wp2_with fail
                go_ret
                exact ⟨.inr ⟨hno (fun h => hxy (by rw [h, hy] at hx; cases hx; rfl)), rfl⟩, below_drewN HQ.out.2.2 nq⟩
            · go_wp2_with fail
              go_roundw
              case rel =>
                refine ⟨k + 1, by omega, by simp, ?_, HQ.out.2.2⟩
                have hat : t.attrs = u.attrs := by
                  have h := HQ.out.2.1
                  rwa [show j = t.attrs.length by omega, List.take_length, HD.out, List.take_length] at h
                have htu : t = u := by
                  cases t
                  cases u
                  simp_all
                rw [List.take_add_one, List.take_add_one, HB.out.1, ht, hu, htu]
              case measure => simp [intOf]; omega
      · go_wp2_with fail
        go_ret
        refine ⟨.inl ⟨?_, rfl⟩, HB.out.2⟩
        have h := HB.out.1
        rwa [show k = ts.length by omega, List.take_length, HL.out, List.take_length] at h
  · have hq : ((ts.length : Int) == us.length) = false := by rw [beq_eq_false_iff_ne]; omega
    go_enter Tryd.func11, Tryd.ntmps11
    go_wp2_with fail
    go_ret
    exact ⟨.inr ⟨fun h => hlen (by rw [h]), rfl⟩, Below.refl _ _⟩
end Go.Proofs.YtimhkgpjfppkmaaDoor
