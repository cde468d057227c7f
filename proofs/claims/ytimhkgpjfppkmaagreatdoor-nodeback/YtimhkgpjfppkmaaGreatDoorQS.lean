/- Nodes: which affiliations and subscriptions are right. Nodes: which items are right. Nodes: which are right. -/
import Derived.Test.YtimhkgpjfppkmaaGreatDoorQR
import Derived.Test.YtimhkgpjfppkmaaGreatDoorCharsN
namespace Go.Proofs.YtimhkgpjfppkmaaGreatDoor
open Go.RowKit

/-- The package's variables that are read on the way. -/
structure Glob (w : World) : Prop where
  max : MaxG w
  lt : 5 < w.heap.size
  tabs : Lib.Utf8Tabs 1 2 w
theorem Glob.below {w w' : World} (h : Glob w) (hb : Below w.heap.size w w') : Glob w' := ⟨h.max.below hb h.lt, Nat.lt_of_lt_of_le h.lt hb.size, tabs_below h.tabs hb⟩
abbrev Fits (s : ByteArray) : Prop := s.size ≤ 9223372036854775807
theorem isAccess_any (r : Nat) (w : World) : Calls Tryz.prog 23 #[.int .u8 r] w fun e w' => e = .returned (.bool (decide (r ≤ 2))) ∧ w' = w := by
  by_cases h : (r : Int) ≤ 2
  · rw [decide_eq_true (show r ≤ 2 by omega)]
    go_enter Tryz.func23, Tryz.ntmps23
    go_wp2_with fail
    go_ret
    simp
  · rw [decide_eq_false (show ¬ r ≤ 2 by omega)]
    go_enter Tryz.func23, Tryz.ntmps23
    go_wp2_with fail
    go_ret
    simp
def maxOk (n : Int) (c : Bool) : Bool := if c = true then decide (n = 0) else decide (0 ≤ n ∧ n ≤ 8)
theorem isMax_any (n : Int) (c : Bool) (w : World) : Calls Tryz.prog 24 #[.int .i64 n, .bool c] w fun e w' => e = .returned (.bool (maxOk n c)) ∧ w' = w := by
  cases c with
  | true =>
    by_cases h : n = 0
    · rw [show maxOk n true = true by simp [maxOk, h]]
      subst h
      go_enter Tryz.func24, Tryz.ntmps24
      go_wp2_with fail
      go_ret
      simp
    · rw [show maxOk n true = false by simp [maxOk, h]]
      have h' : (n == 0) = false := by rw [beq_eq_false_iff_ne]; exact h
      clear h
      go_enter Tryz.func24, Tryz.ntmps24
      go_wp2_with fail
      go_ret
      simp
  | false =>
    by_cases h : 0 ≤ n
    · by_cases h2 : n ≤ 8
      · rw [show maxOk n false = true by simp [maxOk, h, h2]]
        go_enter Tryz.func24, Tryz.ntmps24
        go_wp2_with fail
        go_ret
        simp
      · rw [show maxOk n false = false by simp [maxOk, h2]]
        go_enter Tryz.func24, Tryz.ntmps24
        go_wp2_with fail
        go_ret
        simp
    · rw [show maxOk n false = false by simp [maxOk]; omega]
      go_enter Tryz.func24, Tryz.ntmps24
      go_wp2_with fail
      go_ret
      simp
def BodyOk (s : ByteArray) : Prop := s.size ≤ 512 ∧ CharsOk s.data.toList
set_option maxRecDepth 100000 in
theorem isBody_any (s : ByteArray) (w : World) (hs : Fits s) (hg : Glob w) : Calls Tryz.prog 50 #[.string s] w fun e w' => Yes (BodyOk s) e ∧ Below w.heap.size w w' := by
  have HC := hide (chars_any s w (by unfold maxLen; unfold Fits at hs; omega) hg.tabs)
  have HS := hide hs
  clear hs hg
  by_cases h : (s.size : Int) ≤ 512
  · go_enter Tryz.func50, Tryz.ntmps50
    go_wp2_with fail
    refine HC.out.mono ?_
    rintro e w1 ⟨hc, b1⟩
    have HB := hide b1
    clear b1
    rcases hc with ⟨hc, rfl⟩ | ⟨hc, rfl⟩
    · have H1 := hide hc
      clear hc
      go_wp2_with fail
      go_ret
      exact ⟨.t ⟨by omega, H1.out⟩, HB.out⟩
    · have H1 := hide hc
      clear hc
      go_wp2_with fail
      go_ret
      exact ⟨.f fun h => H1.out h.2, HB.out⟩
  · go_enter Tryz.func50, Tryz.ntmps50
    go_wp2_with fail
    go_ret
    exact ⟨.f fun h2 => by have := h2.1; omega, Below.refl _ w⟩
def AffOk (x : ByteArray × Nat) : Prop := addrOk x.1 = true ∧ 1 ≤ x.2 ∧ x.2 ≤ 5 ∧ x.2 ≠ 2
def SubOk (x : ByteArray × Bool × Int) : Prop := addrOk x.1 = true ∧ 0 ≤ x.2.2 ∧ x.2.2 ≤ 255
def AffsOk (l : List (ByteArray × Nat)) : Prop := l.length ≤ 16 ∧ RiseS (l.map (·.1)) ∧ (∀ x ∈ l, AffOk x) ∧ ∃ x ∈ l, x.2 = 5
def SubsOk (l : List (ByteArray × Bool × Int)) : Prop := l.length ≤ 16 ∧ RiseS (l.map (·.1)) ∧ ∀ x ∈ l, SubOk x
set_option maxRecDepth 100000 in
set_option maxHeartbeats 4000000 in
theorem rightAffs_any (ao : Option Addr) (cap : Nat) (l : List (ByteArray × Nat)) (w : World) (hm : AffMem w.heap.size w ao l) (hs : ∀ x ∈ l, Fits x.1) (hg : Glob w) :
    Calls Tryz.prog 25 #[.slice ao l.length cap] w fun e w' => Yes (AffsOk l) e ∧ Below w.heap.size w w' := by
  obtain ⟨m, hml⟩ : ∃ m, l.length = m := ⟨_, rfl⟩
  have HR := hide (riseAff_any ao cap l w hm)
  have HH := hide (And.intro hm (And.intro hml (And.intro hs hg)))
  obtain ⟨P, hP⟩ : ∃ P, AffsOk l = P := ⟨_, rfl⟩
  rw [hP]
  have HP := hide hP
  rw [hml] at HR ⊢
  clear hm hml hs hg hP
  by_cases h16 : (16 : Int) < m
  · go_enter Tryz.func25, Tryz.ntmps25
    go_wp2_with fail
    go_ret
    exact ⟨.f fun h => by rw [← HP.out] at h; have := h.1; have := HH.out.2.1; omega, Below.refl _ w⟩
  go_enter Tryz.func25, Tryz.ntmps25
  go_wp2_with fail
  refine HR.out.mono ?_
  rintro e w1 ⟨hr, b1⟩
  rcases hr with ⟨hr, rfl⟩ | ⟨hr, rfl⟩
  rotate_left
  · have H1 := hide (And.intro hr b1)
    clear hr b1
    go_wp2_with fail
    go_ret
    exact ⟨.f fun h => by rw [← HP.out] at h; exact H1.out.1 h.2.1, H1.out.2⟩
  have H1 := hide (And.intro hr b1)
  clear hr b1 HR
  go_wp2_with fail
  go_loopw [15] (fun iv wr => ∃ k : Nat, k ≤ m ∧ iv = .int .i64 k ∧ (∀ x ∈ l.take k, AffOk x) ∧ Below w.heap.size w wr) (fun iv _ => m - (intOf iv).toNat)
  case atStart => exact ⟨0, Nat.zero_le _, rfl, by simp, H1.out.2⟩
  case round =>
    obtain ⟨k, hk, rfl, hno, hbw⟩ := hrel
    have hzw := hbw.size
    by_cases hlt : (k : Int) < m
    · obtain ⟨x, hx⟩ : ∃ x, l[k]? = some x := ⟨_, List.getElem?_eq_getElem (by have := HH.out.2.1; omega)⟩
      obtain ⟨b, off, hbe, hb1, d0, d1⟩ := HH.out.1.2 k x hx
      have e0 := (hbw.cell (p := ⟨b, _, none⟩) hb1).trans d0
      have e1 := (hbw.cell (p := ⟨b, _, none⟩) hb1).trans d1
      have hk0 : (0 : Int) ≤ k := by omega
      have bb : Below w.heap.size w (wr.alloc (.cells #[.string x.1, .int .u8 x.2] 55)) := hbw.alloc hzw _
      have hgr := HH.out.2.2.2.below bb
      have had := addr_any x.1 (wr.alloc (.cells #[.string x.1, .int .u8 x.2] 55)) (by have := HH.out.2.2.1 x (List.mem_of_getElem? hx); unfold Fits at this; omega) hgr.max hgr.lt
      obtain ⟨pa, hpa⟩ : ∃ pa, addrOk x.1 = pa := ⟨_, rfl⟩
      rw [hpa] at had
      have HA := hide had
      have HI := hide (And.intro hno (And.intro hbw (And.intro bb (And.intro hx hpa))))
      clear hno hbw d0 d1 had hx hpa bb hgr
      rw [hbe]
      go_wp2_with (go_at_call 33; refine HA.out.mono ?_; rintro e w2 ⟨rfl, b2⟩; refine stopNd ?_)
      unfold Hid
      have f2 : w2.heap[wr.heap.size]? = some (.cells #[.string x.1, .int .u8 x.2] 55) := (b2.block _ (by simp)).trans (World.alloc_heap_new wr _)
      obtain ⟨g0, g1⟩ := cell01 f2
      have H2 := hide (HI.out.2.2.1.trans (b2.mono HI.out.2.2.1.size))
      clear b2 f2 HA
      have hro := isRole_any x.2 w2
      obtain ⟨pr, hpr⟩ : ∃ pr, (decide (1 ≤ (x.2 : Int)) && decide ((x.2 : Int) ≤ 5)) = pr := ⟨_, rfl⟩
      rw [hpr] at hro
      have HO := hide (And.intro hro hpr)
      clear hro hpr
      cases pa with
      | false =>
        have hne : ¬ AffsOk l := fun h => by
          have := (h.2.2.1 x (List.mem_of_getElem? HI.out.2.2.2.1)).1
          rw [HI.out.2.2.2.2] at this
          cases this
        have HN := hide hne
        clear hne
        go_wp2_with fail
        go_ret
        exact ⟨.f fun h => HN.out (by rw [HP.out]; exact h), H2.out⟩
      | true =>
        go_wp2_with fail
        refine HO.out.1.mono ?_
        rintro e w3 ⟨rfl, rfl⟩
        cases pr with
        | false =>
          have hne : ¬ AffsOk l := fun h => by
            have h1 := (h.2.2.1 x (List.mem_of_getElem? HI.out.2.2.2.1)).2
            have h2 := HO.out.2
            rw [decide_eq_true (show 1 ≤ (x.2 : Int) by have := h1.1; omega), decide_eq_true (show (x.2 : Int) ≤ 5 by have := h1.2.1; omega)] at h2
            cases h2
          have HN := hide hne
          clear hne
          go_wp2_with fail
          go_ret
          exact ⟨.f fun h => HN.out (by rw [HP.out]; exact h), H2.out⟩
        | true =>
          by_cases h2 : x.2 = 2
          · have h2e : (((x.2 : Nat) : Int) == 2) = true := by rw [h2]; rfl
            have hne : ¬ AffsOk l := fun h => (h.2.2.1 x (List.mem_of_getElem? HI.out.2.2.2.1)).2.2.2 h2
            have HN := hide hne
            clear hne h2
            go_wp2_with fail
            go_ret
            exact ⟨.f fun h => HN.out (by rw [HP.out]; exact h), H2.out⟩
          · have h2e : (((x.2 : Nat) : Int) == 2) = false := by rw [beq_eq_false_iff_ne]; omega
            have hyes : AffOk x := by
              have h3 := HO.out.2
              rw [Bool.and_eq_true, decide_eq_true_eq, decide_eq_true_eq] at h3
              exact ⟨HI.out.2.2.2.2, by omega, by omega, h2⟩
            have HY := hide hyes
            clear hyes h2
            go_wp2_with fail
            refine ⟨⟨k + 1, by omega, by simp, fun y hy => ?_, H2.out⟩, by simp [intOf]; omega⟩
            rw [List.take_add_one, HI.out.2.2.2.1] at hy
            rcases List.mem_append.1 hy with hy | hy
            · exact HI.out.1 y hy
            · simp at hy
              rw [hy]
              exact HY.out
    · have hkm : k = m := by omega
      have HO := hide (hasOwner_any ao cap l wr ((HH.out.1.below hbw).raise hzw))
      rw [HH.out.2.1] at HO
      have hall : ∀ x ∈ l, AffOk x := by rwa [List.take_of_length_le (by have := HH.out.2.1; omega)] at hno
      have HI := hide (And.intro hall hbw)
      clear hno hbw hall
      go_wp2_with fail
      refine HO.out.mono ?_
      rintro e w3 ⟨rfl, b3⟩
      have H3 := hide (HI.out.2.trans (b3.mono HI.out.2.size))
      clear b3
      go_wp2_with fail
      go_ret
      refine ⟨⟨_, rfl, ?_⟩, H3.out⟩
      rw [← HP.out, List.any_eq_true]
      constructor
      · rintro ⟨x, hx, h5⟩
        exact ⟨by have := HH.out.2.1; omega, H1.out.1, HI.out.1, x, hx, of_decide_eq_true h5⟩
      · rintro ⟨_, _, _, x, hx, h5⟩
        exact ⟨x, hx, decide_eq_true h5⟩
set_option maxRecDepth 100000 in
set_option maxHeartbeats 4000000 in
theorem rightSubs_any (ao : Option Addr) (cap : Nat) (l : List (ByteArray × Bool × Int)) (w : World) (hm : SubMem w.heap.size w ao l) (hs : ∀ x ∈ l, Fits x.1) (hg : Glob w) :
    Calls Tryz.prog 26 #[.slice ao l.length cap] w fun e w' => Yes (SubsOk l) e ∧ Below w.heap.size w w' := by
  obtain ⟨m, hml⟩ : ∃ m, l.length = m := ⟨_, rfl⟩
  have HR := hide (riseSub_any ao cap l w hm)
  have HH := hide (And.intro hm (And.intro hml (And.intro hs hg)))
  obtain ⟨P, hP⟩ : ∃ P, SubsOk l = P := ⟨_, rfl⟩
  rw [hP]
  have HP := hide hP
  rw [hml] at HR ⊢
  clear hm hml hs hg hP
  by_cases h16 : (16 : Int) < m
  · go_enter Tryz.func26, Tryz.ntmps26
    go_wp2_with fail
    go_ret
    exact ⟨.f fun h => by rw [← HP.out] at h; have := h.1; have := HH.out.2.1; omega, Below.refl _ w⟩
  go_enter Tryz.func26, Tryz.ntmps26
  go_wp2_with fail
  refine HR.out.mono ?_
  rintro e w1 ⟨hr, b1⟩
  rcases hr with ⟨hr, rfl⟩ | ⟨hr, rfl⟩
  rotate_left
  · have H1 := hide (And.intro hr b1)
    clear hr b1
    go_wp2_with fail
    go_ret
    exact ⟨.f fun h => by rw [← HP.out] at h; exact H1.out.1 h.2.1, H1.out.2⟩
  have H1 := hide (And.intro hr b1)
  clear hr b1 HR
  go_wp2_with fail
  go_loopw [15] (fun iv wr => ∃ k : Nat, k ≤ m ∧ iv = .int .i64 k ∧ (∀ x ∈ l.take k, SubOk x) ∧ Below w.heap.size w wr) (fun iv _ => m - (intOf iv).toNat)
  case atStart => exact ⟨0, Nat.zero_le _, rfl, by simp, H1.out.2⟩
  case round =>
    obtain ⟨k, hk, rfl, hno, hbw⟩ := hrel
    have hzw := hbw.size
    by_cases hlt : (k : Int) < m
    · obtain ⟨x, hx⟩ : ∃ x, l[k]? = some x := ⟨_, List.getElem?_eq_getElem (by have := HH.out.2.1; omega)⟩
      obtain ⟨b, off, hbe, hb1, d0, d1, d2⟩ := HH.out.1.2 k x hx
      have e0 := (hbw.cell (p := ⟨b, _, none⟩) hb1).trans d0
      have e1 := (hbw.cell (p := ⟨b, _, none⟩) hb1).trans d1
      have e2 := (hbw.cell (p := ⟨b, _, none⟩) hb1).trans d2
      have hk0 : (0 : Int) ≤ k := by omega
      have bb : Below w.heap.size w (wr.alloc (.cells #[.string x.1, .bool x.2.1, .int .i64 x.2.2] 58)) := hbw.alloc hzw _
      have hgr := HH.out.2.2.2.below bb
      have had := addr_any x.1 (wr.alloc (.cells #[.string x.1, .bool x.2.1, .int .i64 x.2.2] 58)) (by have := HH.out.2.2.1 x (List.mem_of_getElem? hx); unfold Fits at this; omega) hgr.max hgr.lt
      obtain ⟨pa, hpa⟩ : ∃ pa, addrOk x.1 = pa := ⟨_, rfl⟩
      rw [hpa] at had
      have HA := hide had
      have HI := hide (And.intro hno (And.intro hbw (And.intro bb (And.intro hx hpa))))
      clear hno hbw d0 d1 d2 had hx hpa bb hgr
      rw [hbe]
      go_wp2_with (go_at_call 33; refine HA.out.mono ?_; rintro e w2 ⟨rfl, b2⟩; refine stopNd ?_)
      unfold Hid
      have f2 : w2.heap[wr.heap.size]? = some (.cells #[.string x.1, .bool x.2.1, .int .i64 x.2.2] 58) := (b2.block _ (by simp)).trans (World.alloc_heap_new wr _)
      obtain ⟨g0, g1, g2, _, _, _⟩ := cells_s f2
      have H2 := hide (HI.out.2.2.1.trans (b2.mono HI.out.2.2.1.size))
      clear b2 f2 HA
      have hro := isDepth_any x.2.2 w2
      obtain ⟨pr, hpr⟩ : ∃ pr, (decide (0 ≤ x.2.2) && decide (x.2.2 ≤ 255)) = pr := ⟨_, rfl⟩
      rw [hpr] at hro
      have HO := hide (And.intro hro hpr)
      clear hro hpr
      cases pa with
      | false =>
        have hne : ¬ SubsOk l := fun h => by
          have := (h.2.2 x (List.mem_of_getElem? HI.out.2.2.2.1)).1
          rw [HI.out.2.2.2.2] at this
          cases this
        have HN := hide hne
        clear hne
        go_wp2_with fail
        go_ret
        exact ⟨.f fun h => HN.out (by rw [HP.out]; exact h), H2.out⟩
      | true =>
        go_wp2_with fail
        refine HO.out.1.mono ?_
        rintro e w3 ⟨rfl, rfl⟩
        cases pr with
        | false =>
          have hne : ¬ SubsOk l := fun h => by
            have h1 := (h.2.2 x (List.mem_of_getElem? HI.out.2.2.2.1)).2
            have h2 := HO.out.2
            rw [decide_eq_true h1.1, decide_eq_true h1.2] at h2
            cases h2
          have HN := hide hne
          clear hne
          go_wp2_with fail
          go_ret
          exact ⟨.f fun h => HN.out (by rw [HP.out]; exact h), H2.out⟩
        | true =>
          have hyes : SubOk x := by
            have h3 := HO.out.2
            rw [Bool.and_eq_true, decide_eq_true_eq, decide_eq_true_eq] at h3
            exact ⟨HI.out.2.2.2.2, h3.1, h3.2⟩
          have HY := hide hyes
          clear hyes
          go_wp2_with fail
          refine ⟨⟨k + 1, by omega, by simp, fun y hy => ?_, H2.out⟩, by simp [intOf]; omega⟩
          rw [List.take_add_one, HI.out.2.2.2.1] at hy
          rcases List.mem_append.1 hy with hy | hy
          · exact HI.out.1 y hy
          · simp at hy
            rw [hy]
            exact HY.out
    · have hkm : k = m := by omega
      have hall : ∀ x ∈ l, SubOk x := by rwa [List.take_of_length_le (by have := HH.out.2.1; omega)] at hno
      have HI := hide (And.intro hall hbw)
      clear hno hbw hall
      go_wp2_with fail
      go_ret
      exact ⟨.t (by rw [← HP.out]; exact ⟨by have := HH.out.2.1; omega, H1.out.1, HI.out.1⟩), HI.out.2⟩
end Go.Proofs.YtimhkgpjfppkmaaGreatDoor
namespace Go.Proofs.YtimhkgpjfppkmaaGreatDoor
open Go.RowKit

def ItemOk (x : ByteArray × ByteArray × ByteArray) : Prop := nameOk x.1 = true ∧ addrOk x.2.1 = true ∧ BodyOk x.2.2
def ItemsOk (l : List (ByteArray × ByteArray × ByteArray)) (most : Int) : Prop := (l.length : Int) ≤ most ∧ (∀ x ∈ l, ItemOk x) ∧ (l.map (·.1)).Nodup
theorem itemsE : Tryz.prog.elem 25 = 61 := by kernel_rfl
theorem ex_loI {o : Oper} {a : Act} {w : World} {x y : Operand} {b off m cap k : Nat} (ho : o.op = .slice 25 x none (some y) none) (hx : a.eval x = .slice (some ⟨b, off, none⟩) m cap) (hy : a.eval y = .int .i64 k) (hk : k ≤ cap) : (execOp a.eval o).run Tryz.prog w = .ok (.value (.slice (some ⟨b, off, none⟩) k cap)) w := by
  have hu : Tryz.prog.underlying 25 = some (.slice (Tryz.prog.elem 25)) := by rw [itemsE]; exact Tryz.underlying25
  obtain ⟨ti, t1, t2, t3, t4⟩ := info_parts infoItem
  have hsz : (Go.sizeOf 61).run Tryz.prog w = .ok 3 w := by simp [Go.sizeOf, typeInfo, t1, t3]
  have h1 := run_slice_h (P := Tryz.prog) (w := w) 25 (some ⟨b, off, none⟩) m cap hu .i64 k (by omega) (by omega)
  rw [itemsE, hsz] at h1
  have h2 := run_sliceAt_slice (P := Tryz.prog) (w := w) 25 (.slice (some ⟨b, off, none⟩) m cap) none (some (.int .i64 k)) none hu
  rw [h1] at h2
  unfold execOp
  simp [ho, hx, hy, h2, Result.andThen, sliced, Addr.add]
theorem ex_fldI {o : Oper} {a : Act} {w : World} {x : Operand} {b : Nat} (ho : o.op = .fieldAddr 61 x 0) (hx : a.eval x = .pointer (some ⟨b, 0, none⟩)) : (execOp a.eval o).run Tryz.prog w = .ok (.value (.pointer (some ⟨b, 0, none⟩))) w := by
  unfold execOp
  simp only [ho, hx]
  go_simp
theorem store_item (w : World) (b : Nat) (p q r : ByteArray) {c0 c1 c2 : Value} (h : w.heap[b]? = some (.cells #[c0, c1, c2] 61)) : ∃ w', (Instr.storeAt 61 (.pointer (some ⟨b, 0, none⟩)) (.agg #[.string p, .string q, .string r])).run Tryz.prog w = .ok () w' ∧ Below b w w' := by
  obtain ⟨x0, x1, x2, y0, y1, y2⟩ := cells_i h
  refine ⟨((w.setCell ⟨b, 0, none⟩ (.string p)).setCell ⟨b, 1, none⟩ (.string q)).setCell ⟨b, 2, none⟩ (.string r), ?_, bel3_i (Below.refl _ w) (Nat.le_refl _)⟩
  go_simp
theorem first_shape {l : List (ByteArray × ByteArray × ByteArray)} {s : ByteArray} {e : Ending} (h : FirstItem l s e) : ∃ p q r tw, e = .returned (.tuple #[.agg #[.string p, .string q, .string r], .bool tw]) ∧ (tw = true ↔ s ∈ l.map (·.1)) := by
  rcases h with ⟨x, hx, rfl⟩ | ⟨hx, rfl⟩
  · exact ⟨_, _, _, true, rfl, fun _ => List.mem_map.2 ⟨x, List.mem_of_find?_eq_some hx, by simpa using List.find?_some hx⟩, fun _ => rfl⟩
  · refine ⟨_, _, _, false, rfl, fun h => (by cases h), fun h => ?_⟩
    obtain ⟨y, hy, e⟩ := List.mem_map.1 h
    exact absurd (List.find?_eq_none.1 hx y hy) (by simpa using e)
theorem nodup_take {l : List (ByteArray × ByteArray × ByteArray)} {k : Nat} {x : ByteArray × ByteArray × ByteArray} (hx : l[k]? = some x) : ((l.take (k + 1)).map (·.1)).Nodup ↔ ((l.take k).map (·.1)).Nodup ∧ x.1 ∉ (l.take k).map (·.1) := by
  rw [List.take_add_one, hx, List.map_append]
  simp only [Option.toList_some, List.map_cons, List.map_nil, List.nodup_append, List.nodup_cons, List.not_mem_nil, not_false_eq_true, List.nodup_nil, and_true, List.mem_cons, or_false, true_and]
  constructor
  · exact fun h => ⟨h.1, fun hm => h.2 _ hm _ rfl rfl⟩
  · exact fun h => ⟨h.1, fun a ha b hb e => h.2 (by rw [← hb, ← e]; exact ha)⟩
theorem nodup_sub {l : List (ByteArray × ByteArray × ByteArray)} (k : Nat) (h : (l.map (·.1)).Nodup) : ((l.take k).map (·.1)).Nodup := by
  rw [List.map_take]
  exact h.sublist (List.take_sublist _ _)
set_option maxRecDepth 100000 in
set_option maxHeartbeats 4000000 in
theorem rightItems_any (ao : Option Addr) (cap : Nat) (l : List (ByteArray × ByteArray × ByteArray)) (most : Int) (w : World) (hm : ItMem w.heap.size w ao l) (hc : l.length ≤ cap) (hs : ∀ x ∈ l, Fits x.1 ∧ Fits x.2.1 ∧ Fits x.2.2) (hg : Glob w) :
    Calls Tryz.prog 27 #[.slice ao l.length cap, .int .i64 most] w fun e w' => Yes (ItemsOk l most) e ∧ Below w.heap.size w w' := by
  obtain ⟨m, hml⟩ : ∃ m, l.length = m := ⟨_, rfl⟩
  have hm6 : m ≤ 1000000 := by have := hm.1; omega
  have HH := hide (And.intro hm (And.intro hml (And.intro hs hg)))
  obtain ⟨P, hP⟩ : ∃ P, ItemsOk l most = P := ⟨_, rfl⟩
  rw [hP]
  have HP := hide hP
  rw [hml] at hc ⊢
  clear hm hml hs hg hP
  by_cases h16 : most < m
  · go_enter Tryz.func27, Tryz.ntmps27
    go_wp2_with fail
    go_ret
    exact ⟨.f fun h => by rw [← HP.out] at h; have := h.1; have := HH.out.2.1; omega, Below.refl _ w⟩
  go_enter Tryz.func27, Tryz.ntmps27
  go_wp2_with fail
  go_loopw [15] (fun iv wr => ∃ k : Nat, k ≤ m ∧ iv = .int .i64 k ∧ (∀ x ∈ l.take k, ItemOk x) ∧ ((l.take k).map (·.1)).Nodup ∧ Below w.heap.size w wr) (fun iv _ => m - (intOf iv).toNat)
  case atStart => exact ⟨0, Nat.zero_le _, rfl, by simp, by simp, Below.refl _ w⟩
  case round =>
    obtain ⟨k, hk, rfl, hno, hnd, hbw⟩ := hrel
    have hzw := hbw.size
    by_cases hlt : (k : Int) < m
    · obtain ⟨x, hx⟩ : ∃ x, l[k]? = some x := ⟨_, List.getElem?_eq_getElem (by have := HH.out.2.1; omega)⟩
      obtain ⟨b, off, hbe, hb1, d0, d1, d2⟩ := HH.out.1.2 k x hx
      have e0 := (hbw.cell (p := ⟨b, _, none⟩) hb1).trans d0
      have e1 := (hbw.cell (p := ⟨b, _, none⟩) hb1).trans d1
      have e2 := (hbw.cell (p := ⟨b, _, none⟩) hb1).trans d2
      have hk0 : (0 : Int) ≤ k := by omega
      have hbx := World.alloc_heap_new wr (.cells #[.string x.1, .string x.2.1, .string x.2.2] 61)
      have hqW : wr.heap.size < (wr.alloc (.cells #[.string x.1, .string x.2.1, .string x.2.2] 61)).heap.size := by simp
      have bb : Below w.heap.size w (wr.alloc (.cells #[.string x.1, .string x.2.1, .string x.2.2] 61)) := hbw.alloc hzw _
      have HI := hide (And.intro hno (And.intro hnd (And.intro hbw (And.intro hx bb))))
      clear hno hnd hbw d0 d1 d2 hx bb
      rw [hbe]
      go_wp2_with fail
      obtain ⟨W, hW⟩ : ∃ W, wr.alloc (.cells #[.string x.1, .string x.2.1, .string x.2.2] 61) = W := ⟨_, rfl⟩
      obtain ⟨q, hq⟩ : ∃ q, wr.heap.size = q := ⟨_, rfl⟩
      rw [hW] at hbx hqW HI ⊢
      rw [hq] at hbx hqW ⊢
      obtain ⟨D, hD⟩ : ∃ D : Prop, (x.1 ∈ (l.take k).map (·.1)) = D := ⟨_, rfl⟩
      obtain ⟨V0, hV0⟩ : ∃ V0, W.drew = V0 := ⟨_, rfl⟩
      have B0 : Below W.heap.size W V0 := by rw [← hV0]; exact (Below.refl _ W).drew
      have hqV : q < V0.heap.size := Nat.lt_of_lt_of_le hqW B0.size
      obtain ⟨x0, x1, x2, _, _, _⟩ := cells_i ((B0.block q hqW).trans hbx)
      have HF : ∀ V, Below V0.heap.size V0 V → Calls Tryz.prog 48 #[.slice (some ⟨b, off, none⟩) k cap, .func (.func 49) #[] #[], .string x.1] V fun e w' => ∃ p q r tw, e = .returned (.tuple #[.agg #[.string p, .string q, .string r], .bool tw]) ∧ (tw = true ↔ D) ∧ Below V.heap.size V w' := by
        intro V hV
        have hbV : Below w.heap.size w V := HI.out.2.2.2.2.trans ((B0.trans (hV.mono B0.size)).mono HI.out.2.2.2.2.size)
        have hmem := ((HH.out.1.below hbV).raise hbV.size)
        rw [hbe] at hmem
        have hf := firstItem_any (some ⟨b, off, none⟩) cap (l.take k) x.1 V ⟨by rw [List.length_take]; have := hmem.1; omega, fun i y hy => hmem.2 i y (by rw [List.getElem?_take] at hy; split at hy; exact hy; cases hy)⟩
        rw [show (l.take k).length = k by rw [List.length_take]; have := HH.out.2.1; omega] at hf
        refine hf.mono ?_
        rintro e V' ⟨h, hb⟩
        obtain ⟨p, q, r, tw, h1, h2⟩ := first_shape h
        rw [hD] at h2
        exact ⟨p, q, r, tw, h1, h2, hb⟩
      refine region_rel (S := fun V => Below V0.heap.size V0 V) (fun a Wz => ∃ (tw : Bool) (xx : Nat → Value), ((tw = true ↔ D) ∧ Below W.heap.size W Wz) ∧ a = { tmps := #[.slice (some ⟨b, off, none⟩) m cap, .int .i64 most, undef, undef, u4, .int .i64 k, .pointer (some ⟨q, 0, none⟩), xx 7, .bool tw, .slice (some ⟨b, off, none⟩) m cap, .int .i64 m, .int .i64 most, .bool false, .slice (some ⟨b, off, none⟩) m cap, .int .i64 m, .int .i64 k, xx 16, xx 17, xx 18, xx 19, xx 20, xx 21, xx 22, xx 23, xx 24, xx 25, xx 26, xx 27, xx 28, xx 29, xx 30, xx 31, xx 32, xx 33, xx 34, xx 35, xx 36, xx 37, xx 38, xx 39, xx 40, xx 41, xx 42, xx 43, xx 44, xx 45, xx 46, xx 47, xx 48], defers := [] }) (by kernel_rfl) ?any ?fin
      case any =>
        rw [hV0]
        clear hV0
        have S0 : Below V0.heap.size V0 V0 := Below.refl _ _
        refine anyH_take (i := 0) (v := .slice (some ⟨b, off, none⟩) m cap) rfl (some 21) rfl (by kernel_rfl) (by kernel_rfl) (by kernel_rfl) (fun _ _ _ h => by cases h.1) (by kernel_rfl) (fun w0 hw0 => by first | rfl | kernel_rfl) S0 ?_
        simp only [Act.put, List.setIfInBounds_toArray, List.set_cons_zero, List.set_cons_succ]
        refine anyH_take (i := 1) (v := .int .i64 k) rfl (some 22) rfl (by kernel_rfl) (by kernel_rfl) (by kernel_rfl) (fun _ _ _ h => by cases h.1) (by kernel_rfl) (fun w0 hw0 => by first | rfl | kernel_rfl) S0 ?_
        simp only [Act.put, List.setIfInBounds_toArray, List.set_cons_zero, List.set_cons_succ]
        refine anyH_take (i := 2) (v := .slice (some ⟨b, off, none⟩) k cap) rfl (some 23) rfl (by kernel_rfl) (by kernel_rfl) (by kernel_rfl) (fun _ _ _ h => by cases h.1) (by kernel_rfl) (fun _ _ => ex_loI rfl rfl rfl (by omega)) S0 ?_
        simp only [Act.put, List.setIfInBounds_toArray, List.set_cons_zero, List.set_cons_succ]
        refine anyH_take (i := 3) (v := .pointer (some ⟨q, 0, none⟩)) rfl (some 24) rfl (by kernel_rfl) (by kernel_rfl) (by kernel_rfl) (fun _ _ _ h => by cases h.1) (by kernel_rfl) (fun _ _ => ex_fldI rfl rfl) S0 ?_
        simp only [Act.put, List.setIfInBounds_toArray, List.set_cons_zero, List.set_cons_succ]
        refine anyH_take (i := 4) (v := .string x.1) rfl (some 25) rfl (by kernel_rfl) (by kernel_rfl) (by kernel_rfl) (fun _ _ _ h => by cases h.1) (by kernel_rfl) (fun w0 hw0 => ex_load rfl rfl (load_str ((hw0.cell (p := ⟨q, 0, none⟩) hqV).trans x0))) S0 ?_
        simp only [Act.put, List.setIfInBounds_toArray, List.set_cons_zero, List.set_cons_succ]
        refine anyH_two (i := 5) (j := 9) (by kernel_rfl) ?cl ?al
        case cl =>
          refine op_call rfl (some 26) rfl (by kernel_rfl) #[.slice (some ⟨b, off, none⟩) k cap, .func (.func 49) #[] #[], .string x.1] rfl (by simp [Act.eval]) (fun _ _ => rfl) (HF V0 (S0)) ?_
          rintro e V1 ⟨p1, p2, p3, tw, rfl, htw, c1⟩
          have S1 : Below V0.heap.size V0 V1 := c1
          refine ⟨_, rfl, S1, ?_⟩
          simp only [Act.put, List.setIfInBounds_toArray, List.set_cons_zero, List.set_cons_succ]
          refine anyH_take (i := 6) (v := .tuple #[.agg #[.string p1, .string p2, .string p3], .bool tw]) rfl (some 20) rfl (by kernel_rfl) (by kernel_rfl) (by kernel_rfl) (fun _ _ _ h => by cases h.1) (by kernel_rfl) (fun _ _ => by first | rfl | kernel_rfl) S1 ?_
          simp only [Act.put, List.setIfInBounds_toArray, List.set_cons_zero, List.set_cons_succ]
          refine anyH_take (i := 7) (v := .agg #[.string p1, .string p2, .string p3]) rfl (some 27) rfl (by kernel_rfl) (by kernel_rfl) (by kernel_rfl) (fun _ _ _ h => by cases h.1) (by kernel_rfl) (fun _ _ => by first | rfl | kernel_rfl) S1 ?_
          simp only [Act.put, List.setIfInBounds_toArray, List.set_cons_zero, List.set_cons_succ]
          refine anyH_take (i := 8) (v := .bool tw) rfl (some 28) rfl (by kernel_rfl) (by kernel_rfl) (by kernel_rfl) (fun _ _ _ h => by cases h.1) (by kernel_rfl) (fun _ _ => by first | rfl | kernel_rfl) S1 ?_
          simp only [Act.put, List.setIfInBounds_toArray, List.set_cons_zero, List.set_cons_succ]
          refine anyH_val (i := 9) (by kernel_rfl) rfl (some 7) rfl (by kernel_rfl) (ex_alloc rfl (run_alloc_long infoItem _)) (S1.alloc S1.size _) ?_
          simp only [Act.put, List.setIfInBounds_toArray, List.set_cons_zero, List.set_cons_succ]
          obtain ⟨V3, hst, hb3⟩ := store_item (V1.alloc (.cells #[.string ⟨#[]⟩, .string ⟨#[]⟩, .string ⟨#[]⟩] 61)) V1.heap.size p1 p2 p3 (World.alloc_heap_new V1 _)
          have S3 : Below V0.heap.size V0 V3 := (S1.alloc S1.size _).trans (hb3.mono S1.size)
          refine anyH_skip (i := 10) (by kernel_rfl) rfl none rfl (by kernel_rfl) (ex_store rfl rfl rfl hst) S3 ?_
          simp only [Act.put]
          have BF : Below W.heap.size W V3 := B0.trans (S3.mono B0.size)
          refine anyH_val (i := 11) (by kernel_rfl) rfl (some 8) rfl (by kernel_rfl) (ex_anyv rfl rfl) S3 ?_
          simp only [Act.put, List.setIfInBounds_toArray, List.set_cons_zero, List.set_cons_succ]
          exact wpAnyH_done (by kernel_rfl) ⟨rfl, tw, fill ⟨htw, BF⟩ (by kernel_rfl)⟩ _
        case al =>
          refine op_val rfl (some 7) rfl (by kernel_rfl) (ex_alloc rfl (run_alloc_long infoItem _)) ?_
          have S1 : Below V0.heap.size V0 (V0.alloc (.cells #[.string ⟨#[]⟩, .string ⟨#[]⟩, .string ⟨#[]⟩] 61)) := (Below.refl _ V0).alloc (Nat.le_refl _) _
          have hp := World.alloc_heap_new V0 (.cells #[.string ⟨#[]⟩, .string ⟨#[]⟩, .string ⟨#[]⟩] 61)
          have hpl : V0.heap.size < (V0.alloc (.cells #[.string ⟨#[]⟩, .string ⟨#[]⟩, .string ⟨#[]⟩] 61)).heap.size := by simp
          obtain ⟨Va, hVa⟩ : ∃ Va, V0.alloc (.cells #[.string ⟨#[]⟩, .string ⟨#[]⟩, .string ⟨#[]⟩] 61) = Va := ⟨_, rfl⟩
          rw [hVa] at S1 hp hpl ⊢
          refine ⟨S1, ?_⟩
          simp only [Act.put, List.setIfInBounds_toArray, List.set_cons_zero, List.set_cons_succ]
          refine anyH_one (i := 5) (by kernel_rfl) ?_
          refine op_call rfl (some 26) rfl (by kernel_rfl) #[.slice (some ⟨b, off, none⟩) k cap, .func (.func 49) #[] #[], .string x.1] rfl (by simp [Act.eval]) (fun _ _ => rfl) (HF Va (S1)) ?_
          rintro e V1 ⟨p1, p2, p3, tw, rfl, htw, c1⟩
          have S2 : Below V0.heap.size V0 V1 := S1.trans (c1.mono S1.size)
          refine ⟨_, rfl, S2, ?_⟩
          simp only [Act.put, List.setIfInBounds_toArray, List.set_cons_zero, List.set_cons_succ]
          refine anyH_take (i := 6) (v := .tuple #[.agg #[.string p1, .string p2, .string p3], .bool tw]) rfl (some 20) rfl (by kernel_rfl) (by kernel_rfl) (by kernel_rfl) (fun _ _ _ h => by cases h.1) (by kernel_rfl) (fun _ _ => by first | rfl | kernel_rfl) S2 ?_
          simp only [Act.put, List.setIfInBounds_toArray, List.set_cons_zero, List.set_cons_succ]
          refine anyH_take (i := 7) (v := .agg #[.string p1, .string p2, .string p3]) rfl (some 27) rfl (by kernel_rfl) (by kernel_rfl) (by kernel_rfl) (fun _ _ _ h => by cases h.1) (by kernel_rfl) (fun _ _ => by first | rfl | kernel_rfl) S2 ?_
          simp only [Act.put, List.setIfInBounds_toArray, List.set_cons_zero, List.set_cons_succ]
          refine anyH_take (i := 8) (v := .bool tw) rfl (some 28) rfl (by kernel_rfl) (by kernel_rfl) (by kernel_rfl) (fun _ _ _ h => by cases h.1) (by kernel_rfl) (fun _ _ => by first | rfl | kernel_rfl) S2 ?_
          simp only [Act.put, List.setIfInBounds_toArray, List.set_cons_zero, List.set_cons_succ]
          obtain ⟨V3, hst, hb3⟩ := store_item V1 V0.heap.size p1 p2 p3 ((c1.block _ hpl).trans hp)
          have S3 : Below V0.heap.size V0 V3 := S2.trans hb3
          refine anyH_skip (i := 10) (by kernel_rfl) rfl none rfl (by kernel_rfl) (ex_store rfl rfl rfl hst) S3 ?_
          simp only [Act.put]
          have BF : Below W.heap.size W V3 := B0.trans (S3.mono B0.size)
          refine anyH_val (i := 11) (by kernel_rfl) rfl (some 8) rfl (by kernel_rfl) (ex_anyv rfl rfl) S3 ?_
          simp only [Act.put, List.setIfInBounds_toArray, List.set_cons_zero, List.set_cons_succ]
          exact wpAnyH_done (by kernel_rfl) ⟨rfl, tw, fill ⟨htw, BF⟩ (by kernel_rfl)⟩ _
      case fin =>
        rintro a W2 ⟨tw, xx, ⟨htw, hB⟩, rfl⟩
        have hb2 : Below w.heap.size w W2 := HI.out.2.2.2.2.trans (hB.mono HI.out.2.2.2.2.size)
        have h3 := (hB.block q hqW).trans hbx
        have hg2 := HH.out.2.2.2.below hb2
        have hsx := HH.out.2.2.1 x (List.mem_of_getElem? HI.out.2.2.2.1)
        have HN := hide (name_any x.1 W2 (by have := hsx.1; unfold Fits at this; omega))
        have HB := hide (And.intro hb2 h3)
        have HD := hide hD
        clear hB hb2 B0 hqV hV0 HF x0 x1 x2 hbx hg2 hD
        obtain ⟨g0, g1, g2, _, _, _⟩ := cells_i h3
        clear h3
        have bad : ∀ (hne : ¬ ItemsOk l most), ¬ P := fun hne h => hne (by rw [HP.out]; exact h)
        have HBad := hide bad
        clear bad
        cases tw with
        | true =>
          have hne : ¬ ItemsOk l most := fun h => ((nodup_take HI.out.2.2.2.1).1 (nodup_sub (k + 1) h.2.2)).2 (by rw [HD.out]; exact htw.1 rfl)
          have HNE := hide hne
          clear hne htw
          go_wp2_with fail
          go_ret
          exact ⟨.f (HBad.out HNE.out), HB.out.1⟩
        | false =>
          have HT := hide (show ¬ D from fun h => by have := htw.2 h; cases this)
          clear htw
          obtain ⟨pn, hpn⟩ : ∃ pn, nameOk x.1 = pn := ⟨_, rfl⟩
          rw [hpn] at HN
          have HPN := hide hpn
          clear hpn
          go_wp2_with fail
          refine HN.out.mono ?_
          rintro e w3 ⟨rfl, hw3⟩
          cases pn with
          | false =>
            have hne : ¬ ItemsOk l most := fun h => by
              have := (h.2.1 x (List.mem_of_getElem? HI.out.2.2.2.1)).1
              rw [HPN.out] at this
              cases this
            have HNE := hide hne
            have HW3 := hide hw3
            clear hne hw3
            go_wp2_with fail
            go_ret
            exact ⟨.f (HBad.out HNE.out), by rw [HW3.out]; exact HB.out.1⟩
          | true =>
            rw [hw3]
            clear hw3
            have hg2 := HH.out.2.2.2.below HB.out.1
            obtain ⟨pa, hpa⟩ : ∃ pa, addrOk x.2.1 = pa := ⟨_, rfl⟩
            have had := addr_any x.2.1 W2 (by have := hsx.2.1; unfold Fits at this; omega) hg2.max hg2.lt
            rw [hpa] at had
            have HA := hide had
            have HPA := hide hpa
            clear had hpa hg2
            go_wp2_with fail
            refine HA.out.mono ?_
            rintro e w4 ⟨rfl, b4⟩
            have h4 := (b4.block q (Array.getElem?_eq_some_iff.1 HB.out.2).1).trans HB.out.2
            have hb4 := HB.out.1.trans (b4.mono HB.out.1.size)
            have HB4 := hide (And.intro hb4 h4)
            clear b4 hb4 g0 g1 g2
            obtain ⟨g0, g1, g2, _, _, _⟩ := cells_i h4
            clear h4
            cases pa with
            | false =>
              have hne : ¬ ItemsOk l most := fun h => by
                have := (h.2.1 x (List.mem_of_getElem? HI.out.2.2.2.1)).2.1
                rw [HPA.out] at this
                cases this
              have HNE := hide hne
              clear hne
              go_wp2_with fail
              go_ret
              exact ⟨.f (HBad.out HNE.out), HB4.out.1⟩
            | true =>
              have HY := hide (isBody_any x.2.2 w4 hsx.2.2 (HH.out.2.2.2.below HB4.out.1))
              go_wp2_with fail
              refine HY.out.mono ?_
              rintro e w5 ⟨⟨pb, rfl, hpb⟩, b5⟩
              have HB5 := hide (HB4.out.1.trans (b5.mono HB4.out.1.size))
              clear b5 g0 g1 g2
              cases pb with
              | false =>
                have hne : ¬ ItemsOk l most := fun h => by
                  have := hpb.2 (h.2.1 x (List.mem_of_getElem? HI.out.2.2.2.1)).2.2
                  cases this
                have HNE := hide hne
                clear hne hpb
                go_wp2_with fail
                go_ret
                exact ⟨.f (HBad.out HNE.out), HB5.out⟩
              | true =>
                have hit : ItemOk x := ⟨HPN.out, HPA.out, hpb.1 rfl⟩
                have HIT := hide hit
                clear hit hpb
                go_wp2_with fail
                go_roundw
                case rel =>
                  refine ⟨k + 1, by omega, by simp, fun y hy => ?_, ?_, HB5.out⟩
                  · rw [List.take_add_one, HI.out.2.2.2.1] at hy
                    rcases List.mem_append.1 hy with hy | hy
                    · exact HI.out.1 y hy
                    · simp at hy
                      rw [hy]
                      exact HIT.out
                  · exact (nodup_take HI.out.2.2.2.1).2 ⟨HI.out.2.1, by rw [HD.out]; exact HT.out⟩
                case measure => simp [intOf]; omega
    · have hkm : k = m := by omega
      have hall : ∀ x ∈ l, ItemOk x := by rwa [List.take_of_length_le (by have := HH.out.2.1; omega)] at hno
      have hnd' : (l.map (·.1)).Nodup := by rwa [List.take_of_length_le (by have := HH.out.2.1; omega)] at hnd
      have HI := hide (And.intro hall (And.intro hnd' hbw))
      clear hno hnd hbw hall hnd'
      go_wp2_with fail
      go_ret
      exact ⟨.t (by rw [← HP.out]; exact ⟨by have := HH.out.2.1; omega, HI.out.1, HI.out.2.1⟩), HI.out.2.2⟩
end Go.Proofs.YtimhkgpjfppkmaaGreatDoor
namespace Go.Proofs.YtimhkgpjfppkmaaGreatDoor
open Go.RowKit

/-- A node's texts are no longer than texts may be. -/
structure NdFits (n : Nd) : Prop where
  name : Fits n.name
  parent : Fits n.parent
  affs : ∀ x ∈ n.affs, Fits x.1
  subs : ∀ x ∈ n.subs, Fits x.1
  items : ∀ x ∈ n.items, Fits x.1 ∧ Fits x.2.1 ∧ Fits x.2.2
/-- A node's lists lie there, its items too. -/
structure NdM (n₀ : Nat) (w : World) (n : Nd) (v : NdW) : Prop where
  ok : NdOk n₀ w n v
  it : ItMem n₀ w v.ia n.items
  ic : n.items.length ≤ v.ic
  fits : NdFits n
theorem NdM.below {n₀ : Nat} {w w' : World} {n : Nd} {v : NdW} (h : NdM n₀ w n v) (hb : Below n₀ w w') : NdM n₀ w' n v := ⟨h.ok.below hb, h.it.below hb, h.ic, h.fits⟩
theorem NdM.raise {n₀ n₁ : Nat} {w : World} {n : Nd} {v : NdW} (h : NdM n₀ w n v) (hn : n₀ ≤ n₁) : NdM n₁ w n v := ⟨h.ok.raise hn, h.it.raise hn, h.ic, h.fits⟩
theorem NdM.move {w w' : World} {n : Nd} {v : NdW} (h : NdM w.heap.size w n v) (hb : Below w.heap.size w w') : NdM w'.heap.size w' n v := (h.below hb).raise hb.size
def RightN (n : Nd) : Prop := nameOk n.name = true ∧ n.acc ≤ 2 ∧ maxOk n.max n.coll = true ∧ (n.parent = ⟨#[]⟩ ∨ nameOk n.parent = true) ∧ AffsOk n.affs ∧ SubsOk n.subs ∧ ItemsOk n.items n.max
set_option maxRecDepth 100000 in
set_option maxHeartbeats 4000000 in
theorem rightN_any (n : Nd) (v : NdW) (w : World) (hm : NdM w.heap.size w n v) (hg : Glob w) :
    Calls Tryz.prog 9 #[.agg (ndA n v)] w fun e w' => Yes (RightN n) e ∧ Below w.heap.size w w' := by
  obtain ⟨P, hP⟩ : ∃ P, RightN n = P := ⟨_, rfl⟩
  rw [hP]
  have b0 : Below w.heap.size w (w.alloc (.cells (ndA n v) 27)) := (Below.refl _ w).alloc (Nat.le_refl _) _
  have f0 := World.alloc_heap_new w (.cells (ndA n v) 27)
  have hl0 : w.heap.size < (w.alloc (.cells (ndA n v) 27)).heap.size := by simp
  have HN := hide (name_any n.name (w.alloc (.cells (ndA n v) 27)) (by have := hm.fits.name; unfold Fits at this; omega))
  have HH := hide (And.intro hm (And.intro hg (And.intro b0 (And.intro f0 hl0))))
  have HP := hide hP
  have bad : ∀ (hne : ¬ RightN n), ¬ P := fun hne h => hne (by rw [HP.out]; exact h)
  have HBad := hide bad
  obtain ⟨c0, c1, c2, c3, c4, c5, c6, c7⟩ := nd_box f0
  clear hP hm hg b0 f0 hl0 bad
  unfold ndA at c0 c1 c2 c3 c4 c5 c6 c7 HN HH ⊢
  obtain ⟨p1, hp1⟩ : ∃ p, nameOk n.name = p := ⟨_, rfl⟩
  rw [hp1] at HN
  have HP1 := hide hp1
  clear hp1
  go_enter Tryz.func9, Tryz.ntmps9
  go_wp2_with fail
  refine HN.out.mono ?_
  rintro e w1 ⟨rfl, hw1⟩
  rw [hw1]
  clear hw1
  cases p1 with
  | false =>
    have hne : ¬ RightN n := fun h => by have := h.1; rw [HP1.out] at this; cases this
    have HNE := hide hne
    clear hne
    go_wp2_with fail
    go_ret
    exact ⟨.f (HBad.out HNE.out), HH.out.2.2.1⟩
  | true =>
    have HA := hide (isAccess_any n.acc (w.alloc (.cells #[.string n.name, .bool n.coll, .int .u8 n.acc, .int .i64 n.max, .slice v.aa n.affs.length v.ac, .slice v.sa n.subs.length v.sc, .slice v.ia n.items.length v.ic, .string n.parent] 27)))
    obtain ⟨p2, hp2⟩ : ∃ p, decide (n.acc ≤ 2) = p := ⟨_, rfl⟩
    rw [hp2] at HA
    have HP2 := hide hp2
    clear hp2
    go_wp2_with fail
    refine HA.out.mono ?_
    rintro e w1 ⟨rfl, hw1⟩
    rw [hw1]
    clear hw1
    cases p2 with
    | false =>
      have hne : ¬ RightN n := fun h => of_decide_eq_false HP2.out h.2.1
      have HNE := hide hne
      clear hne
      go_wp2_with fail
      go_ret
      exact ⟨.f (HBad.out HNE.out), HH.out.2.2.1⟩
    | true =>
      have HM := hide (isMax_any n.max n.coll (w.alloc (.cells #[.string n.name, .bool n.coll, .int .u8 n.acc, .int .i64 n.max, .slice v.aa n.affs.length v.ac, .slice v.sa n.subs.length v.sc, .slice v.ia n.items.length v.ic, .string n.parent] 27)))
      obtain ⟨p3, hp3⟩ : ∃ p, maxOk n.max n.coll = p := ⟨_, rfl⟩
      rw [hp3] at HM
      have HP3 := hide hp3
      clear hp3
      go_wp2_with fail
      refine HM.out.mono ?_
      rintro e w1 ⟨rfl, hw1⟩
      rw [hw1]
      clear hw1
      cases p3 with
      | false =>
        have hne : ¬ RightN n := fun h => by have := h.2.2.1; rw [HP3.out] at this; cases this
        have HNE := hide hne
        clear hne
        go_wp2_with fail
        go_ret
        exact ⟨.f (HBad.out HNE.out), HH.out.2.2.1⟩
      | true =>
        have HR := hide (rightAffs_any v.aa v.ac n.affs (w.alloc (.cells #[.string n.name, .bool n.coll, .int .u8 n.acc, .int .i64 n.max, .slice v.aa n.affs.length v.ac, .slice v.sa n.subs.length v.sc, .slice v.ia n.items.length v.ic, .string n.parent] 27)) ((HH.out.1.ok.1.below HH.out.2.2.1).raise HH.out.2.2.1.size) HH.out.1.fits.affs (HH.out.2.1.below HH.out.2.2.1))
        by_cases hpar : n.parent = ⟨#[]⟩
        · have hpe : n.parent.toList.isEmpty = true := by rw [hpar]; rw [Lib.toList_data]; rfl
          have HPar := hide (show n.parent = ⟨#[]⟩ ∨ nameOk n.parent = true from .inl hpar)
          clear hpar
          go_wp2_with fail
          refine HR.out.mono ?_
          rintro e w2 ⟨⟨p5, rfl, hp5⟩, b2⟩
          have bw2 := HH.out.2.2.1.trans (b2.mono HH.out.2.2.1.size)
          have f2 := (b2.block _ HH.out.2.2.2.2).trans HH.out.2.2.2.1
          have HP5 := hide hp5
          have H2 := hide (And.intro bw2 f2)
          have HS := hide (rightSubs_any v.sa v.sc n.subs w2 ((HH.out.1.ok.2.1.below bw2).raise bw2.size) HH.out.1.fits.subs (HH.out.2.1.below bw2))
          clear hp5 b2 bw2 c0 c1 c2 c3 c4 c5 c6 c7
          obtain ⟨c0, c1, c2, c3, c4, c5, c6, c7⟩ := nd_box f2
          clear f2
          cases p5 with
          | false =>
            have hne : ¬ RightN n := fun h => by have := HP5.out.2 h.2.2.2.2.1; cases this
            have HNE := hide hne
            clear hne
            go_wp2_with fail
            go_ret
            exact ⟨.f (HBad.out HNE.out), H2.out.1⟩
          | true =>
            go_wp2_with fail
            refine HS.out.mono ?_
            rintro e w3 ⟨⟨p6, rfl, hp6⟩, b3⟩
            have bw3 := H2.out.1.trans (b3.mono H2.out.1.size)
            have f3 := (b3.block _ (Array.getElem?_eq_some_iff.1 H2.out.2).1).trans H2.out.2
            have HP6 := hide hp6
            have H3 := hide (And.intro bw3 f3)
            have HI := hide (rightItems_any v.ia v.ic n.items n.max w3 ((HH.out.1.it.below bw3).raise bw3.size) HH.out.1.ic HH.out.1.fits.items (HH.out.2.1.below bw3))
            clear hp6 b3 bw3 c0 c1 c2 c3 c4 c5 c6 c7
            obtain ⟨c0, c1, c2, c3, c4, c5, c6, c7⟩ := nd_box f3
            clear f3
            cases p6 with
            | false =>
              have hne : ¬ RightN n := fun h => by have := HP6.out.2 h.2.2.2.2.2.1; cases this
              have HNE := hide hne
              clear hne
              go_wp2_with fail
              go_ret
              exact ⟨.f (HBad.out HNE.out), H3.out.1⟩
            | true =>
              go_wp2_with fail
              refine HI.out.mono ?_
              rintro e w4 ⟨⟨p7, rfl, hp7⟩, b4⟩
              have HP7 := hide hp7
              have H4 := hide (H3.out.1.trans (b4.mono H3.out.1.size))
              clear hp7 b4 c0 c1 c2 c3 c4 c5 c6 c7
              go_wp2_with fail
              go_ret
              refine ⟨⟨_, rfl, ?_⟩, H4.out⟩
              rw [HP7.out, ← HP.out]
              exact ⟨fun h => ⟨HP1.out, of_decide_eq_true HP2.out, HP3.out, HPar.out, (by first | exact HP5.out.1 rfl | exact HP5.out.1 trivial), (by first | exact HP6.out.1 rfl | exact HP6.out.1 trivial), h⟩, fun h => h.2.2.2.2.2.2⟩
        · have hpe : n.parent.toList.isEmpty = false := str_full (fun h => hpar (ByteArray.size_eq_zero_iff.1 h))
          have HN2 := hide (name_any n.parent (w.alloc (.cells #[.string n.name, .bool n.coll, .int .u8 n.acc, .int .i64 n.max, .slice v.aa n.affs.length v.ac, .slice v.sa n.subs.length v.sc, .slice v.ia n.items.length v.ic, .string n.parent] 27)) (by have := HH.out.1.fits.parent; unfold Fits at this; omega))
          obtain ⟨p4, hp4⟩ : ∃ p, nameOk n.parent = p := ⟨_, rfl⟩
          rw [hp4] at HN2
          have HP4 := hide (And.intro hp4 hpar)
          clear hp4 hpar
          go_wp2_with fail
          refine HN2.out.mono ?_
          rintro e w1 ⟨rfl, hw1⟩
          rw [hw1]
          clear hw1
          cases p4 with
          | false =>
            have hne : ¬ RightN n := fun h => by
              rcases h.2.2.2.1 with h | h
              · exact HP4.out.2 h
              · rw [HP4.out.1] at h; cases h
            have HNE := hide hne
            clear hne
            go_wp2_with fail
            go_ret
            exact ⟨.f (HBad.out HNE.out), HH.out.2.2.1⟩
          | true =>
            have HPar := hide (show n.parent = ⟨#[]⟩ ∨ nameOk n.parent = true from .inr HP4.out.1)
            go_wp2_with fail
            refine HR.out.mono ?_
            rintro e w2 ⟨⟨p5, rfl, hp5⟩, b2⟩
            have bw2 := HH.out.2.2.1.trans (b2.mono HH.out.2.2.1.size)
            have f2 := (b2.block _ HH.out.2.2.2.2).trans HH.out.2.2.2.1
            have HP5 := hide hp5
            have H2 := hide (And.intro bw2 f2)
            have HS := hide (rightSubs_any v.sa v.sc n.subs w2 ((HH.out.1.ok.2.1.below bw2).raise bw2.size) HH.out.1.fits.subs (HH.out.2.1.below bw2))
            clear hp5 b2 bw2 c0 c1 c2 c3 c4 c5 c6 c7
            obtain ⟨c0, c1, c2, c3, c4, c5, c6, c7⟩ := nd_box f2
            clear f2
            cases p5 with
            | false =>
              have hne : ¬ RightN n := fun h => by have := HP5.out.2 h.2.2.2.2.1; cases this
              have HNE := hide hne
              clear hne
              go_wp2_with fail
              go_ret
              exact ⟨.f (HBad.out HNE.out), H2.out.1⟩
            | true =>
              go_wp2_with fail
              refine HS.out.mono ?_
              rintro e w3 ⟨⟨p6, rfl, hp6⟩, b3⟩
              have bw3 := H2.out.1.trans (b3.mono H2.out.1.size)
              have f3 := (b3.block _ (Array.getElem?_eq_some_iff.1 H2.out.2).1).trans H2.out.2
              have HP6 := hide hp6
              have H3 := hide (And.intro bw3 f3)
              have HI := hide (rightItems_any v.ia v.ic n.items n.max w3 ((HH.out.1.it.below bw3).raise bw3.size) HH.out.1.ic HH.out.1.fits.items (HH.out.2.1.below bw3))
              clear hp6 b3 bw3 c0 c1 c2 c3 c4 c5 c6 c7
              obtain ⟨c0, c1, c2, c3, c4, c5, c6, c7⟩ := nd_box f3
              clear f3
              cases p6 with
              | false =>
                have hne : ¬ RightN n := fun h => by have := HP6.out.2 h.2.2.2.2.2.1; cases this
                have HNE := hide hne
                clear hne
                go_wp2_with fail
                go_ret
                exact ⟨.f (HBad.out HNE.out), H3.out.1⟩
              | true =>
                go_wp2_with fail
                refine HI.out.mono ?_
                rintro e w4 ⟨⟨p7, rfl, hp7⟩, b4⟩
                have HP7 := hide hp7
                have H4 := hide (H3.out.1.trans (b4.mono H3.out.1.size))
                clear hp7 b4 c0 c1 c2 c3 c4 c5 c6 c7
                go_wp2_with fail
                go_ret
                refine ⟨⟨_, rfl, ?_⟩, H4.out⟩
                rw [HP7.out, ← HP.out]
                exact ⟨fun h => ⟨HP1.out, of_decide_eq_true HP2.out, HP3.out, HPar.out, (by first | exact HP5.out.1 rfl | exact HP5.out.1 trivial), (by first | exact HP6.out.1 rfl | exact HP6.out.1 trivial), h⟩, fun h => h.2.2.2.2.2.2⟩
end Go.Proofs.YtimhkgpjfppkmaaGreatDoor
