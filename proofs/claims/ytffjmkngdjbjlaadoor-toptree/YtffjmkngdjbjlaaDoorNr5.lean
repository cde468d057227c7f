/- Nodes: which affiliations and subscriptions are right. -/
import Derived.Test.YtffjmkngdjbjlaaDoorNr4
import Derived.Test.YtffjmkngdjbjlaaDoorCharsN
namespace Go.Proofs.YtffjmkngdjbjlaaDoor
open Go.RowKit

/-- The package's variables that are read on the way. -/
structure Glob (w : World) : Prop where
  max : MaxG w
  lt : 2 < w.heap.size
  tabs : Lib.Utf8Tabs 0 1 w
theorem Glob.below {w w' : World} (h : Glob w) (hb : Below w.heap.size w w') : Glob w' := ⟨h.max.below hb h.lt, Nat.lt_of_lt_of_le h.lt hb.size, tabs_below h.tabs hb⟩
abbrev Fits (s : ByteArray) : Prop := s.size ≤ 4000000000
theorem isAccess_any (r : Nat) (w : World) : Calls Tryd.prog 27 #[.int .u8 r] w fun e w' => e = .returned (.bool (decide (r ≤ 2))) ∧ w' = w := by
  by_cases h : (r : Int) ≤ 2
  · rw [decide_eq_true (show r ≤ 2 by omega)]
    go_enter Tryd.func27, Tryd.ntmps27
    go_wp2_with fail
    go_ret
    simp
  · rw [decide_eq_false (show ¬ r ≤ 2 by omega)]
    go_enter Tryd.func27, Tryd.ntmps27
    go_wp2_with fail
    go_ret
    simp
def maxOk (n : Int) (c : Bool) : Bool := if c = true then decide (n = 0) else decide (0 ≤ n ∧ n ≤ 8)
theorem isMax_any (n : Int) (c : Bool) (w : World) : Calls Tryd.prog 28 #[.int .i64 n, .bool c] w fun e w' => e = .returned (.bool (maxOk n c)) ∧ w' = w := by
  cases c with
  | true =>
    by_cases h : n = 0
    · rw [show maxOk n true = true by simp [maxOk, h]]
      subst h
      go_enter Tryd.func28, Tryd.ntmps28
      go_wp2_with fail
      go_ret
      simp
    · rw [show maxOk n true = false by simp [maxOk, h]]
      have h' : (n == 0) = false := by rw [beq_eq_false_iff_ne]; exact h
      clear h
      go_enter Tryd.func28, Tryd.ntmps28
      go_wp2_with fail
      go_ret
      simp
  | false =>
    by_cases h : 0 ≤ n
    · by_cases h2 : n ≤ 8
      · rw [show maxOk n false = true by simp [maxOk, h, h2]]
        go_enter Tryd.func28, Tryd.ntmps28
        go_wp2_with fail
        go_ret
        simp
      · rw [show maxOk n false = false by simp [maxOk, h2]]
        go_enter Tryd.func28, Tryd.ntmps28
        go_wp2_with fail
        go_ret
        simp
    · rw [show maxOk n false = false by simp [maxOk]; omega]
      go_enter Tryd.func28, Tryd.ntmps28
      go_wp2_with fail
      go_ret
      simp
def BodyOk (s : ByteArray) : Prop := s.size ≤ 512 ∧ CharsOk s.data.toList
set_option maxRecDepth 100000 in
theorem isBody_any (s : ByteArray) (w : World) (hs : Fits s) (hg : Glob w) : Calls Tryd.prog 42 #[.string s] w fun e w' => Yes (BodyOk s) e ∧ Below w.heap.size w w' := by
  have HC := hide (chars_any s w (by unfold maxLen; unfold Fits at hs; omega) hg.tabs)
  have HS := hide hs
  clear hs hg
  by_cases h : (s.size : Int) ≤ 512
  · go_enter Tryd.func42, Tryd.ntmps42
    go_wp2_with fail
    refine HC.out.mono ?_
    rintro e w1 ⟨hc, b1⟩
    have HB := hide b1
    clear b1
    rcases hc with ⟨hc, rfl⟩ | ⟨hc, rfl⟩
    · have H1 := hide hc
      clear hc
      go_wp2_with fail
      go_ret
      exact ⟨.t ⟨by omega, H1.out⟩, HB.out⟩
    · have H1 := hide hc
      clear hc
      go_wp2_with fail
      go_ret
      exact ⟨.f fun h => H1.out h.2, HB.out⟩
  · go_enter Tryd.func42, Tryd.ntmps42
    go_wp2_with fail
    go_ret
    exact ⟨.f fun h2 => by have := h2.1; omega, Below.refl _ w⟩
def AffOk (x : ByteArray × Nat) : Prop := addrOk x.1 = true ∧ 1 ≤ x.2 ∧ x.2 ≤ 5 ∧ x.2 ≠ 2
def SubOk (x : ByteArray × Bool × Int) : Prop := addrOk x.1 = true ∧ 0 ≤ x.2.2 ∧ x.2.2 ≤ 255
def AffsOk (l : List (ByteArray × Nat)) : Prop := l.length ≤ 16 ∧ RiseS (l.map (·.1)) ∧ (∀ x ∈ l, AffOk x) ∧ ∃ x ∈ l, x.2 = 5
def SubsOk (l : List (ByteArray × Bool × Int)) : Prop := l.length ≤ 16 ∧ RiseS (l.map (·.1)) ∧ ∀ x ∈ l, SubOk x
set_option maxRecDepth 100000 in
set_option maxHeartbeats 4000000 in
theorem rightAffs_any (ao : Option Addr) (cap : Nat) (l : List (ByteArray × Nat)) (w : World) (hm : AffMem w.heap.size w ao l) (hs : ∀ x ∈ l, Fits x.1) (hg : Glob w) :
    Calls Tryd.prog 29 #[.slice ao l.length cap] w fun e w' => Yes (AffsOk l) e ∧ Below w.heap.size w w' := by
  obtain ⟨m, hml⟩ : ∃ m, l.length = m := ⟨_, rfl⟩
  have HR := hide (riseAff_any ao cap l w hm)
  have HH := hide (And.intro hm (And.intro hml (And.intro hs hg)))
  obtain ⟨P, hP⟩ : ∃ P, AffsOk l = P := ⟨_, rfl⟩
  rw [hP]
  have HP := hide hP
  rw [hml] at HR ⊢
  clear hm hml hs hg hP
  by_cases h16 : (16 : Int) < m
  · go_enter Tryd.func29, Tryd.ntmps29
    go_wp2_with fail
    go_ret
    exact ⟨.f fun h => by rw [← HP.out] at h; have := h.1; have := HH.out.2.1; omega, Below.refl _ w⟩
  go_enter Tryd.func29, Tryd.ntmps29
  go_wp2_with fail
  refine HR.out.mono ?_
  rintro e w1 ⟨hr, b1⟩
  rcases hr with ⟨hr, rfl⟩ | ⟨hr, rfl⟩
  rotate_left
  · have H1 := hide (And.intro hr b1)
    clear hr b1
    go_wp2_with fail
    go_ret
    exact ⟨.f fun h => by rw [← HP.out] at h; exact H1.out.1 h.2.1, H1.out.2⟩
  have H1 := hide (And.intro hr b1)
  clear hr b1 HR
  go_wp2_with fail
  go_loopw [15] (fun iv wr => ∃ k : Nat, k ≤ m ∧ iv = .int .i64 k ∧ (∀ x ∈ l.take k, AffOk x) ∧ Below w.heap.size w wr) (fun iv _ => m - (intOf iv).toNat)
  case atStart => exact ⟨0, Nat.zero_le _, rfl, by simp, H1.out.2⟩
  case round =>
    obtain ⟨k, hk, rfl, hno, hbw⟩ := hrel
    have hzw := hbw.size
    by_cases hlt : (k : Int) < m
    · obtain ⟨x, hx⟩ : ∃ x, l[k]? = some x := ⟨_, List.getElem?_eq_getElem (by have := HH.out.2.1; omega)⟩
      obtain ⟨b, off, hbe, hb1, d0, d1⟩ := HH.out.1.2 k x hx
      have e0 := (hbw.cell (p := ⟨b, _, none⟩) hb1).trans d0
      have e1 := (hbw.cell (p := ⟨b, _, none⟩) hb1).trans d1
      have hk0 : (0 : Int) ≤ k := by omega
      have bb : Below w.heap.size w (wr.alloc (.cells #[.string x.1, .int .u8 x.2] 55)) := hbw.alloc hzw _
      have hgr := HH.out.2.2.2.below bb
      have had := addr_any x.1 (wr.alloc (.cells #[.string x.1, .int .u8 x.2] 55)) (by have := HH.out.2.2.1 x (List.mem_of_getElem? hx); unfold Fits at this; omega) hgr.max hgr.lt
      obtain ⟨pa, hpa⟩ : ∃ pa, addrOk x.1 = pa := ⟨_, rfl⟩
      rw [hpa] at had
      have HA := hide had
      have HI := hide (And.intro hno (And.intro hbw (And.intro bb (And.intro hx hpa))))
      clear hno hbw d0 d1 had hx hpa bb hgr
      rw [hbe]
      go_wp2_with (go_at_call 57; refine HA.out.mono ?_; rintro e w2 ⟨rfl, b2⟩; refine stopNd ?_)
      unfold Hid
      have f2 : w2.heap[wr.heap.size]? = some (.cells #[.string x.1, .int .u8 x.2] 55) := (b2.block _ (by simp)).trans (World.alloc_heap_new wr _)
      obtain ⟨g0, g1⟩ := cell01 f2
      have H2 := hide (HI.out.2.2.1.trans (b2.mono HI.out.2.2.1.size))
      clear b2 f2 HA
      have hro := isRole_any x.2 w2
      obtain ⟨pr, hpr⟩ : ∃ pr, (decide (1 ≤ (x.2 : Int)) && decide ((x.2 : Int) ≤ 5)) = pr := ⟨_, rfl⟩
      rw [hpr] at hro
      have HO := hide (And.intro hro hpr)
      clear hro hpr
      cases pa with
      | false =>
        have hne : ¬ AffsOk l := fun h => by
          have := (h.2.2.1 x (List.mem_of_getElem? HI.out.2.2.2.1)).1
          rw [HI.out.2.2.2.2] at this
          cases this
        have HN := hide hne
        clear hne
        go_wp2_with fail
        go_ret
        exact ⟨.f fun h => HN.out (by rw [HP.out]; exact h), H2.out⟩
      | true =>
        go_wp2_with fail
        refine HO.out.1.mono ?_
        rintro e w3 ⟨rfl, rfl⟩
        cases pr with
        | false =>
          have hne : ¬ AffsOk l := fun h => by
            have h1 := (h.2.2.1 x (List.mem_of_getElem? HI.out.2.2.2.1)).2
            have h2 := HO.out.2
            rw [decide_eq_true (show 1 ≤ (x.2 : Int) by have := h1.1; omega), decide_eq_true (show (x.2 : Int) ≤ 5 by have := h1.2.1; omega)] at h2
            cases h2
          have HN := hide hne
          clear hne
          go_wp2_with fail
          go_ret
          exact ⟨.f fun h => HN.out (by rw [HP.out]; exact h), H2.out⟩
        | true =>
          by_cases h2 : x.2 = 2
          · have h2e : (((x.2 : Nat) : Int) == 2) = true := by rw [h2]; rfl
            have hne : ¬ AffsOk l := fun h => (h.2.2.1 x (List.mem_of_getElem? HI.out.2.2.2.1)).2.2.2 h2
            have HN := hide hne
            clear hne h2
            go_wp2_with fail
            go_ret
            exact ⟨.f fun h => HN.out (by rw [HP.out]; exact h), H2.out⟩
          · have h2e : (((x.2 : Nat) : Int) == 2) = false := by rw [beq_eq_false_iff_ne]; omega
            have hyes : AffOk x := by
              have h3 := HO.out.2
              rw [Bool.and_eq_true, decide_eq_true_eq, decide_eq_true_eq] at h3
              exact ⟨HI.out.2.2.2.2, by omega, by omega, h2⟩
            have HY := hide hyes
            clear hyes h2
            go_wp2_with fail
            refine ⟨⟨k + 1, by omega, by simp, fun y hy => ?_, H2.out⟩, by simp [intOf]; omega⟩
            rw [List.take_add_one, HI.out.2.2.2.1] at hy
            rcases List.mem_append.1 hy with hy | hy
            · exact HI.out.1 y hy
            · simp at hy
              rw [hy]
              exact HY.out
    · have hkm : k = m := by omega
      have HO := hide (hasOwner_any ao cap l wr ((HH.out.1.below hbw).raise hzw))
      rw [HH.out.2.1] at HO
      have hall : ∀ x ∈ l, AffOk x := by rwa [List.take_of_length_le (by have := HH.out.2.1; omega)] at hno
      have HI := hide (And.intro hall hbw)
      clear hno hbw hall
      go_wp2_with fail
      refine HO.out.mono ?_
      rintro e w3 ⟨rfl, b3⟩
      have H3 := hide (HI.out.2.trans (b3.mono HI.out.2.size))
      clear b3
      go_wp2_with fail
      go_ret
      refine ⟨⟨_, rfl, ?_⟩, H3.out⟩
      rw [← HP.out, List.any_eq_true]
      constructor
      · rintro ⟨x, hx, h5⟩
        exact ⟨by have := HH.out.2.1; omega, H1.out.1, HI.out.1, x, hx, of_decide_eq_true h5⟩
      · rintro ⟨_, _, _, x, hx, h5⟩
        exact ⟨x, hx, decide_eq_true h5⟩
set_option maxRecDepth 100000 in
set_option maxHeartbeats 4000000 in
theorem rightSubs_any (ao : Option Addr) (cap : Nat) (l : List (ByteArray × Bool × Int)) (w : World) (hm : SubMem w.heap.size w ao l) (hs : ∀ x ∈ l, Fits x.1) (hg : Glob w) :
    Calls Tryd.prog 30 #[.slice ao l.length cap] w fun e w' => Yes (SubsOk l) e ∧ Below w.heap.size w w' := by
  obtain ⟨m, hml⟩ : ∃ m, l.length = m := ⟨_, rfl⟩
  have HR := hide (riseSub_any ao cap l w hm)
  have HH := hide (And.intro hm (And.intro hml (And.intro hs hg)))
  obtain ⟨P, hP⟩ : ∃ P, SubsOk l = P := ⟨_, rfl⟩
  rw [hP]
  have HP := hide hP
  rw [hml] at HR ⊢
  clear hm hml hs hg hP
  by_cases h16 : (16 : Int) < m
  · go_enter Tryd.func30, Tryd.ntmps30
    go_wp2_with fail
    go_ret
    exact ⟨.f fun h => by rw [← HP.out] at h; have := h.1; have := HH.out.2.1; omega, Below.refl _ w⟩
  go_enter Tryd.func30, Tryd.ntmps30
  go_wp2_with fail
  refine HR.out.mono ?_
  rintro e w1 ⟨hr, b1⟩
  rcases hr with ⟨hr, rfl⟩ | ⟨hr, rfl⟩
  rotate_left
  · have H1 := hide (And.intro hr b1)
    clear hr b1
    go_wp2_with fail
    go_ret
    exact ⟨.f fun h => by rw [← HP.out] at h; exact H1.out.1 h.2.1, H1.out.2⟩
  have H1 := hide (And.intro hr b1)
  clear hr b1 HR
  go_wp2_with fail
  go_loopw [15] (fun iv wr => ∃ k : Nat, k ≤ m ∧ iv = .int .i64 k ∧ (∀ x ∈ l.take k, SubOk x) ∧ Below w.heap.size w wr) (fun iv _ => m - (intOf iv).toNat)
  case atStart => exact ⟨0, Nat.zero_le _, rfl, by simp, H1.out.2⟩
  case round =>
    obtain ⟨k, hk, rfl, hno, hbw⟩ := hrel
    have hzw := hbw.size
    by_cases hlt : (k : Int) < m
    · obtain ⟨x, hx⟩ : ∃ x, l[k]? = some x := ⟨_, List.getElem?_eq_getElem (by have := HH.out.2.1; omega)⟩
      obtain ⟨b, off, hbe, hb1, d0, d1, d2⟩ := HH.out.1.2 k x hx
      have e0 := (hbw.cell (p := ⟨b, _, none⟩) hb1).trans d0
      have e1 := (hbw.cell (p := ⟨b, _, none⟩) hb1).trans d1
      have e2 := (hbw.cell (p := ⟨b, _, none⟩) hb1).trans d2
      have hk0 : (0 : Int) ≤ k := by omega
      have bb : Below w.heap.size w (wr.alloc (.cells #[.string x.1, .bool x.2.1, .int .i64 x.2.2] 39)) := hbw.alloc hzw _
      have hgr := HH.out.2.2.2.below bb
      have had := addr_any x.1 (wr.alloc (.cells #[.string x.1, .bool x.2.1, .int .i64 x.2.2] 39)) (by have := HH.out.2.2.1 x (List.mem_of_getElem? hx); unfold Fits at this; omega) hgr.max hgr.lt
      obtain ⟨pa, hpa⟩ : ∃ pa, addrOk x.1 = pa := ⟨_, rfl⟩
      rw [hpa] at had
      have HA := hide had
      have HI := hide (And.intro hno (And.intro hbw (And.intro bb (And.intro hx hpa))))
      clear hno hbw d0 d1 d2 had hx hpa bb hgr
      rw [hbe]
      go_wp2_with (go_at_call 57; refine HA.out.mono ?_; rintro e w2 ⟨rfl, b2⟩; refine stopNd ?_)
      unfold Hid
      have f2 : w2.heap[wr.heap.size]? = some (.cells #[.string x.1, .bool x.2.1, .int .i64 x.2.2] 39) := (b2.block _ (by simp)).trans (World.alloc_heap_new wr _)
      obtain ⟨g0, g1, g2, _, _, _⟩ := cells_s f2
      have H2 := hide (HI.out.2.2.1.trans (b2.mono HI.out.2.2.1.size))
      clear b2 f2 HA
      have hro := isDepth_any x.2.2 w2
      obtain ⟨pr, hpr⟩ : ∃ pr, (decide (0 ≤ x.2.2) && decide (x.2.2 ≤ 255)) = pr := ⟨_, rfl⟩
      rw [hpr] at hro
      have HO := hide (And.intro hro hpr)
      clear hro hpr
      cases pa with
      | false =>
        have hne : ¬ SubsOk l := fun h => by
          have := (h.2.2 x (List.mem_of_getElem? HI.out.2.2.2.1)).1
          rw [HI.out.2.2.2.2] at this
          cases this
        have HN := hide hne
        clear hne
        go_wp2_with fail
        go_ret
        exact ⟨.f fun h => HN.out (by rw [HP.out]; exact h), H2.out⟩
      | true =>
        go_wp2_with fail
        refine HO.out.1.mono ?_
        rintro e w3 ⟨rfl, rfl⟩
        cases pr with
        | false =>
          have hne : ¬ SubsOk l := fun h => by
            have h1 := (h.2.2 x (List.mem_of_getElem? HI.out.2.2.2.1)).2
            have h2 := HO.out.2
            rw [decide_eq_true h1.1, decide_eq_true h1.2] at h2
            cases h2
          have HN := hide hne
          clear hne
          go_wp2_with fail
          go_ret
          exact ⟨.f fun h => HN.out (by rw [HP.out]; exact h), H2.out⟩
        | true =>
          have hyes : SubOk x := by
            have h3 := HO.out.2
            rw [Bool.and_eq_true, decide_eq_true_eq, decide_eq_true_eq] at h3
            exact ⟨HI.out.2.2.2.2, h3.1, h3.2⟩
          have HY := hide hyes
          clear hyes
          go_wp2_with fail
          refine ⟨⟨k + 1, by omega, by simp, fun y hy => ?_, H2.out⟩, by simp [intOf]; omega⟩
          rw [List.take_add_one, HI.out.2.2.2.1] at hy
          rcases List.mem_append.1 hy with hy | hy
          · exact HI.out.1 y hy
          · simp at hy
            rw [hy]
            exact HY.out
    · have hkm : k = m := by omega
      have hall : ∀ x ∈ l, SubOk x := by rwa [List.take_of_length_le (by have := HH.out.2.1; omega)] at hno
      have HI := hide (And.intro hall hbw)
      clear hno hbw hall
      go_wp2_with fail
      go_ret
      exact ⟨.t (by rw [← HP.out]; exact ⟨by have := HH.out.2.1; omega, H1.out.1, HI.out.1⟩), HI.out.2⟩
end Go.Proofs.YtffjmkngdjbjlaaDoor
