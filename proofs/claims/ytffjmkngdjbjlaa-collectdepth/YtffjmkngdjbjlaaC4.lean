/- up, isAbove. -/
import Derived.Test.YtffjmkngdjbjlaaC3
namespace Go.Proofs.Ytffjmkngdjbjlaa
open Go.RowKit Go.Shelf
attribute [local go_sem] Oper.semAt_some

theorem hmf (fn : Fn) (first cap : Array Value) (w : World) : (Instr.makeFunc fn first cap).run Try.prog w = .ok (.func fn first cap) w := rfl
def upV (b1 b2 : Nat) : Value := .func (.func 54) #[] #[.pointer (some ⟨b1, 0, none⟩), .pointer (some ⟨b2, 0, none⟩)]
set_option maxRecDepth 100000 in
theorem up_any (sl : Value) (s : ByteArray) (w : World) (hs : ∃ ao n cap, sl = .slice ao n cap) : Calls Try.prog 33 #[sl, .string s] w fun e w' => e = .returned (upV (w.heap.size + 1) w.heap.size) ∧ w'.heap[w.heap.size + 1]? = some (.cells #[.string s] 9) ∧ w'.heap[w.heap.size]? = some (.cells #[sl] 50) ∧ w'.heap.size = w.heap.size + 2 ∧ Below w.heap.size w w' := by
  have hm := hmf
  obtain ⟨ao, n, cap, rfl⟩ := hs
  have h1 := heap_alloc_new w (.cells #[.slice ao n cap] 50)
  have h2 := heap_alloc_new (w.alloc (.cells #[.slice ao n cap] 50)) (.cells #[.string s] 9)
  have HH := hide (And.intro h1 h2)
  clear h1 h2
  go_enter Try.func33, Try.ntmps33
  go_wp2_with fail
  go_ret
  have hs : (w.alloc (.cells #[.slice ao n cap] 50)).heap.size = w.heap.size + 1 := by simp
  refine ⟨rfl, ?_, (Below.heap_alloc _ _ _ (by omega)).trans HH.out.1, by simp, ((Below.refl _ w).alloc (Nat.le_refl _) _).alloc (by omega) _⟩
  rw [← hs]
  exact HH.out.2
theorem cell1 {w : World} {b : Nat} {v : Value} {ty : TypeId} (h : w.heap[b]? = some (.cells #[v] ty)) : w.cell? ⟨b, 0, none⟩ = some v ∧ w.frozen? ⟨b, 0, none⟩ = false := by
  simp [World.cell?, World.frozen?, h]
theorem keepsFrom_below {B : Nat} {A C : World} (h : Below A.heap.size A C) : KeepsFrom B A C := ⟨h.size, fun k _ _ hk _ => (h.block k (Array.getElem?_eq_some_iff.1 hk).1).trans hk⟩
theorem results_at6 {fn : Func} {tmps : Array Value} {w : World} {a : Addr} {v : Bool} (h : fn.results = #[.cell 6 4]) (hp : tmps[6]?.getD undef = .pointer (some a)) (hc : w.cell? a = some (.bool v)) : (results fn tmps).run Try.prog w = .ok (.bool v) w := by
  simp [results, h, hp, hc, go_sem, Try.isAgg4]
set_option maxRecDepth 100000 in
set_option maxHeartbeats 4000000 in
theorem isAbove_any (ao : Option Addr) (cap : Nat) (l : List Pr) (s t : ByteArray) (w : World) (hm : EdMem w.heap.size w ao l) (hr : Rising l) :
    Calls Try.prog 26 #[.slice ao l.length cap, .string s, .string t] w fun e w' => ((t ∈ chain l l.length s ∧ e = .returned (.bool true)) ∨ (t ∉ chain l l.length s ∧ e = .returned (.bool false))) ∧ Below w.heap.size w w' := by
  obtain ⟨Wa, hWa⟩ : ∃ Wa, (w.alloc (.cells #[.string t] 9)).alloc (.cells #[.bool false] 4) = Wa := ⟨_, rfl⟩
  have hBa : Below w.heap.size w Wa := by rw [← hWa]; exact ((Below.refl _ w).alloc (Nat.le_refl _) _).alloc (by simp) _
  have za : Wa.heap.size = w.heap.size + 2 := by rw [← hWa]; simp
  have a0 : Wa.heap[w.heap.size]? = some (.cells #[.string t] 9) := by rw [← hWa]; exact (Below.heap_alloc _ _ _ (by simp)).trans (heap_alloc_new w _)
  have a1 : Wa.heap[w.heap.size + 1]? = some (.cells #[.bool false] 4) := by
    rw [← hWa]
    have := heap_alloc_new (w.alloc (.cells #[.string t] 9)) (.cells #[.bool false] 4)
    simpa using this
  have HU := hide (up_any (.slice ao l.length cap) s Wa ⟨_, _, _, rfl⟩)
  rw [za] at HU
  obtain ⟨m, hml⟩ : ∃ m, l.length = m := ⟨_, rfl⟩
  have HH := hide (And.intro hm (And.intro hr (And.intro hBa (And.intro a0 (And.intro a1 hml)))))
  rw [hml] at HU ⊢
  clear hm hr hBa a0 a1 hml
  refine (callsIn_wide (n := 3)).1 ?_
  refine callsIn_of_wp_marks Try.func26 rfl trivial ?_ rfl
  simp only [Try.ntmps26, List.size_toArray, List.length_cons, List.length_nil, Nat.reduceAdd, Nat.reduceSub, Array.replicate_succ, Array.replicate_zero, List.push_toArray, List.append_toArray, List.nil_append, List.cons_append]
  gi_wp2_with fail
  refine ⟨trivial, (callsIn_wide.2 HU.out).mono ?_⟩
  rintro e w1 ⟨rfl, u1, u2, z1, bu⟩
  have hbw1 : Below w.heap.size w w1 := HH.out.2.2.1.trans (bu.mono (by omega))
  have hseq := up_seq (3 - 1) w.heap.size ao cap l s (w.heap.size + 2 + 1) (w.heap.size + 2) w1 (HH.out.1.below hbw1) HH.out.2.1 u1 (by rw [HH.out.2.2.2.2.2]; exact u2) ⟨by omega, by omega⟩
  rw [HH.out.2.2.2.2.2] at hseq
  have v0 := (bu.block w.heap.size (by omega)).trans HH.out.2.2.2.1
  have v1 := (bu.block (w.heap.size + 1) (by omega)).trans HH.out.2.2.2.2.1
  have HQ := hide hseq
  have HV := hide (And.intro v0 (And.intro v1 hbw1))
  clear hseq v0 v1 hbw1 u1 u2 bu
  gi_wp2_with fail
  obtain ⟨S, hS⟩ : ∃ S, chain l m s = S := ⟨_, rfl⟩
  rw [hS] at HQ
  refine range_plain .ret .ret (.inl ⟨rfl, rfl⟩) (it := 54) (pre := #[]) (held := #[.pointer (some ⟨w.heap.size + 2 + 1, 0, none⟩), .pointer (some ⟨w.heap.size + 2, 0, none⟩)]) (by omega) rfl trivial rfl (enters_of Try.func54 (by kernel_rfl) rfl) (n₀ := w.heap.size) (by omega) (Below.refl _ _)
    (fun j hj => by rcases hj with rfl | rfl <;> omega) HQ.out (fun _ => rfl)
    (fun M k W => W.heap[w.heap.size]? = some (.cells #[.string t] 9) ∧ W.heap[w.heap.size + 1]? = some (.cells #[.bool false] 4) ∧ ¬ M w.heap.size ∧ ¬ M (w.heap.size + 1) ∧ t ∉ S.take k ∧ Below w.heap.size w W)
    (fun _ W => W.heap[w.heap.size + 1]? = some (.cells #[.bool true] 4) ∧ t ∈ S ∧ Below w.heap.size w W)
    ?hI ?hIx ?h0
    (fun k => { tmps := #[.slice ao m cap, .string s, .string t, undef, undef, .pointer (some ⟨w.heap.size, 0, none⟩), .pointer (some ⟨w.heap.size + 1, 0, none⟩), nmV S k, .slice ao m cap, .string s, upV (w.heap.size + 2 + 1) (w.heap.size + 2), nmV S k, undef, undef, undef], defers := [] })
    ?assign ?body ?done ?stop
  case hI =>
    rintro M M' k A B ⟨i0, i1, i2, i3, i4, i5⟩ hb hc hm
    exact ⟨hc _ _ i0 (.inl rfl) i2, hc _ _ i1 (.inl rfl) i3, fun h => i2 (hm _ (hp_lt i0) h), fun h => i3 (hm _ (hp_lt i1) h), i4, i5.trans hb⟩
  case hIx =>
    rintro k A B ⟨i0, i1, i2⟩ hb hc
    exact ⟨hc _ _ i0 (.inl rfl), i1, i2.trans hb⟩
  case h0 => exact ⟨HV.out.1, HV.out.2.1, fun h => by rcases h with h | h <;> omega, fun h => by rcases h with h | h <;> omega, by simp, HV.out.2.2⟩
  case assign =>
    intro r k W K hk hK
    gi_wp2_with fail
    exact hK
  case body =>
    rintro r M k V ⟨i0, i1, i2, i3, i4, i5⟩ hk hM
    obtain ⟨x, hx⟩ : ∃ x, S[k]? = some x := ⟨S[k], by simp [hk]⟩
    have hv : nmV S k = .string x := by simp [nmV, hx]
    obtain ⟨c0, _⟩ := cell1 i0
    obtain ⟨c1, cf1⟩ := cell1 i1
    have HI := hide (And.intro i1 (And.intro i4 (And.intro i5 (And.intro hx (And.intro i0 (And.intro i2 i3))))))
    clear i0 i1 i2 i3 i4 i5 hx hM
    rw [hv]
    clear hv
    by_cases he : x = t
    · have hq := txt_eq he
      have HE := hide he
      clear he
      gi_wp2_with fail
      exact ⟨rfl, (KeepsOthers.setCell _ _ _).from _, heap_setCell_same _ _ _ _ _ _ HI.out.1, by rw [← HE.out]; exact List.mem_of_getElem? HI.out.2.2.2.1, HI.out.2.2.1.setCell (p := ⟨w.heap.size + 1, 0, none⟩) (by simp) _⟩
    · have hq := txt_ne he
      have HE := hide he
      clear he
      gi_wp2_with fail
      obtain ⟨i1, i4, i5, hx, i0, i2, i3⟩ := HI.out
      refine ⟨keepsFrom_below (Below.refl _ _), fun _ _ => rfl, Below.refl _ _, i0, i1, i2, i3, ?_, i5⟩
      rw [List.take_add_one, hx]
      intro hm
      rcases List.mem_append.1 hm with hm | hm
      · exact i4 hm
      · simp at hm
        exact HE.out hm.symm
  case done =>
    rintro D M V hD ⟨i0, i1, i2, i3, i4, i5⟩ hK
    obtain ⟨c1, cf1⟩ := cell1 i1
    have hne : w.heap.size + 1 ≠ D := by omega
    have x1 : (V.setCell ⟨w.heap.size + 1, 0, none⟩ (.bool false)).heap[D]? = some (.deferred (some [])) := (Below.heap_setCell _ _ _ _ (Ne.symm hne)).trans hK
    have x2 : ((V.setCell ⟨w.heap.size + 1, 0, none⟩ (.bool false)).putObj D (.deferred none)).cell? ⟨w.heap.size + 1, 0, none⟩ = some (.bool false) := (cell1 ((World.putObj_heap_other hne).trans (heap_setCell_same _ _ _ _ _ (.bool false) i1))).1
    have x3 : Below w.heap.size w ((V.setCell ⟨w.heap.size + 1, 0, none⟩ (.bool false)).putObj D (.deferred none)) := (i5.setCell (p := ⟨w.heap.size + 1, 0, none⟩) (by simp) _).trans (below_put _ _ (by omega))
    have x4 : t ∉ chain l m s := by rw [hS]; rwa [List.take_length] at i4
    have HX := hide (And.intro x1 (And.intro x2 (And.intro x3 x4)))
    clear x1 x2 x3 x4 i0 i1 i2 i3 i4 i5 hK
    gi_wp2_with fail
    refine ⟨by simp, .inl ⟨_, _, rfl, run_takeDeferred HX.out.1, ?_⟩⟩
    exact ⟨_, results_at6 rfl rfl HX.out.2.1, .inr ⟨HX.out.2.2.2, rfl⟩, HX.out.2.2.1⟩
  case stop =>
    rintro D k V hD hk ⟨i0, i1, i2⟩ hK
    have hne : w.heap.size + 1 ≠ D := by omega
    have HX := hide (And.intro i0 (And.intro i1 (And.intro i2 hK)))
    clear i0 i1 i2 hK
    gi_wp2_with fail
    refine ⟨by simp, .inl ⟨_, _, rfl, run_takeDeferred HX.out.2.2.2, ?_⟩⟩
    exact ⟨_, results_at6 rfl rfl (cell1 ((World.putObj_heap_other hne).trans HX.out.1)).1, .inl ⟨by rw [hS]; exact HX.out.2.1, rfl⟩, HX.out.2.2.1.trans (below_put _ _ (by omega))⟩
end Go.Proofs.Ytffjmkngdjbjlaa
