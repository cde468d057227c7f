/- Right: whether tokens are right. -/
import Derived.Test.YthmidlmknkbdaaaDoorFit
namespace Go.Proofs.YthmidlmknkbdaaaDoor
open Go.RowKit Go.Shelf
attribute [local go_sem] Oper.semAt_some

def RightT (ts : List Tok) : Prop := ts.length ≤ 64 ∧ (∀ k t, ts[k]? = some t → Fit (openAt ts k) (kindOf ts (k - 1 : Int)) t) ∧ (openAt ts ts.length).length = 0

theorem walk_call (ao : Option Addr) (len cap : Nat) (w : World) : Calls Tryd.prog 21 #[.slice ao len cap] w fun e w' => e = .returned (.func (.func 36) #[] #[.pointer (some ⟨w.heap.size, 0, none⟩)]) ∧ w' = w.alloc (.cells #[.slice ao len cap] 22) := by
  have hmf : ∀ (fn : Fn) (first cap : Array Value) (w : World), (Instr.makeFunc fn first cap).run Tryd.prog w = .ok (.func fn first cap) w := fun _ _ _ _ => rfl
  go_enter Tryd.func21, Tryd.ntmps21
  go_wp2
  go_ret
  exact ⟨rfl, rfl⟩

theorem results_cell {fn : Func} {tmps : Array Value} {w : World} {a : Addr} {v : Bool} (h : fn.results = #[.cell 2 4]) (hp : tmps[2]?.getD undef = .pointer (some a)) (hc : w.cell? a = some (.bool v)) : (results fn tmps).run Tryd.prog w = .ok (.bool v) w := by
  simp [results, h, hp, hc, go_sem, Tryd.isAgg4]
theorem cell1 {w : World} {b : Nat} {v : Value} {ty : TypeId} (h : w.heap[b]? = some (.cells #[v] ty)) : w.cell? ⟨b, 0, none⟩ = some v ∧ w.frozen? ⟨b, 0, none⟩ = false := by
  simp [World.cell?, World.frozen?, h]
theorem keepsFrom_below {B : Nat} {A C : World} (h : Below A.heap.size A C) : KeepsFrom B A C := ⟨h.size, fun k _ _ hk _ => (h.block k (Array.getElem?_eq_some_iff.1 hk).1).trans hk⟩
theorem kept_below {M : Blk} {A C : World} (hM : ∀ b, M b → b < A.heap.size) (h : Below A.heap.size A C) : Kept M A C := fun j hj => h.block j (hM j hj)
theorem kept_set {M : Blk} {A C : World} (h : Kept M A C) {b i : Nat} (hb : ¬ M b) (v : Value) : Kept M A (C.setCell ⟨b, i, none⟩ v) := fun j hj => (Below.heap_setCell _ _ _ _ (fun e => hb (by have e' : j = b := e; exact e' ▸ hj))).trans (h j hj)
/-- A step in its box. -/
def stepO (ts : List Tok) (av : Nat → Option Addr × Nat) (k : Nat) : Obj :=
  match ts[k]? with
  | none => .cells #[] 57
  | some t => .cells #[.int .u8 t.kind, .string t.name, .slice (av k).1 t.attrs.length (av k).2, .string t.text, .int .u8 (kindOf ts (k - 1 : Int)), .int .u8 (kindOf ts (k + 1 : Int)), .string ((openAt ts k).getLast?.getD ⟨#[]⟩), .int .i64 (openAt ts k).length, .int .i64 (openAt ts (k + 1)).length] 57

set_option maxRecDepth 100000 in
set_option maxHeartbeats 4000000 in
theorem right_any (ao : Option Addr) (cap : Nat) (ts : List Tok) (av : Nat → Option Addr × Nat) (w : World) (hT : TokMem w.heap.size w ao ts av) (hU : Tabs w) :
    Calls Tryd.prog 14 #[.slice ao ts.length cap] w fun e w' => Tells (RightT ts) e ∧ Below w.heap.size w w' := by
  have hlen := hT.1
  have HT := hide hT
  have HU := hide hU
  clear hT hU
  refine (callsIn_wide (n := 3)).1 ?_
  refine callsIn_of_wp_marks Tryd.func14 rfl trivial ?_ rfl
  simp only [Tryd.ntmps14, List.size_toArray, List.length_cons, List.length_nil, Nat.reduceAdd, Nat.reduceSub, Array.replicate_succ, Array.replicate_zero, List.push_toArray, List.append_toArray, List.nil_append, List.cons_append]
  by_cases h64 : ts.length ≤ 64
  · have h64' : ¬ (64 < (ts.length : Int)) := by omega
    gi_wp2_with (first | (gi_at_call 21; refine (callsIn_wide.2 (walk_call _ _ _ _)).mono ?_; rintro e w' ⟨rfl, rfl⟩) | (refine ⟨trivial, ?_⟩; gi_at_call 21; refine (callsIn_wide.2 (walk_call _ _ _ _)).mono ?_; rintro e w' ⟨rfl, rfl⟩))
    obtain ⟨w3, hw3⟩ : ∃ w3, (((w.alloc (.cells #[.bool false] 4)).alloc (.cells #[.int .i64 0] 3)).alloc (.cells #[.slice ao ts.length cap] 22)) = w3 := ⟨_, rfl⟩
    have z3 : w3.heap.size = w.heap.size + 3 := by rw [← hw3]; simp
    have hb3 : Below w.heap.size w w3 := by rw [← hw3]; exact (((Below.refl _ w).alloc (Nat.le_refl _) _).alloc (by simp) _).alloc (by simp; omega) _
    have f0 : w3.heap[w.heap.size]? = some (.cells #[.bool false] 4) := by
      rw [← hw3]; exact (Below.heap_alloc _ _ _ (by simp; omega)).trans ((Below.heap_alloc _ _ _ (by simp)).trans (World.alloc_heap_new w _))
    have f1 : w3.heap[w.heap.size + 1]? = some (.cells #[.int .i64 0] 3) := by
      rw [← hw3]
      refine (Below.heap_alloc _ _ _ (by simp)).trans ?_
      have h := World.alloc_heap_new (w.alloc (.cells #[.bool false] 4)) (.cells #[.int .i64 0] 3)
      rwa [World.size_alloc] at h
    have f2 : w3.heap[w.heap.size + 2]? = some (.cells #[.slice ao ts.length cap] 22) := by
      rw [← hw3]
      have h := World.alloc_heap_new ((w.alloc (.cells #[.bool false] 4)).alloc (.cells #[.int .i64 0] 3)) (.cells #[.slice ao ts.length cap] 22)
      rwa [World.size_alloc, World.size_alloc] at h
    rw [hw3]
    clear hw3
    refine range_own (it := 36) (held := #[.pointer (some ⟨w.heap.size + 2, 0, none⟩)]) (by omega) rfl trivial rfl (enters_of Tryd.func36 (by kernel_rfl) rfl) (n₀ := w.heap.size) (by omega) (Below.refl _ _)
      (fun b hb => ?hm0) (walk_seq _ (w.heap.size + 2) w.heap.size ao cap ts av w3 f2 (by omega) (HT.out.below hb3)) (fun _ => rfl)
      (fun M k W => W.heap[w.heap.size]? = some (.cells #[.bool false] 4) ∧ W.heap[w.heap.size + 1]? = some (.cells #[.int .i64 (openAt ts k).length] 3) ∧ ¬ M w.heap.size ∧ ¬ M (w.heap.size + 1) ∧ Below w.heap.size w W ∧ ∀ j t, j < k → ts[j]? = some t → Fit (openAt ts j) (kindOf ts (j - 1 : Int)) t)
      (fun _ W => W.heap[w.heap.size]? = some (.cells #[.bool false] 4) ∧ Below w.heap.size w W ∧ ¬ RightT ts)
      ?hI ?hIx ?h0 (stepO ts av)
      (fun k bs => { tmps := #[.slice ao ts.length cap, undef, .pointer (some ⟨w.heap.size, 0, none⟩), .pointer (some ⟨w.heap.size + 1, 0, none⟩), .pointer (some ⟨bs, 0, none⟩), .slice ao ts.length cap, .int .i64 ts.length, .bool false, .slice ao ts.length cap, .func (.func 36) #[] #[.pointer (some ⟨w.heap.size + 2, 0, none⟩)], stepV ts av k, undef, undef, undef, undef, undef, undef, undef], defers := [] }) ?assign ?body ?done ?stop
    case hm0 =>
      rcases hb with rfl | hb
      · omega
      · cases hb
    case hI =>
      rintro M M' k A B ⟨i0, i1, i2, i3, i4, i5⟩ hb hc hm
      exact ⟨hc _ _ i0 rfl i2, hc _ _ i1 rfl i3, fun h => i2 (hm _ (Array.getElem?_eq_some_iff.1 i0).1 h), fun h => i3 (hm _ (Array.getElem?_eq_some_iff.1 i1).1 h), i4.trans hb, i5⟩
    case hIx =>
      rintro k A B ⟨i0, i1, i2⟩ hb hc
      exact ⟨hc _ _ i0 rfl, i1.trans hb, i2⟩
    case h0 =>
      refine ⟨f0, f1, fun h => ?_, fun h => ?_, hb3, fun j t h => by omega⟩
      · rcases h with h | h
        · omega
        · cases h
      · rcases h with h | h
        · omega
        · cases h
    case assign =>
      intro l k W K hk hK
      obtain ⟨t, ht⟩ : ∃ t, ts[k]? = some t := ⟨ts[k], by simp [hk]⟩
      have hv : stepV ts av k = .agg #[.int .u8 t.kind, .string t.name, .slice (av k).1 t.attrs.length (av k).2, .string t.text, .int .u8 (kindOf ts (k - 1 : Int)), .int .u8 (kindOf ts (k + 1 : Int)), .string ((openAt ts k).getLast?.getD ⟨#[]⟩), .int .i64 (openAt ts k).length, .int .i64 (openAt ts (k + 1)).length] := by simp [stepV, ht]
      have ho : stepO ts av k = .cells #[.int .u8 t.kind, .string t.name, .slice (av k).1 t.attrs.length (av k).2, .string t.text, .int .u8 (kindOf ts (k - 1 : Int)), .int .u8 (kindOf ts (k + 1 : Int)), .string ((openAt ts k).getLast?.getD ⟨#[]⟩), .int .i64 (openAt ts k).length, .int .i64 (openAt ts (k + 1)).length] 57 := by simp [stepO, ht]
      rw [hv, ho] at hK
      rw [hv]
      gi_wp2
      exact hK
    case body =>
      rintro l M k bs W ⟨i0, i1, i2, i3, i4, i5⟩ hk hM hbs hle
      obtain ⟨t, ht⟩ : ∃ t, ts[k]? = some t := ⟨ts[k], by simp [hk]⟩
      have hv : stepV ts av k = .agg #[.int .u8 t.kind, .string t.name, .slice (av k).1 t.attrs.length (av k).2, .string t.text, .int .u8 (kindOf ts (k - 1 : Int)), .int .u8 (kindOf ts (k + 1 : Int)), .string ((openAt ts k).getLast?.getD ⟨#[]⟩), .int .i64 (openAt ts k).length, .int .i64 (openAt ts (k + 1)).length] := by simp [stepV, ht]
      have ho : stepO ts av k = .cells #[.int .u8 t.kind, .string t.name, .slice (av k).1 t.attrs.length (av k).2, .string t.text, .int .u8 (kindOf ts (k - 1 : Int)), .int .u8 (kindOf ts (k + 1 : Int)), .string ((openAt ts k).getLast?.getD ⟨#[]⟩), .int .i64 (openAt ts k).length, .int .i64 (openAt ts (k + 1)).length] 57 := by simp [stepO, ht]
      rw [ho] at hbs
      obtain ⟨s0, s1, s2, s3, s4, s5, s6, s7, s8, sf⟩ := cells9 hbs
      have hTW := HT.out.below i4
      obtain ⟨x1, x2, x3, x4, x5, _⟩ := hTW.2 k t ht
      have HX := hide (And.intro x4 (And.intro i4 i5))
      have HI := hide (And.intro i0 (And.intro i1 (And.intro i2 (And.intro i3 hM))))
      have HS := hide hbs
      have hc := fits_any w.heap.size av ts k t ht W x1 x2 x3 x4 i4.size (tabs_below HU.out i4) x5 hlen
      rw [hv] at hc
      have HC := hide hc
      clear x4 i4 i5 i0 i1 i2 i3 hM hbs hTW hc
      rw [hv]
      gi_wp2_with (first | (gi_at_call 30; refine (CallsIn.inRound l (callsIn_wide.2 HC.out)).mono ?_; rintro e w' ⟨⟨hf, rfl⟩ | ⟨hf, rfl⟩, hb4⟩ <;> (have g0 := (hb4.block w.heap.size (Array.getElem?_eq_some_iff.1 HI.out.1).1).trans HI.out.1; have g1 := (hb4.block (w.heap.size + 1) (Array.getElem?_eq_some_iff.1 HI.out.2.1).1).trans HI.out.2.1; obtain ⟨k0, kf0⟩ := cell1 g0; obtain ⟨k1, kf1⟩ := cell1 g1; have p8 := (hb4.cell (p := ⟨bs, 8, none⟩) (Array.getElem?_eq_some_iff.1 HS.out).1).trans s8; have HG := hide (And.intro hb4 (And.intro g0 g1)); clear hb4 g0 g1)) | (refine ⟨trivial, ?_⟩; gi_at_call 30; refine (CallsIn.inRound l (callsIn_wide.2 HC.out)).mono ?_; rintro e w' ⟨⟨hf, rfl⟩ | ⟨hf, rfl⟩, hb4⟩ <;> (have g0 := (hb4.block w.heap.size (Array.getElem?_eq_some_iff.1 HI.out.1).1).trans HI.out.1; have g1 := (hb4.block (w.heap.size + 1) (Array.getElem?_eq_some_iff.1 HI.out.2.1).1).trans HI.out.2.1; obtain ⟨k0, kf0⟩ := cell1 g0; obtain ⟨k1, kf1⟩ := cell1 g1; have p8 := (hb4.cell (p := ⟨bs, 8, none⟩) (Array.getElem?_eq_some_iff.1 HS.out).1).trans s8; have HG := hide (And.intro hb4 (And.intro g0 g1)); clear hb4 g0 g1)))
      · have hMl : ∀ b, M b → b < W.heap.size := fun b hb => by
          obtain ⟨_, _, o, ho, _⟩ := HI.out.2.2.2.2 b hb
          exact (Array.getElem?_eq_some_iff.1 ho).1
        refine ⟨(keepsFrom_below HG.out.1).trans ((KeepsOthers.setCell _ _ _).from _), kept_set (kept_below hMl HG.out.1) HI.out.2.2.2.1 _, (HG.out.1.mono HX.out.2.1.size).setCell (p := ⟨w.heap.size + 1, 0, none⟩) (by simp) _, ?_, ?_, HI.out.2.2.1, HI.out.2.2.2.1, (HX.out.2.1.trans (HG.out.1.mono HX.out.2.1.size)).setCell (p := ⟨w.heap.size + 1, 0, none⟩) (by simp) _, fun j x hj hx => ?_⟩
        · rw [Below.heap_setCell _ _ _ _ (by simp)]
          exact HG.out.2.1
        · exact heap_setCell_same _ _ _ _ _ _ HG.out.2.2
        · rcases Nat.lt_or_ge j k with h | h
          · exact HX.out.2.2 j x h hx
          · obtain rfl : j = k := by omega
            rw [ht] at hx
            cases hx
            exact hf
      · refine ⟨(keepsFrom_below HG.out.1).trans ((KeepsOthers.setCell _ _ _).from _), heap_setCell_same _ _ _ _ _ _ HG.out.2.1, (HX.out.2.1.trans (HG.out.1.mono HX.out.2.1.size)).setCell (p := ⟨w.heap.size, 0, none⟩) (by simp) _, fun x => hf (x.2.1 k t ht)⟩
    case done =>
      rintro D M W hD ⟨i0, i1, i2, i3, i4, i5⟩ hK
      obtain ⟨k0, kf0⟩ := cell1 i0
      obtain ⟨k1, kf1⟩ := cell1 i1
      have HI := hide (And.intro i0 (And.intro i4 (And.intro i5 hK)))
      clear i0 i1 i2 i3 i4 i5 hK
      have fin : ∀ r : Bool, (w.heap.size ≠ D) → ((W.setCell ⟨w.heap.size, 0, none⟩ (.bool r)).heap[D]? = some (.deferred (some []))) ∧ (((W.setCell ⟨w.heap.size, 0, none⟩ (.bool r)).putObj D (.deferred none)).cell? ⟨w.heap.size, 0, none⟩ = some (.bool r)) ∧ Below w.heap.size w ((W.setCell ⟨w.heap.size, 0, none⟩ (.bool r)).putObj D (.deferred none)) := fun r hne => by
        refine ⟨(Below.heap_setCell _ _ _ _ (Ne.symm hne)).trans HI.out.2.2.2, ?_, (HI.out.2.1.setCell (p := ⟨w.heap.size, 0, none⟩) (by simp) _).trans (below_put _ _ (by omega))⟩
        exact (cell1 ((World.putObj_heap_other hne).trans (heap_setCell_same _ _ _ _ _ (.bool r) HI.out.1))).1
      have FIN := hide fin
      clear fin
      by_cases hz : (openAt ts ts.length).length = 0
      · have hz' : (((openAt ts ts.length).length : Int) == 0) = true := by rw [hz]; rfl
        gi_wp2
        obtain ⟨x1, x2, x3⟩ := FIN.out true (by omega)
        refine ⟨by simp, .inl ⟨_, _, rfl, run_takeDeferred x1, ?_⟩⟩
        exact ⟨_, results_cell rfl rfl x2, .inl ⟨⟨h64, fun k t hk => HI.out.2.2.1 k t (List.getElem?_eq_some_iff.1 hk).1 hk, hz⟩, rfl⟩, x3⟩
      · have hz' : (((openAt ts ts.length).length : Int) == 0) = false := by rw [beq_eq_false_iff_ne]; omega
        gi_wp2
        obtain ⟨x1, x2, x3⟩ := FIN.out false (by omega)
        refine ⟨by simp, .inl ⟨_, _, rfl, run_takeDeferred x1, ?_⟩⟩
        exact ⟨_, results_cell rfl rfl x2, .inr ⟨fun x => hz x.2.2, rfl⟩, x3⟩
    case stop =>
      rintro D k W hD hk ⟨i0, i1, i2⟩ hK
      gi_wp2
      refine ⟨by simp, .inl ⟨_, _, rfl, run_takeDeferred hK, ?_⟩⟩
      exact ⟨_, results_cell rfl rfl (cell1 ((World.putObj_heap_other (show w.heap.size ≠ D by omega)).trans i0)).1, .inr ⟨i2, rfl⟩, i1.trans (below_put _ _ (by omega))⟩
  · have h64' : 64 < (ts.length : Int) := by omega
    gi_wp2_with fail
    have hc : (w.alloc (.cells #[.bool false] 4)).cell? ⟨w.heap.size, 0, none⟩ = some (.bool false) := by simp
    refine ⟨_, results_cell rfl rfl hc, .inr ⟨fun x => h64 x.1, rfl⟩, (Below.refl _ w).alloc (Nat.le_refl _) _⟩
end Go.Proofs.YthmidlmknkbdaaaDoor
