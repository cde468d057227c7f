/- Whole: whether tokens are right, and one element. -/
import Derived.Test.YthmidlmknkbdaaaDoorPrint
namespace Go.Proofs.YthmidlmknkbdaaaDoor
open Go.RowKit Go.Shelf
attribute [local go_sem] Oper.semAt_some

/-- How many of the first k tokens stand where nothing is open. -/
def topsTo (ts : List Tok) : Nat → Nat
  | 0 => 0
  | k + 1 => topsTo ts k + (if (openAt ts k).length = 0 then 1 else 0)
theorem topsTo_le (ts : List Tok) : ∀ k, topsTo ts k ≤ k
  | 0 => Nat.le_refl _
  | k + 1 => by
    have := topsTo_le ts k
    unfold topsTo
    split <;> omega
def WholeT (ts : List Tok) : Prop := RightT ts ∧ topsTo ts ts.length = 1

theorem results_tmp1 {fn : Func} {i : Nat} (h : fn.results = #[.tmp i]) (tmps : Array Value) (w : World) : (results fn tmps).run Tryd.prog w = .ok (tmps[i]?.getD undef) w := by
  simp [results, h, go_sem]

set_option maxRecDepth 100000 in
set_option maxHeartbeats 4000000 in
theorem whole_any (ao : Option Addr) (cap : Nat) (ts : List Tok) (av : Nat → Option Addr × Nat) (w : World) (hT : TokMem w.heap.size w ao ts av) (hU : Tabs w) :
    Calls Tryd.prog 7 #[.slice ao ts.length cap] w fun e w' => Tells (WholeT ts) e ∧ Below w.heap.size w w' := by
  have HT := hide hT
  have HU := hide hU
  clear hT hU
  refine (callsIn_wide (n := 3)).1 ?_
  refine callsIn_of_wp_marks Tryd.func7 rfl trivial ?_ rfl
  simp only [Tryd.ntmps7, List.size_toArray, List.length_cons, List.length_nil, Nat.reduceAdd, Nat.reduceSub, Array.replicate_succ, Array.replicate_zero, List.push_toArray, List.append_toArray, List.nil_append, List.cons_append]
  gi_wp2_with (first | (gi_at_call 14; refine (callsIn_wide.2 (right_any _ _ ts av _ HT.out HU.out)).mono ?_; rintro e wq ⟨⟨hr, rfl⟩ | ⟨hr, rfl⟩, hbq⟩) | (refine ⟨trivial, ?_⟩; gi_at_call 14; refine (callsIn_wide.2 (right_any _ _ ts av _ HT.out HU.out)).mono ?_; rintro e wq ⟨⟨hr, rfl⟩ | ⟨hr, rfl⟩, hbq⟩) | (gi_at_call 21; refine (callsIn_wide.2 (walk_call _ _ _ _)).mono ?_; rintro e w' ⟨rfl, rfl⟩) | (refine ⟨trivial, ?_⟩; gi_at_call 21; refine (callsIn_wide.2 (walk_call _ _ _ _)).mono ?_; rintro e w' ⟨rfl, rfl⟩))
  · obtain ⟨w3, hw3⟩ : ∃ w3, ((wq.alloc (.cells #[.int .i64 0] 3)).alloc (.cells #[.slice ao ts.length cap] 22)) = w3 := ⟨_, rfl⟩
    have z3 : w3.heap.size = wq.heap.size + 2 := by rw [← hw3]; simp
    have hb3 : Below wq.heap.size wq w3 := by rw [← hw3]; exact ((Below.refl _ wq).alloc (Nat.le_refl _) _).alloc (by simp) _
    have f2 : w3.heap[wq.heap.size + 1]? = some (.cells #[.slice ao ts.length cap] 22) := by
      rw [← hw3]
      have h := World.alloc_heap_new (wq.alloc (.cells #[.int .i64 0] 3)) (.cells #[.slice ao ts.length cap] 22)
      rwa [World.size_alloc] at h
    have f0 : w3.heap[wq.heap.size]? = some (.cells #[.int .i64 0] 3) := by
      rw [← hw3]; exact (Below.heap_alloc _ _ _ (by simp)).trans (World.alloc_heap_new wq _)
    rw [hw3]
    clear hw3
    have hqs := hbq.size
    have hb03 : Below w.heap.size w w3 := hbq.trans (hb3.mono hqs)
    have hlen := HT.out.1
    refine range_own (it := 36) (held := #[.pointer (some ⟨wq.heap.size + 1, 0, none⟩)]) (by omega) rfl trivial rfl (enters_of Tryd.func36 (by kernel_rfl) rfl) (n₀ := w.heap.size) (by omega) (Below.refl _ _)
      (fun b hb => ?hm0) (walk_seq _ (wq.heap.size + 1) w.heap.size ao cap ts av w3 f2 (by omega) (HT.out.below hb03)) (fun _ => rfl)
      (fun M k W => W.heap[wq.heap.size]? = some (.cells #[.int .i64 (topsTo ts k)] 3) ∧ ¬ M wq.heap.size ∧ Below w.heap.size w W)
      (fun _ _ => False)
      ?hI ?hIx ?h0 (stepO ts av)
      (fun k bs => { tmps := #[.slice ao ts.length cap, undef, .bool false, .pointer (some ⟨wq.heap.size, 0, none⟩), .pointer (some ⟨bs, 0, none⟩), .slice ao ts.length cap, .bool true, .bool false, .slice ao ts.length cap, .func (.func 36) #[] #[.pointer (some ⟨wq.heap.size + 1, 0, none⟩)], stepV ts av k, undef, undef, undef, undef, undef, undef, undef], defers := [] }) ?assign ?body ?done ?stop
    case hm0 =>
      rcases hb with rfl | hb
      · omega
      · cases hb
    case hI =>
      rintro M M' k A B ⟨i0, i1, i2⟩ hb hc hm
      exact ⟨hc _ _ i0 rfl i1, fun h => i1 (hm _ (Array.getElem?_eq_some_iff.1 i0).1 h), i2.trans hb⟩
    case hIx =>
      rintro k A B h
      exact h.elim
    case h0 =>
      refine ⟨f0, fun h => ?_, hb03⟩
      rcases h with h | h
      · omega
      · cases h
    case assign =>
      intro l k W K hk hK
      obtain ⟨t, ht⟩ : ∃ t, ts[k]? = some t := ⟨ts[k], by simp [hk]⟩
      have hv : stepV ts av k = .agg #[.int .u8 t.kind, .string t.name, .slice (av k).1 t.attrs.length (av k).2, .string t.text, .int .u8 (kindOf ts (k - 1 : Int)), .int .u8 (kindOf ts (k + 1 : Int)), .string ((openAt ts k).getLast?.getD ⟨#[]⟩), .int .i64 (openAt ts k).length, .int .i64 (openAt ts (k + 1)).length] := by simp [stepV, ht]
      have ho : stepO ts av k = .cells #[.int .u8 t.kind, .string t.name, .slice (av k).1 t.attrs.length (av k).2, .string t.text, .int .u8 (kindOf ts (k - 1 : Int)), .int .u8 (kindOf ts (k + 1 : Int)), .string ((openAt ts k).getLast?.getD ⟨#[]⟩), .int .i64 (openAt ts k).length, .int .i64 (openAt ts (k + 1)).length] 57 := by simp [stepO, ht]
      rw [hv, ho] at hK
      rw [hv]
      gi_wp2
      exact hK
    case body =>
      rintro l M k bs W ⟨i0, i1, i2⟩ hk hM hbs hle
      obtain ⟨t, ht⟩ : ∃ t, ts[k]? = some t := ⟨ts[k], by simp [hk]⟩
      have hv : stepV ts av k = .agg #[.int .u8 t.kind, .string t.name, .slice (av k).1 t.attrs.length (av k).2, .string t.text, .int .u8 (kindOf ts (k - 1 : Int)), .int .u8 (kindOf ts (k + 1 : Int)), .string ((openAt ts k).getLast?.getD ⟨#[]⟩), .int .i64 (openAt ts k).length, .int .i64 (openAt ts (k + 1)).length] := by simp [stepV, ht]
      have ho : stepO ts av k = .cells #[.int .u8 t.kind, .string t.name, .slice (av k).1 t.attrs.length (av k).2, .string t.text, .int .u8 (kindOf ts (k - 1 : Int)), .int .u8 (kindOf ts (k + 1 : Int)), .string ((openAt ts k).getLast?.getD ⟨#[]⟩), .int .i64 (openAt ts k).length, .int .i64 (openAt ts (k + 1)).length] 57 := by simp [stepO, ht]
      rw [ho] at hbs
      obtain ⟨s0, s1, s2, s3, s4, s5, s6, s7, s8, sf⟩ := cells9 hbs
      obtain ⟨k0, kf0⟩ := cell1 i0
      have htl := topsTo_le ts k
      have hMl : ∀ b, M b → b < W.heap.size := fun b hb => by
        obtain ⟨_, _, o, ho, _⟩ := hM b hb
        exact (Array.getElem?_eq_some_iff.1 ho).1
      have HI := hide (And.intro i0 (And.intro i1 (And.intro i2 hMl)))
      clear i0 i1 i2 hM hbs hMl
      rw [hv]
      by_cases hz : (openAt ts k).length = 0
      · have hz' : (((openAt ts k).length : Int) == 0) = true := by rw [hz]; rfl
        have hsu : topsTo ts (k + 1) = topsTo ts k + 1 := by simp [topsTo, hz]
        gi_wp2
        refine ⟨(keepsFrom_below (Below.refl _ _)).trans ((KeepsOthers.setCell _ _ _).from _), kept_set (fun j _ => rfl) HI.out.2.1 _, (Below.refl _ _).setCell (p := ⟨wq.heap.size, 0, none⟩) (by simp; omega) _, ?_, HI.out.2.1, HI.out.2.2.1.setCell (p := ⟨wq.heap.size, 0, none⟩) (by simp; omega) _⟩
        rw [hsu]
        exact heap_setCell_same _ _ _ _ _ _ HI.out.1
      · have hz' : (((openAt ts k).length : Int) == 0) = false := by rw [beq_eq_false_iff_ne]; omega
        have hsu : topsTo ts (k + 1) = topsTo ts k := by simp [topsTo, hz]
        gi_wp2
        exact ⟨keepsFrom_below (Below.refl _ _), fun j _ => rfl, Below.refl _ _, by rw [hsu]; exact HI.out.1, HI.out.2.1, HI.out.2.2.1⟩
    case done =>
      rintro D M W hD ⟨i0, i1, i2⟩ hK
      obtain ⟨k0, kf0⟩ := cell1 i0
      have HI := hide (And.intro i0 (And.intro i2 hK))
      clear i0 i1 i2 hK
      by_cases hz : topsTo ts ts.length = 1
      · have hz' : ((topsTo ts ts.length : Int) == 1) = true := by rw [hz]; rfl
        gi_wp2
        refine ⟨by simp, .inl ⟨_, _, rfl, run_takeDeferred HI.out.2.2, ?_⟩⟩
        exact ⟨_, results_tmp1 rfl _ _, .inl ⟨⟨hr, hz⟩, rfl⟩, HI.out.2.1.trans (below_put _ _ (by omega))⟩
      · have hz' : ((topsTo ts ts.length : Int) == 1) = false := by rw [beq_eq_false_iff_ne]; omega
        gi_wp2
        refine ⟨by simp, .inl ⟨_, _, rfl, run_takeDeferred HI.out.2.2, ?_⟩⟩
        exact ⟨_, results_tmp1 rfl _ _, .inr ⟨fun x => hz x.2, rfl⟩, HI.out.2.1.trans (below_put _ _ (by omega))⟩
    case stop =>
      rintro D k W hD hk h hK
      exact h.elim
  · have H := hide hbq
    clear hbq
    gi_wp2_with fail
    exact ⟨_, results_tmp1 rfl _ _, .inr ⟨fun x => hr x.1, rfl⟩, H.out⟩
end Go.Proofs.YthmidlmknkbdaaaDoor
