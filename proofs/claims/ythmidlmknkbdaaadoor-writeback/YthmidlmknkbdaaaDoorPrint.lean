/- Print: the text of tokens. -/
import Derived.Test.YthmidlmknkbdaaaDoorPR
namespace Go.Proofs.YthmidlmknkbdaaaDoor
open Go.RowKit Go.Shelf
attribute [local go_sem] Oper.semAt_some

/-- The text of the first k tokens. -/
def printTo (ts : List Tok) : Nat → List UInt8
  | 0 => []
  | k + 1 => printTo ts k ++ (match ts[k]? with | some t => tokT t (kindOf ts (k - 1 : Int)) (kindOf ts (k + 1 : Int)) | none => [])
def printT (ts : List Tok) : List UInt8 := printTo ts ts.length
theorem printTo_succ {ts : List Tok} {k : Nat} {t : Tok} (h : ts[k]? = some t) : printTo ts (k + 1) = printTo ts k ++ tokT t (kindOf ts (k - 1 : Int)) (kindOf ts (k + 1 : Int)) := by
  simp only [printTo, h]
theorem tokT_le {t : Tok} (h : Few t) (la nx : Nat) : (tokT t la nx).length ≤ 70000 := by
  obtain ⟨h1, h2, h3, h4⟩ := h
  have e1 : t.name.data.toList.length = t.name.size := Array.length_toList
  have e2 : t.text.data.toList.length = t.text.size := Array.length_toList
  have e3 := esc_length t.text.data.toList
  have e4 := attrsT_le t.attrs h4
  unfold tokT
  split
  · simp only [beginT, List.length_append, List.length_cons, List.length_nil]
    split <;> simp <;> omega
  · split
    · omega
    · split
      · simp
      · simp only [endT, List.length_append, List.length_cons, List.length_nil]
        omega
/-- What is right is few. -/
theorem names_ok {ts : List Tok} : ∀ (k : Nat), (∀ j t, j < k → ts[j]? = some t → Fit (openAt ts j) (kindOf ts (j - 1 : Int)) t) → ∀ nm ∈ openAt ts k, NameOk nm
  | 0, _, nm, h => by simp [openAt] at h
  | k + 1, hf, nm, h => by
    have ih := names_ok k (fun j t hj ht => hf j t (by omega) ht)
    cases ht : ts[k]? with
    | none =>
      have h1 : ts.length ≤ k := by simpa using ht
      have h2 : openAt ts (k + 1) = openAt ts k := by unfold openAt; rw [List.take_of_length_le h1, List.take_of_length_le (by omega)]
      rw [h2] at h
      exact ih nm h
    | some t =>
      rw [openAt_succ ht] at h
      unfold opens at h
      split at h
      · rename_i h1
        rcases List.mem_append.1 h with h | h
        · exact ih nm h
        · simp at h
          subst h
          exact ((fit_one h1).1 (hf k t (by omega) ht)).2.1
      · split at h
        · exact ih nm (List.dropLast_subset _ h)
        · exact ih nm h
theorem few_of {ts : List Tok} (hf : ∀ j t, ts[j]? = some t → Fit (openAt ts j) (kindOf ts (j - 1 : Int)) t) {k : Nat} {t : Tok} (ht : ts[k]? = some t) : Few t := by
  rcases hf k t ht with ⟨h1, _, h2, h3, h4⟩ | ⟨h1, h2, h3, h4, h5⟩ | ⟨h1, _, _, _, h2, h3, h4⟩
  · refine ⟨by have := h2.2.1; omega, by omega, h4.1, fun a ha => ?_⟩
    obtain ⟨i, hi⟩ := List.mem_iff_getElem?.1 ha
    obtain ⟨_, x1, x2⟩ := h4.2 i a hi
    exact ⟨by have := x1.2.1; omega, by have := x2.1; omega⟩
  · have hm : t.name ∈ openAt ts k := by
      cases hl : (openAt ts k).getLast? with
      | none => rw [List.getLast?_eq_none_iff.1 hl] at h2; simp at h2
      | some x =>
        rw [hl] at h3
        simp at h3
        subst h3
        exact List.mem_of_getLast? hl
    have hn := names_ok k (fun j t _ hj => hf j t hj) _ hm
    have ha : t.attrs = [] := List.eq_nil_of_length_eq_zero h5
    exact ⟨by have := hn.2.1; omega, by omega, by omega, fun a h => by rw [ha] at h; simp at h⟩
  · have ha : t.attrs = [] := List.eq_nil_of_length_eq_zero h4
    exact ⟨by omega, by have := h2.1; omega, by omega, fun a h => by rw [ha] at h; simp at h⟩
theorem printTo_le {ts : List Tok} (hf : ∀ j t, ts[j]? = some t → Fit (openAt ts j) (kindOf ts (j - 1 : Int)) t) : ∀ k, (printTo ts k).length ≤ k * 70000
  | 0 => by simp [printTo]
  | k + 1 => by
    have ih := printTo_le hf k
    cases ht : ts[k]? with
    | none =>
      have hz : printTo ts (k + 1) = printTo ts k := by
        show printTo ts k ++ (match ts[k]? with | some t => tokT t (kindOf ts (k - 1 : Int)) (kindOf ts (k + 1 : Int)) | none => []) = _
        rw [ht]
        exact List.append_nil _
      rw [hz, Nat.succ_mul]
      exact Nat.le_trans ih (Nat.le_add_right _ _)
    | some t =>
      rw [printTo_succ ht, List.length_append, Nat.succ_mul]
      have := tokT_le (few_of hf ht) (kindOf ts (k - 1 : Int)) (kindOf ts (k + 1 : Int))
      omega

/-- The builder's blocks are none of M's. -/
def Off (M : Blk) (b : Nat) (W : World) : Prop := ¬ M b ∧ ∀ p v, W.heap[b]? = some (.cells #[p, v] 48) → ∀ g, v.ownBlock = some g → ¬ M g
theorem isb_steady {M : Blk} {B b : Nat} {bs : List Value} {A C : World} (h : Lib.IsBuilderF 48 5 B b bs A) (ho : Off M b A) (hc : ∀ (j : Nat) (o : Obj), A.heap[j]? = some o → o.isCells = true → ¬ M j → C.heap[j]? = some o) : Lib.IsBuilderF 48 5 B b bs C := by
  have key : ∀ p, Lib.BuilderAtF 48 5 B b p bs A → Lib.BuilderAtF 48 5 B b p bs C := by
    rintro p ⟨hB, v, hbk, hown, hne⟩
    refine ⟨hB, v, hc b _ hbk rfl ho.1, ⟨hown.1, ?_⟩, hne⟩
    rcases hown.2 with hn | ⟨g, cap, cur, fz, hv, hbg, hg, rest⟩
    · exact .inl hn
    · exact .inr ⟨g, cap, cur, fz, hv, hbg, hc g _ hg rfl (ho.2 p v hbk g (by rw [hv]; rfl)), rest⟩
  exact h.elim (fun x => .inl (key _ x)) (fun x => .inr (key _ x))
theorem off_steady {M M' : Blk} {B b : Nat} {bs : List Value} {A C : World} (h : Lib.IsBuilderF 48 5 B b bs A) (ho : Off M b A) (hc : ∀ (j : Nat) (o : Obj), A.heap[j]? = some o → o.isCells = true → ¬ M j → C.heap[j]? = some o) (hm : ∀ j, j < A.heap.size → M' j → M j) : Off M' b C := by
  have key : ∀ p, Lib.BuilderAtF 48 5 B b p bs A → Off M' b C := by
    rintro p ⟨hB, v, hbk, hown, hne⟩
    refine ⟨fun h => ho.1 (hm b (Array.getElem?_eq_some_iff.1 hbk).1 h), fun p' v' hb' g hg h => ?_⟩
    rw [hc b _ hbk rfl ho.1] at hb'
    cases hb'
    rcases hown.2 with ⟨hn, _⟩ | ⟨g', cap, cur, fz, hv, hbg, hg', rest⟩
    · rw [hn] at hg; cases hg
    · rw [hv] at hg
      cases hg
      exact ho.2 p v hbk g' (by rw [hv]; rfl) (hm g' (Array.getElem?_eq_some_iff.1 hg').1 h)
  exact h.elim (key _) (key _)
/-- Where all of M's blocks are no rows of bytes, the builder is off them. -/
theorem off_of {M : Blk} {B b : Nat} {bs : List Value} {A : World} (h : Lib.IsBuilderF 48 5 B b bs A) (hb : ¬ M b) (hM : ∀ j, M j → ∃ o, A.heap[j]? = some o ∧ NoRow o) : Off M b A := by
  have key : ∀ p, Lib.BuilderAtF 48 5 B b p bs A → Off M b A := by
    rintro p ⟨hB, v, hbk, hown, hne⟩
    refine ⟨hb, fun p' v' hb' g hg h => ?_⟩
    rw [hbk] at hb'
    cases hb'
    rcases hown.2 with ⟨hn, _⟩ | ⟨g', cap, cur, fz, hv, hbg, hg', rest⟩
    · rw [hn] at hg; cases hg
    · rw [hv] at hg
      cases hg
      obtain ⟨o, ho, hr⟩ := hM g' h
      rw [hg'] at ho
      cases ho
      exact hr _ _ rfl
  exact h.elim (key _) (key _)

set_option maxRecDepth 100000 in
set_option maxHeartbeats 4000000 in
theorem print_any (ao : Option Addr) (cap : Nat) (ts : List Tok) (av : Nat → Option Addr × Nat) (w : World) (hT : TokMem w.heap.size w ao ts av) (hU : Tabs w) (hl : EntLaid w) :
    Calls Tryd.prog 6 #[.slice ao ts.length cap] w fun e w' => ((RightT ts ∧ e = .returned (.tuple #[.string ⟨(printT ts).toArray⟩, .int .i64 0])) ∨ (¬ RightT ts ∧ e = .returned (.tuple #[.string ⟨#[]⟩, .int .i64 3]))) ∧ Below w.heap.size w w' := by
  have HT := hide hT
  have HU := hide hU
  have HL := hide hl
  clear hT hU hl
  refine (callsIn_wide (n := 3)).1 ?_
  refine callsIn_of_wp_marks Tryd.func6 rfl trivial ?_ rfl
  simp only [Tryd.ntmps6, List.size_toArray, List.length_cons, List.length_nil, Nat.reduceAdd, Nat.reduceSub, Array.replicate_succ, Array.replicate_zero, List.push_toArray, List.append_toArray, List.nil_append, List.cons_append]
  gi_wp2_with (first | (gi_at_call 14; refine (callsIn_wide.2 (right_any _ _ ts av _ HT.out HU.out)).mono ?_; rintro e wq ⟨⟨hr, rfl⟩ | ⟨hr, rfl⟩, hbq⟩) | (refine ⟨trivial, ?_⟩; gi_at_call 14; refine (callsIn_wide.2 (right_any _ _ ts av _ HT.out HU.out)).mono ?_; rintro e wq ⟨⟨hr, rfl⟩ | ⟨hr, rfl⟩, hbq⟩) | (gi_at_call 21; refine (callsIn_wide.2 (walk_call _ _ _ _)).mono ?_; rintro e w' ⟨rfl, rfl⟩) | (refine ⟨trivial, ?_⟩; gi_at_call 21; refine (callsIn_wide.2 (walk_call _ _ _ _)).mono ?_; rintro e w' ⟨rfl, rfl⟩))
  · obtain ⟨w3, hw3⟩ : ∃ w3, ((wq.alloc (.cells #[.pointer none, .slice none 0 0] 48)).alloc (.cells #[.slice ao ts.length cap] 22)) = w3 := ⟨_, rfl⟩
    have z3 : w3.heap.size = wq.heap.size + 2 := by rw [← hw3]; simp
    have hb3 : Below wq.heap.size wq w3 := by rw [← hw3]; exact ((Below.refl _ wq).alloc (Nat.le_refl _) _).alloc (by simp) _
    have f2 : w3.heap[wq.heap.size + 1]? = some (.cells #[.slice ao ts.length cap] 22) := by
      rw [← hw3]
      have h := World.alloc_heap_new (wq.alloc (.cells #[.pointer none, .slice none 0 0] 48)) (.cells #[.slice ao ts.length cap] 22)
      rwa [World.size_alloc] at h
    have f0 : w3.heap[wq.heap.size]? = some (.cells #[.pointer none, .slice none 0 0] 48) := by
      rw [← hw3]; exact (Below.heap_alloc _ _ _ (by simp)).trans (World.alloc_heap_new wq _)
    have hI0 : Lib.IsBuilderF 48 5 wq.heap.size wq.heap.size (Lib.byteCells (printTo ts 0)) w3 := by
      rw [← hw3]; exact (Lib.IsBuilderF.of (Lib.fresh_isBuilder 48 5 wq)).alloc _
    rw [hw3]
    clear hw3
    have hqs := hbq.size
    have hTq := HT.out.below hbq
    have hb03 : Below w.heap.size w w3 := hbq.trans (hb3.mono hqs)
    have hfits := hr.2.1
    have hlen := HT.out.1
    refine range_own (it := 36) (held := #[.pointer (some ⟨wq.heap.size + 1, 0, none⟩)]) (by omega) rfl trivial rfl (enters_of Tryd.func36 (by kernel_rfl) rfl) (n₀ := w.heap.size) (by omega) (Below.refl _ _)
      (fun b hb => ?hm0) (walk_seq _ (wq.heap.size + 1) w.heap.size ao cap ts av w3 f2 (by omega) (HT.out.below hb03)) (fun _ => rfl)
      (fun M k W => Lib.IsBuilderF 48 5 wq.heap.size wq.heap.size (Lib.byteCells (printTo ts k)) W ∧ Off M wq.heap.size W ∧ Below w.heap.size w W)
      (fun _ _ => False)
      ?hI ?hIx ?h0 (stepO ts av)
      (fun k bs => { tmps := #[.slice ao ts.length cap, undef, .string ⟨#[]⟩, .int .i64 0, .pointer (some ⟨wq.heap.size, 0, none⟩), .pointer (some ⟨bs, 0, none⟩), .slice ao ts.length cap, .bool true, .bool false, .slice ao ts.length cap, .func (.func 36) #[] #[.pointer (some ⟨wq.heap.size + 1, 0, none⟩)], stepV ts av k, undef, undef, undef, undef], defers := [] }) ?assign ?body ?done ?stop
    case hm0 =>
      rcases hb with rfl | hb
      · omega
      · cases hb
    case hI =>
      rintro M M' k A B ⟨i0, i1, i2⟩ hb hc hm
      exact ⟨isb_steady i0 i1 hc, off_steady i0 i1 hc hm, i2.trans hb⟩
    case hIx =>
      rintro k A B h
      exact h.elim
    case h0 =>
      refine ⟨hI0, off_of hI0 (fun h => ?_) (fun j hj => ?_), hb03⟩
      · rcases h with h | h
        · omega
        · cases h
      · rcases hj with rfl | h
        · exact ⟨_, f2, fun c fz e => by cases e⟩
        · cases h
    case assign =>
      intro l k W K hk hK
      obtain ⟨t, ht⟩ : ∃ t, ts[k]? = some t := ⟨ts[k], by simp [hk]⟩
      have hv : stepV ts av k = .agg #[.int .u8 t.kind, .string t.name, .slice (av k).1 t.attrs.length (av k).2, .string t.text, .int .u8 (kindOf ts (k - 1 : Int)), .int .u8 (kindOf ts (k + 1 : Int)), .string ((openAt ts k).getLast?.getD ⟨#[]⟩), .int .i64 (openAt ts k).length, .int .i64 (openAt ts (k + 1)).length] := by simp [stepV, ht]
      have ho : stepO ts av k = .cells #[.int .u8 t.kind, .string t.name, .slice (av k).1 t.attrs.length (av k).2, .string t.text, .int .u8 (kindOf ts (k - 1 : Int)), .int .u8 (kindOf ts (k + 1 : Int)), .string ((openAt ts k).getLast?.getD ⟨#[]⟩), .int .i64 (openAt ts k).length, .int .i64 (openAt ts (k + 1)).length] 57 := by simp [stepO, ht]
      rw [hv, ho] at hK
      rw [hv]
      gi_wp2
      exact hK
    case body =>
      rintro l M k bs W ⟨i0, i1, i2⟩ hk hM hbs hle
      obtain ⟨t, ht⟩ : ∃ t, ts[k]? = some t := ⟨ts[k], by simp [hk]⟩
      have hv : stepV ts av k = .agg #[.int .u8 t.kind, .string t.name, .slice (av k).1 t.attrs.length (av k).2, .string t.text, .int .u8 (kindOf ts (k - 1 : Int)), .int .u8 (kindOf ts (k + 1 : Int)), .string ((openAt ts k).getLast?.getD ⟨#[]⟩), .int .i64 (openAt ts k).length, .int .i64 (openAt ts (k + 1)).length] := by simp [stepV, ht]
      have ho : stepO ts av k = .cells #[.int .u8 t.kind, .string t.name, .slice (av k).1 t.attrs.length (av k).2, .string t.text, .int .u8 (kindOf ts (k - 1 : Int)), .int .u8 (kindOf ts (k + 1 : Int)), .string ((openAt ts k).getLast?.getD ⟨#[]⟩), .int .i64 (openAt ts k).length, .int .i64 (openAt ts (k + 1)).length] 57 := by simp [stepO, ht]
      rw [ho] at hbs
      obtain ⟨s0, s1, s2, s3, s4, s5, s6, s7, s8, sf⟩ := cells9 hbs
      obtain ⟨x1, x2, x3, x4, x5, _⟩ := (HT.out.below i2).2 k t ht
      have hc := print_step w.heap.size av ts k t ht W x4 i2.size (HL.out.below i2 HL.out.size) (few_of hfits ht)
      rw [hv] at hc
      have hsz : (⟨(tokT t (kindOf ts (k - 1 : Int)) (kindOf ts (k + 1 : Int))).toArray⟩ : ByteArray).size ≤ 70000 := by
        show (tokT t (kindOf ts (k - 1 : Int)) (kindOf ts (k + 1 : Int))).toArray.size ≤ 70000
        rw [List.size_toArray]
        exact tokT_le (few_of hfits ht) _ _
      obtain ⟨tx, htx⟩ : ∃ tx : ByteArray, ⟨(tokT t (kindOf ts (k - 1 : Int)) (kindOf ts (k + 1 : Int))).toArray⟩ = tx := ⟨_, rfl⟩
      rw [htx] at hc hsz
      have hpl := printTo_le hfits k
      have hk64 : k < 64 := by have := hr.1; omega
      have HC := hide hc
      have HI := hide (And.intro i0 (And.intro i1 (And.intro i2 (And.intro hM htx))))
      have hwq : wq.heap.size < W.heap.size := by
        rcases i0 with ⟨_, v, h, _⟩ | ⟨_, v, h, _⟩ <;> exact (Array.getElem?_eq_some_iff.1 h).1
      clear x4 i0 i1 i2 hM hbs hc htx
      rw [hv]
      gi_wp2_with (first | (gi_at_call 23; refine (CallsIn.inRound l (callsIn_wide.2 HC.out)).mono ?_; rintro e w4 ⟨rfl, hb4⟩) | (refine ⟨trivial, ?_⟩; gi_at_call 23; refine (CallsIn.inRound l (callsIn_wide.2 HC.out)).mono ?_; rintro e w4 ⟨rfl, hb4⟩) | (gi_at_call 22; refine (CallsIn.inRound l (callsIn_wide.2 (writeL wq.heap.size wq.heap.size _ tx _ (isb_below HI.out.1 hb4) (by omega) (by have := hb4.size; omega)))).mono ?_; rintro e w5 ⟨rfl, hI5, hb5, hk5⟩) | (refine ⟨trivial, ?_⟩; gi_at_call 22; refine (CallsIn.inRound l (callsIn_wide.2 (writeL wq.heap.size wq.heap.size _ tx _ (isb_below HI.out.1 hb4) (by omega) (by have := hb4.size; omega)))).mono ?_; rintro e w5 ⟨rfl, hI5, hb5, hk5⟩))
      have hs4 := hb4.size
      have hMl : ∀ j, M j → j ≠ wq.heap.size ∧ ∃ o, W.heap[j]? = some o ∧ w5.heap[j]? = some o ∧ NoRow o := fun j hj => by
        obtain ⟨_, _, o, ho, hr⟩ := HI.out.2.2.2.1 j hj
        have hne : j ≠ wq.heap.size := fun e => HI.out.2.1.1 (e ▸ hj)
        exact ⟨hne, o, ho, hk5 j o ((hb4.block j (Array.getElem?_eq_some_iff.1 ho).1).trans ho) (by simpa using hne) hr, hr⟩
      have hI6 : Lib.IsBuilderF 48 5 wq.heap.size wq.heap.size (Lib.byteCells (printTo ts (k + 1))) w5 := by
        rw [printTo_succ ht]
        have h := hI5
        rw [← HI.out.2.2.2.2] at h
        exact h
      refine ⟨⟨Nat.le_trans hs4 hb5.size, fun j o hj ho hc => hk5 j o ((hb4.block j (Array.getElem?_eq_some_iff.1 ho).1).trans ho) (by simp; omega) (fun c fz e => by rw [e] at hc; cases hc)⟩, fun j hj => ?_, (hb4.mono HI.out.2.2.1.size).trans (hb5.mono hqs), hI6, off_of hI6 HI.out.2.1.1 (fun j hj => ?_), (HI.out.2.2.1.trans (hb4.mono HI.out.2.2.1.size)).trans (hb5.mono hqs)⟩
      · obtain ⟨_, o, ho, h5, _⟩ := hMl j hj
        rw [h5, ho]
      · obtain ⟨_, o, _, h5, hr⟩ := hMl j hj
        exact ⟨o, h5, hr⟩
    case done =>
      rintro D M W hD ⟨i0, i1, i2⟩ hK
      have HI := hide (And.intro i0 (And.intro i2 hK))
      clear i0 i1 i2 hK
      gi_wp2_with fail
      have hwq : wq.heap.size < W.heap.size := by
        rcases HI.out.1 with ⟨_, v, h, _⟩ | ⟨_, v, h, _⟩ <;> exact (Array.getElem?_eq_some_iff.1 h).1
      refine ⟨trivial, (callsIn_wide.2 (builderString wq.heap.size wq.heap.size _ _ HI.out.1 (by omega))).mono ?_⟩
      rintro e w6 ⟨rfl, _, hb6, hk6⟩
      have hK6 := hk6 D _ HI.out.2.2 (by simp; omega) (fun c fz e => by cases e)
      gi_wp2_with fail
      refine ⟨by simp, .inl ⟨_, _, rfl, run_takeDeferred hK6, ?_⟩⟩
      exact ⟨_, results_tmp2 rfl _ _ _, .inl ⟨hr, rfl⟩, (HI.out.2.1.trans (hb6.mono hqs)).trans (below_put _ _ (by omega))⟩
    case stop =>
      rintro D k W hD hk h
      exact h.elim
  · exact ⟨_, results_tmp2 rfl _ _ _, .inr ⟨hr, rfl⟩, hbq⟩
end Go.Proofs.YthmidlmknkbdaaaDoor
