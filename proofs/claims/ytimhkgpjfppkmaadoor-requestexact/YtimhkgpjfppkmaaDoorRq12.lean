/- A payload is read: Decode. -/
import Derived.Test.YtimhkgpjfppkmaaDoorRq11
import Derived.Test.YtimhkgpjfppkmaaDoorRq7
import Derived.Test.YtimhkgpjfppkmaaDoorSame
namespace Go.Proofs.YtimhkgpjfppkmaaDoor
open Go.RowKit Go.Shelf

theorem tok_raise {n₀ n₁ : Nat} {w : World} {ao : Option Addr} {ts : List Tok} {av : Nat → Option Addr × Nat} (h : TokMem n₀ w ao ts av) (hn : n₀ ≤ n₁) : TokMem n₁ w ao ts av :=
  ⟨h.1, fun k t hk => by
    obtain ⟨a1, a2, a3, a4, a5, b, off, e, hb, c⟩ := h.2 k t hk
    exact ⟨a1, a2, a3, attrMem_raise a4 hn, a5, b, off, e, Nat.lt_of_lt_of_le hb hn, c⟩⟩
theorem results_rc {fn : Func} {tmps : Array Value} {w : World} {r : Nat} {x : Rq} {z : Value} (h : fn.results = #[.cell 2 26, .tmp 3]) (hp : tmps[2]?.getD undef = .pointer (some ⟨r, 0, none⟩)) (hz : tmps[3]?.getD undef = z) (hb : w.heap[r]? = some (.cells (rqA x) 26)) : (results fn tmps).run Tryd.prog w = .ok (.tuple #[.agg (rqA x), z]) w := by
  obtain ⟨c0, c1, c2, c3, c4, c5, c6, c7, c8, c9, c10⟩ := rq_box hb
  unfold rqA
  simp [results, h, hp, hz, c0, c1, c2, c3, c4, c5, c6, c7, c8, c9, c10, go_sem, Tryd.isAgg26, Tryd.sizeOf26]
/-- How Decode ends: with the right request whose payload it is, or an error. -/
def DecR (ts : List Tok) (e : Ending) : Prop := (∃ r, RightRq r ∧ encT r = ts ∧ RqFits r ∧ e = .returned (.tuple #[.agg (rqA r), .int .i64 0])) ∨ ((∀ r, RightRq r → encT r ≠ ts) ∧ e = .returned (.tuple #[.agg (rqA zeroRq), .int .i64 3]))
set_option maxRecDepth 100000 in
set_option maxHeartbeats 4000000 in
theorem decode_any (ao : Option Addr) (cap : Nat) (ts : List Tok) (av : Nat → Option Addr × Nat) (w : World) (hT : TokMem w.heap.size w ao ts av) (hsz : ∀ t ∈ ts, ∀ a ∈ t.attrs, a.2.size ≤ 281474976710656) (hG : GlbR w) :
    Calls Tryd.prog 8 #[.slice ao ts.length cap] w fun e w' => DecR ts e ∧ Below w.heap.size w w' := by
  obtain ⟨W0, hW0⟩ : ∃ W0, w.alloc (.cells (rqA zeroRq) 26) = W0 := ⟨_, rfl⟩
  have b0 : Below w.heap.size w W0 := by rw [← hW0]; exact (Below.refl _ w).alloc (Nat.le_refl _) _
  have f0 : W0.heap[w.heap.size]? = some (.cells (rqA zeroRq) 26) := by rw [← hW0]; exact World.alloc_heap_new _ _
  have hW0z : w.alloc (.cells #[.int .u8 0, .string ⟨#[]⟩, .string ⟨#[]⟩, .string ⟨#[]⟩, .int .u8 0, .int .u8 0, .int .i64 0, .int .i64 0, .string ⟨#[]⟩, .bool false, .string ⟨#[]⟩] 26) = W0 := hW0
  have hT0 : TokMem W0.heap.size W0 ao ts av := tok_raise (hT.below b0) b0.size
  obtain ⟨n, hn⟩ : ∃ n, ts.length = n := ⟨_, rfl⟩
  have HRd := hide (read_any ao cap ts av W0 hT0 hsz (hG.below b0).nums)
  rw [hn] at HRd ⊢
  have HT := hide (And.intro hT0 (And.intro (hG.below b0) hn))
  have H0 := hide (And.intro f0 b0)
  clear hT hsz hG hT0 f0 b0 hW0 hn
  go_enter Tryd.func8, Tryd.ntmps8
  go_wp2_with fail
  refine HRd.out.mono ?_
  rintro e w1 ⟨⟨r, rfl, hRd, hfit⟩, b1⟩
  obtain ⟨W2, hW2⟩ : ∃ W, w1.alloc (.cells (rqA r) 26) = W := ⟨_, rfl⟩
  have b2 : Below w1.heap.size w1 W2 := by rw [← hW2]; exact (Below.refl _ w1).alloc (Nat.le_refl _) _
  have f2 : W2.heap[w1.heap.size]? = some (.cells (rqA r) 26) := by rw [← hW2]; exact World.alloc_heap_new _ _
  have b02 := b1.trans (b2.mono b1.size)
  have z2 := (b02.block _ (Array.getElem?_eq_some_iff.1 H0.out.1).1).trans H0.out.1
  have HE := hide (encode_any r W2 hfit (HT.out.2.1.below b02))
  have H2 := hide (And.intro f2 (And.intro z2 (And.intro (H0.out.2.trans (b02.mono H0.out.2.size)) (And.intro (tok_raise (HT.out.1.below b02) b02.size) (And.intro hRd hfit)))))
  have HF2 := hide f2
  have hlit : (rqA r : Array Value) = #[.int .u8 r.verb, .string r.node, .string r.item, .string r.jid, .int .u8 r.role, .int .u8 r.acc, .int .i64 r.max, .int .i64 r.depth, .string r.parent, .bool r.coll, .string r.text] := rfl
  have hW2' := hW2
  rw [hlit] at hW2' ⊢
  clear hlit b1 b2 f2 b02 z2 hRd hfit hW2 HRd
  go_wp2_with (refine l_load _ (load_rq HF2.out) rfl rfl rfl ?_)
  refine HE.out.mono ?_
  rintro e w3 ⟨⟨hr, v, l, rfl, hl, hER⟩ | ⟨hr, rfl⟩, b3⟩
  · obtain ⟨ao4, cap4, rfl, hT4⟩ := tokMem_own hER (by have h := congrArg List.length hl; rw [List.length_map] at h; rw [h]; unfold encT elemT charsT; split <;> simp)
    rw [hl] at hT4
    have hn4 : l.length = (encT r).length := by rw [← hl, List.length_map]
    rw [hn4]
    obtain ⟨m, hm⟩ : ∃ m, (encT r).length = m := ⟨_, rfl⟩
    have HS := hide (same_any ao4 ao cap4 cap (encT r) ts (avOf l) av w3 hT4 (tok_raise (H2.out.2.2.2.1.below b3) b3.size))
    rw [hm, HT.out.2.2] at HS
    rw [hm]
    have f4 := (b3.block _ (Array.getElem?_eq_some_iff.1 H2.out.1).1).trans H2.out.1
    have z4 := (b3.block _ (Array.getElem?_eq_some_iff.1 H2.out.2.1).1).trans H2.out.2.1
    have B4 : Below w.heap.size w w3 := H2.out.2.2.1.trans (b3.mono H2.out.2.2.1.size)
    have H3 := hide (And.intro f4 (And.intro z4 (And.intro B4 hr)))
    clear hT4 hl hER hn4 hm f4 z4 B4 b3 hr HE
    go_wp2_with fail
    refine HS.out.mono ?_
    rintro e w4 ⟨⟨hq, rfl⟩ | ⟨hq, rfl⟩, b4⟩
    · have f4 := (b4.block _ (Array.getElem?_eq_some_iff.1 H3.out.1).1).trans H3.out.1
      have z4 := (b4.block _ (Array.getElem?_eq_some_iff.1 H3.out.2.1).1).trans H3.out.2.1
      have B4 : Below w.heap.size w w4 := H3.out.2.2.1.trans (b4.mono H3.out.2.2.1.size)
      have H4 := hide (And.intro f4 (And.intro z4 B4))
      have HQ := hide hq
      have HF4 := hide f4
      clear f4 z4 B4 b4 hq HS
      go_wp2_with (refine l_load _ (load_rq HF4.out) rfl rfl rfl ?_; refine stopR ?_)
      unfold Hid
      refine l_store _ (setRq_run r H4.out.2.1) rfl rfl rfl rfl ?_
      go_wp2_with fail
      exact bodyPost_ret (results_rc rfl rfl rfl (setRq_heap r H4.out.2.1)) rfl ⟨.inl ⟨r, H3.out.2.2.2, HQ.out, H2.out.2.2.2.2.2, rfl⟩, setRq_below r H4.out.2.2 (Nat.le_refl _)⟩
    · have f4 := (b4.block _ (Array.getElem?_eq_some_iff.1 H3.out.1).1).trans H3.out.1
      have z4 := (b4.block _ (Array.getElem?_eq_some_iff.1 H3.out.2.1).1).trans H3.out.2.1
      have B4 : Below w.heap.size w w4 := H3.out.2.2.1.trans (b4.mono H3.out.2.2.1.size)
      have H4 := hide (And.intro f4 (And.intro z4 B4))
      have HQ := hide hq
      clear f4 z4 B4 b4 hq HS
      go_wp2_with (refine l_val rfl _ (ex_bldZ rfl) ?_; refine stopR ?_)
      unfold Hid
      refine l_store _ (setRq_run zeroRq H4.out.2.1) rfl rfl rfl rfl ?_
      go_wp2_with fail
      refine bodyPost_ret (results_rc rfl rfl rfl (setRq_heap zeroRq H4.out.2.1)) rfl ⟨.inr ⟨fun r' hr' e => ?_, rfl⟩, setRq_below zeroRq H4.out.2.2 (Nat.le_refl _)⟩
      have hk := H2.out.2.2.2.2.1
      rw [← e] at hk
      have e2 := read_back hr' hk
      exact HQ.out (by rw [e2]; exact e)
  · have f4 := (b3.block _ (Array.getElem?_eq_some_iff.1 H2.out.1).1).trans H2.out.1
    have z4 := (b3.block _ (Array.getElem?_eq_some_iff.1 H2.out.2.1).1).trans H2.out.2.1
    have B4 : Below w.heap.size w w3 := H2.out.2.2.1.trans (b3.mono H2.out.2.2.1.size)
    have H4 := hide (And.intro f4 (And.intro z4 B4))
    have HNr := hide hr
    clear f4 z4 B4 b3 hr HE
    go_wp2_with (refine l_val rfl _ (ex_bldZ rfl) ?_; refine stopR ?_)
    unfold Hid
    refine l_store _ (setRq_run zeroRq H4.out.2.1) rfl rfl rfl rfl ?_
    go_wp2_with fail
    refine bodyPost_ret (results_rc rfl rfl rfl (setRq_heap zeroRq H4.out.2.1)) rfl ⟨.inr ⟨fun r' hr' e => ?_, rfl⟩, setRq_below zeroRq H4.out.2.2 (Nat.le_refl _)⟩
    have hk := H2.out.2.2.2.2.1
    rw [← e] at hk
    have e2 := read_back hr' hk
    exact HNr.out (by rw [e2]; exact hr')
end Go.Proofs.YtimhkgpjfppkmaaDoor
