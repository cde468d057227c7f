/- A node at which somebody publishes. A node of which an owner says who may subscribe, and how many items are kept. A subscription is looked up; items are taken out. Who may read. -/
import Derived.Test.YtffjmkngdjbjlaaDoorNe4
namespace Go.Proofs.YtffjmkngdjbjlaaDoor
open Go.RowKit

theorem refuseN_any (c : Int) (w : World) : Calls Tryd.prog 38 #[.int .i64 c] w fun e w' => e = .returned (.tuple #[.agg (ndA noN noW), .int .i64 c]) ∧ Below w.heap.size w w' := refuse_any c w
/-- Lists of a call's own. -/
def Own (w : World) (u : NdW) : Prop := (∀ a, u.aa = some a → w.heap.size ≤ a.block) ∧ (∀ a, u.sa = some a → w.heap.size ≤ a.block) ∧ ∀ a, u.ia = some a → w.heap.size ≤ a.block
/-- What an edit answers: a node that stands there, and a condition. -/
def EditR (w : World) (C : Nd → Int → Prop) (e : Ending) (w' : World) : Prop := ∃ m u c, e = .returned (.tuple #[.agg (ndA m u), .int .i64 c]) ∧ C m c ∧ NdM w'.heap.size w' m u ∧ Below w.heap.size w w' ∧ Own w u
/-- The boxes of an edit: the node's, the result's, behind the argument. -/
theorem boxes (w : World) (n : Nd) (v : NdW) : ∃ W, (w.alloc (.cells (ndA n v) 28)).alloc (.cells (ndA noN noW) 28) = W ∧ W.heap[w.heap.size]? = some (.cells (ndA n v) 28) ∧ W.heap[w.heap.size + 1]? = some (.cells (ndA noN noW) 28) ∧ Below w.heap.size w W ∧ W.heap.size = w.heap.size + 1 + 1 := by
  obtain ⟨Wa, hWa⟩ : ∃ Wa, w.alloc (.cells (ndA n v) 28) = Wa := ⟨_, rfl⟩
  have fa := World.alloc_heap_new w (.cells (ndA n v) 28)
  have ba : Below w.heap.size w Wa := by rw [← hWa]; exact (Below.refl _ w).alloc (Nat.le_refl _) _
  have za : Wa.heap.size = w.heap.size + 1 := by rw [← hWa]; simp
  rw [hWa] at fa ⊢
  obtain ⟨Wb, hWb⟩ : ∃ Wb, Wa.alloc (.cells (ndA noN noW) 28) = Wb := ⟨_, rfl⟩
  have fb := World.alloc_heap_new Wa (.cells (ndA noN noW) 28)
  have bb : Below Wa.heap.size Wa Wb := by rw [← hWb]; exact (Below.refl _ Wa).alloc (Nat.le_refl _) _
  have zb : Wb.heap.size = w.heap.size + 1 + 1 := by rw [← hWb, World.size_alloc, za]
  rw [hWb, za] at fb
  rw [hWb]
  exact ⟨Wb, rfl, (bb.block _ (by omega)).trans fa, fb, ba.trans (bb.mono ba.size), zb⟩
/-- How the boxes stand. -/
structure Bx (w : World) (n : Nd) (u : NdW) (W : World) : Prop where
  a : W.heap[w.heap.size]? = some (.cells (ndA n u) 28)
  r : ∃ m x, W.heap[w.heap.size + 1]? = some (.cells (ndA m x) 28)
  mem : NdM W.heap.size W n u
  bel : Below w.heap.size w W
  size : w.heap.size + 2 ≤ W.heap.size
theorem Bx.call {w W W' : World} {n : Nd} {u : NdW} (h : Bx w n u W) (hb : Below W.heap.size W W') : Bx w n u W' := by
  obtain ⟨m, x, hr⟩ := h.r
  have hs := h.size
  have hz := hb.size
  exact ⟨(hb.block _ (by omega)).trans h.a, ⟨m, x, (hb.block _ (by omega)).trans hr⟩, h.mem.move hb, h.bel.trans (hb.mono (by omega)), by omega⟩
/-- The node's box is written. -/
theorem Bx.put {w W : World} {n m : Nd} {u x : NdW} (h : Bx w n u W) (hm : NdM W.heap.size W m x) (hf : (∀ a, x.aa = some a → a.block ≠ w.heap.size) ∧ (∀ a, x.sa = some a → a.block ≠ w.heap.size) ∧ ∀ a, x.ia = some a → a.block ≠ w.heap.size) : Bx w m x (setNd W w.heap.size m x) := by
  obtain ⟨m', x', hr⟩ := h.r
  exact ⟨setNd_heap h.a, ⟨m', x', (setNd_far _ (by omega)).trans hr⟩, ndM_far hm setNd_size setNd_far hf, setNd_below h.bel (Nat.le_refl _), by rw [setNd_size]; exact h.size⟩
theorem refuse_run {w W : World} {n : Nd} {u : NdW} {c : Int} {r d : Nat} {fn : Func} {tmps : Array Value} (h : Bx w n u W) (hres : fn.results = #[.cell r 28, .tmp d]) (hp : tmps[r]?.getD undef = .pointer (some ⟨w.heap.size + 1, 0, none⟩)) (hz : tmps[d]?.getD undef = .int .i64 c) : (results fn tmps).run Tryd.prog (setNd W (w.heap.size + 1) noN noW) = .ok (.tuple #[.agg (ndA noN noW), .int .i64 c]) (setNd W (w.heap.size + 1) noN noW) := by
  obtain ⟨m', x', hr⟩ := h.r
  exact results_nc hres hp hz (setNd_heap hr)
/-- Lists that lie behind the boxes. -/
def Far (w : World) (u : NdW) : Prop := (∀ a, u.aa = some a → w.heap.size + 2 ≤ a.block) ∧ (∀ a, u.sa = some a → w.heap.size + 2 ≤ a.block) ∧ ∀ a, u.ia = some a → w.heap.size + 2 ≤ a.block
theorem Far.res {w : World} {u : NdW} (h : Far w u) : (∀ a, u.aa = some a → a.block ≠ w.heap.size + 1) ∧ (∀ a, u.sa = some a → a.block ≠ w.heap.size + 1) ∧ ∀ a, u.ia = some a → a.block ≠ w.heap.size + 1 :=
  ⟨fun a e => by have := h.1 a e; omega, fun a e => by have := h.2.1 a e; omega, fun a e => by have := h.2.2 a e; omega⟩
theorem refuse_ed {w W : World} {n : Nd} {u : NdW} {C : Nd → Int → Prop} {c : Int} (h : Bx w n u W) (hC : C noN c) : EditR w C (.returned (.tuple #[.agg (ndA noN noW), .int .i64 c])) (setNd W (w.heap.size + 1) noN noW) :=
  ⟨noN, noW, c, rfl, hC, noN_mem _, setNd_below h.bel (by omega), ⟨fun a e => (by cases e), fun a e => (by cases e), fun a e => (by cases e)⟩⟩
theorem done_run {w W : World} {n : Nd} {u : NdW} {r d : Nat} {fn : Func} {tmps : Array Value} (h : Bx w n u W) (hres : fn.results = #[.cell r 28, .tmp d]) (hp : tmps[r]?.getD undef = .pointer (some ⟨w.heap.size + 1, 0, none⟩)) (hz : tmps[d]?.getD undef = .int .i64 0) : (results fn tmps).run Tryd.prog (setNd W (w.heap.size + 1) n u) = .ok (.tuple #[.agg (ndA n u), .int .i64 0]) (setNd W (w.heap.size + 1) n u) := by
  obtain ⟨m', x', hr⟩ := h.r
  exact results_nc hres hp hz (setNd_heap hr)
theorem done_ed {w W : World} {n : Nd} {u : NdW} {C : Nd → Int → Prop} (h : Bx w n u W) (hC : C n 0) (hf : Far w u) : EditR w C (.returned (.tuple #[.agg (ndA n u), .int .i64 0])) (setNd W (w.heap.size + 1) n u) :=
  ⟨n, u, 0, rfl, hC, ndM_far h.mem setNd_size setNd_far hf.res, setNd_below h.bel (by omega), ⟨fun a e => by have := hf.1 a e; omega, fun a e => by have := hf.2.1 a e; omega, fun a e => by have := hf.2.2 a e; omega⟩⟩
theorem ndM_one {w W : World} {n : Nd} {u : NdW} {i : Nat} {v : Value} (hm : NdM W.heap.size W n u) (hf : Far w u) : NdM (W.setCell ⟨w.heap.size, i, none⟩ v).heap.size (W.setCell ⟨w.heap.size, i, none⟩ v) n u :=
  ndM_far (r := w.heap.size) hm (size_set _ _ _) (fun k hk => set_blk _ _ _ _ hk) ⟨fun a e => by have := hf.1 a e; omega, fun a e => by have := hf.2.1 a e; omega, fun a e => by have := hf.2.2 a e; omega⟩
theorem Bx.setItems {w W : World} {n : Nd} {u : NdW} (h : Bx w n u W) (hf : Far w u) {ia : Option Addr} {ic : Nat} {L : List (ByteArray × ByteArray × ByteArray)} (hm : ItMem W.heap.size W ia L) (hl : L.length ≤ ic) (hfit : ∀ x ∈ L, Fits x.1 ∧ Fits x.2.1 ∧ Fits x.2.2) (hia : ∀ a, ia = some a → w.heap.size + 2 ≤ a.block) :
    Bx w { n with items := L } { u with ia := ia, ic := ic } (W.setCell ⟨w.heap.size, 6, none⟩ (.slice ia L.length ic)) ∧ Far w { u with ia := ia, ic := ic } := by
  obtain ⟨m', x', hr⟩ := h.r
  have hm1 := ndM_one (i := 6) (v := .slice ia L.length ic) h.mem hf
  have hm2 : NdM W.heap.size W { n with items := L } { u with ia := ia, ic := ic } := ⟨h.mem.ok, hm, hl, ⟨h.mem.fits.name, h.mem.fits.parent, h.mem.fits.affs, h.mem.fits.subs, hfit⟩⟩
  have hf2 : Far w { u with ia := ia, ic := ic } := ⟨hf.1, hf.2.1, hia⟩
  have hh := heap_setk (i := 6) (v := .slice ia L.length ic) h.a
  refine ⟨⟨hh, ⟨m', x', (set_blk _ _ _ _ (by simp)).trans hr⟩, ndM_one hm2 hf2, h.bel.setCell (p := ⟨w.heap.size, 6, none⟩) (Nat.le_refl _) _, by rw [size_set]; exact h.size⟩, hf2⟩
theorem Bx.setSubs {w W : World} {n : Nd} {u : NdW} (h : Bx w n u W) (hf : Far w u) {sa : Option Addr} {sc : Nat} {L : List (ByteArray × Bool × Int)} (hm : SubMem W.heap.size W sa L) (hl : L.length ≤ sc) (hfit : ∀ x ∈ L, Fits x.1) (hsa : ∀ a, sa = some a → w.heap.size + 2 ≤ a.block) :
    Bx w { n with subs := L } { u with sa := sa, sc := sc } (W.setCell ⟨w.heap.size, 5, none⟩ (.slice sa L.length sc)) ∧ Far w { u with sa := sa, sc := sc } := by
  obtain ⟨m', x', hr⟩ := h.r
  have hm2 : NdM W.heap.size W { n with subs := L } { u with sa := sa, sc := sc } := ⟨⟨h.mem.ok.1, hm, h.mem.ok.2.2.1, hl⟩, h.mem.it, h.mem.ic, ⟨h.mem.fits.name, h.mem.fits.parent, h.mem.fits.affs, hfit, h.mem.fits.items⟩⟩
  have hf2 : Far w { u with sa := sa, sc := sc } := ⟨hf.1, hsa, hf.2.2⟩
  have hh := heap_setk (i := 5) (v := .slice sa L.length sc) h.a
  refine ⟨⟨hh, ⟨m', x', (set_blk _ _ _ _ (by simp)).trans hr⟩, ndM_one hm2 hf2, h.bel.setCell (p := ⟨w.heap.size, 5, none⟩) (Nat.le_refl _) _, by rw [size_set]; exact h.size⟩, hf2⟩
theorem max_right {n : Nd} (h : RightN n) : 0 ≤ n.max ∧ n.max ≤ 8 := by
  have := h.2.2.1
  unfold maxOk at this
  split at this
  · have := of_decide_eq_true this; omega
  · exact of_decide_eq_true this
theorem items_right {n : Nd} (h : RightN n) : n.items.length ≤ 8 := by
  have h1 := h.2.2.2.2.2.2.1
  have h2 := max_right h
  omega
theorem hm_items {k : Nat} {w : World} {n : Nd} {u : NdW} (h : NdM k w n u) : n.items.length ≤ 1000000 := h.it.1
theorem bar_right {n : Nd} {s : ByteArray} {l : Nat} (h : BarC n s l 0) : RightN n := by
  rcases h with ⟨_, h⟩ | ⟨_, _, h⟩ | ⟨_, _, _, h⟩ | ⟨h, _⟩
  · cases h
  · cases h
  · cases h
  · exact h
/-- The node behind a publication. -/
def pubN (n : Nd) (s item body : ByteArray) : Nd := { n with items := lastL (woItem item n.items ++ [(item, s, body)]) n.max.toNat }
def PubC (n : Nd) (s item body : ByteArray) (m : Nd) (c : Int) : Prop := (c ≠ 0 ∧ BarC n s 4 c ∧ m = noN) ∨ (BarC n s 4 0 ∧ ¬ (nameOk item = true ∧ BodyOk body) ∧ c = 1 ∧ m = noN) ∨ (BarC n s 4 0 ∧ nameOk item = true ∧ BodyOk body ∧ c = 0 ∧ m = pubN n s item body)
set_option maxRecDepth 100000 in
set_option maxHeartbeats 4000000 in
theorem publish_any (n : Nd) (v : NdW) (s item body : ByteArray) (w : World) (hm : NdM w.heap.size w n v) (hg : Glob w) (hs : Fits s) (hi : Fits item) (hb : Fits body) :
    Calls Tryd.prog 17 #[.agg (ndA n v), .string s, .string item, .string body] w fun e w' => EditR w (PubC n s item body) e w' := by
  obtain ⟨W, hW, fa, fr, bw, zw⟩ := boxes w n v
  have bx : Bx w n v W := ⟨fa, ⟨_, _, fr⟩, hm.move bw, bw, by omega⟩
  have HB := hide (barred_any n v s 4 W bx.mem (hg.below bw))
  have HX := hide bx
  have HW := hide hW
  have HG := hide hg
  have HF := hide (And.intro hs (And.intro hi hb))
  rw [← hW] at HB
  have HA := hide fa
  rw [← hW] at HA
  have hZ : (ndA noN noW : Array Value) = #[.string ⟨#[]⟩, .bool false, .int .u8 0, .int .i64 0, .slice none 0 0, .slice none 0 0, .slice none 0 0, .string ⟨#[]⟩] := rfl
  rw [hZ] at HB HA
  clear hm hg hs hi hb hW fa fr bw zw bx hZ
  obtain ⟨C, hC⟩ : ∃ C, PubC n s item body = C := ⟨_, rfl⟩
  rw [hC]
  have HC := hide hC
  clear hC
  go_enter Tryd.func17, Tryd.ntmps17
  go_wp2_with (refine l_load _ (load_nd HA.out) rfl rfl rfl ?_)
  refine HB.out.mono ?_
  rintro e w1 ⟨⟨c, rfl, hc⟩, b1⟩
  have x1 : Bx w n v w1 := by
    have h := HW.out
    change _ = W at h
    have b1' : Below W.heap.size W w1 := by
      rw [← h]
      exact b1
    exact HX.out.call b1'
  have H1 := hide (And.intro x1 hc)
  clear x1 hc b1 HB HA
  by_cases h0 : c = 0
  · subst h0
    have HN := hide (name_any item w1 (by have := HF.out.2.1; unfold Fits at this; omega))
    obtain ⟨pn, hpn⟩ : ∃ pn, nameOk item = pn := ⟨_, rfl⟩
    rw [hpn] at HN
    have HPN := hide hpn
    clear hpn
    go_wp2_with fail
    refine HN.out.mono ?_
    rintro e w2 ⟨rfl, hw2⟩
    rw [hw2]
    clear hw2
    cases pn with
    | false =>
      have HC2 := hide (show C noN 1 by rw [← HC.out]; exact .inr (.inl ⟨H1.out.2, fun h => (by rw [HPN.out] at h; cases h.1), rfl, rfl⟩))
      have HRf := hide (refuseN_any 1 w1)
      go_wp2_with fail
      refine HRf.out.mono ?_
      rintro e w2 ⟨rfl, b2⟩
      have x2 := hide (H1.out.1.call b2)
      clear b2
      obtain ⟨m', x', hr⟩ := x2.out.r
      have HR := hide hr
      clear hr
      go_wp2_with (refine l_store _ (store_nd (n := noN) (u := noW) HR.out) rfl rfl rfl rfl ?_)
      exact bodyPost_ret (refuse_run x2.out rfl rfl rfl) rfl (refuse_ed x2.out HC2.out)
    | true =>
      have HBo := hide (isBody_any body w1 HF.out.2.2 (HG.out.below H1.out.1.bel))
      go_wp2_with fail
      refine HBo.out.mono ?_
      rintro e w2 ⟨⟨pb, rfl, hpb⟩, b2⟩
      have x2 := hide (H1.out.1.call b2)
      have HPB := hide hpb
      clear b2 hpb
      cases pb with
      | false =>
        have HC2 := hide (show C noN 1 by rw [← HC.out]; exact .inr (.inl ⟨H1.out.2, fun h => (by have := HPB.out.2 h.2; cases this), rfl, rfl⟩))
        have HRf := hide (refuseN_any 1 w2)
        go_wp2_with fail
        refine HRf.out.mono ?_
        rintro e w3 ⟨rfl, b3⟩
        have x3 := hide (x2.out.call b3)
        clear b3
        obtain ⟨m', x', hr⟩ := x3.out.r
        have HR := hide hr
        clear hr
        go_wp2_with (refine l_store _ (store_nd (n := noN) (u := noW) HR.out) rfl rfl rfl rfl ?_)
        exact bodyPost_ret (refuse_run x3.out rfl rfl rfl) rfl (refuse_ed x3.out HC2.out)
      | true =>
        have HBT := hide (HPB.out.1 rfl)
        have HFr := hide (fresh_any n v w2 x2.out.mem)
        go_wp2_with (refine l_load _ (load_nd x2.out.a) rfl rfl rfl ?_)
        refine HFr.out.mono ?_
        rintro e w3 ⟨u, rfl, hu, hfar, b3⟩
        have x3a := x2.out.call b3
        have hz2 := x2.out.size
        have x3 := x3a.put hu ⟨fun a e => by have := hfar.1 a e; omega, fun a e => by have := hfar.2.1 a e; omega, fun a e => by have := hfar.2.2 a e; omega⟩
        have HFar := hide (show Far w u from ⟨fun a e => by have := hfar.1 a e; omega, fun a e => by have := hfar.2.1 a e; omega, fun a e => by have := hfar.2.2 a e; omega⟩)
        have X3 := hide x3
        have HA3 := hide x3a.a
        clear hu hfar b3 x3a x3 hz2
        go_wp2_with (refine l_store _ (store_nd (n := n) (u := u) HA3.out) rfl rfl rfl rfl ?_; refine stopNd ?_)
        unfold Hid
        obtain ⟨W3, hW3⟩ : ∃ W3, setNd w3 w.heap.size n u = W3 := ⟨_, rfl⟩
        rw [hW3] at X3 ⊢
        clear hW3 HA3
        have c3 := (nd_box X3.out.a).2.2.2.1
        have c6 := (nd_box X3.out.a).2.2.2.2.2.2.1
        have HWo := hide (without_i u.ia u.ic n.items item W3 X3.out.mem.it)
        go_wp2_with fail
        refine HWo.out.mono ?_
        rintro e w4 ⟨v4, rfl, hown4, b4⟩
        have X4 := hide (X3.out.call b4)
        have hnl := items_right (bar_right H1.out.2)
        have H4 := hide (And.intro hown4 b4)
        obtain ⟨mx, hmx⟩ : ∃ mx : Nat, n.max = mx := ⟨n.max.toNat, by have := max_right (bar_right H1.out.2); omega⟩
        have hmx8 : mx ≤ 1000000 := by have := max_right (bar_right H1.out.2); omega
        have HMX := hide hmx
        have HNL := hide hnl
        obtain ⟨ga4, gc4, hv4⟩ := own_shape1 hown4
        subst hv4
        clear hown4 b4 hmx c3 c6 hnl
        go_wp2_with (at_builtin; refine stopNd ?_)
        unfold Hid
        obtain ⟨W5, hW5⟩ : ∃ W5, w4.alloc (.cells #[.string item, .string s, .string body] 50) = W5 := ⟨_, rfl⟩
        have f5 := World.alloc_heap_new w4 (.cells #[.string item, .string s, .string body] 50)
        have b5 : Below w4.heap.size w4 W5 := by rw [← hW5]; exact (Below.refl _ w4).alloc (Nat.le_refl _) _
        rw [hW5] at f5 ⊢
        have hown5 := own_same (B := W5) H4.out.1 (fun g e => b5.block g (own_lt H4.out.1 g e))
        have hone : ItMem W5.heap.size W5 (some ⟨w4.heap.size, 0, none⟩) [(item, s, body)] := by
          refine ⟨by simp, fun i x hx => ?_⟩
          match i, hx with
          | 0, hx =>
            simp at hx
            subst hx
            exact ⟨w4.heap.size, 0, rfl, (Array.getElem?_eq_some_iff.1 f5).1, by simp [World.cell?, f5], by simp [World.cell?, f5], by simp [World.cell?, f5]⟩
        have hz3 := X3.out.size
        have hz4 := H4.out.2.size
        have hz5 := b5.size
        have hwl : (woItem item n.items).length ≤ 8 := Nat.le_trans (List.length_filter_le _ _) HNL.out
        obtain ⟨v6, w6, hap6, hown6, hgr6, _⟩ := app_i (T := 26) (cap := 1) hown5 hone (by omega) (by simp; omega)
        refine l_val rfl _ (ex_appN rfl rfl rfl hap6) ?_
        have b6 : Below W3.heap.size W3 w6 := (H4.out.2.trans (b5.mono hz4)).grown hgr6 (by omega) (fun g e => own_base hown5 g e)
        obtain ⟨L6, hL6⟩ : ∃ L6, woItem item n.items ++ [(item, s, body)] = L6 := ⟨_, rfl⟩
        have hL6l : L6.length ≤ 9 := by rw [← hL6]; simp; omega
        rw [hL6] at hown6
        obtain ⟨g6, c6, hv6, hm6, hc6, _, _⟩ := own_i hown6 (by omega)
        subst hv6
        have hfitL : ∀ x ∈ L6, Fits x.1 ∧ Fits x.2.1 ∧ Fits x.2.2 := by
          intro x hx
          rw [← hL6] at hx
          rcases List.mem_append.1 hx with h | h
          · exact X3.out.mem.fits.items x (List.mem_filter.1 h).1
          · simp at h
            rw [h]
            exact ⟨HF.out.2.1, HF.out.1, HF.out.2.2⟩
        have X6 := hide (X3.out.call b6)
        have HNw := hide (newest_any g6 c6 L6 mx w6 hm6 hc6 hmx8)
        have HL6 := hide (And.intro hL6 hfitL)
        have c3 := (nd_box X6.out.a).2.2.2.1
        rw [HMX.out] at c3
        clear hm6 hc6 hown6 hgr6 hap6 b6 hown5 hone f5 b5 hW5 hL6 hfitL hwl hz3 hz4 hz5
        go_wp2_with fail
        refine HNw.out.mono ?_
        rintro e w7 ⟨v7, rfl, hown7, b7⟩
        have x7 := X6.out.call b7
        have hlast : (lastL L6 mx).length ≤ 9 := by unfold lastL; rw [List.length_drop]; omega
        obtain ⟨g7, c7, hv7, hm7, hc7, _, hb7⟩ := own_i hown7 (by omega)
        subst hv7
        have hz6 := X6.out.size
        have hx8 := x7.setItems (ia := g7) (ic := c7) (L := lastL L6 mx) HFar.out hm7 hc7 (fun x hx => HL6.out.2 x (List.mem_of_mem_drop hx)) (fun a e => by have := (hb7 a e).1; omega)
        have z6 := (nd_box x7.a).2.2.2.2.2.2.1
        have zf6 : w7.frozen? ⟨w.heap.size, 6, none⟩ = false := by simp [World.frozen?, x7.a]
        have X8 := hide hx8
        clear hx8 x7 hm7 hc7 hown7 b7 hb7 c3 hlast
        have HCn := hide (show C { n with items := lastL L6 mx } 0 by
          rw [← HC.out]
          refine .inr (.inr ⟨H1.out.2, HPN.out, HBT.out, rfl, ?_⟩)
          unfold pubN
          rw [HL6.out.1, HMX.out]
          rfl)
        go_wp2_with (refine l_store _ (store_any (size_one26 _) z6 zf6) rfl rfl rfl rfl ?_; refine stopNd ?_)
        unfold Hid
        obtain ⟨W8, hW8⟩ : ∃ W8, w7.setCell ⟨w.heap.size, 6, none⟩ (.slice g7 (lastL L6 mx).length c7) = W8 := ⟨_, rfl⟩
        obtain ⟨N8, hN8⟩ : ∃ N8 : Nd, { n with items := lastL L6 mx } = N8 := ⟨_, rfl⟩
        obtain ⟨U8, hU8⟩ : ∃ U8 : NdW, { u with ia := g7, ic := c7 } = U8 := ⟨_, rfl⟩
        rw [hW8, hN8, hU8] at X8
        rw [hN8] at HCn
        rw [hW8]
        clear hW8 hN8 hU8 z6 zf6
        go_wp2_with (refine l_load _ (load_nd X8.out.1.a) rfl rfl rfl ?_; refine stopNd ?_)
        unfold Hid
        obtain ⟨m', x', hr⟩ := X8.out.1.r
        have HR := hide hr
        clear hr
        refine l_store _ (store_nd (n := N8) (u := U8) HR.out) rfl rfl rfl rfl ?_
        go_wp2_with fail
        exact bodyPost_ret (done_run X8.out.1 rfl rfl rfl) rfl (done_ed X8.out.1 HCn.out X8.out.2)
  · have hc0 : (c == 0) = false := by rw [beq_eq_false_iff_ne]; exact h0
    have HC2 := hide (show C noN c by rw [← HC.out]; exact .inl ⟨h0, H1.out.2, rfl⟩)
    clear h0
    have HRf := hide (refuseN_any c w1)
    go_wp2_with fail
    refine HRf.out.mono ?_
    rintro e w2 ⟨rfl, b2⟩
    have x2 := hide (H1.out.1.call b2)
    clear b2
    obtain ⟨m', x', hr⟩ := x2.out.r
    have HR := hide hr
    clear hr
    go_wp2_with (refine l_store _ (store_nd (n := noN) (u := noW) HR.out) rfl rfl rfl rfl ?_)
    exact bodyPost_ret (refuse_run x2.out rfl rfl rfl) rfl (refuse_ed x2.out HC2.out)
end Go.Proofs.YtffjmkngdjbjlaaDoor
namespace Go.Proofs.YtffjmkngdjbjlaaDoor
open Go.RowKit

theorem Bx.setAcc {w W : World} {n : Nd} {u : NdW} (h : Bx w n u W) (hf : Far w u) (a : Nat) : Bx w { n with acc := a } u (W.setCell ⟨w.heap.size, 2, none⟩ (.int .u8 a)) := by
  obtain ⟨m', x', hr⟩ := h.r
  have hm2 : NdM W.heap.size W { n with acc := a } u := ⟨h.mem.ok, h.mem.it, h.mem.ic, ⟨h.mem.fits.name, h.mem.fits.parent, h.mem.fits.affs, h.mem.fits.subs, h.mem.fits.items⟩⟩
  have hh := heap_setk (i := 2) (v := .int .u8 a) h.a
  exact ⟨hh, ⟨m', x', (set_blk _ _ _ _ (by simp)).trans hr⟩, ndM_one hm2 hf, h.bel.setCell (p := ⟨w.heap.size, 2, none⟩) (Nat.le_refl _) _, by rw [size_set]; exact h.size⟩
theorem Bx.setMax {w W : World} {n : Nd} {u : NdW} (h : Bx w n u W) (hf : Far w u) (a : Int) : Bx w { n with max := a } u (W.setCell ⟨w.heap.size, 3, none⟩ (.int .i64 a)) := by
  obtain ⟨m', x', hr⟩ := h.r
  have hm2 : NdM W.heap.size W { n with max := a } u := ⟨h.mem.ok, h.mem.it, h.mem.ic, ⟨h.mem.fits.name, h.mem.fits.parent, h.mem.fits.affs, h.mem.fits.subs, h.mem.fits.items⟩⟩
  have hh := heap_setk (i := 3) (v := .int .i64 a) h.a
  exact ⟨hh, ⟨m', x', (set_blk _ _ _ _ (by simp)).trans hr⟩, ndM_one hm2 hf, h.bel.setCell (p := ⟨w.heap.size, 3, none⟩) (Nat.le_refl _) _, by rw [size_set]; exact h.size⟩
def cfgN (n : Nd) (a : Nat) (most : Int) : Nd := { n with acc := a, max := most, items := lastL n.items most.toNat }
/-- Why an owner's word is not taken. -/
def OwnC (n : Nd) (s : ByteArray) (c : Int) : Prop := (¬ RightN n ∧ c = 1) ∨ (RightN n ∧ roleL n.affs s ≠ 5 ∧ c = 3)
def CfgC (n : Nd) (s : ByteArray) (a : Nat) (most : Int) (m : Nd) (c : Int) : Prop := (OwnC n s c ∧ m = noN) ∨ (RightN n ∧ roleL n.affs s = 5 ∧ ((¬ (a ≤ 2 ∧ maxOk most n.coll = true) ∧ c = 1 ∧ m = noN) ∨ (a ≤ 2 ∧ maxOk most n.coll = true ∧ c = 0 ∧ m = cfgN n a most)))
theorem maxOk_le {n : Int} {c : Bool} (h : maxOk n c = true) : 0 ≤ n ∧ n ≤ 8 := by
  unfold maxOk at h
  split at h
  · have := of_decide_eq_true h; omega
  · exact of_decide_eq_true h
set_option maxRecDepth 100000 in
set_option maxHeartbeats 4000000 in
theorem configure_any (n : Nd) (v : NdW) (s : ByteArray) (acc : Nat) (most : Int) (w : World) (hm : NdM w.heap.size w n v) (hg : Glob w) :
    Calls Tryd.prog 16 #[.agg (ndA n v), .string s, .int .u8 acc, .int .i64 most] w fun e w' => EditR w (CfgC n s acc most) e w' := by
  obtain ⟨W, hW, fa, fr, bw, zw⟩ := boxes w n v
  have bx : Bx w n v W := ⟨fa, ⟨_, _, fr⟩, hm.move bw, bw, by omega⟩
  have HX := hide bx
  have HG := hide (hg.below bw)
  have HW := hide hW
  have HA := hide fa
  rw [← hW] at HA
  have HRi := hide (rightN_any n v W bx.mem HG.out)
  rw [← hW] at HRi
  rw [show (ndA noN noW : Array Value) = #[.string ⟨#[]⟩, .bool false, .int .u8 0, .int .i64 0, .slice none 0 0, .slice none 0 0, .slice none 0 0, .string ⟨#[]⟩] from rfl] at HRi
  have hZ : (ndA noN noW : Array Value) = #[.string ⟨#[]⟩, .bool false, .int .u8 0, .int .i64 0, .slice none 0 0, .slice none 0 0, .slice none 0 0, .string ⟨#[]⟩] := rfl
  rw [hZ] at HA
  clear hm hg hW fa fr bw zw bx hZ
  obtain ⟨C, hC⟩ : ∃ C, CfgC n s acc most = C := ⟨_, rfl⟩
  rw [hC]
  have HC := hide hC
  clear hC
  go_enter Tryd.func16, Tryd.ntmps16
  go_wp2_with (refine l_load _ (load_nd HA.out) rfl rfl rfl ?_)
  refine HRi.out.mono ?_
  rintro e w1 ⟨⟨p, rfl, hp⟩, b1⟩
  have x1 : Bx w n v w1 := by
    have h : _ = W := HW.out
    have b1' : Below W.heap.size W w1 := by
      rw [← h]
      exact b1
    exact HX.out.call b1'
  have X1 := hide x1
  have HP := hide hp
  clear x1 hp b1 HRi HA
  cases p with
  | false =>
    have HC2 := hide (show C noN 1 by rw [← HC.out]; exact .inl ⟨.inl ⟨fun h => (by have := HP.out.2 h; cases this), rfl⟩, rfl⟩)
    have HRf := hide (refuseN_any 1 w1)
    go_wp2_with fail
    refine HRf.out.mono ?_
    rintro e w2 ⟨rfl, b2⟩
    have x2 := hide (X1.out.call b2)
    clear b2
    obtain ⟨m', x', hr⟩ := x2.out.r
    have HR := hide hr
    clear hr
    go_wp2_with (refine l_store _ (store_nd (n := noN) (u := noW) HR.out) rfl rfl rfl rfl ?_)
    exact bodyPost_ret (refuse_run x2.out rfl rfl rfl) rfl (refuse_ed x2.out HC2.out)
  | true =>
    have HT := hide (HP.out.1 rfl)
    have HRo := hide (role_any n v s w1 X1.out.mem.ok)
    obtain ⟨ro, hro⟩ : ∃ ro, roleL n.affs s = ro := ⟨_, rfl⟩
    rw [hro] at HRo
    have HROL := hide hro
    clear hro
    go_wp2_with (refine l_load _ (load_nd X1.out.a) rfl rfl rfl ?_)
    refine HRo.out.mono ?_
    rintro e w2 ⟨rfl, b2⟩
    have X2 := hide (X1.out.call b2)
    clear b2
    by_cases h5 : ro = 5
    · have h5e : ((ro : Int) == 5) = true := by rw [h5]; rfl
      have HO := hide (show roleL n.affs s = 5 by rw [HROL.out]; exact h5)
      clear h5
      have HAc := hide (isAccess_any acc w2)
      obtain ⟨pa, hpa⟩ : ∃ pa, decide (acc ≤ 2) = pa := ⟨_, rfl⟩
      rw [hpa] at HAc
      have HPA := hide hpa
      clear hpa
      go_wp2_with fail
      refine HAc.out.mono ?_
      rintro e w3 ⟨rfl, hw3⟩
      rw [hw3]
      clear hw3
      cases pa with
      | false =>
        have HC2 := hide (show C noN 1 by rw [← HC.out]; exact .inr ⟨HT.out, HO.out, .inl ⟨fun h => of_decide_eq_false HPA.out h.1, rfl, rfl⟩⟩)
        have HRf := hide (refuseN_any 1 w2)
        go_wp2_with fail
        refine HRf.out.mono ?_
        rintro e w4 ⟨rfl, b2⟩
        have x2 := hide (X2.out.call b2)
        clear b2
        obtain ⟨m', x', hr⟩ := x2.out.r
        have HR := hide hr
        clear hr
        go_wp2_with (refine l_store _ (store_nd (n := noN) (u := noW) HR.out) rfl rfl rfl rfl ?_)
        exact bodyPost_ret (refuse_run x2.out rfl rfl rfl) rfl (refuse_ed x2.out HC2.out)
      | true =>
        have c1 := (nd_box X2.out.a).2.1
        have HMa := hide (isMax_any most n.coll w2)
        obtain ⟨pm, hpm⟩ : ∃ pm, maxOk most n.coll = pm := ⟨_, rfl⟩
        rw [hpm] at HMa
        have HPM := hide hpm
        clear hpm
        go_wp2_with fail
        refine HMa.out.mono ?_
        rintro e w3 ⟨rfl, hw3⟩
        rw [hw3]
        clear hw3 c1
        cases pm with
        | false =>
          have HC2 := hide (show C noN 1 by rw [← HC.out]; exact .inr ⟨HT.out, HO.out, .inl ⟨fun h => (by rw [HPM.out] at h; cases h.2), rfl, rfl⟩⟩)
          have HRf := hide (refuseN_any 1 w2)
          go_wp2_with fail
          refine HRf.out.mono ?_
          rintro e w4 ⟨rfl, b2⟩
          have x2 := hide (X2.out.call b2)
          clear b2
          obtain ⟨m', x', hr⟩ := x2.out.r
          have HR := hide hr
          clear hr
          go_wp2_with (refine l_store _ (store_nd (n := noN) (u := noW) HR.out) rfl rfl rfl rfl ?_)
          exact bodyPost_ret (refuse_run x2.out rfl rfl rfl) rfl (refuse_ed x2.out HC2.out)
        | true =>
          have HFr := hide (fresh_any n v w2 X2.out.mem)
          go_wp2_with (refine l_load _ (load_nd X2.out.a) rfl rfl rfl ?_)
          refine HFr.out.mono ?_
          rintro e w3 ⟨u, rfl, hu, hfar, b3⟩
          have x3a := X2.out.call b3
          have hz2 := X2.out.size
          have x3 := x3a.put hu ⟨fun a e => by have := hfar.1 a e; omega, fun a e => by have := hfar.2.1 a e; omega, fun a e => by have := hfar.2.2 a e; omega⟩
          have HFar := hide (show Far w u from ⟨fun a e => by have := hfar.1 a e; omega, fun a e => by have := hfar.2.1 a e; omega, fun a e => by have := hfar.2.2 a e; omega⟩)
          have X3 := hide x3
          have HA3 := hide x3a.a
          clear hu hfar b3 x3a x3 hz2
          go_wp2_with (refine l_store _ (store_nd (n := n) (u := u) HA3.out) rfl rfl rfl rfl ?_; refine stopNd ?_)
          unfold Hid
          obtain ⟨W3, hW3⟩ : ∃ W3, setNd w3 w.heap.size n u = W3 := ⟨_, rfl⟩
          rw [hW3] at X3 ⊢
          clear hW3 HA3
          have c2 := (nd_box X3.out.a).2.2.1
          have c3 := (nd_box X3.out.a).2.2.2.1
          have f2 : W3.frozen? ⟨w.heap.size, 2, none⟩ = false := by simp [World.frozen?, X3.out.a]
          have f3 : W3.frozen? ⟨w.heap.size, 3, none⟩ = false := by simp [World.frozen?, X3.out.a]
          have X5 := hide ((X3.out.setAcc HFar.out acc).setMax HFar.out most)
          have c6 := (nd_box X5.out.a).2.2.2.2.2.2.1
          obtain ⟨W5, hW5⟩ : ∃ W5, (W3.setCell ⟨w.heap.size, 2, none⟩ (.int .u8 acc)).setCell ⟨w.heap.size, 3, none⟩ (.int .i64 most) = W5 := ⟨_, rfl⟩
          obtain ⟨mx, hmx⟩ : ∃ mx : Nat, most = mx := ⟨most.toNat, by have := maxOk_le HPM.out; omega⟩
          have hmx8 : mx ≤ 1000000 := by have := maxOk_le HPM.out; omega
          have hil := items_right HT.out
          have HNw := hide (newest_any u.ia u.ic n.items mx W5 (by rw [← hW5]; exact X5.out.mem.it) X5.out.mem.ic hmx8)
          rw [← hmx] at HNw
          have HMX := hide hmx
          have HW5 := hide hW5
          rw [← hW5] at HNw
          clear hmx hW5
          go_wp2_with fail
          refine HNw.out.mono ?_
          rintro e w7 ⟨v7, rfl, hown7, b7⟩
          rw [HW5.out] at hown7 b7
          rw [HW5.out] at X5
          have x7 := X5.out.call b7
          have hlast : (lastL n.items mx).length ≤ 8 := by unfold lastL; rw [List.length_drop]; omega
          obtain ⟨g7, c7, hv7, hm7, hc7, _, hb7⟩ := own_i hown7 (by omega)
          subst hv7
          have hz6 := X5.out.size
          have hx8 := x7.setItems (ia := g7) (ic := c7) (L := lastL n.items mx) HFar.out hm7 hc7 (fun x hx => X3.out.mem.fits.items x (List.mem_of_mem_drop hx)) (fun a e => by have := (hb7 a e).1; omega)
          have z6 := (nd_box x7.a).2.2.2.2.2.2.1
          have zf6 : w7.frozen? ⟨w.heap.size, 6, none⟩ = false := by simp [World.frozen?, x7.a]
          have X8 := hide hx8
          have HCn := hide (show C { n with acc := acc, max := most, items := lastL n.items mx } 0 by
            rw [← HC.out]
            refine .inr ⟨HT.out, HO.out, .inr ⟨of_decide_eq_true HPA.out, HPM.out, rfl, ?_⟩⟩
            unfold cfgN
            rw [HMX.out]
            rfl)
          clear hx8 x7 hm7 hc7 hown7 b7 hb7 c2 c3 c6 hlast f2 f3
          go_wp2_with (refine l_store _ (store_any (size_one26 _) z6 zf6) rfl rfl rfl rfl ?_; refine stopNd ?_)
          unfold Hid
          obtain ⟨W8, hW8⟩ : ∃ W8, w7.setCell ⟨w.heap.size, 6, none⟩ (.slice g7 (lastL n.items mx).length c7) = W8 := ⟨_, rfl⟩
          obtain ⟨N8, hN8⟩ : ∃ N8 : Nd, { n with acc := acc, max := most, items := lastL n.items mx } = N8 := ⟨_, rfl⟩
          obtain ⟨U8, hU8⟩ : ∃ U8 : NdW, { u with ia := g7, ic := c7 } = U8 := ⟨_, rfl⟩
          rw [hW8, hN8, hU8] at X8
          rw [hN8] at HCn
          rw [hW8]
          clear hW8 hN8 hU8 z6 zf6
          go_wp2_with (refine l_load _ (load_nd X8.out.1.a) rfl rfl rfl ?_; refine stopNd ?_)
          unfold Hid
          obtain ⟨m', x', hr⟩ := X8.out.1.r
          have HR := hide hr
          clear hr
          refine l_store _ (store_nd (n := N8) (u := U8) HR.out) rfl rfl rfl rfl ?_
          go_wp2_with fail
          exact bodyPost_ret (done_run X8.out.1 rfl rfl rfl) rfl (done_ed X8.out.1 HCn.out X8.out.2)
    · have h5e : ((ro : Int) == 5) = false := by rw [beq_eq_false_iff_ne]; omega
      have HC2 := hide (show C noN 3 by rw [← HC.out]; exact .inl ⟨.inr ⟨HT.out, by rw [HROL.out]; exact h5, rfl⟩, rfl⟩)
      clear h5
      have HRf := hide (refuseN_any 3 w2)
      go_wp2_with fail
      refine HRf.out.mono ?_
      rintro e w4 ⟨rfl, b2⟩
      have x2 := hide (X2.out.call b2)
      clear b2
      obtain ⟨m', x', hr⟩ := x2.out.r
      have HR := hide hr
      clear hr
      go_wp2_with (refine l_store _ (store_nd (n := noN) (u := noW) HR.out) rfl rfl rfl rfl ?_)
      exact bodyPost_ret (refuse_run x2.out rfl rfl rfl) rfl (refuse_ed x2.out HC2.out)
end Go.Proofs.YtffjmkngdjbjlaaDoor
namespace Go.Proofs.YtffjmkngdjbjlaaDoor
open Go.RowKit

theorem results_s4 {fn : Func} {tmps : Array Value} {w : World} {b : Nat} {u0 u1 u2 z : Value} (h : fn.results = #[.cell 4 39, .tmp 5]) (hp : tmps[4]?.getD undef = .pointer (some ⟨b, 0, none⟩)) (hq : tmps[5]?.getD undef = z) (h0 : w.cell? ⟨b, 0, none⟩ = some u0) (h1 : w.cell? ⟨b, 1, none⟩ = some u1) (h2 : w.cell? ⟨b, 2, none⟩ = some u2) : (results fn tmps).run Tryd.prog w = .ok (.tuple #[.agg #[u0, u1, u2], z]) w := by
  simp [results, h, hp, hq, h0, h1, h2, go_sem, Tryd.isAgg39, Tryd.sizeOf39]
set_option maxRecDepth 100000 in
set_option maxHeartbeats 4000000 in
theorem sub_any (n : Nd) (v : NdW) (s : ByteArray) (w : World) (hok : NdOk w.heap.size w n v) :
    Calls Tryd.prog 18 #[.agg (ndA n v), .string s] w fun e w' => FirstSub n.subs s e ∧ Below w.heap.size w w' := by
  obtain ⟨W, hW⟩ : ∃ W, (w.alloc (.cells (ndA n v) 28)).alloc (.cells #[.string ⟨#[]⟩, .bool false, .int .i64 0] 39) = W := ⟨_, rfl⟩
  have b1 : Below w.heap.size w W := by rw [← hW]; exact ((Below.refl _ w).alloc (Nat.le_refl _) _).alloc (by simp) _
  have fb : W.heap[w.heap.size + 1]? = some (.cells #[.string ⟨#[]⟩, .bool false, .int .i64 0] 39) := by
    rw [← hW]
    have h := World.alloc_heap_new (w.alloc (.cells (ndA n v) 28)) (.cells #[.string ⟨#[]⟩, .bool false, .int .i64 0] 39)
    simpa using h
  have hf := firstSub_any v.sa v.sc n.subs s W ((hok.2.1.below b1).raise b1.size)
  rw [← hW] at hf
  have HF := hide (And.intro hf (And.intro b1 fb))
  have HW := hide hW
  clear hf b1 hok hW fb
  unfold ndA at HF HW ⊢
  go_enter Tryd.func18, Tryd.ntmps18
  go_wp2_with fail
  refine HF.out.1.mono ?_
  rintro e w2 ⟨hx, b2⟩
  have b2' : Below W.heap.size W w2 := by
    have h : _ = W := HW.out
    rw [h] at b2
    exact b2
  have fw := (b2'.block _ (Array.getElem?_eq_some_iff.1 HF.out.2.2).1).trans HF.out.2.2
  have bw := HF.out.2.1.trans (b2'.mono HF.out.2.1.size)
  obtain ⟨d0, d1, d2, z0, z1, z2⟩ := cells_s fw
  have HH := hide (And.intro fw bw)
  clear fw bw b2 b2'
  rcases hx with ⟨x, hx, rfl⟩ | ⟨hx, rfl⟩
  · have H2 := hide hx
    clear hx
    go_wp2_with fail
    have h3 := set3_s (v0 := .string x.1) (v1 := .bool x.2.1) (v2 := .int .i64 x.2.2) HH.out.1
    have b3 := bel3_s (b := w.heap.size + 1) (v0 := .string x.1) (v1 := .bool x.2.1) (v2 := .int .i64 x.2.2) HH.out.2 (Nat.le_succ _)
    exact bodyPost_ret (results_s4 rfl rfl rfl (cells_s h3).1 (cells_s h3).2.1 (cells_s h3).2.2.1) rfl ⟨.inl ⟨x, H2.out, rfl⟩, b3⟩
  · have H2 := hide hx
    clear hx
    go_wp2_with fail
    have h3 := set3_s (v0 := .string ⟨#[]⟩) (v1 := .bool false) (v2 := .int .i64 0) HH.out.1
    have b3 := bel3_s (b := w.heap.size + 1) (v0 := .string ⟨#[]⟩) (v1 := .bool false) (v2 := .int .i64 0) HH.out.2 (Nat.le_succ _)
    exact bodyPost_ret (results_s4 rfl rfl rfl (cells_s h3).1 (cells_s h3).2.1 (cells_s h3).2.2.1) rfl ⟨.inr ⟨H2.out, rfl⟩, b3⟩
def PurC (n : Nd) (s : ByteArray) (m : Nd) (c : Int) : Prop := (c ≠ 0 ∧ BarC n s 5 c ∧ m = noN) ∨ (BarC n s 5 0 ∧ c = 0 ∧ m = { n with items := [] })
set_option maxRecDepth 100000 in
set_option maxHeartbeats 4000000 in
theorem purge_any (n : Nd) (v : NdW) (s : ByteArray) (w : World) (hm : NdM w.heap.size w n v) (hg : Glob w) :
    Calls Tryd.prog 25 #[.agg (ndA n v), .string s] w fun e w' => EditR w (PurC n s) e w' := by
  obtain ⟨W, hW, fa, fr, bw, zw⟩ := boxes w n v
  have bx : Bx w n v W := ⟨fa, ⟨_, _, fr⟩, hm.move bw, bw, by omega⟩
  have HB := hide (barred_any n v s 5 W bx.mem (hg.below bw))
  have HX := hide bx
  have HW := hide hW
  rw [← hW] at HB
  have HA := hide fa
  rw [← hW] at HA
  have hZ : (ndA noN noW : Array Value) = #[.string ⟨#[]⟩, .bool false, .int .u8 0, .int .i64 0, .slice none 0 0, .slice none 0 0, .slice none 0 0, .string ⟨#[]⟩] := rfl
  rw [hZ] at HB HA
  clear hm hg hW fa fr bw zw bx hZ
  obtain ⟨C, hC⟩ : ∃ C, PurC n s = C := ⟨_, rfl⟩
  rw [hC]
  have HC := hide hC
  clear hC
  go_enter Tryd.func25, Tryd.ntmps25
  go_wp2_with (refine l_load _ (load_nd HA.out) rfl rfl rfl ?_)
  refine HB.out.mono ?_
  rintro e w1 ⟨⟨c, rfl, hc⟩, b1⟩
  have x1 : Bx w n v w1 := by
    have h := HW.out
    change _ = W at h
    have b1' : Below W.heap.size W w1 := by
      rw [← h]
      exact b1
    exact HX.out.call b1'
  have H1 := hide hc
  have X1 := hide x1
  clear x1 hc b1 HB HA
  by_cases h0 : c = 0
  · subst h0
    have HFr := hide (fresh_any n v w1 X1.out.mem)
    go_wp2_with (refine l_load _ (load_nd X1.out.a) rfl rfl rfl ?_)
    refine HFr.out.mono ?_
    rintro e w3 ⟨u, rfl, hu, hfar, b3⟩
    have x3a := X1.out.call b3
    have hz2 := X1.out.size
    have x3 := x3a.put hu ⟨fun a e => by have := hfar.1 a e; omega, fun a e => by have := hfar.2.1 a e; omega, fun a e => by have := hfar.2.2 a e; omega⟩
    have HFar := hide (show Far w u from ⟨fun a e => by have := hfar.1 a e; omega, fun a e => by have := hfar.2.1 a e; omega, fun a e => by have := hfar.2.2 a e; omega⟩)
    have X3 := hide x3
    have HA3 := hide x3a.a
    clear hu hfar b3 x3a x3 hz2
    go_wp2_with (refine l_store _ (store_nd (n := n) (u := u) HA3.out) rfl rfl rfl rfl ?_; refine stopNd ?_)
    unfold Hid
    obtain ⟨W3, hW3⟩ : ∃ W3, setNd w3 w.heap.size n u = W3 := ⟨_, rfl⟩
    rw [hW3] at X3 ⊢
    clear hW3 HA3
    have z6 := (nd_box X3.out.a).2.2.2.2.2.2.1
    have zf6 : W3.frozen? ⟨w.heap.size, 6, none⟩ = false := by simp [World.frozen?, X3.out.a]
    have hx8 := X3.out.setItems (ia := none) (ic := 0) (L := []) HFar.out ⟨by simp, fun i x hx => by simp at hx⟩ (Nat.le_refl _) (fun x hx => by simp at hx) (fun a e => by cases e)
    rw [show ([] : List (ByteArray × ByteArray × ByteArray)).length = 0 from rfl] at hx8
    have X8 := hide hx8
    have HCn := hide (show C { n with items := [] } 0 by
      rw [← HC.out]
      exact .inr ⟨H1.out, rfl, rfl⟩)
    clear hx8
    go_wp2_with (refine l_store _ (store_any (size_one26 _) z6 zf6) rfl rfl rfl rfl ?_; refine stopNd ?_)
    unfold Hid
    obtain ⟨W8, hW8⟩ : ∃ W8, W3.setCell ⟨w.heap.size, 6, none⟩ (.slice none 0 0) = W8 := ⟨_, rfl⟩
    obtain ⟨N8, hN8⟩ : ∃ N8 : Nd, { n with items := [] } = N8 := ⟨_, rfl⟩
    obtain ⟨U8, hU8⟩ : ∃ U8 : NdW, { u with ia := none, ic := 0 } = U8 := ⟨_, rfl⟩
    rw [hW8, hN8, hU8] at X8
    rw [hN8] at HCn
    rw [hW8]
    clear hW8 hN8 hU8 z6 zf6
    go_wp2_with (refine l_load _ (load_nd X8.out.1.a) rfl rfl rfl ?_; refine stopNd ?_)
    unfold Hid
    obtain ⟨m', x', hr⟩ := X8.out.1.r
    have HR := hide hr
    clear hr
    refine l_store _ (store_nd (n := N8) (u := U8) HR.out) rfl rfl rfl rfl ?_
    go_wp2_with fail
    exact bodyPost_ret (done_run X8.out.1 rfl rfl rfl) rfl (done_ed X8.out.1 HCn.out X8.out.2)
  · have hc0 : (c == 0) = false := by rw [beq_eq_false_iff_ne]; exact h0
    have HC2 := hide (show C noN c by rw [← HC.out]; exact .inl ⟨h0, H1.out, rfl⟩)
    clear h0
    have HRf := hide (refuseN_any c w1)
    go_wp2_with fail
    refine HRf.out.mono ?_
    rintro e w2 ⟨rfl, b2⟩
    have x2 := hide (X1.out.call b2)
    clear b2
    obtain ⟨m', x', hr⟩ := x2.out.r
    have HR := hide hr
    clear hr
    go_wp2_with (refine l_store _ (store_nd (n := noN) (u := noW) HR.out) rfl rfl rfl rfl ?_)
    exact bodyPost_ret (refuse_run x2.out rfl rfl rfl) rfl (refuse_ed x2.out HC2.out)
def RetC (n : Nd) (s item : ByteArray) (m : Nd) (c : Int) : Prop := (c ≠ 0 ∧ BarC n s 4 c ∧ m = noN) ∨ (BarC n s 4 0 ∧ n.items.find? (fun x => decide (x.1 = item)) = none ∧ c = 4 ∧ m = noN) ∨ (BarC n s 4 0 ∧ (n.items.find? (fun x => decide (x.1 = item))).isSome = true ∧ c = 0 ∧ m = { n with items := woItem item n.items })
set_option maxRecDepth 100000 in
set_option maxHeartbeats 4000000 in
theorem retract_any (n : Nd) (v : NdW) (s item : ByteArray) (w : World) (hm : NdM w.heap.size w n v) (hg : Glob w) :
    Calls Tryd.prog 24 #[.agg (ndA n v), .string s, .string item] w fun e w' => EditR w (RetC n s item) e w' := by
  obtain ⟨W, hW, fa, fr, bw, zw⟩ := boxes w n v
  have bx : Bx w n v W := ⟨fa, ⟨_, _, fr⟩, hm.move bw, bw, by omega⟩
  have HB := hide (barred_any n v s 4 W bx.mem (hg.below bw))
  have HX := hide bx
  have HW := hide hW
  rw [← hW] at HB
  have HA := hide fa
  rw [← hW] at HA
  have hZ : (ndA noN noW : Array Value) = #[.string ⟨#[]⟩, .bool false, .int .u8 0, .int .i64 0, .slice none 0 0, .slice none 0 0, .slice none 0 0, .string ⟨#[]⟩] := rfl
  rw [hZ] at HB HA
  clear hm hg hW fa fr bw zw bx hZ
  obtain ⟨C, hC⟩ : ∃ C, RetC n s item = C := ⟨_, rfl⟩
  rw [hC]
  have HC := hide hC
  clear hC
  go_enter Tryd.func24, Tryd.ntmps24
  go_wp2_with (refine l_load _ (load_nd HA.out) rfl rfl rfl ?_)
  refine HB.out.mono ?_
  rintro e w1 ⟨⟨c, rfl, hc⟩, b1⟩
  have x1 : Bx w n v w1 := by
    have h := HW.out
    change _ = W at h
    have b1' : Below W.heap.size W w1 := by
      rw [← h]
      exact b1
    exact HX.out.call b1'
  have H1 := hide hc
  have X1 := hide x1
  clear x1 hc b1 HB HA
  by_cases h0 : c = 0
  · subst h0
    have c6 := (nd_box X1.out.a).2.2.2.2.2.2.1
    have HFi := hide (firstItem_any v.ia v.ic n.items item w1 X1.out.mem.it)
    go_wp2_with fail
    refine HFi.out.mono ?_
    rintro e w2 ⟨⟨x, hx, rfl⟩ | ⟨hx, rfl⟩, b2⟩
    · have X2 := hide (X1.out.call (b2.alloc b2.size (.cells #[.string x.1, .string x.2.1, .string x.2.2] 50)))
      have HX2 := hide hx
      clear b2 hx c6 HFi
      have HFr := hide (fresh_any n v (w2.alloc (.cells #[.string x.1, .string x.2.1, .string x.2.2] 50)) X2.out.mem)
      go_wp2_with (refine l_load _ (load_nd X2.out.a) rfl rfl rfl ?_)
      refine HFr.out.mono ?_
      rintro e w3 ⟨u, rfl, hu, hfar, b3⟩
      have x3a := X2.out.call b3
      have hz2 := X2.out.size
      have x3 := x3a.put hu ⟨fun a e => by have := hfar.1 a e; omega, fun a e => by have := hfar.2.1 a e; omega, fun a e => by have := hfar.2.2 a e; omega⟩
      have HFar := hide (show Far w u from ⟨fun a e => by have := hfar.1 a e; omega, fun a e => by have := hfar.2.1 a e; omega, fun a e => by have := hfar.2.2 a e; omega⟩)
      have X3 := hide x3
      have HA3 := hide x3a.a
      clear hu hfar b3 x3a x3 hz2
      go_wp2_with (refine l_store _ (store_nd (n := n) (u := u) HA3.out) rfl rfl rfl rfl ?_; refine stopNd ?_)
      unfold Hid
      obtain ⟨W3, hW3⟩ : ∃ W3, setNd w3 w.heap.size n u = W3 := ⟨_, rfl⟩
      rw [hW3] at X3 ⊢
      clear hW3 HA3
      have c6 := (nd_box X3.out.a).2.2.2.2.2.2.1
      have HWo := hide (without_i u.ia u.ic n.items item W3 X3.out.mem.it)
      have hnl := items_right (bar_right H1.out)
      have HNL := hide hnl
      clear hnl
      go_wp2_with fail
      refine HWo.out.mono ?_
      rintro e w7 ⟨v7, rfl, hown7, b7⟩
      have x7 := X3.out.call b7
      have hlast : (woItem item n.items).length ≤ 8 := Nat.le_trans (List.length_filter_le _ _) HNL.out
      obtain ⟨L7, hL7⟩ : ∃ L7, woItem item n.items = L7 := ⟨_, rfl⟩
      have hfit : ∀ x ∈ L7, Fits x.1 ∧ Fits x.2.1 ∧ Fits x.2.2 := by
        intro x hx
        rw [← hL7] at hx
        exact X3.out.mem.fits.items x (List.mem_filter.1 hx).1
      have HL7 := hide hL7
      rw [hL7] at hown7 hlast
      clear hL7
      obtain ⟨g7, c7, hv7, hm7, hc7, _, hb7⟩ := own_i hown7 (by omega)
      subst hv7
      have hz6 := X3.out.size
      have hx8 := x7.setItems (ia := g7) (ic := c7) (L := L7) HFar.out hm7 hc7 hfit (fun a e => by have := (hb7 a e).1; omega)
      have z6 := (nd_box x7.a).2.2.2.2.2.2.1
      have zf6 : w7.frozen? ⟨w.heap.size, 6, none⟩ = false := by simp [World.frozen?, x7.a]
      have X8 := hide hx8
      have HCn := hide (show C { n with items := L7 } 0 by
        rw [← HC.out, ← HL7.out]
        exact .inr (.inr ⟨H1.out, by rw [HX2.out]; rfl, rfl, rfl⟩))
      clear hx8 x7 hm7 hc7 hown7 b7 hb7 c6 hlast hfit
      go_wp2_with (refine l_store _ (store_any (size_one26 _) z6 zf6) rfl rfl rfl rfl ?_; refine stopNd ?_)
      unfold Hid
      obtain ⟨W8, hW8⟩ : ∃ W8, w7.setCell ⟨w.heap.size, 6, none⟩ (.slice g7 L7.length c7) = W8 := ⟨_, rfl⟩
      obtain ⟨N8, hN8⟩ : ∃ N8 : Nd, { n with items := L7 } = N8 := ⟨_, rfl⟩
      obtain ⟨U8, hU8⟩ : ∃ U8 : NdW, { u with ia := g7, ic := c7 } = U8 := ⟨_, rfl⟩
      rw [hW8, hN8, hU8] at X8
      rw [hN8] at HCn
      rw [hW8]
      clear hW8 hN8 hU8 z6 zf6
      go_wp2_with (refine l_load _ (load_nd X8.out.1.a) rfl rfl rfl ?_; refine stopNd ?_)
      unfold Hid
      obtain ⟨m', x', hr⟩ := X8.out.1.r
      have HR := hide hr
      clear hr
      refine l_store _ (store_nd (n := N8) (u := U8) HR.out) rfl rfl rfl rfl ?_
      go_wp2_with fail
      exact bodyPost_ret (done_run X8.out.1 rfl rfl rfl) rfl (done_ed X8.out.1 HCn.out X8.out.2)
    · have X2 := hide (X1.out.call (b2.alloc b2.size (.cells #[.string ⟨#[]⟩, .string ⟨#[]⟩, .string ⟨#[]⟩] 50)))
      have HC2 := hide (show C noN 4 by rw [← HC.out]; exact .inr (.inl ⟨H1.out, hx, rfl, rfl⟩))
      clear b2 hx c6 HFi
      have HRf := hide (refuseN_any 4 (w2.alloc (.cells #[.string ⟨#[]⟩, .string ⟨#[]⟩, .string ⟨#[]⟩] 50)))
      go_wp2_with fail
      refine HRf.out.mono ?_
      rintro e w4 ⟨rfl, b2⟩
      have x2 := hide (X2.out.call b2)
      clear b2
      obtain ⟨m', x', hr⟩ := x2.out.r
      have HR := hide hr
      clear hr
      go_wp2_with (refine l_store _ (store_nd (n := noN) (u := noW) HR.out) rfl rfl rfl rfl ?_)
      exact bodyPost_ret (refuse_run x2.out rfl rfl rfl) rfl (refuse_ed x2.out HC2.out)
  · have hc0 : (c == 0) = false := by rw [beq_eq_false_iff_ne]; exact h0
    have HC2 := hide (show C noN c by rw [← HC.out]; exact .inl ⟨h0, H1.out, rfl⟩)
    clear h0
    have HRf := hide (refuseN_any c w1)
    go_wp2_with fail
    refine HRf.out.mono ?_
    rintro e w2 ⟨rfl, b2⟩
    have x2 := hide (X1.out.call b2)
    clear b2
    obtain ⟨m', x', hr⟩ := x2.out.r
    have HR := hide hr
    clear hr
    go_wp2_with (refine l_store _ (store_nd (n := noN) (u := noW) HR.out) rfl rfl rfl rfl ?_)
    exact bodyPost_ret (refuse_run x2.out rfl rfl rfl) rfl (refuse_ed x2.out HC2.out)
end Go.Proofs.YtffjmkngdjbjlaaDoor
namespace Go.Proofs.YtffjmkngdjbjlaaDoor
open Go.RowKit

/-- A subscription by which a node is read. -/
def rdB (k : ByteArray) (x : ByteArray × Bool × Int) : Bool := x.1.toList == k.toList && !x.2.1
set_option maxRecDepth 100000 in
theorem rd_s (x : ByteArray × Bool × Int) (k : ByteArray) (bk : Nat) (w : World) (hk : w.heap[bk]? = some (.cells #[.string k] 9)) :
    Calls Tryd.prog 86 #[.agg #[.string x.1, .bool x.2.1, .int .i64 x.2.2], .pointer (some ⟨bk, 0, none⟩)] w fun e w' => e = .returned (.bool (rdB k x)) ∧ Below w.heap.size w w' := by
  obtain ⟨xa, xp, xi⟩ := x
  have b1 : Below w.heap.size w (w.alloc (.cells #[.string xa, .bool xp, .int .i64 xi] 39)) := (Below.refl _ w).alloc (Nat.le_refl _) _
  have hkl := (Array.getElem?_eq_some_iff.1 hk).1
  have c1 := str_box ((b1.block bk hkl).trans hk)
  have f0 := World.alloc_heap_new w (.cells #[.string xa, .bool xp, .int .i64 xi] 39)
  obtain ⟨d0, d1, _⟩ := cells_s f0
  unfold rdB
  obtain ⟨r, hr⟩ : ∃ r, (xa.toList == k.toList) = r := ⟨_, rfl⟩
  simp only [hr]
  have HH := hide (And.intro b1 hk)
  clear b1 hk f0
  cases r with
  | false =>
    go_enter Tryd.func86, Tryd.ntmps86
    go_wp2_with fail
    go_ret
    exact ⟨rfl, HH.out.1⟩
  | true =>
    go_enter Tryd.func86, Tryd.ntmps86
    go_wp2_with fail
    go_ret
    exact ⟨rfl, HH.out.1⟩
/-- Whether one of them reads. -/
def IdxRd (L : List (ByteArray × Bool × Int)) (k : ByteArray) (e : Ending) : Prop := (∃ i : Nat, L.any (rdB k) = true ∧ e = .returned (.int .i64 i)) ∨ (L.any (rdB k) = false ∧ e = .returned (.int .i64 (-1)))
set_option maxRecDepth 100000 in
set_option maxHeartbeats 4000000 in
theorem idxRd_s (L : List (ByteArray × Bool × Int)) (k : ByteArray) (ao : Option Addr) (cap bk : Nat) (w : World) (hk : w.heap[bk]? = some (.cells #[.string k] 9)) (hm : SubMem w.heap.size w ao L) :
    Calls Tryd.prog 90 #[.slice ao L.length cap, .func (.func 86) #[] #[.pointer (some ⟨bk, 0, none⟩)]] w fun e w' => IdxRd L k e ∧ Below w.heap.size w w' := by
  obtain ⟨m, hml⟩ : ∃ m, L.length = m := ⟨_, rfl⟩
  have hm6 : m ≤ 1000000 := by have := hm.1; omega
  have HH := hide (And.intro hk (And.intro hm hml))
  rw [hml]
  clear hk hm hml
  go_enter Tryd.func90, Tryd.ntmps90
  go_wp2_with fail
  go_loopw [8] (fun iv wr => ∃ i : Nat, i ≤ m ∧ iv = .int .i64 i ∧ (L.take i).any (rdB k) = false ∧ Below w.heap.size w wr) (fun iv _ => m - (intOf iv).toNat)
  case atStart => exact ⟨0, Nat.zero_le _, rfl, by simp, Below.refl _ _⟩
  case round =>
    obtain ⟨i, him, rfl, hno, hbw⟩ := hrel
    by_cases hlt : (i : Int) < m
    · obtain ⟨x, hx⟩ : ∃ x, L[i]? = some x := ⟨_, List.getElem?_eq_getElem (by have := HH.out.2.2; omega)⟩
      obtain ⟨b, off, hbe, hb1, d0, d1, d2⟩ := HH.out.2.1.2 i x hx
      have e0 := (hbw.cell (p := ⟨b, _, none⟩) hb1).trans d0
      have e1 := (hbw.cell (p := ⟨b, _, none⟩) hb1).trans d1
      have e2 := (hbw.cell (p := ⟨b, _, none⟩) hb1).trans d2
      have hfn := rd_s x k bk wr ((hbw.block bk (Array.getElem?_eq_some_iff.1 HH.out.1).1).trans HH.out.1)
      have hi0 : (0 : Int) ≤ i := by omega
      rw [hbe]
      obtain ⟨r, hr⟩ : ∃ r, rdB k x = r := ⟨_, rfl⟩
      rw [hr] at hfn
      have HF := hide (And.intro hfn (And.intro hbw (And.intro hno (And.intro hx hr))))
      clear hfn hbw d0 d1 d2 hx hno hr
      cases r with
      | true =>
        go_wp2_with (go_at_call 86; refine HF.out.1.mono ?_; rintro e w2 ⟨rfl, b2⟩; have H2 := hide (HF.out.2.1.trans (b2.mono HF.out.2.1.size)); clear b2)
        go_ret
        exact ⟨.inl ⟨i, List.any_eq_true.2 ⟨x, List.mem_of_getElem? HF.out.2.2.2.1, HF.out.2.2.2.2⟩, rfl⟩, H2.out⟩
      | false =>
        go_wp2_with (go_at_call 86; refine HF.out.1.mono ?_; rintro e w2 ⟨rfl, b2⟩; have H2 := hide (HF.out.2.1.trans (b2.mono HF.out.2.1.size)); clear b2)
        refine ⟨⟨i + 1, by omega, by simp, ?_, H2.out⟩, by simp [intOf]; omega⟩
        rw [List.take_add_one, HF.out.2.2.2.1, List.any_append, HF.out.2.2.1]
        simp [HF.out.2.2.2.2]
    · have hall : L.any (rdB k) = false := by rwa [List.take_of_length_le (by have := HH.out.2.2; omega)] at hno
      have H2 := hide (And.intro hall hbw)
      clear hbw hno hall
      go_wp2_with fail
      go_ret
      exact ⟨.inr ⟨H2.out.1, rfl⟩, H2.out.2⟩
set_option maxRecDepth 100000 in
theorem contains_s (L : List (ByteArray × Bool × Int)) (k : ByteArray) (ao : Option Addr) (cap bk : Nat) (w : World) (hk : w.heap[bk]? = some (.cells #[.string k] 9)) (hm : SubMem w.heap.size w ao L) :
    Calls Tryd.prog 85 #[.slice ao L.length cap, .func (.func 86) #[] #[.pointer (some ⟨bk, 0, none⟩)]] w fun e w' => e = .returned (.bool (L.any (rdB k))) ∧ Below w.heap.size w w' := by
  have HI := hide (idxRd_s L k ao cap bk w hk hm)
  obtain ⟨R, hR⟩ : ∃ R, L.any (rdB k) = R := ⟨_, rfl⟩
  rw [hR]
  unfold IdxRd at HI
  rw [hR] at HI
  clear hk hm hR
  go_enter Tryd.func85, Tryd.ntmps85
  go_wp2_with fail
  refine HI.out.mono ?_
  rintro e w2 ⟨⟨i, hr, rfl⟩ | ⟨hr, rfl⟩, b2⟩
  · subst hr
    have H2 := hide b2
    have hi0 : (0 : Int) ≤ i := by omega
    clear b2
    go_wp2_with fail
    go_ret
    exact ⟨rfl, H2.out⟩
  · subst hr
    have H2 := hide b2
    clear b2
    go_wp2_with fail
    go_ret
    exact ⟨rfl, H2.out⟩
set_option maxRecDepth 100000 in
theorem subscribed_any (n : Nd) (v : NdW) (s : ByteArray) (w : World) (hok : NdOk w.heap.size w n v) :
    Calls Tryd.prog 66 #[.agg (ndA n v), .string s] w fun e w' => e = .returned (.bool (n.subs.any (rdB s))) ∧ Below w.heap.size w w' := by
  have hmf : ∀ (fn : Fn) (first cap : Array Value) (w : World), (Instr.makeFunc fn first cap).run Tryd.prog w = .ok (.func fn first cap) w := fun _ _ _ _ => rfl
  obtain ⟨W, hW⟩ : ∃ W, (w.alloc (.cells (ndA n v) 28)).alloc (.cells #[.string s] 9) = W := ⟨_, rfl⟩
  have b1 : Below w.heap.size w W := by rw [← hW]; exact ((Below.refl _ w).alloc (Nat.le_refl _) _).alloc (by simp) _
  have fb : W.heap[w.heap.size + 1]? = some (.cells #[.string s] 9) := by
    rw [← hW]
    have h := World.alloc_heap_new (w.alloc (.cells (ndA n v) 28)) (.cells #[.string s] 9)
    simpa using h
  have hf := contains_s n.subs s v.sa v.sc (w.heap.size + 1) W fb ((hok.2.1.below b1).raise b1.size)
  obtain ⟨r, hr⟩ : ∃ r, n.subs.any (rdB s) = r := ⟨_, rfl⟩
  rw [hr] at hf ⊢
  rw [← hW] at hf
  have HF := hide (And.intro hf b1)
  have HW := hide hW
  clear hf b1 hok hW fb hr
  unfold ndA at HF HW ⊢
  go_enter Tryd.func66, Tryd.ntmps66
  go_wp2_with fail
  refine HF.out.1.mono ?_
  rintro e w2 ⟨rfl, b2⟩
  have H2 := hide (show Below w.heap.size w w2 from HF.out.2.trans ((show Below W.heap.size W w2 by
    have h : _ = W := HW.out
    rw [h] at b2
    exact b2).mono HF.out.2.size))
  clear b2
  go_wp2_with fail
  go_ret
  exact ⟨rfl, H2.out⟩
/-- Who reads. -/
def readsB (n : Nd) (s : ByteArray) : Bool := !decide (roleL n.affs s = 1) && (decide (3 ≤ roleL n.affs s) || decide (n.acc = 0) || (decide (n.acc = 1) && n.subs.any (rdB s)))
set_option maxRecDepth 100000 in
theorem reads_any (n : Nd) (v : NdW) (s : ByteArray) (w : World) (hok : NdOk w.heap.size w n v) :
    Calls Tryd.prog 34 #[.agg (ndA n v), .string s] w fun e w' => e = .returned (.bool (readsB n s)) ∧ Below w.heap.size w w' := by
  obtain ⟨W, hW⟩ : ∃ W, w.alloc (.cells (ndA n v) 28) = W := ⟨_, rfl⟩
  have b1 : Below w.heap.size w W := by rw [← hW]; exact (Below.refl _ w).alloc (Nat.le_refl _) _
  have f1 : W.heap[w.heap.size]? = some (.cells (ndA n v) 28) := by rw [← hW]; exact World.alloc_heap_new w _
  have hl1 : w.heap.size < W.heap.size := (Array.getElem?_eq_some_iff.1 f1).1
  have HF := hide (role_any n v s W ((hok.below b1).raise b1.size))
  have HK := hide (And.intro hok (And.intro b1 (And.intro hl1 f1)))
  have HA := hide f1
  have HW := hide hW
  rw [← hW] at HF HA
  obtain ⟨R, hR⟩ : ∃ R, readsB n s = R := ⟨_, rfl⟩
  obtain ⟨r, hr⟩ : ∃ r, roleL n.affs s = r := ⟨_, rfl⟩
  rw [hR]
  rw [hr] at HF
  unfold readsB at hR
  rw [hr] at hR
  have HR := hide hR
  clear hok hW f1 b1 hl1 hR hr
  go_enter Tryd.func34, Tryd.ntmps34
  go_wp2_with (refine l_load _ (load_nd HA.out) rfl rfl rfl ?_)
  refine HF.out.mono ?_
  rintro e w2 ⟨rfl, b2⟩
  have b2' : Below W.heap.size W w2 := by
    have h : _ = W := HW.out
    rw [h] at b2
    exact b2
  have bw := HK.out.2.1.trans (b2'.mono HK.out.2.1.size)
  have f2 := (b2'.block _ HK.out.2.2.1).trans HK.out.2.2.2
  have HS := hide (subscribed_any n v s w2 ((HK.out.1.below bw).raise bw.size))
  have H2 := hide (And.intro bw f2)
  have c2 := (nd_box f2).2.2.1
  clear b2 b2' bw f2
  by_cases h1 : r = 1
  · subst h1
    obtain rfl : false = R := by rw [← HR.out]; rfl
    go_wp2_with fail
    go_ret
    exact ⟨rfl, H2.out.1⟩
  · have h1e : ((r : Int) == 1) = false := by rw [beq_eq_false_iff_ne]; omega
    by_cases h3 : (3 : Int) ≤ r
    · obtain rfl : true = R := by rw [← HR.out]; simp [h1]; omega
      go_wp2_with fail
      go_ret
      exact ⟨rfl, H2.out.1⟩
    · by_cases ha : n.acc = 0
      · rw [ha] at c2
        obtain rfl : true = R := by rw [← HR.out]; simp [h1, ha]
        go_wp2_with fail
        go_ret
        exact ⟨rfl, H2.out.1⟩
      · have hae : ((n.acc : Int) == 0) = false := by rw [beq_eq_false_iff_ne]; omega
        by_cases hb : n.acc = 1
        · have hbe : ((n.acc : Int) == 1) = true := by rw [hb]; rfl
          have h3n : ¬ 3 ≤ r := by omega
          have HRR := hide (show n.subs.any (rdB s) = R by rw [← HR.out]; simp [h1, hb, h3n])
          clear h3n
          rw [HRR.out] at HS
          go_wp2_with (refine l_load _ (load_nd H2.out.2) rfl rfl rfl ?_)
          refine HS.out.mono ?_
          rintro e w3 ⟨rfl, b3⟩
          have H3 := hide (H2.out.1.trans (b3.mono H2.out.1.size))
          clear b3
          go_wp2_with fail
          go_ret
          exact ⟨rfl, H3.out⟩
        · have hbe : ((n.acc : Int) == 1) = false := by rw [beq_eq_false_iff_ne]; omega
          obtain rfl : false = R := by
            rw [← HR.out]
            have : ¬ 3 ≤ r := by omega
            simp [ha, hb, this]
          go_wp2_with fail
          go_ret
          exact ⟨rfl, H2.out.1⟩
end Go.Proofs.YtffjmkngdjbjlaaDoor
