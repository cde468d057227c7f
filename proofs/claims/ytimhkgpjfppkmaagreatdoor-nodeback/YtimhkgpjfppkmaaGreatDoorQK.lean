/- A node at which somebody publishes. A node of which an owner says who may subscribe, and how many items are kept. A subscription is looked up; items are taken out. Who may read. -/
import Derived.Test.YtimhkgpjfppkmaaGreatDoorRK
namespace Go.Proofs.YtimhkgpjfppkmaaGreatDoor
open Go.RowKit

theorem refuseN_any (c : Int) (w : World) : Calls Tryz.prog 35 #[.int .i64 c] w fun e w' => e = .returned (.tuple #[.agg (ndA noN noW), .int .i64 c]) ∧ Below w.heap.size w w' := refuse_any c w
/-- Lists of a call's own. -/
def Own (w : World) (u : NdW) : Prop := (∀ a, u.aa = some a → w.heap.size ≤ a.block) ∧ (∀ a, u.sa = some a → w.heap.size ≤ a.block) ∧ ∀ a, u.ia = some a → w.heap.size ≤ a.block
/-- What an edit answers: a node that stands there, and a condition. -/
def EditR (w : World) (C : Nd → Int → Prop) (e : Ending) (w' : World) : Prop := ∃ m u c, e = .returned (.tuple #[.agg (ndA m u), .int .i64 c]) ∧ C m c ∧ NdM w'.heap.size w' m u ∧ Below w.heap.size w w' ∧ Own w u
/-- The boxes of an edit: the node's, the result's, behind the argument. -/
theorem boxes (w : World) (n : Nd) (v : NdW) : ∃ W, (w.alloc (.cells (ndA n v) 27)).alloc (.cells (ndA noN noW) 27) = W ∧ W.heap[w.heap.size]? = some (.cells (ndA n v) 27) ∧ W.heap[w.heap.size + 1]? = some (.cells (ndA noN noW) 27) ∧ Below w.heap.size w W ∧ W.heap.size = w.heap.size + 1 + 1 := by
  obtain ⟨Wa, hWa⟩ : ∃ Wa, w.alloc (.cells (ndA n v) 27) = Wa := ⟨_, rfl⟩
  have fa := World.alloc_heap_new w (.cells (ndA n v) 27)
  have ba : Below w.heap.size w Wa := by rw [← hWa]; exact (Below.refl _ w).alloc (Nat.le_refl _) _
  have za : Wa.heap.size = w.heap.size + 1 := by rw [← hWa]; simp
  rw [hWa] at fa ⊢
  obtain ⟨Wb, hWb⟩ : ∃ Wb, Wa.alloc (.cells (ndA noN noW) 27) = Wb := ⟨_, rfl⟩
  have fb := World.alloc_heap_new Wa (.cells (ndA noN noW) 27)
  have bb : Below Wa.heap.size Wa Wb := by rw [← hWb]; exact (Below.refl _ Wa).alloc (Nat.le_refl _) _
  have zb : Wb.heap.size = w.heap.size + 1 + 1 := by rw [← hWb, World.size_alloc, za]
  rw [hWb, za] at fb
  rw [hWb]
  exact ⟨Wb, rfl, (bb.block _ (by omega)).trans fa, fb, ba.trans (bb.mono ba.size), zb⟩
/-- How the boxes stand. -/
structure Bx (w : World) (n : Nd) (u : NdW) (W : World) : Prop where
  a : W.heap[w.heap.size]? = some (.cells (ndA n u) 27)
  r : ∃ m x, W.heap[w.heap.size + 1]? = some (.cells (ndA m x) 27)
  mem : NdM W.heap.size W n u
  bel : Below w.heap.size w W
  size : w.heap.size + 2 ≤ W.heap.size
theorem Bx.call {w W W' : World} {n : Nd} {u : NdW} (h : Bx w n u W) (hb : Below W.heap.size W W') : Bx w n u W' := by
  obtain ⟨m, x, hr⟩ := h.r
  have hs := h.size
  have hz := hb.size
  exact ⟨(hb.block _ (by omega)).trans h.a, ⟨m, x, (hb.block _ (by omega)).trans hr⟩, h.mem.move hb, h.bel.trans (hb.mono (by omega)), by omega⟩
/-- The node's box is written. -/
theorem Bx.put {w W : World} {n m : Nd} {u x : NdW} (h : Bx w n u W) (hm : NdM W.heap.size W m x) (hf : (∀ a, x.aa = some a → a.block ≠ w.heap.size) ∧ (∀ a, x.sa = some a → a.block ≠ w.heap.size) ∧ ∀ a, x.ia = some a → a.block ≠ w.heap.size) : Bx w m x (setNd W w.heap.size m x) := by
  obtain ⟨m', x', hr⟩ := h.r
  exact ⟨setNd_heap h.a, ⟨m', x', (setNd_far _ (by omega)).trans hr⟩, ndM_far hm setNd_size setNd_far hf, setNd_below h.bel (Nat.le_refl _), by rw [setNd_size]; exact h.size⟩
theorem refuse_run {w W : World} {n : Nd} {u : NdW} {c : Int} {r d : Nat} {fn : Func} {tmps : Array Value} (h : Bx w n u W) (hres : fn.results = #[.cell r 27, .tmp d]) (hp : tmps[r]?.getD undef = .pointer (some ⟨w.heap.size + 1, 0, none⟩)) (hz : tmps[d]?.getD undef = .int .i64 c) : (results fn tmps).run Tryz.prog (setNd W (w.heap.size + 1) noN noW) = .ok (.tuple #[.agg (ndA noN noW), .int .i64 c]) (setNd W (w.heap.size + 1) noN noW) := by
  obtain ⟨m', x', hr⟩ := h.r
  exact results_nc hres hp hz (setNd_heap hr)
/-- Lists that lie behind the boxes. -/
def Far (w : World) (u : NdW) : Prop := (∀ a, u.aa = some a → w.heap.size + 2 ≤ a.block) ∧ (∀ a, u.sa = some a → w.heap.size + 2 ≤ a.block) ∧ ∀ a, u.ia = some a → w.heap.size + 2 ≤ a.block
theorem Far.res {w : World} {u : NdW} (h : Far w u) : (∀ a, u.aa = some a → a.block ≠ w.heap.size + 1) ∧ (∀ a, u.sa = some a → a.block ≠ w.heap.size + 1) ∧ ∀ a, u.ia = some a → a.block ≠ w.heap.size + 1 :=
  ⟨fun a e => by have := h.1 a e; omega, fun a e => by have := h.2.1 a e; omega, fun a e => by have := h.2.2 a e; omega⟩
theorem refuse_ed {w W : World} {n : Nd} {u : NdW} {C : Nd → Int → Prop} {c : Int} (h : Bx w n u W) (hC : C noN c) : EditR w C (.returned (.tuple #[.agg (ndA noN noW), .int .i64 c])) (setNd W (w.heap.size + 1) noN noW) :=
  ⟨noN, noW, c, rfl, hC, noN_mem _, setNd_below h.bel (by omega), ⟨fun a e => (by cases e), fun a e => (by cases e), fun a e => (by cases e)⟩⟩
theorem done_run {w W : World} {n : Nd} {u : NdW} {r d : Nat} {fn : Func} {tmps : Array Value} (h : Bx w n u W) (hres : fn.results = #[.cell r 27, .tmp d]) (hp : tmps[r]?.getD undef = .pointer (some ⟨w.heap.size + 1, 0, none⟩)) (hz : tmps[d]?.getD undef = .int .i64 0) : (results fn tmps).run Tryz.prog (setNd W (w.heap.size + 1) n u) = .ok (.tuple #[.agg (ndA n u), .int .i64 0]) (setNd W (w.heap.size + 1) n u) := by
  obtain ⟨m', x', hr⟩ := h.r
  exact results_nc hres hp hz (setNd_heap hr)
theorem done_ed {w W : World} {n : Nd} {u : NdW} {C : Nd → Int → Prop} (h : Bx w n u W) (hC : C n 0) (hf : Far w u) : EditR w C (.returned (.tuple #[.agg (ndA n u), .int .i64 0])) (setNd W (w.heap.size + 1) n u) :=
  ⟨n, u, 0, rfl, hC, ndM_far h.mem setNd_size setNd_far hf.res, setNd_below h.bel (by omega), ⟨fun a e => by have := hf.1 a e; omega, fun a e => by have := hf.2.1 a e; omega, fun a e => by have := hf.2.2 a e; omega⟩⟩
theorem ndM_one {w W : World} {n : Nd} {u : NdW} {i : Nat} {v : Value} (hm : NdM W.heap.size W n u) (hf : Far w u) : NdM (W.setCell ⟨w.heap.size, i, none⟩ v).heap.size (W.setCell ⟨w.heap.size, i, none⟩ v) n u :=
  ndM_far (r := w.heap.size) hm (size_set _ _ _) (fun k hk => set_blk _ _ _ _ hk) ⟨fun a e => by have := hf.1 a e; omega, fun a e => by have := hf.2.1 a e; omega, fun a e => by have := hf.2.2 a e; omega⟩
theorem Bx.setItems {w W : World} {n : Nd} {u : NdW} (h : Bx w n u W) (hf : Far w u) {ia : Option Addr} {ic : Nat} {L : List (ByteArray × ByteArray × ByteArray)} (hm : ItMem W.heap.size W ia L) (hl : L.length ≤ ic) (hfit : ∀ x ∈ L, Fits x.1 ∧ Fits x.2.1 ∧ Fits x.2.2) (hia : ∀ a, ia = some a → w.heap.size + 2 ≤ a.block) :
    Bx w { n with items := L } { u with ia := ia, ic := ic } (W.setCell ⟨w.heap.size, 6, none⟩ (.slice ia L.length ic)) ∧ Far w { u with ia := ia, ic := ic } := by
  obtain ⟨m', x', hr⟩ := h.r
  have hm1 := ndM_one (i := 6) (v := .slice ia L.length ic) h.mem hf
  have hm2 : NdM W.heap.size W { n with items := L } { u with ia := ia, ic := ic } := ⟨h.mem.ok, hm, hl, ⟨h.mem.fits.name, h.mem.fits.parent, h.mem.fits.affs, h.mem.fits.subs, hfit⟩⟩
  have hf2 : Far w { u with ia := ia, ic := ic } := ⟨hf.1, hf.2.1, hia⟩
  have hh := heap_setk (i := 6) (v := .slice ia L.length ic) h.a
  refine ⟨⟨hh, ⟨m', x', (set_blk _ _ _ _ (by simp)).trans hr⟩, ndM_one hm2 hf2, h.bel.setCell (p := ⟨w.heap.size, 6, none⟩) (Nat.le_refl _) _, by rw [size_set]; exact h.size⟩, hf2⟩
theorem Bx.setSubs {w W : World} {n : Nd} {u : NdW} (h : Bx w n u W) (hf : Far w u) {sa : Option Addr} {sc : Nat} {L : List (ByteArray × Bool × Int)} (hm : SubMem W.heap.size W sa L) (hl : L.length ≤ sc) (hfit : ∀ x ∈ L, Fits x.1) (hsa : ∀ a, sa = some a → w.heap.size + 2 ≤ a.block) :
    Bx w { n with subs := L } { u with sa := sa, sc := sc } (W.setCell ⟨w.heap.size, 5, none⟩ (.slice sa L.length sc)) ∧ Far w { u with sa := sa, sc := sc } := by
  obtain ⟨m', x', hr⟩ := h.r
  have hm2 : NdM W.heap.size W { n with subs := L } { u with sa := sa, sc := sc } := ⟨⟨h.mem.ok.1, hm, h.mem.ok.2.2.1, hl⟩, h.mem.it, h.mem.ic, ⟨h.mem.fits.name, h.mem.fits.parent, h.mem.fits.affs, hfit, h.mem.fits.items⟩⟩
  have hf2 : Far w { u with sa := sa, sc := sc } := ⟨hf.1, hsa, hf.2.2⟩
  have hh := heap_setk (i := 5) (v := .slice sa L.length sc) h.a
  refine ⟨⟨hh, ⟨m', x', (set_blk _ _ _ _ (by simp)).trans hr⟩, ndM_one hm2 hf2, h.bel.setCell (p := ⟨w.heap.size, 5, none⟩) (Nat.le_refl _) _, by rw [size_set]; exact h.size⟩, hf2⟩
theorem max_right {n : Nd} (h : RightN n) : 0 ≤ n.max ∧ n.max ≤ 8 := by
  have := h.2.2.1
  unfold maxOk at this
  split at this
  · have := of_decide_eq_true this; omega
  · exact of_decide_eq_true this
theorem items_right {n : Nd} (h : RightN n) : n.items.length ≤ 8 := by
  have h1 := h.2.2.2.2.2.2.1
  have h2 := max_right h
  omega
theorem hm_items {k : Nat} {w : World} {n : Nd} {u : NdW} (h : NdM k w n u) : n.items.length ≤ 1000000 := h.it.1
theorem bar_right {n : Nd} {s : ByteArray} {l : Nat} (h : BarC n s l 0) : RightN n := by
  rcases h with ⟨_, h⟩ | ⟨_, _, h⟩ | ⟨_, _, _, h⟩ | ⟨h, _⟩
  · cases h
  · cases h
  · cases h
  · exact h
/-- The node behind a publication. -/
def pubN (n : Nd) (s item body : ByteArray) : Nd := { n with items := lastL (woItem item n.items ++ [(item, s, body)]) n.max.toNat }
def PubC (n : Nd) (s item body : ByteArray) (m : Nd) (c : Int) : Prop := (c ≠ 0 ∧ BarC n s 4 c ∧ m = noN) ∨ (BarC n s 4 0 ∧ ¬ (nameOk item = true ∧ BodyOk body) ∧ c = 1 ∧ m = noN) ∨ (BarC n s 4 0 ∧ nameOk item = true ∧ BodyOk body ∧ c = 0 ∧ m = pubN n s item body)
end Go.Proofs.YtimhkgpjfppkmaaGreatDoor
namespace Go.Proofs.YtimhkgpjfppkmaaGreatDoor
open Go.RowKit

theorem Bx.setAcc {w W : World} {n : Nd} {u : NdW} (h : Bx w n u W) (hf : Far w u) (a : Nat) : Bx w { n with acc := a } u (W.setCell ⟨w.heap.size, 2, none⟩ (.int .u8 a)) := by
  obtain ⟨m', x', hr⟩ := h.r
  have hm2 : NdM W.heap.size W { n with acc := a } u := ⟨h.mem.ok, h.mem.it, h.mem.ic, ⟨h.mem.fits.name, h.mem.fits.parent, h.mem.fits.affs, h.mem.fits.subs, h.mem.fits.items⟩⟩
  have hh := heap_setk (i := 2) (v := .int .u8 a) h.a
  exact ⟨hh, ⟨m', x', (set_blk _ _ _ _ (by simp)).trans hr⟩, ndM_one hm2 hf, h.bel.setCell (p := ⟨w.heap.size, 2, none⟩) (Nat.le_refl _) _, by rw [size_set]; exact h.size⟩
theorem Bx.setMax {w W : World} {n : Nd} {u : NdW} (h : Bx w n u W) (hf : Far w u) (a : Int) : Bx w { n with max := a } u (W.setCell ⟨w.heap.size, 3, none⟩ (.int .i64 a)) := by
  obtain ⟨m', x', hr⟩ := h.r
  have hm2 : NdM W.heap.size W { n with max := a } u := ⟨h.mem.ok, h.mem.it, h.mem.ic, ⟨h.mem.fits.name, h.mem.fits.parent, h.mem.fits.affs, h.mem.fits.subs, h.mem.fits.items⟩⟩
  have hh := heap_setk (i := 3) (v := .int .i64 a) h.a
  exact ⟨hh, ⟨m', x', (set_blk _ _ _ _ (by simp)).trans hr⟩, ndM_one hm2 hf, h.bel.setCell (p := ⟨w.heap.size, 3, none⟩) (Nat.le_refl _) _, by rw [size_set]; exact h.size⟩
def cfgN (n : Nd) (a : Nat) (most : Int) : Nd := { n with acc := a, max := most, items := lastL n.items most.toNat }
/-- Why an owner's word is not taken. -/
def OwnC (n : Nd) (s : ByteArray) (c : Int) : Prop := (¬ RightN n ∧ c = 1) ∨ (RightN n ∧ roleL n.affs s ≠ 5 ∧ c = 3)
def CfgC (n : Nd) (s : ByteArray) (a : Nat) (most : Int) (m : Nd) (c : Int) : Prop := (OwnC n s c ∧ m = noN) ∨ (RightN n ∧ roleL n.affs s = 5 ∧ ((¬ (a ≤ 2 ∧ maxOk most n.coll = true) ∧ c = 1 ∧ m = noN) ∨ (a ≤ 2 ∧ maxOk most n.coll = true ∧ c = 0 ∧ m = cfgN n a most)))
theorem maxOk_le {n : Int} {c : Bool} (h : maxOk n c = true) : 0 ≤ n ∧ n ≤ 8 := by
  unfold maxOk at h
  split at h
  · have := of_decide_eq_true h; omega
  · exact of_decide_eq_true h
end Go.Proofs.YtimhkgpjfppkmaaGreatDoor
namespace Go.Proofs.YtimhkgpjfppkmaaGreatDoor
open Go.RowKit

theorem results_s4 {fn : Func} {tmps : Array Value} {w : World} {b : Nat} {u0 u1 u2 z : Value} (h : fn.results = #[.cell 4 58, .tmp 5]) (hp : tmps[4]?.getD undef = .pointer (some ⟨b, 0, none⟩)) (hq : tmps[5]?.getD undef = z) (h0 : w.cell? ⟨b, 0, none⟩ = some u0) (h1 : w.cell? ⟨b, 1, none⟩ = some u1) (h2 : w.cell? ⟨b, 2, none⟩ = some u2) : (results fn tmps).run Tryz.prog w = .ok (.tuple #[.agg #[u0, u1, u2], z]) w := by
  simp [results, h, hp, hq, h0, h1, h2, go_sem, Tryz.isAgg58, Tryz.sizeOf58]
set_option maxRecDepth 100000 in
set_option maxHeartbeats 4000000 in
theorem sub_any (n : Nd) (v : NdW) (s : ByteArray) (w : World) (hok : NdOk w.heap.size w n v) :
    Calls Tryz.prog 19 #[.agg (ndA n v), .string s] w fun e w' => FirstSub n.subs s e ∧ Below w.heap.size w w' := by
  obtain ⟨W, hW⟩ : ∃ W, (w.alloc (.cells (ndA n v) 27)).alloc (.cells #[.string ⟨#[]⟩, .bool false, .int .i64 0] 58) = W := ⟨_, rfl⟩
  have b1 : Below w.heap.size w W := by rw [← hW]; exact ((Below.refl _ w).alloc (Nat.le_refl _) _).alloc (by simp) _
  have fb : W.heap[w.heap.size + 1]? = some (.cells #[.string ⟨#[]⟩, .bool false, .int .i64 0] 58) := by
    rw [← hW]
    have h := World.alloc_heap_new (w.alloc (.cells (ndA n v) 27)) (.cells #[.string ⟨#[]⟩, .bool false, .int .i64 0] 58)
    simpa using h
  have hf := firstSub_any v.sa v.sc n.subs s W ((hok.2.1.below b1).raise b1.size)
  rw [← hW] at hf
  have HF := hide (And.intro hf (And.intro b1 fb))
  have HW := hide hW
  clear hf b1 hok hW fb
  unfold ndA at HF HW ⊢
  go_enter Tryz.func19, Tryz.ntmps19
  go_wp2_with fail
  refine HF.out.1.mono ?_
  rintro e w2 ⟨hx, b2⟩
  have b2' : Below W.heap.size W w2 := by
    have h : _ = W := HW.out
    rw [h] at b2
    exact b2
  have fw := (b2'.block _ (Array.getElem?_eq_some_iff.1 HF.out.2.2).1).trans HF.out.2.2
  have bw := HF.out.2.1.trans (b2'.mono HF.out.2.1.size)
  obtain ⟨d0, d1, d2, z0, z1, z2⟩ := cells_s fw
  have HH := hide (And.intro fw bw)
  clear fw bw b2 b2'
  rcases hx with ⟨x, hx, rfl⟩ | ⟨hx, rfl⟩
  · have H2 := hide hx
    clear hx
    go_wp2_with fail
    have h3 := set3_s (v0 := .string x.1) (v1 := .bool x.2.1) (v2 := .int .i64 x.2.2) HH.out.1
    have b3 := bel3_s (b := w.heap.size + 1) (v0 := .string x.1) (v1 := .bool x.2.1) (v2 := .int .i64 x.2.2) HH.out.2 (Nat.le_succ _)
    exact bodyPost_ret (results_s4 rfl rfl rfl (cells_s h3).1 (cells_s h3).2.1 (cells_s h3).2.2.1) rfl ⟨.inl ⟨x, H2.out, rfl⟩, b3⟩
  · have H2 := hide hx
    clear hx
    go_wp2_with fail
    have h3 := set3_s (v0 := .string ⟨#[]⟩) (v1 := .bool false) (v2 := .int .i64 0) HH.out.1
    have b3 := bel3_s (b := w.heap.size + 1) (v0 := .string ⟨#[]⟩) (v1 := .bool false) (v2 := .int .i64 0) HH.out.2 (Nat.le_succ _)
    exact bodyPost_ret (results_s4 rfl rfl rfl (cells_s h3).1 (cells_s h3).2.1 (cells_s h3).2.2.1) rfl ⟨.inr ⟨H2.out, rfl⟩, b3⟩
def PurC (n : Nd) (s : ByteArray) (m : Nd) (c : Int) : Prop := (c ≠ 0 ∧ BarC n s 5 c ∧ m = noN) ∨ (BarC n s 5 0 ∧ c = 0 ∧ m = { n with items := [] })
def RetC (n : Nd) (s item : ByteArray) (m : Nd) (c : Int) : Prop := (c ≠ 0 ∧ BarC n s 4 c ∧ m = noN) ∨ (BarC n s 4 0 ∧ n.items.find? (fun x => decide (x.1 = item)) = none ∧ c = 4 ∧ m = noN) ∨ (BarC n s 4 0 ∧ (n.items.find? (fun x => decide (x.1 = item))).isSome = true ∧ c = 0 ∧ m = { n with items := woItem item n.items })
end Go.Proofs.YtimhkgpjfppkmaaGreatDoor
namespace Go.Proofs.YtimhkgpjfppkmaaGreatDoor
open Go.RowKit

/-- A subscription by which a node is read. -/
def rdB (k : ByteArray) (x : ByteArray × Bool × Int) : Bool := x.1.toList == k.toList && !x.2.1
set_option maxRecDepth 100000 in
theorem rd_s (x : ByteArray × Bool × Int) (k : ByteArray) (bk : Nat) (w : World) (hk : w.heap[bk]? = some (.cells #[.string k] 9)) :
    Calls Tryz.prog 70 #[.agg #[.string x.1, .bool x.2.1, .int .i64 x.2.2], .pointer (some ⟨bk, 0, none⟩)] w fun e w' => e = .returned (.bool (rdB k x)) ∧ Below w.heap.size w w' := by
  obtain ⟨xa, xp, xi⟩ := x
  have b1 : Below w.heap.size w (w.alloc (.cells #[.string xa, .bool xp, .int .i64 xi] 58)) := (Below.refl _ w).alloc (Nat.le_refl _) _
  have hkl := (Array.getElem?_eq_some_iff.1 hk).1
  have c1 := str_box ((b1.block bk hkl).trans hk)
  have f0 := World.alloc_heap_new w (.cells #[.string xa, .bool xp, .int .i64 xi] 58)
  obtain ⟨d0, d1, _⟩ := cells_s f0
  unfold rdB
  obtain ⟨r, hr⟩ : ∃ r, (xa.toList == k.toList) = r := ⟨_, rfl⟩
  simp only [hr]
  have HH := hide (And.intro b1 hk)
  clear b1 hk f0
  cases r with
  | false =>
    go_enter Tryz.func70, Tryz.ntmps70
    go_wp2_with fail
    go_ret
    exact ⟨rfl, HH.out.1⟩
  | true =>
    go_enter Tryz.func70, Tryz.ntmps70
    go_wp2_with fail
    go_ret
    exact ⟨rfl, HH.out.1⟩
/-- Whether one of them reads. -/
def IdxRd (L : List (ByteArray × Bool × Int)) (k : ByteArray) (e : Ending) : Prop := (∃ i : Nat, L.any (rdB k) = true ∧ e = .returned (.int .i64 i)) ∨ (L.any (rdB k) = false ∧ e = .returned (.int .i64 (-1)))
set_option maxRecDepth 100000 in
set_option maxHeartbeats 4000000 in
theorem idxRd_s (L : List (ByteArray × Bool × Int)) (k : ByteArray) (ao : Option Addr) (cap bk : Nat) (w : World) (hk : w.heap[bk]? = some (.cells #[.string k] 9)) (hm : SubMem w.heap.size w ao L) :
    Calls Tryz.prog 86 #[.slice ao L.length cap, .func (.func 70) #[] #[.pointer (some ⟨bk, 0, none⟩)]] w fun e w' => IdxRd L k e ∧ Below w.heap.size w w' := by
  obtain ⟨m, hml⟩ : ∃ m, L.length = m := ⟨_, rfl⟩
  have hm6 : m ≤ 1000000 := by have := hm.1; omega
  have HH := hide (And.intro hk (And.intro hm hml))
  rw [hml]
  clear hk hm hml
  go_enter Tryz.func86, Tryz.ntmps86
  go_wp2_with fail
  go_loopw [8] (fun iv wr => ∃ i : Nat, i ≤ m ∧ iv = .int .i64 i ∧ (L.take i).any (rdB k) = false ∧ Below w.heap.size w wr) (fun iv _ => m - (intOf iv).toNat)
  case atStart => exact ⟨0, Nat.zero_le _, rfl, by simp, Below.refl _ _⟩
  case round =>
    obtain ⟨i, him, rfl, hno, hbw⟩ := hrel
    by_cases hlt : (i : Int) < m
    · obtain ⟨x, hx⟩ : ∃ x, L[i]? = some x := ⟨_, List.getElem?_eq_getElem (by have := HH.out.2.2; omega)⟩
      obtain ⟨b, off, hbe, hb1, d0, d1, d2⟩ := HH.out.2.1.2 i x hx
      have e0 := (hbw.cell (p := ⟨b, _, none⟩) hb1).trans d0
      have e1 := (hbw.cell (p := ⟨b, _, none⟩) hb1).trans d1
      have e2 := (hbw.cell (p := ⟨b, _, none⟩) hb1).trans d2
      have hfn := rd_s x k bk wr ((hbw.block bk (Array.getElem?_eq_some_iff.1 HH.out.1).1).trans HH.out.1)
      have hi0 : (0 : Int) ≤ i := by omega
      rw [hbe]
      obtain ⟨r, hr⟩ : ∃ r, rdB k x = r := ⟨_, rfl⟩
      rw [hr] at hfn
      have HF := hide (And.intro hfn (And.intro hbw (And.intro hno (And.intro hx hr))))
      clear hfn hbw d0 d1 d2 hx hno hr
      cases r with
      | true =>
        go_wp2_with (go_at_call 70; refine HF.out.1.mono ?_; rintro e w2 ⟨rfl, b2⟩; have H2 := hide (HF.out.2.1.trans (b2.mono HF.out.2.1.size)); clear b2)
        go_ret
        exact ⟨.inl ⟨i, List.any_eq_true.2 ⟨x, List.mem_of_getElem? HF.out.2.2.2.1, HF.out.2.2.2.2⟩, rfl⟩, H2.out⟩
      | false =>
        go_wp2_with (go_at_call 70; refine HF.out.1.mono ?_; rintro e w2 ⟨rfl, b2⟩; have H2 := hide (HF.out.2.1.trans (b2.mono HF.out.2.1.size)); clear b2)
        refine ⟨⟨i + 1, by omega, by simp, ?_, H2.out⟩, by simp [intOf]; omega⟩
        rw [List.take_add_one, HF.out.2.2.2.1, List.any_append, HF.out.2.2.1]
        simp [HF.out.2.2.2.2]
    · have hall : L.any (rdB k) = false := by rwa [List.take_of_length_le (by have := HH.out.2.2; omega)] at hno
      have H2 := hide (And.intro hall hbw)
      clear hbw hno hall
      go_wp2_with fail
      go_ret
      exact ⟨.inr ⟨H2.out.1, rfl⟩, H2.out.2⟩
set_option maxRecDepth 100000 in
theorem contains_s (L : List (ByteArray × Bool × Int)) (k : ByteArray) (ao : Option Addr) (cap bk : Nat) (w : World) (hk : w.heap[bk]? = some (.cells #[.string k] 9)) (hm : SubMem w.heap.size w ao L) :
    Calls Tryz.prog 69 #[.slice ao L.length cap, .func (.func 70) #[] #[.pointer (some ⟨bk, 0, none⟩)]] w fun e w' => e = .returned (.bool (L.any (rdB k))) ∧ Below w.heap.size w w' := by
  have HI := hide (idxRd_s L k ao cap bk w hk hm)
  obtain ⟨R, hR⟩ : ∃ R, L.any (rdB k) = R := ⟨_, rfl⟩
  rw [hR]
  unfold IdxRd at HI
  rw [hR] at HI
  clear hk hm hR
  go_enter Tryz.func69, Tryz.ntmps69
  go_wp2_with fail
  refine HI.out.mono ?_
  rintro e w2 ⟨⟨i, hr, rfl⟩ | ⟨hr, rfl⟩, b2⟩
  · subst hr
    have H2 := hide b2
    have hi0 : (0 : Int) ≤ i := by omega
    clear b2
    go_wp2_with fail
    go_ret
    exact ⟨rfl, H2.out⟩
  · subst hr
    have H2 := hide b2
    clear b2
    go_wp2_with fail
    go_ret
    exact ⟨rfl, H2.out⟩
set_option maxRecDepth 100000 in
theorem subscribed_any (n : Nd) (v : NdW) (s : ByteArray) (w : World) (hok : NdOk w.heap.size w n v) :
    Calls Tryz.prog 40 #[.agg (ndA n v), .string s] w fun e w' => e = .returned (.bool (n.subs.any (rdB s))) ∧ Below w.heap.size w w' := by
  have hmf : ∀ (fn : Fn) (first cap : Array Value) (w : World), (Instr.makeFunc fn first cap).run Tryz.prog w = .ok (.func fn first cap) w := fun _ _ _ _ => rfl
  obtain ⟨W, hW⟩ : ∃ W, (w.alloc (.cells (ndA n v) 27)).alloc (.cells #[.string s] 9) = W := ⟨_, rfl⟩
  have b1 : Below w.heap.size w W := by rw [← hW]; exact ((Below.refl _ w).alloc (Nat.le_refl _) _).alloc (by simp) _
  have fb : W.heap[w.heap.size + 1]? = some (.cells #[.string s] 9) := by
    rw [← hW]
    have h := World.alloc_heap_new (w.alloc (.cells (ndA n v) 27)) (.cells #[.string s] 9)
    simpa using h
  have hf := contains_s n.subs s v.sa v.sc (w.heap.size + 1) W fb ((hok.2.1.below b1).raise b1.size)
  obtain ⟨r, hr⟩ : ∃ r, n.subs.any (rdB s) = r := ⟨_, rfl⟩
  rw [hr] at hf ⊢
  rw [← hW] at hf
  have HF := hide (And.intro hf b1)
  have HW := hide hW
  clear hf b1 hok hW fb hr
  unfold ndA at HF HW ⊢
  go_enter Tryz.func40, Tryz.ntmps40
  go_wp2_with fail
  refine HF.out.1.mono ?_
  rintro e w2 ⟨rfl, b2⟩
  have H2 := hide (show Below w.heap.size w w2 from HF.out.2.trans ((show Below W.heap.size W w2 by
    have h : _ = W := HW.out
    rw [h] at b2
    exact b2).mono HF.out.2.size))
  clear b2
  go_wp2_with fail
  go_ret
  exact ⟨rfl, H2.out⟩
/-- Who reads. -/
def readsB (n : Nd) (s : ByteArray) : Bool := !decide (roleL n.affs s = 1) && (decide (3 ≤ roleL n.affs s) || decide (n.acc = 0) || (decide (n.acc = 1) && n.subs.any (rdB s)))
set_option maxRecDepth 100000 in
theorem reads_any (n : Nd) (v : NdW) (s : ByteArray) (w : World) (hok : NdOk w.heap.size w n v) :
    Calls Tryz.prog 20 #[.agg (ndA n v), .string s] w fun e w' => e = .returned (.bool (readsB n s)) ∧ Below w.heap.size w w' := by
  obtain ⟨W, hW⟩ : ∃ W, w.alloc (.cells (ndA n v) 27) = W := ⟨_, rfl⟩
  have b1 : Below w.heap.size w W := by rw [← hW]; exact (Below.refl _ w).alloc (Nat.le_refl _) _
  have f1 : W.heap[w.heap.size]? = some (.cells (ndA n v) 27) := by rw [← hW]; exact World.alloc_heap_new w _
  have hl1 : w.heap.size < W.heap.size := (Array.getElem?_eq_some_iff.1 f1).1
  have HF := hide (role_any n v s W ((hok.below b1).raise b1.size))
  have HK := hide (And.intro hok (And.intro b1 (And.intro hl1 f1)))
  have HA := hide f1
  have HW := hide hW
  rw [← hW] at HF HA
  obtain ⟨R, hR⟩ : ∃ R, readsB n s = R := ⟨_, rfl⟩
  obtain ⟨r, hr⟩ : ∃ r, roleL n.affs s = r := ⟨_, rfl⟩
  rw [hR]
  rw [hr] at HF
  unfold readsB at hR
  rw [hr] at hR
  have HR := hide hR
  clear hok hW f1 b1 hl1 hR hr
  go_enter Tryz.func20, Tryz.ntmps20
  go_wp2_with (refine l_load _ (load_nd HA.out) rfl rfl rfl ?_)
  refine HF.out.mono ?_
  rintro e w2 ⟨rfl, b2⟩
  have b2' : Below W.heap.size W w2 := by
    have h : _ = W := HW.out
    rw [h] at b2
    exact b2
  have bw := HK.out.2.1.trans (b2'.mono HK.out.2.1.size)
  have f2 := (b2'.block _ HK.out.2.2.1).trans HK.out.2.2.2
  have HS := hide (subscribed_any n v s w2 ((HK.out.1.below bw).raise bw.size))
  have H2 := hide (And.intro bw f2)
  have c2 := (nd_box f2).2.2.1
  clear b2 b2' bw f2
  by_cases h1 : r = 1
  · subst h1
    obtain rfl : false = R := by rw [← HR.out]; rfl
    go_wp2_with fail
    go_ret
    exact ⟨rfl, H2.out.1⟩
  · have h1e : ((r : Int) == 1) = false := by rw [beq_eq_false_iff_ne]; omega
    by_cases h3 : (3 : Int) ≤ r
    · obtain rfl : true = R := by rw [← HR.out]; simp [h1]; omega
      go_wp2_with fail
      go_ret
      exact ⟨rfl, H2.out.1⟩
    · by_cases ha : n.acc = 0
      · rw [ha] at c2
        obtain rfl : true = R := by rw [← HR.out]; simp [h1, ha]
        go_wp2_with fail
        go_ret
        exact ⟨rfl, H2.out.1⟩
      · have hae : ((n.acc : Int) == 0) = false := by rw [beq_eq_false_iff_ne]; omega
        by_cases hb : n.acc = 1
        · have hbe : ((n.acc : Int) == 1) = true := by rw [hb]; rfl
          have h3n : ¬ 3 ≤ r := by omega
          have HRR := hide (show n.subs.any (rdB s) = R by rw [← HR.out]; simp [h1, hb, h3n])
          clear h3n
          rw [HRR.out] at HS
          go_wp2_with (refine l_load _ (load_nd H2.out.2) rfl rfl rfl ?_)
          refine HS.out.mono ?_
          rintro e w3 ⟨rfl, b3⟩
          have H3 := hide (H2.out.1.trans (b3.mono H2.out.1.size))
          clear b3
          go_wp2_with fail
          go_ret
          exact ⟨rfl, H3.out⟩
        · have hbe : ((n.acc : Int) == 1) = false := by rw [beq_eq_false_iff_ne]; omega
          obtain rfl : false = R := by
            rw [← HR.out]
            have : ¬ 3 ≤ r := by omega
            simp [ha, hb, this]
          go_wp2_with fail
          go_ret
          exact ⟨rfl, H2.out.1⟩
end Go.Proofs.YtimhkgpjfppkmaaGreatDoor
