/- Two queues, and what came: blocks apart. -/
import Derived.Test.YtllpblnbdocfjadA3h
import Derived.Laws.IdiomStrings
import Derived.Deep.DeepCutAuto
import Derived.Deep.CutBlock
import Derived.RangeFuncRecord
namespace Go.Proofs.Ytllpblnbdocfjad
open Go.RowKit

/-- The n-th text. -/
def nm (n : Nat) : ByteArray := ⟨#[0, UInt8.ofNat n]⟩
def nms (a b : Nat) : List ByteArray := (List.range' a (b - a)).map nm
theorem nms_len (a b : Nat) : (nms a b).length = b - a := by simp [nms]
theorem nms_get {a b i : Nat} (h : a + i < b) : (nms a b)[i]? = some (nm (a + i)) := by
  simp [nms, show i < b - a by omega]
theorem nms_snoc {a b : Nat} (h : a ≤ b) : nms a b ++ [nm b] = nms a (b + 1) := by
  unfold nms
  rw [show b + 1 - a = (b - a) + 1 by omega, List.range'_concat]
  simp
  congr 1
  omega
theorem nms_drop {a b c : Nat} (h : a ≤ c) (h2 : c ≤ b) : (nms a b).drop (c - a) = nms c b := by
  unfold nms
  rw [← List.map_drop, List.drop_range']
  congr 2
  · omega
  · omega
theorem nm_conv (w : World) (n : Nat) (hn : n < 256) : (convert 32 9 (.slice (some ⟨w.heap.size, 0, none⟩) 2 2)).run Try.prog (w.alloc (.cells #[.int .u8 0, .int .u8 n] 5)) = .ok (.string (nm n)) (w.alloc (.cells #[.int .u8 0, .int .u8 n] 5)) := by
  have h := run_convert_bytes_back (P := Try.prog) (w.alloc (.cells #[.int .u8 0, .int .u8 n] 5)) 32 9 5 ⟨w.heap.size, 0, none⟩ 2 [0, UInt8.ofNat n] Try.underlying32 Try.underlying5 Try.underlying9 (fun j hj => by
    match j, hj with
    | 0, _ => simp [Addr.add]
    | 1, _ => simp [Addr.add]; omega)
  exact h
abbrev rowB (v : Value) : Blk := fun j => v.ownBlock = some j
theorem row_frees {base : Nat} {v v' : Value} {xs : List ByteArray} {w W w2 : World} (h : w.ownsRow base 9 1 v xs.length (strC xs)) (hb : base ≤ w.heap.size) (hB : Below w.heap.size w W) (y2 : W.grownBy w2 v.ownBlock) (y4 : v'.ownBlock = v.ownBlock ∨ v'.ownBlock = some W.heap.size) : Frees base (rowB v) w w2 ∧ ∀ j, rowB v' j → rowB v j ∨ w.heap.size ≤ j := by
  have hs := hB.size
  refine ⟨⟨(hB.mono hb).grown y2 (by omega) (fun k e => own_base h k e), fun j hj hn => (y2.block j (by omega) (fun e => hn e.symm)).trans (hB.block j hj)⟩, fun j e => ?_⟩
  rcases y4 with x | x
  · exact .inl (by show v.ownBlock = some j; rw [← x]; exact e)
  · have e : v'.ownBlock = some j := e
    rw [x] at e
    cases e
    exact .inr hs
theorem keep_row {base n : Nat} {v : Value} {xs : List Value} {w w1 : World} {M : Blk} (h : w.ownsRow base 9 1 v n xs) (hf : Frees base M w w1) (hd : ∀ j, rowB v j → ¬ M j) : w1.ownsRow base 9 1 v n xs := own_same h (fun g e => hf.same g (own_lt h g e) (hd g e))
theorem ap_step {A A' B : Blk} {n : Nat} (h : ∀ j, A j → ¬ B j) (hA : ∀ j, A' j → A j ∨ n ≤ j) (hB : ∀ j, B j → j < n) : ∀ j, A' j → ¬ B j := fun j hj hb => by
  rcases hA j hj with x | x
  · exact h j x hb
  · have := hB j hb
    omega
theorem ap_swap {A B : Blk} (h : ∀ j, A j → ¬ B j) : ∀ j, B j → ¬ A j := fun j hb ha => h j ha hb
structure HrdI (base p o : Nat) (Q O : Qs) (vq vo vg : Value) (G : List ByteArray) (w : World) : Prop where
  q : IsP base p Q vq w
  ob : IsP base o O vo w
  g : w.ownsRow base 9 1 vg G.length (strC G)
  a1 : ∀ j, foot p vq j → ¬ foot o vo j
  a2 : ∀ j, rowB vg j → ¬ foot p vq j
  a3 : ∀ j, rowB vg j → ¬ foot o vo j
structure HrdW (base p o : Nat) (Q O : Qs) (vq vo vg vw : Value) (G Y : List ByteArray) (w : World) : Prop extends HrdI base p o Q O vq vo vg G w where
  y : w.ownsRow base 9 1 vw Y.length (strC Y)
  b1 : ∀ j, rowB vw j → ¬ foot p vq j
  b2 : ∀ j, rowB vw j → ¬ foot o vo j
  b3 : ∀ j, rowB vw j → ¬ rowB vg j
section
variable {base p o : Nat} {Q Q' O O' : Qs} {vq vq' vo vo' vg vg' vw vw' : Value} {G G' Y Y' : List ByteArray} {w w1 W w2 : World}
theorem HrdI.below (h : HrdI base p o Q O vq vo vg G w) (hb : Below w.heap.size w w1) : HrdI base p o Q O vq vo vg G w1 :=
  ⟨h.q.below hb, h.ob.below hb, own_same h.g (fun g e => hb.block g (own_lt h.g g e)), h.a1, h.a2, h.a3⟩
theorem HrdW.below (h : HrdW base p o Q O vq vo vg vw G Y w) (hb : Below w.heap.size w w1) : HrdW base p o Q O vq vo vg vw G Y w1 :=
  ⟨h.toHrdI.below hb, own_same h.y (fun g e => hb.block g (own_lt h.y g e)), h.b1, h.b2, h.b3⟩
theorem HrdI.qstep (h : HrdI base p o Q O vq vo vg G w) (t : ToP base p vq Q' vq' w w1) : HrdI base p o Q' O vq' vo vg G w1 :=
  ⟨t.1, h.ob.apart t.2.1 (ap_swap h.a1), keep_row h.g t.2.1 h.a2, ap_step h.a1 t.2.2 (fun _ hj => (h.ob.lt hj).2), ap_swap (ap_step (ap_swap h.a2) t.2.2 (fun _ hj => own_lt h.g _ hj)), h.a3⟩
theorem HrdW.qstep (h : HrdW base p o Q O vq vo vg vw G Y w) (t : ToP base p vq Q' vq' w w1) : HrdW base p o Q' O vq' vo vg vw G Y w1 :=
  ⟨h.toHrdI.qstep t, keep_row h.y t.2.1 h.b1, ap_swap (ap_step (ap_swap h.b1) t.2.2 (fun _ hj => own_lt h.y _ hj)), h.b2, h.b3⟩
theorem HrdW.ostep (h : HrdW base p o Q O vq vo vg vw G Y w) (t : ToP base o vo O' vo' w w1) : HrdW base p o Q O' vq vo' vg vw G Y w1 :=
  ⟨⟨h.q.apart t.2.1 h.a1, t.1, keep_row h.g t.2.1 h.a3, ap_swap (ap_step (ap_swap h.a1) t.2.2 (fun _ hj => (h.q.lt hj).2)), h.a2, ap_swap (ap_step (ap_swap h.a3) t.2.2 (fun _ hj => own_lt h.g _ hj))⟩,
    keep_row h.y t.2.1 h.b2, h.b1, ap_swap (ap_step (ap_swap h.b2) t.2.2 (fun _ hj => own_lt h.y _ hj)), h.b3⟩
theorem HrdW.way (h : HrdW base p o Q O vq vo vg vw G Y w) (hb : base ≤ w.heap.size) (hB : Below w.heap.size w W) (y1 : w2.ownsRow base 9 1 vw' Y'.length (strC Y')) (y2 : W.grownBy w2 vw.ownBlock) (y4 : vw'.ownBlock = vw.ownBlock ∨ vw'.ownBlock = some W.heap.size) : HrdW base p o Q O vq vo vg vw' G Y' w2 := by
  obtain ⟨f, n⟩ := row_frees h.y hb hB y2 y4
  exact ⟨⟨h.q.apart f (ap_swap h.b1), h.ob.apart f (ap_swap h.b2), keep_row h.g f (ap_swap h.b3), h.a1, h.a2, h.a3⟩, y1, ap_step h.b1 n (fun _ hj => (h.q.lt hj).2), ap_step h.b2 n (fun _ hj => (h.ob.lt hj).2), ap_step h.b3 n (fun _ hj => own_lt h.g _ hj)⟩
theorem HrdW.got (h : HrdW base p o Q O vq vo vg vw G Y w) (hb : base ≤ w.heap.size) (hB : Below w.heap.size w W) (y1 : w2.ownsRow base 9 1 vg' G'.length (strC G')) (y2 : W.grownBy w2 vg.ownBlock) (y4 : vg'.ownBlock = vg.ownBlock ∨ vg'.ownBlock = some W.heap.size) : HrdW base p o Q O vq vo vg' vw G' Y w2 := by
  obtain ⟨f, n⟩ := row_frees h.g hb hB y2 y4
  exact ⟨⟨h.q.apart f (ap_swap h.a2), h.ob.apart f (ap_swap h.a3), y1, h.a1, ap_step h.a2 n (fun _ hj => (h.q.lt hj).2), ap_step h.a3 n (fun _ hj => (h.ob.lt hj).2)⟩, keep_row h.y f h.b3, h.b1, h.b2, ap_swap (ap_step (ap_swap h.b3) n (fun _ hj => own_lt h.y _ hj))⟩
theorem HrdI.withWay (h : HrdI base p o Q O vq vo vg G w) (y : w.ownsRow base 9 1 vw Y.length (strC Y)) (n : Nat) (hn : ∀ j, rowB vw j → n ≤ j) (b1 : ∀ j, rowB vw j → ¬ foot p vq j) (ho : ∀ j, foot o vo j → j < n) (hg : ∀ j, rowB vg j → j < n) : HrdW base p o Q O vq vo vg vw G Y w :=
  ⟨h, y, b1, fun j hj hk => by have := hn j hj; have := ho j hk; omega, fun j hj hk => by have := hn j hj; have := hg j hk; omega⟩
end
end Go.Proofs.Ytllpblnbdocfjad
