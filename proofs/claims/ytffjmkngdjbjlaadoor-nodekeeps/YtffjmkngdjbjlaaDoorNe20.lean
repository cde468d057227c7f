/- law11's beginning: a node of a@d. -/
import Derived.Test.YtffjmkngdjbjlaaDoorNe19
import Derived.Test.YtffjmkngdjbjlaaDoorQL
namespace Go.Proofs.YtffjmkngdjbjlaaDoor
open Go.RowKit

def begN (q : Nat) (leaf : Bool) : Nd := { name := ⟨#[110]⟩, coll := !leaf, acc := q, max := if leaf = true then 3 else 0, affs := [(aD, 5)], subs := [], items := [], parent := ⟨#[]⟩ }
def begU (p : Nat) : NdW := ⟨some ⟨p, 0, none⟩, 1, none, 0, none, 0⟩
theorem begN_mem {W : World} {a p : Nat} {leaf : Bool} (f : W.heap[p]? = some (.cells #[.string aD, .int .u8 5] 55)) : NdM W.heap.size W (begN a leaf) (begU p) := by
  have hl := (Array.getElem?_eq_some_iff.1 f).1
  refine ⟨⟨⟨by simp [begN], fun i x hx => ?_⟩, ⟨by simp [begN], fun i x hx => by simp [begN] at hx⟩, by simp [begN, begU], by simp [begN, begU]⟩, ⟨by simp [begN], fun i x hx => by simp [begN] at hx⟩, by simp [begN, begU], ⟨show (⟨#[110]⟩ : ByteArray).size ≤ _ by decide, show (⟨#[]⟩ : ByteArray).size ≤ _ by decide, fun x hx => ?_, fun x hx => by simp [begN] at hx, fun x hx => by simp [begN] at hx⟩⟩
  · match i, hx with
    | 0, hx =>
      simp [begN] at hx
      subst hx
      exact ⟨p, 0, rfl, hl, by simp [World.cell?, f], by simp [World.cell?, f]⟩
  · simp [begN] at hx
    subst hx
    decide
theorem begN_right (q : Nat) (leaf : Bool) (hq : q < 3) : RightN (begN q leaf) := by
  refine ⟨show nameOk ⟨#[110]⟩ = true by decide +kernel, by simp [begN]; omega, (by cases leaf <;> (simp [begN, maxOk])), .inl rfl, ⟨by simp [begN], List.pairwise_singleton _ _, fun x hx => ?_, ⟨(aD, 5), by simp [begN], rfl⟩⟩, ⟨by simp [begN], List.Pairwise.nil, fun x hx => by simp [begN] at hx⟩, ⟨by cases leaf <;> simp [begN], fun x hx => by simp [begN] at hx, List.Pairwise.nil⟩⟩
  simp [begN] at hx
  subst hx
  exact ⟨by decide +kernel, by decide, by decide, by decide⟩
theorem cells_s3 {w : World} {b : Nat} {u0 u1 u2 u3 u4 u5 u6 u7 : Value} {T : TypeId} (h : w.heap[b]? = some (.cells #[u0, u1, u2, u3, u4, u5, u6, u7] T)) : w.cell? ⟨b, 3, none⟩ = some u3 := by simp [World.cell?, h]
theorem results_nd4 {fn : Func} {tmps : Array Value} {w : World} {r : Nat} {n : Nd} {u : NdW} (h : fn.results = #[.cell 4 28]) (hp : tmps[4]?.getD undef = .pointer (some ⟨r, 0, none⟩)) (hb : w.heap[r]? = some (.cells (ndA n u) 28)) : (results fn tmps).run Tryd.prog w = .ok (.agg (ndA n u)) w := by
  obtain ⟨c0, c1, c2, c3, c4, c5, c6, c7⟩ := nd_box hb
  unfold ndA
  simp [results, h, hp, c0, c1, c2, c3, c4, c5, c6, c7, go_sem, Tryd.isAgg28, Tryd.sizeOf28]
set_option maxRecDepth 100000 in
set_option maxHeartbeats 4000000 in
theorem begun_any (a : Nat) (leaf : Bool) (_ha : a < 256) (w : World) :
    Calls Tryd.prog 9 #[.int .u8 a, .bool leaf] w fun e w' => ∃ u, e = .returned (.agg (ndA (begN (a % 3) leaf) u)) ∧ NdM w'.heap.size w' (begN (a % 3) leaf) u ∧ Below w.heap.size w w' := by
  have hrem : ((a : Int)).tmod 3 = ((a % 3 : Nat) : Int) := tmod_nat a 2
  obtain ⟨q, hq⟩ : ∃ q, a % 3 = q := ⟨_, rfl⟩
  have hq3 : q < 3 := by omega
  rw [hq] at hrem ⊢
  clear hq
  obtain ⟨Wa, hWa⟩ : ∃ Wa, w.alloc (.cells #[.string ⟨#[]⟩, .bool false, .int .u8 0, .int .i64 0, .slice none 0 0, .slice none 0 0, .slice none 0 0, .string ⟨#[]⟩] 28) = Wa := ⟨_, rfl⟩
  have fa : Wa.heap[w.heap.size]? = some (.cells (ndA noN noW) 28) := by rw [← hWa]; exact World.alloc_heap_new w _
  have ba : Below w.heap.size w Wa := by rw [← hWa]; exact (Below.refl _ w).alloc (Nat.le_refl _) _
  have za : Wa.heap.size = w.heap.size + 1 := by rw [← hWa]; simp
  obtain ⟨W3, hbs, f3, b3⟩ := one_a (aD, 5) Wa
  have fa3 := (b3.block _ (by omega)).trans fa
  have HH := hide (And.intro fa3 (And.intro f3 (And.intro (ba.trans (b3.mono ba.size)) za)))
  rw [← hWa] at hbs
  have HBS := hide hbs
  clear fa ba f3 b3 fa3 hbs za
  clear hWa
  go_enter Tryd.func9, Tryd.ntmps9
  go_wp2_with (refine l_val rfl _ (ex_sliceI (us := #[(0, .agg #[.string aD, .int .u8 5])]) rfl (by simp [Act.eval, aD]) HBS.out) ?_; refine stopNd ?_)
  unfold Hid
  have hl3 := (Array.getElem?_eq_some_iff.1 HH.out.2.1).1
  have hza := HH.out.2.2.2
  have key : ∀ lf : Bool, (W3.alloc (.cells (ndA (begN q lf) (begU (w.heap.size + 1))) 28)).heap[w.heap.size]? = some (.cells (ndA noN noW) 28) ∧ (W3.alloc (.cells (ndA (begN q lf) (begU (w.heap.size + 1))) 28)).heap[w.heap.size + 1]? = some (.cells #[.string aD, .int .u8 5] 55) ∧ Below w.heap.size w (W3.alloc (.cells (ndA (begN q lf) (begU (w.heap.size + 1))) 28)) := fun lf => by
    have b4 : Below W3.heap.size W3 (W3.alloc (.cells (ndA (begN q lf) (begU (w.heap.size + 1))) 28)) := (Below.refl _ W3).alloc (Nat.le_refl _) _
    have e := (b4.block _ hl3).trans HH.out.2.1
    rw [hza] at e
    exact ⟨(b4.block _ (by have := HH.out.2.2.1.size; omega)).trans HH.out.1, e, HH.out.2.2.1.trans (b4.mono HH.out.2.2.1.size)⟩
  cases leaf with
  | true =>
    have H5 := hide (key true)
    clear key hl3 hza
    go_wp2_with (refine l_store _ (store_nd (n := begN q true) (u := begU (w.heap.size + 1)) H5.out.1) rfl rfl rfl rfl ?_)
    exact bodyPost_ret (results_nd4 rfl rfl (setNd_heap H5.out.1)) rfl ⟨_, rfl, begN_mem ((setNd_far _ (by omega)).trans H5.out.2.1), setNd_below H5.out.2.2 (Nat.le_refl _)⟩
  | false =>
    have H5 := hide (key false)
    clear key hl3 hza
    go_wp2_with (refine l_store _ (store_nd (n := begN q false) (u := begU (w.heap.size + 1)) H5.out.1) rfl rfl rfl rfl ?_)
    exact bodyPost_ret (results_nd4 rfl rfl (setNd_heap H5.out.1)) rfl ⟨_, rfl, begN_mem ((setNd_far _ (by omega)).trans H5.out.2.1), setNd_below H5.out.2.2 (Nat.le_refl _)⟩
end Go.Proofs.YtffjmkngdjbjlaaDoor
