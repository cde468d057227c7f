/- The tree of nodes, whole: what is read of it. -/
import Derived.Test.YtffjmkngdjbjlaaDoorNt1
import Derived.Test.YtffjmkngdjbjlaaDoorNc0
import Derived.Test.YtffjmkngdjbjlaaDoorNd8
namespace Go.Proofs.YtffjmkngdjbjlaaDoor
open Go.RowKit

theorem region_one {P : Program} {id : Nat} {ops : Array Oper} {Q : Exit → Act → World → Prop} {S : World → Prop} {a : Act} {w : World} (A : Act) (W0 : World) (hm : P.follows .mixedOrders = true)
    (h : wpAnyH P .any ops (fun e a w' => e = .normal ∧ a = A ∧ w' = W0) S ops.size (Array.replicate ops.size false) a w.drew) (hq : Q .normal A W0) : (Code.region id ops true).wp P Q a w :=
  wp_mono (wp_region_held hm h) (by rintro e a w ⟨rfl, rfl, rfl⟩; exact hq)
theorem ex_eqI {o : Oper} {a : Act} {w : World} {x y : Operand} {s t : Int} {b : Bool} (ho : o.op = .binOp .eql 3 x y 3) (hx : a.eval x = .int .i64 s) (hy : a.eval y = .int .i64 t) (hb : (s == t) = b) : (execOp a.eval o).run Tryd.prog w = .ok (.value (.bool b)) w := by
  unfold execOp
  simp only [ho, hx, hy]
  go_simp
theorem ex_idxN {o : Oper} {a : Act} {w : World} {x y : Operand} {b m cap k : Nat} (ho : o.op = .indexAddr 58 x y) (hx : a.eval x = .slice (some ⟨b, 0, none⟩) m cap) (hy : a.eval y = .int .i64 k) (hk : k < m) : (execOp a.eval o).run Tryd.prog w = .ok (.value (.pointer (some ⟨b, k * 8, none⟩))) w := by
  have hk1 : (k : Int) < m := by omega
  unfold execOp
  simp only [ho, hx, hy]
  go_simp
theorem ex_fldN7 {o : Oper} {a : Act} {w : World} {x : Operand} {b off : Nat} (ho : o.op = .fieldAddr 28 x 7) (hx : a.eval x = .pointer (some ⟨b, off, none⟩)) : (execOp a.eval o).run Tryd.prog w = .ok (.value (.pointer (some ⟨b, off + 7, none⟩))) w := by
  unfold execOp
  simp only [ho, hx]
  go_simp
theorem ex_fldN0 {o : Oper} {a : Act} {w : World} {x : Operand} {b off : Nat} (ho : o.op = .fieldAddr 28 x 0) (hx : a.eval x = .pointer (some ⟨b, off, none⟩)) : (execOp a.eval o).run Tryd.prog w = .ok (.value (.pointer (some ⟨b, off, none⟩))) w := by
  unfold execOp
  simp only [ho, hx]
  go_simp
theorem strs2 {w : World} {base c : Nat} {ga : Option Addr} {x y : ByteArray} (h : w.ownsRow base 9 1 (.slice ga 2 c) 2 (strC [x, y])) : ∃ g, ga = some ⟨g, 0, none⟩ ∧ w.cell? ⟨g, 0, none⟩ = some (.string x) ∧ w.cell? ⟨g, 1, none⟩ = some (.string y) := by
  obtain ⟨g', c', e, _, _, h0⟩ := own_str (j := 0) (u := x) h rfl
  obtain ⟨g2, c2, e2, _, _, h1⟩ := own_str (j := 1) (u := y) h rfl
  cases e
  cases e2
  exact ⟨_, rfl, h0, h1⟩
theorem strs1 {w : World} {base c : Nat} {ga : Option Addr} {x : ByteArray} (h : w.ownsRow base 9 1 (.slice ga 1 c) 1 (strC [x])) : ∃ g, ga = some ⟨g, 0, none⟩ ∧ w.cell? ⟨g, 0, none⟩ = some (.string x) := by
  obtain ⟨g', c', e, _, _, h0⟩ := own_str (j := 0) (u := x) h rfl
  cases e
  exact ⟨_, rfl, h0⟩
theorem set_far (w : World) (a b : Addr) (v : Value) (h : a ≠ b) : (w.setCell a v).cell? b = w.cell? b := by
  apply World.cell?_setCell_other
  exact h
theorem set_near (w : World) (a : Addr) (v : Value) {u : Value} (h : w.cell? a = some u) : (w.setCell a v).cell? a = some v := by
  apply World.cell?_setCell_same
  exact h
theorem set_blk (w : World) (a : Addr) (v : Value) (k : Nat) (h : k ≠ a.block) : (w.setCell a v).heap[k]? = w.heap[k]? := by
  simp only [World.setCell, Array.getElem?_modify]
  rw [if_neg (fun e => h e.symm)]
/-- Where the lists of the node number i lie when the one with s@d has its own. -/
def vsK (vs : Nat → NdW) (kk : Nat) (sa : Option Addr) (sc : Nat) (i : Nat) : NdW := if i = kk then ⟨(vs i).aa, (vs i).ac, sa, sc, (vs i).ia, (vs i).ic⟩ else vs i
theorem ndT_other (p : Nat → Nat) {kk i : Nat} (h : i ≠ kk) (h2 : i < 1000) : ndT p kk i = ndT p 1000 i := by
  unfold ndT tsub
  rw [if_neg h, if_neg (show ¬ i = 1000 by omega)]
theorem tree_mem {p : Nat → Nat} {kk n g : Nat} {vs : Nat → NdW} {sa : Option Addr} {sc : Nat} {w2 : World} (hn : n ≤ 100) (hkk : kk < n) (hgl : g < w2.heap.size)
    (hcells : ∀ i j (_ : i < n) (hj : j < 8), w2.cell? ⟨g, i * 8 + j, none⟩ = some ((ndC (ndT p 1000 i) (vs i))[j]'hj))
    (hlaid : ∀ i, i < n → LaidT i w2 (vs i)) (hs : SubMem w2.heap.size w2 sa (tsub kk kk)) (hsl : (tsub kk kk).length ≤ sc) (hsg : ∀ a, sa = some a → a.block ≠ g)
    (hT : ∀ j cs T, w2.heap[j]? = some (.cells cs T) → T ≠ 28 → j ≠ g) :
    NdsMem w2.heap.size (w2.setCell ⟨g, kk * 8 + 5, none⟩ (.slice sa (tsub kk kk).length sc)) (some ⟨g, 0, none⟩) (nsT p kk n) (vsK vs kk sa sc) := by
  obtain ⟨W, hW⟩ : ∃ W, w2.setCell ⟨g, kk * 8 + 5, none⟩ (.slice sa (tsub kk kk).length sc) = W := ⟨_, rfl⟩
  have hfar : ∀ b o, b ≠ g → W.cell? ⟨b, o, none⟩ = w2.cell? ⟨b, o, none⟩ := fun b o h => by
    rw [← hW]
    exact set_far _ _ _ _ (fun e => by cases e; exact h rfl)
  have hblk : ∀ b, b ≠ g → W.heap[b]? = w2.heap[b]? := fun b h => by rw [← hW]; exact set_blk _ _ _ _ h
  rw [hW]
  refine ⟨by rw [nsT_len]; omega, fun i nd hi => ?_⟩
  have hil : i < n := by have := (List.getElem?_eq_some_iff.1 hi).1; rw [nsT_len] at this; exact this
  rw [nsT_at p kk hil] at hi
  cases hi
  obtain ⟨h1, h2, ⟨a, h3, h4, h5⟩, h6⟩ := hlaid i hil
  have hag := hT a _ _ h5 (by decide)
  have h5' := (hblk a hag).trans h5
  have hal := (Array.getElem?_eq_some_iff.1 h5).1
  have eaa : (vsK vs kk sa sc i).aa = (vs i).aa := by unfold vsK; split <;> rfl
  have eac : (vsK vs kk sa sc i).ac = (vs i).ac := by unfold vsK; split <;> rfl
  refine ⟨⟨⟨by simp [ndT], fun j x hx => ?_⟩, ?_, by rw [eac, h4]; simp [ndT], ?_⟩, g, 0, rfl, hgl, fun j hj => ?_⟩
  · have hx' : [(od, 5)][j]? = some x := hx
    match j, hx' with
    | 0, hx' =>
      simp at hx'
      subst hx'
      exact ⟨a, 0, by rw [eaa, h3], hal, by simp [World.cell?, h5'], by simp [World.cell?, h5']⟩
  · show SubMem _ W _ (tsub kk i)
    by_cases hik : i = kk
    · subst hik
      have e : (vsK vs i sa sc i).sa = sa := by simp [vsK]
      rw [e]
      refine ⟨hs.1, fun j x hx => ?_⟩
      obtain ⟨b, off, hb, hbl, c0, c1, c2⟩ := hs.2 j x hx
      have hbg := hsg _ hb
      exact ⟨b, off, hb, hbl, (hfar b _ hbg).trans c0, (hfar b _ hbg).trans c1, (hfar b _ hbg).trans c2⟩
    · have e : (vsK vs kk sa sc i).sa = (vs i).sa := by simp [vsK, hik]
      rw [e]
      have e2 : tsub kk i = if i = 0 then [(rd, false, (0 : Int))] else [] := by unfold tsub; rw [if_neg hik, List.append_nil]
      rw [e2]
      rcases h6 with ⟨h6, h7, h8⟩ | ⟨h6, b, h7, h8, h9⟩
      · rw [if_neg h6]
        exact ⟨by simp, fun j x hx => by simp at hx⟩
      · rw [if_pos h6]
        have hbg := hT b _ _ h9 (by decide)
        have h9' := (hblk b hbg).trans h9
        refine ⟨by simp, fun j x hx => ?_⟩
        match j, hx with
        | 0, hx =>
          simp at hx
          subst hx
          exact ⟨b, 0, h7, (Array.getElem?_eq_some_iff.1 h9).1, by simp [World.cell?, h9'], by simp [World.cell?, h9'], by simp [World.cell?, h9']⟩
  · show (tsub kk i).length ≤ _
    by_cases hik : i = kk
    · subst hik
      simp only [vsK, if_true]
      exact hsl
    · have e : (vsK vs kk sa sc i).sc = (vs i).sc := by simp [vsK, hik]
      have e2 : tsub kk i = if i = 0 then [(rd, false, (0 : Int))] else [] := by unfold tsub; rw [if_neg hik, List.append_nil]
      rw [e, e2]
      rcases h6 with ⟨h6, h7, h8⟩ | ⟨h6, b, h7, h8, h9⟩
      · rw [if_neg h6]; simp
      · rw [if_pos h6, h8]; simp
  · have hc := hcells i j hil hj
    rw [Nat.zero_add, ← hW]
    by_cases hik : i = kk
    · subst hik
      by_cases hj5 : j = 5
      · subst hj5
        rw [set_near _ _ _ hc]
        simp [ndC, vsK, ndT]
      · rw [set_far _ _ _ _ (fun e => by injection e with _ e2 _; omega), hc]
        have hcase : j = 0 ∨ j = 1 ∨ j = 2 ∨ j = 3 ∨ j = 4 ∨ j = 6 ∨ j = 7 := by omega
        rcases hcase with rfl | rfl | rfl | rfl | rfl | rfl | rfl <;> simp [ndC, vsK, ndT]
    · rw [set_far _ _ _ _ (fun e => by injection e with _ e2 _; omega), hc]
      have e1 : ndT p kk i = ndT p 1000 i := ndT_other p hik (by omega)
      have e2 : vsK vs kk sa sc i = vs i := by simp [vsK, hik]
      simp only [e1, e2]
      try rfl
theorem size_set (w : World) (a : Addr) (v : Value) : (w.setCell a v).heap.size = w.heap.size := by simp [World.setCell]
set_option maxRecDepth 100000 in
theorem right_root (p : Nat → Nat) (kk : Nat) : RightN (ndT p kk 0) := by
  have hod : addrOk od = true := by decide +kernel
  have hsd : addrOk sd = true := by decide +kernel
  have hrd : addrOk rd = true := by decide +kernel
  have hn : nameOk (ltN 0) = true := by decide +kernel
  refine ⟨hn, by simp [ndT], by simp [ndT, maxOk], .inl rfl, ?_, ?_, ?_⟩
  · refine ⟨by simp [ndT], List.pairwise_singleton _ _, fun x hx => ?_, (od, 5), by simp [ndT], rfl⟩
    have hx' : x ∈ [(od, 5)] := hx
    simp at hx'
    subst hx'
    exact ⟨hod, by omega, by omega, by omega⟩
  · show SubsOk (tsub kk 0)
    have hlt : rd.toList < sd.toList := by decide +kernel
    unfold tsub
    rw [if_pos rfl]
    split
    · refine ⟨by simp, List.pairwise_cons.2 ⟨fun x hx => ?_, List.pairwise_singleton _ _⟩, fun x hx => ?_⟩
      · simp at hx
        rw [hx]
        exact hlt
      · simp at hx
        rcases hx with rfl | rfl
        · exact ⟨hrd, by decide, by decide⟩
        · exact ⟨hsd, by decide, by decide⟩
    · refine ⟨by simp, List.pairwise_singleton _ _, fun x hx => ?_⟩
      simp at hx
      rw [hx]
      exact ⟨hrd, by decide, by decide⟩
  · exact ⟨by simp [ndT], fun x hx => by simp [ndT] at hx, by simp [ndT]⟩
theorem fits_root (p : Nat → Nat) (kk : Nat) : NdFits (ndT p kk 0) := by
  have h1 : Fits (ltN 0) := by unfold Fits; decide +kernel
  have h2 : Fits od := by unfold Fits; decide +kernel
  have h3 : Fits rd := by unfold Fits; decide +kernel
  have h4 : Fits sd := by unfold Fits; decide +kernel
  refine ⟨h1, Nat.zero_le _, fun x hx => ?_, fun x hx => ?_, fun x hx => by simp [ndT] at hx⟩
  · have hx' : x ∈ [(od, 5)] := hx
    simp at hx'
    rw [hx']
    exact h2
  · have hx' : x ∈ tsub kk 0 := hx
    unfold tsub at hx'
    rw [if_pos rfl] at hx'
    rcases List.mem_append.1 hx' with h | h
    · simp at h
      rw [h]
      exact h3
    · split at h
      · simp at h
        rw [h]
        exact h4
      · simp at h
end Go.Proofs.YtffjmkngdjbjlaaDoor
