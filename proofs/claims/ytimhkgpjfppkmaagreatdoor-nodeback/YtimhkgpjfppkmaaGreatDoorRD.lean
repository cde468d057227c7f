/- A node's text is told: Encode. A node's text: Encode. -/
import Derived.Test.YtimhkgpjfppkmaaGreatDoorWd1
import Derived.Test.YtimhkgpjfppkmaaGreatDoorNb2
import Derived.Test.YtimhkgpjfppkmaaGreatDoorRK
import Derived.Test.YtimhkgpjfppkmaaGreatDoorQH
import Derived.Test.YtimhkgpjfppkmaaGreatDoorQD
namespace Go.Proofs.YtimhkgpjfppkmaaGreatDoor
open Go.RowKit Go.Shelf

theorem isb_belowW {T e : TypeId} {B b : Nat} {bs : List Value} {w w' : World} (h : Lib.IsBuilderF T e B b bs w) (hb : Below w.heap.size w w') : Lib.IsBuilderF T e B b bs w' := by
  have key : ∀ p, Lib.BuilderAtF T e B b p bs w → Lib.BuilderAtF T e B b p bs w' := by
    rintro p ⟨hB, v, hbk, hown, hne⟩
    refine ⟨hB, v, by rw [hb.block b (Array.getElem?_eq_some_iff.1 hbk).1]; exact hbk, ⟨hown.1, ?_⟩, hne⟩
    rcases hown.2 with hn | ⟨g, cap, cur, fz, hv, hbg, hg, rest⟩
    · exact .inl hn
    · exact .inr ⟨g, cap, cur, fz, hv, hbg, by rw [hb.block g (Array.getElem?_eq_some_iff.1 hg).1]; exact hg, rest⟩
  exact h.elim (fun x => .inl (key _ x)) (fun x => .inr (key _ x))

/-- A byte with its entity in its stead, if it has one. -/
def escB (b : UInt8) : List UInt8 :=
  if b = 38 then [38, 97, 109, 112, 59] else if b = 60 then [38, 108, 116, 59] else if b = 62 then [38, 103, 116, 59] else if b = 39 then [38, 97, 112, 111, 115, 59] else if b = 34 then [38, 113, 117, 111, 116, 59] else [b]
def esc (l : List UInt8) : List UInt8 := l.flatMap escB
theorem writeW (B b : Nat) (l : List UInt8) (s : ByteArray) (w : World) (h : Lib.IsBuilderF 41 5 B b (Lib.byteCells l) w) (hlen : l.length + s.size ≤ 1000000000) (hB : B ≤ w.heap.size) :
    Calls Tryz.prog 11 #[.pointer (some ⟨b, 0, none⟩), .string s] w fun e w' => e = .returned (.tuple #[.int .i64 s.size, .nilIface]) ∧ Lib.IsBuilderF 41 5 B b (Lib.byteCells (l ++ s.data.toList)) w' ∧ Below B w w' ∧ Lib.OthersKept 5 (some b) w w' := by
  refine (writeString B b _ s w h (by rw [Lib.byteCells_length]; omega) hB).mono ?_
  rintro e w' ⟨rfl, h1, h2, h3⟩
  refine ⟨rfl, Or.inr ?_, h2, h3⟩
  rw [Lib.byteCells_append]
  exact h1
theorem eitB_size {y n : ByteArray} {b : Bool} (hy : y.size = 1) (hn : n.size = 1) : (eitB y n b).size ≤ 1000 := by
  unfold eitB
  split <;> omega
theorem words_small {n : Nd} (h : RightN n) : ∀ x ∈ wordsN n, x.size ≤ 1000 := by
  have hs := right_small h
  obtain ⟨h1, h2, h3, h4, ⟨a1, _, a3, _⟩, ⟨s1, _, s3⟩, ⟨i1, i2, _⟩⟩ := h
  have hi : ∀ v : Int, 0 ≤ v → v ≤ 255 → (itB v).size ≤ 1000 := fun v p q => by have := itB_le p q; omega
  have ha := hs.acc
  have hm0 := hs.max0
  have hm8 := hs.max8
  have l1 := hs.affs
  have l2 := hs.subs
  have l3 := hs.items
  intro x hx
  simp only [wordsN, List.mem_append, List.mem_cons, List.not_mem_nil, or_false, List.mem_flatMap] at hx
  rcases hx with (((((hx | hx) | hx) | hx) | hx) | hx) | hx
  · rcases hx with rfl | rfl | rfl | rfl | rfl
    · have := name_size h1; omega
    · exact eitB_size rfl rfl
    · exact hi _ (by omega) (by omega)
    · exact hi _ hm0 (by omega)
    · rcases h4 with h4 | h4
      · rw [h4]
        decide
      · have := name_size h4; omega
  · rw [hx]
    exact hi _ (by omega) (by omega)
  · obtain ⟨y, hy, hx⟩ := hx
    have hz := addr_size (a3 y hy).1
    have hr := (hs.aff y hy).2
    simp only [wA, List.mem_cons, List.not_mem_nil, or_false] at hx
    rcases hx with rfl | rfl
    · omega
    · exact hi _ (by omega) (by omega)
  · rw [hx]
    exact hi _ (by omega) (by omega)
  · obtain ⟨y, hy, hx⟩ := hx
    have hz := addr_size (s3 y hy).1
    have hr := (hs.sub y hy).2
    simp only [wS, List.mem_cons, List.not_mem_nil, or_false] at hx
    rcases hx with rfl | rfl | rfl
    · omega
    · exact eitB_size rfl rfl
    · exact hi _ hr.1 hr.2
  · rw [hx]
    exact hi _ (by omega) (by omega)
  · obtain ⟨y, hy, hx⟩ := hx
    obtain ⟨e1, e2, e3⟩ := i2 y hy
    have z1 := name_size e1
    have z2 := addr_size e2
    have z3 := e3.1
    simp only [wI, List.mem_cons, List.not_mem_nil, or_false] at hx
    rcases hx with rfl | rfl | rfl <;> omega
theorem words_count {n : Nd} (h : Small n) : (wordsN n).length ≤ 1000 := by
  have h1 := h.affs
  have h2 := h.subs
  have h3 := h.items
  have f1 : ∀ l : List (ByteArray × Nat), (l.flatMap wA).length = l.length * 2 := fun l => by
    induction l with
    | nil => rfl
    | cons x l ih => rw [List.flatMap_cons, List.length_append, ih]; simp [wA]; omega
  have f2 : ∀ l : List (ByteArray × Bool × Int), (l.flatMap wS).length = l.length * 3 := fun l => by
    induction l with
    | nil => rfl
    | cons x l ih => rw [List.flatMap_cons, List.length_append, ih]; simp [wS]; omega
  have f3 : ∀ l : List (ByteArray × ByteArray × ByteArray), (l.flatMap wI).length = l.length * 3 := fun l => by
    induction l with
    | nil => rfl
    | cons x l ih => rw [List.flatMap_cons, List.length_append, ih]; simp [wI]; omega
  simp only [wordsN, List.length_append, f1, f2, f3, List.length_cons, List.length_nil]
  omega
theorem encB_len {x : ByteArray} (h : x.size ≤ 1000) : (encB x).length ≤ 2000 := by
  unfold encB encW
  have h1 := dec_len (u := (bsT x).length) (k := 4) (by rw [bs_len]; omega) (by omega)
  have h2 := bs_len x
  simp only [List.length_append, List.length_cons]
  omega
theorem enc_len : ∀ (l : List ByteArray), (∀ x ∈ l, x.size ≤ 1000) → (l.flatMap encB).length ≤ l.length * 2000
  | [], _ => by simp
  | x :: l, h => by
    have h1 := encB_len (h x (by simp))
    have h2 := enc_len l (fun y hy => h y (by simp [hy]))
    rw [List.flatMap_cons, List.length_append, List.length_cons]
    omega
theorem encB_eq (x : ByteArray) : ((itB (x.size : Int) ++ ⟨#[58]⟩) ++ x).data.toList = encB x := by
  rw [app_list, app_list]
  show (Lib.itoa (x.size : Int)) ++ [58] ++ x.data.toList = _
  rw [Lib.itoa_nonneg]
  simp [encB, encW, bsT]
end Go.Proofs.YtimhkgpjfppkmaaGreatDoor
namespace Go.Proofs.YtimhkgpjfppkmaaGreatDoor
open Go.RowKit Go.Shelf

theorem results_tt {a b : Nat} {fn : Func} {tmps : Array Value} {w : World} (h : fn.results = #[.tmp a, .tmp b]) : (results fn tmps).run Tryz.prog w = .ok (.tuple #[tmps[a]?.getD undef, tmps[b]?.getD undef]) w := by
  simp [results, h, go_sem]
/-- How Encode ends: with the node's text if it is right, or with an error. -/
def EncE (n : Nd) (e : Ending) : Prop := (RightN n ∧ e = .returned (.tuple #[.string (sbT (encN n)), .int .i64 0])) ∨ (¬ RightN n ∧ e = .returned (.tuple #[.string ⟨#[]⟩, .int .i64 3]))
set_option maxRecDepth 100000 in
set_option maxHeartbeats 4000000 in
theorem encode_any (n : Nd) (v : NdW) (w : World) (hm : NdM w.heap.size w n v) (hg : GlobE w) (hG : Glob w) :
    Calls Tryz.prog 5 #[.agg (ndA n v)] w fun e w' => EncE n e ∧ Below w.heap.size w w' := by
  obtain ⟨W1, hW1⟩ : ∃ W1, w.alloc (.cells (ndA n v) 27) = W1 := ⟨_, rfl⟩
  have b1 : Below w.heap.size w W1 := by rw [← hW1]; exact below_refl_alloc w _
  have f1 : W1.heap[w.heap.size]? = some (.cells (ndA n v) 27) := by rw [← hW1]; exact World.alloc_heap_new _ _
  have HN := hide (rightN_any n v W1 (hm.move b1) (hG.below b1))
  have H1 := hide (And.intro b1 (And.intro f1 (And.intro (hg.below b1) (hm.move b1))))
  have HF1 := hide f1
  have HG0 := hide hg
  clear b1 f1 hm hg hG
  go_enter Tryz.func5, Tryz.ntmps5
  go_wp2_with (refine l_load _ (load_nd (n := n) (v := v) HF1.out) rfl rfl rfl ?_)
  refine HN.out.mono ?_
  rintro e w2 ⟨⟨bb, rfl, hbb⟩, b2⟩
  have B2 : Below w.heap.size w w2 := H1.out.1.trans (b2.mono H1.out.1.size)
  cases bb with
  | false =>
    have hr : ¬ RightN n := fun h => by have := hbb.2 h; cases this
    have H2 := hide (And.intro hr B2)
    clear hr B2 b2 hbb
    go_wp2_with fail
    exact bodyPost_ret (results_tt (a := 2) (b := 3) rfl) rfl ⟨.inr ⟨H2.out.1, rfl⟩, H2.out.2⟩
  | true =>
    have hr : RightN n := hbb.1 rfl
    have f2 := (b2.block _ (Array.getElem?_eq_some_iff.1 H1.out.2.1).1).trans H1.out.2.1
    obtain ⟨W3, hW3⟩ : ∃ W, w2.alloc (.cells #[.pointer none, .slice none 0 0] 41) = W := ⟨_, rfl⟩
    have b3 : Below w2.heap.size w2 W3 := by rw [← hW3]; exact below_refl_alloc w2 _
    have hI3 : Lib.IsBuilderF 41 5 w2.heap.size w2.heap.size (Lib.byteCells []) W3 := by
      rw [← hW3]
      exact Lib.IsBuilderF.of (Lib.fresh_isBuilder 41 5 w2)
    have f3 := (b3.block _ (Array.getElem?_eq_some_iff.1 f2).1).trans f2
    have b13 : Below W1.heap.size W1 W3 := b2.trans (b3.mono b2.size)
    have g3 := H1.out.2.2.1.below b13
    have hz3 : w2.heap.size < W3.heap.size := by rw [← hW3]; simp
    have HW := hide (words_any n v W3 (H1.out.2.2.2.move b13) (right_small hr) g3)
    obtain ⟨K, hK⟩ : ∃ K, (wordsN n).length = K := ⟨_, rfl⟩
    have H3 := hide (And.intro hr (And.intro (B2.trans (b3.mono B2.size)) (And.intro g3 (And.intro hI3 (And.intro hz3 B2.size)))))
    have HF3 := hide f3
    have HK := hide hK
    rw [hK] at HW
    clear hr f2 b3 hI3 f3 b13 g3 hz3 B2 b2 hbb hK
    go_wp2_with (refine l_load _ (load_nd (n := n) (v := v) HF3.out) rfl rfl rfl ?_)
    refine HW.out.mono ?_
    rintro e w4 ⟨ga, gc, rfl, hown, b4⟩
    have hK1000 : K ≤ 1000 := by rw [← HK.out]; exact words_count (right_small H3.out.1)
    have hb4 : Below w.heap.size w w4 := H3.out.2.1.trans (b4.mono H3.out.2.1.size)
    have hI4 := isb_belowW H3.out.2.2.2.1 b4
    have H4 := hide (And.intro hown (And.intro hb4 (And.intro hI4 (And.intro (H3.out.2.2.1.below b4) b4.size))))
    clear hown hb4 hI4 b4
    have hwsz := H3.out.2.2.2.2.2
    have hwz := H3.out.2.2.2.2.1
    go_wp2_with fail
    go_loopw [13] (fun iv wr => ∃ i : Nat, i ≤ K ∧ iv = .int .i64 i ∧ Lib.IsBuilderF 41 5 w2.heap.size w2.heap.size (Lib.byteCells (((wordsN n).take i).flatMap encB)) wr ∧ wr.ownsRow W3.heap.size 9 1 (.slice ga K gc) K (strC (wordsN n)) ∧ Below w.heap.size w wr ∧ GlobE wr ∧ w2.heap.size ≤ wr.heap.size) (fun iv _ => K - (intOf iv).toNat)
    case atStart => exact ⟨0, Nat.zero_le _, rfl, by simpa using H4.out.2.2.1, H4.out.1, H4.out.2.1, H4.out.2.2.2.1, by have := H4.out.2.2.2.2; omega⟩
    case round =>
      obtain ⟨i, hik, rfl, hI, hown, hbel, hgl, hsz⟩ := hrel
      have HR := hide (And.intro hI (And.intro hown (And.intro hbel hgl)))
      clear hI hown hbel hgl
      by_cases hlt : (i : Int) < K
      · obtain ⟨x, hx⟩ : ∃ x, (wordsN n)[i]? = some x := ⟨_, List.getElem?_eq_getElem (by have := HK.out; omega)⟩
        obtain ⟨g, gc', hv, _, _, hc⟩ := own_str HR.out.2.1 hx
        injection hv with hga _ hgc
        subst hga
        subst hgc
        have hxs := words_small H3.out.1 x (List.mem_of_getElem? hx)
        have hit : (itB (x.size : Int)).size ≤ 1000 := by
          show (Lib.itoa (x.size : Int)).length ≤ 1000
          rw [Lib.itoa_nonneg]
          have := dec_len (u := x.size) (k := 4) (by omega) (by omega)
          omega
        have a1 : ∀ w, (Op.stringOp .add (itB (x.size : Int)) ⟨#[58]⟩).run Tryz.prog w = .ok (.string (itB (x.size : Int) ++ ⟨#[58]⟩)) w := fun w => run_string_add_sum w _ _ (by show _ + 1 ≤ _; omega)
        have a2 : ∀ w, (Op.stringOp .add (itB (x.size : Int) ++ ⟨#[58]⟩) x).run Tryz.prog w = .ok (.string (itB (x.size : Int) ++ ⟨#[58]⟩ ++ x)) w := fun w => run_string_add_sum w _ _ (by rw [size_app]; show _ + 1 + _ ≤ _; omega)
        have hel := enc_len ((wordsN n).take i) (fun y hy => words_small H3.out.1 y (List.mem_of_mem_take hy))
        have htl : ((wordsN n).take i).length ≤ i := by simp; omega
        have HX := hide hx
        have HEL := hide (And.intro hel htl)
        clear hx hel htl
        go_wp2_with fail
        refine (itoa_nat (x.size : Int) (by omega) (by omega) wr HR.out.2.2.2).mono ?_
        rintro e w5 ⟨rfl, b5⟩
        have hI5 := isb_belowW HR.out.1 b5
        have hown5 := own_same (B := w5) HR.out.2.1 (fun g e => b5.block g (own_lt HR.out.2.1 g e))
        have hs5 : w2.heap.size ≤ w5.heap.size := by have := b5.size; omega
        have H5 := hide (And.intro hI5 (And.intro hown5 (And.intro (HR.out.2.2.1.trans (b5.mono HR.out.2.2.1.size)) (HR.out.2.2.2.below b5))))
        clear hI5 hown5 b5 hc
        go_wp2_with fail
        refine (writeW w2.heap.size w2.heap.size _ _ w5 H5.out.1 (by have h1 := HEL.out.1; have h2 := HEL.out.2; rw [size_app, size_app]; show _ + (_ + 1 + _) ≤ _; omega) hs5).mono ?_
        rintro e w6 ⟨rfl, hI6, b6, k6⟩
        rw [encB_eq] at hI6
        have hfl : ((wordsN n).take (i + 1)).flatMap encB = ((wordsN n).take i).flatMap encB ++ encB x := by
          rw [List.take_add_one, HX.out]
          simp
        rw [← hfl] at hI6
        have hown6 := own_same (B := w6) H5.out.2.1 (fun g' e => by
          injection e with e
          subst e
          obtain ⟨_, ⟨h, _⟩ | ⟨g2, cap, cur, hv, x1, x2, _⟩⟩ := id H5.out.2.1
          · cases h
          · injection hv with hv _ _
            injection hv with hv
            injection hv with hv _ _
            subst hv
            exact (k6 g _ x2 (by simp; omega) (by intro c fz e; cases e)).trans x2.symm)
        have hs6 : w2.heap.size ≤ w6.heap.size := by have := b6.size; omega
        have H6 := hide (And.intro hI6 (And.intro hown6 (And.intro (H5.out.2.2.1.trans (b6.mono hwsz)) hs6)))
        clear hI6 b6 k6 hfl hown6
        go_wp2_with fail
        go_roundw
        case rel => exact ⟨i + 1, by omega, by simp, H6.out.1, H6.out.2.1, H6.out.2.2.1, HG0.out.below H6.out.2.2.1, hs6⟩
        case measure => simp [intOf]; omega
      · obtain rfl : K = i := by omega
        have hI := HR.out.1
        rw [List.take_of_length_le (by have := HK.out; omega), words_enc (right_small H3.out.1)] at hI
        have HI := hide hI
        clear hI
        go_wp2_with fail
        refine (builderString w2.heap.size w2.heap.size _ wr HI.out hsz).mono ?_
        rintro e w7 ⟨rfl, _, b7, _⟩
        have H7 := hide b7
        clear b7
        go_wp2_with fail
        exact bodyPost_ret (results_tt (a := 2) (b := 3) rfl) rfl ⟨.inl ⟨H3.out.1, rfl⟩, HR.out.2.2.1.trans (H7.out.mono hwsz)⟩
end Go.Proofs.YtimhkgpjfppkmaaGreatDoor
