/- TopTree: in a tree of collections who subscribes to the root is told of every leaf, once, and who subscribes to a leaf of that alone. -/
import Derived.Test.YtffjmkngdjbjlaaDoorNt2
import Derived.Test.YtffjmkngdjbjlaaDoorNd8
namespace Go.Proofs.YtffjmkngdjbjlaaDoor
open Go.RowKit

set_option maxRecDepth 100000 in
set_option maxHeartbeats 8000000 in
theorem topTree_any (ao : Option Addr) (cap : Nat) (par : List UInt8) (at_ : Nat) (hat : at_ < 256) (w : World) (hp : BytesIn w.heap.size w ao par) (hg : Glob w) :
    Calls Tryd.prog 8 #[.slice ao par.length cap, .int .u8 at_] w fun e w' => e = .returned (.bool true) ∧ Below w.heap.size w w' := by
  obtain ⟨m, hml⟩ : ∃ m, par.length = m := ⟨_, rfl⟩
  obtain ⟨p, hpp⟩ : ∃ p, pT par = p := ⟨_, rfl⟩
  have hplt : ∀ i, 0 < i → p i < i := fun i hi => by rw [← hpp]; exact pT_lt par i hi
  obtain ⟨M, hM⟩ : ∃ M, min m 12 = M := ⟨_, rfl⟩
  have hM12 : M ≤ 12 := by omega
  have hMm : M ≤ m := by omega
  have HH := hide (And.intro hp (And.intro hml (And.intro hg (And.intro hpp (And.intro hplt hM)))))
  rw [hml]
  clear hp hml hg hpp hplt hM
  go_enter Tryd.func8, Tryd.ntmps8
  go_wp2_with fail
  go_loopw [5, 6] (fun lv iv wr => ∃ (k : Nat) (vs : Nat → NdW) (ga : Option Addr) (gc : Nat), k ≤ M ∧ iv = .int .i64 k ∧ lv = .slice ga (k + 1) gc ∧ wr.ownsRow w.heap.size 28 8 (.slice ga (k + 1) gc) (k + 1) (rowN (ndT p 1000) vs (k + 1)) ∧ (∀ i, i < k + 1 → LaidT i wr (vs i)) ∧ Below w.heap.size w wr) (fun _ iv _ => m + 1 - (intOf iv).toNat)
  case atStart =>
    obtain ⟨Wa, hWa⟩ : ∃ Wa, w.alloc (.cells #[.string ⟨#[111, 64, 100]⟩, .int .u8 5] 55) = Wa := ⟨_, rfl⟩
    have fa := World.alloc_heap_new w (.cells #[.string ⟨#[111, 64, 100]⟩, .int .u8 5] 55)
    have ba : Below w.heap.size w Wa := by rw [← hWa]; exact (Below.refl _ w).alloc (Nat.le_refl _) _
    have za : Wa.heap.size = w.heap.size + 1 := by rw [← hWa]; simp
    rw [hWa] at fa ⊢
    obtain ⟨Wb, hWb⟩ : ∃ Wb, Wa.alloc (.cells #[.string ⟨#[114, 64, 100]⟩, .bool false, .int .i64 0] 39) = Wb := ⟨_, rfl⟩
    have fb := World.alloc_heap_new Wa (.cells #[.string ⟨#[114, 64, 100]⟩, .bool false, .int .i64 0] 39)
    have bb : Below Wa.heap.size Wa Wb := by rw [← hWb]; exact (Below.refl _ Wa).alloc (Nat.le_refl _) _
    have zb : Wb.heap.size = w.heap.size + 1 + 1 := by rw [← hWb, World.size_alloc, za]
    rw [hWb, za] at fb
    rw [hWb]
    obtain ⟨Wc, hWc⟩ : ∃ Wc, Wb.alloc (.cells #[.string ⟨#[97]⟩, .bool true, .int .u8 0, .int .i64 0, .slice (some ⟨w.heap.size, 0, none⟩) 1 1, .slice (some ⟨w.heap.size + 1, 0, none⟩) 1 1, .slice none 0 0, .string ⟨#[]⟩] 28) = Wc := ⟨_, rfl⟩
    have fc := World.alloc_heap_new Wb (.cells #[.string ⟨#[97]⟩, .bool true, .int .u8 0, .int .i64 0, .slice (some ⟨w.heap.size, 0, none⟩) 1 1, .slice (some ⟨w.heap.size + 1, 0, none⟩) 1 1, .slice none 0 0, .string ⟨#[]⟩] 28)
    have bc : Below Wb.heap.size Wb Wc := by rw [← hWc]; exact (Below.refl _ Wb).alloc (Nat.le_refl _) _
    rw [hWc, zb] at fc
    rw [hWc]
    have fa' := (bc.block _ (by omega)).trans ((bb.block _ (by omega)).trans fa)
    have fb' := (bc.block _ (by omega)).trans fb
    refine ⟨0, fun _ => ⟨some ⟨w.heap.size, 0, none⟩, 1, some ⟨w.heap.size + 1, 0, none⟩, 1, none, 0⟩, some ⟨w.heap.size + 1 + 1, 0, none⟩, 1, Nat.zero_le _, rfl, rfl, ?_, fun i hi => ?_, (ba.trans (bb.mono (by omega))).trans (bc.mono (by omega))⟩
    · refine ⟨by simp [rowN, ndC], .inr ⟨w.heap.size + 1 + 1, 1, _, rfl, by omega, fc, Nat.le_refl _, by unfold maxLen; omega, rfl, rfl⟩⟩
    · obtain rfl : i = 0 := by omega
      exact ⟨rfl, rfl, ⟨_, rfl, rfl, fa'⟩, .inr ⟨rfl, _, rfl, rfl, fb'⟩⟩
  case round =>
    obtain ⟨k, vs, ga, gc, hk, rfl, rfl, hown, hlaid, hbw⟩ := hrel
    have hzw := hbw.size
    have u1 : IntKind.u8.wrap (k : Int) = k := by show (k : Int) % 256 = k; omega
    have u2 : IntKind.u8.wrap ((98 : Int) + k) = 98 + k := by show ((98 : Int) + k) % 256 = _; omega
    have u4 : IntKind.i64.wrap ((k : Int) + 1) = k + 1 := by rw [IntKind.wrap_i64]; omega
    by_cases hle : (k : Int) < m
    · by_cases h12 : (k : Int) < 12
      · obtain ⟨c, hc⟩ : ∃ c, par[k]? = some c := ⟨_, List.getElem?_eq_getElem (by have := HH.out.2.1; omega)⟩
        obtain ⟨pb, poff, hpe, hpb, hpc⟩ := HH.out.1 k c hc
        have e0 := (hbw.cell (p := ⟨pb, _, none⟩) hpb).trans hpc
        have hpk : p (k + 1) = c.toNat % (k + 1) := by rw [← HH.out.2.2.2.1]; exact pT_at hc
        obtain ⟨g, gc', hgv, hgb, hgl, hgn, hcells⟩ := own_cellN hown (by omega)
        have hplt := HH.out.2.2.2.2.1 (k + 1) (by omega)
        have e1 := (hcells (p (k + 1)) 0 (by omega) (by omega)).1
        simp only [ndC, List.getElem_cons_zero, Nat.add_zero] at e1
        have f1 := World.alloc_heap_new wr (.cells #[.int .u8 ((98 : Int) + k)] 5)
        have hcv := conv_ltT (n := k + 1) (by omega) (by omega) f1
        cases hgv
        have b3 : Below wr.heap.size wr (((wr.alloc (.cells #[.int .u8 ((98 : Int) + k)] 5)).alloc (.cells #[.string ⟨#[111, 64, 100]⟩, .int .u8 5] 55)).alloc (.cells #[.string (ltN (k + 1)), .bool true, .int .u8 0, .int .i64 0, .slice (some ⟨wr.heap.size + 1, 0, none⟩) 1 1, .slice none 0 0, .slice none 0 0, .string ⟨#[]⟩] 28)) := (((Below.refl _ wr).alloc (Nat.le_refl _) _).alloc (by simp) _).alloc (by simp only [World.size_alloc]; omega) _
        replace e0 := (b3.cell (p := ⟨pb, poff + k, none⟩) (Nat.lt_of_lt_of_le hpb hzw)).trans e0
        replace e1 := (b3.cell (p := ⟨g, p (k + 1) * 8, none⟩) hgl).trans e1
        obtain ⟨q, hq⟩ : ∃ q, p (k + 1) = q := ⟨_, rfl⟩
        rw [hq] at e1 hpk hplt
        have hwc : wrap64 (c.toNat : Int) = c.toNat := by
          exact wrap64_small _ (UInt8.toNat_lt c)
        have h01 : ((k : Int) + 1 == 0) = false := by rw [beq_eq_false_iff_ne]; omega
        have hrem : ((c.toNat : Int)).tmod ((k : Int) + 1) = q := by
          rw [tmod_nat, hpk]
        have hq0 : (0 : Int) ≤ q := by omega
        have hq1 : (q : Int) < (k : Int) + 1 := by omega
        have HI := hide (And.intro hown (And.intro hlaid (And.intro hbw (And.intro hpk (And.intro hgl (And.intro hplt (And.intro b3 hq)))))))
        clear b3 hq
        clear hown hlaid hbw f1 hpk hgl hcells hplt hc hpc
        rw [hpe]
        go_wp2_with (at_builtin; refine stopNd ?_)
        unfold Hid
        have hA : ndA (ndT p 1000 (k + 1)) ⟨some ⟨wr.heap.size + 1, 0, none⟩, 1, none, 0, none, 0⟩ = #[.string (ltN (k + 1)), .bool true, .int .u8 0, .int .i64 0, .slice (some ⟨wr.heap.size + 1, 0, none⟩) 1 1, .slice none 0 0, .slice none 0 0, .string (ndT p 1000 q).name] := by
          have h1 : ¬ k + 1 = 1000 := by omega
          simp [ndA, ndT, tsub, h1, HI.out.2.2.2.2.2.2.2]
        obtain ⟨W3, hW3⟩ : ∃ W3, (((wr.alloc (.cells #[.int .u8 ((98 : Int) + k)] 5)).alloc (.cells #[.string ⟨#[111, 64, 100]⟩, .int .u8 5] 55)).alloc (.cells #[.string (ltN (k + 1)), .bool true, .int .u8 0, .int .i64 0, .slice (some ⟨wr.heap.size + 1, 0, none⟩) 1 1, .slice none 0 0, .slice none 0 0, .string (ndT p 1000 q).name] 28)) = W3 := ⟨_, rfl⟩
        have b4 : Below wr.heap.size wr W3 := by rw [← hW3]; exact (((Below.refl _ wr).alloc (Nat.le_refl _) _).alloc (by simp only [World.size_alloc]; omega) _).alloc (by simp only [World.size_alloc]; omega) _
        have z4 : W3.heap.size = wr.heap.size + 1 + 1 + 1 := by rw [← hW3]; simp
        have ha4 : W3.heap[wr.heap.size + 1]? = some (.cells #[.string ⟨#[111, 64, 100]⟩, .int .u8 5] 55) := by
          rw [← hW3, Below.heap_alloc _ _ _ (by simp only [World.size_alloc]; omega)]
          have h := World.alloc_heap_new (wr.alloc (.cells #[.int .u8 ((98 : Int) + k)] 5)) (.cells #[.string ⟨#[111, 64, 100]⟩, .int .u8 5] 55)
          rw [World.size_alloc] at h
          exact h
        rw [hW3]
        have hown := HI.out.1
        have hlaid := HI.out.2.1
        have hbw := HI.out.2.2.1
        have hrow := World.alloc_heap_new W3 (.cells #[.string (ltN (k + 1)), .bool true, .int .u8 0, .int .i64 0, .slice (some ⟨wr.heap.size + 1, 0, none⟩) 1 1, .slice none 0 0, .slice none 0 0, .string (ndT p 1000 q).name] 28)
        rw [z4] at hrow
        rw [← hA] at hrow ⊢
        have hown5 := own_same (B := W3.alloc (.cells (ndA (ndT p 1000 (k + 1)) ⟨some ⟨wr.heap.size + 1, 0, none⟩, 1, none, 0, none, 0⟩) 28)) hown (fun g e => (Below.heap_alloc _ _ _ (by have := own_lt hown g e; omega)).trans (b4.block g (own_lt hown g e)))
        refine append_nd _ rfl _ _ rfl w.heap.size _ (k + 1) (rowN (ndT p 1000) vs (k + 1)) rfl hown5 (ndT p 1000 (k + 1)) ⟨some ⟨wr.heap.size + 1, 0, none⟩, 1, none, 0, none, 0⟩ (wr.heap.size + 1 + 1 + 1) rfl hrow (by omega) (by simp; omega) ?_
        intro v7 w7 hown7 hgr7
        obtain ⟨g7, c7, hv7⟩ := own_shape1 hown7
        subst hv7
        have B5 : Below w.heap.size w (W3.alloc (.cells (ndA (ndT p 1000 (k + 1)) ⟨some ⟨wr.heap.size + 1, 0, none⟩, 1, none, 0, none, 0⟩) 28)) := (hbw.trans (b4.mono hzw)).alloc (by omega) _
        have B7 : Below w.heap.size w w7 := B5.grown hgr7 B5.size (fun g e => own_base hown5 g e)
        have keep : ∀ (j : Nat) (cs : Array Value) (T : TypeId), W3.heap[j]? = some (.cells cs T) → T ≠ 28 → w7.heap[j]? = W3.heap[j]? := fun j cs T hj hT => by
          have hjl : j < W3.heap.size := (Array.getElem?_eq_some_iff.1 hj).1
          have hj5 : (W3.alloc (.cells (ndA (ndT p 1000 (k + 1)) ⟨some ⟨wr.heap.size + 1, 0, none⟩, 1, none, 0, none, 0⟩) 28)).heap[j]? = some (.cells cs T) := (Below.heap_alloc _ _ _ hjl).trans hj
          exact (hgr7.block j (by simp; omega) (fun e => own_ne0 hown5 hj5 hT j e.symm rfl)).trans (Below.heap_alloc _ _ _ hjl)
        have laid7 : ∀ i, i < k + 1 + 1 → LaidT i w7 ((fun i => if i = k + 1 then ⟨some ⟨wr.heap.size + 1, 0, none⟩, 1, none, 0, none, 0⟩ else vs i) i) := fun i hi => by
          by_cases hik : i = k + 1
          · subst hik
            simp only [if_true]
            exact ⟨rfl, rfl, ⟨_, rfl, rfl, (keep _ _ _ ha4 (by decide)).trans ha4⟩, .inl ⟨by omega, rfl, rfl⟩⟩
          · simp only [hik, if_false]
            refine (hlaid i (by omega)).keep fun j cs T hj hT => ?_
            have hjl := (Array.getElem?_eq_some_iff.1 hj).1
            have hj4 := (b4.block j hjl).trans hj
            exact (keep j cs T hj4 hT).trans (b4.block j hjl)
        have H7 := hide (And.intro hown7 (And.intro B7 laid7))
        clear hown7 hgr7 B5 B7 keep laid7 hrow hown5 hown hlaid hbw b4 z4 ha4 hW3 hA
        go_wp2_with fail
        exact ⟨⟨k + 1, fun i => if i = k + 1 then ⟨some ⟨wr.heap.size + 1, 0, none⟩, 1, none, 0, none, 0⟩ else vs i, g7, c7, by have := HH.out.2.2.2.2.2; omega, by simp, rfl, by rw [rowN_more]; exact H7.out.1, H7.out.2.2, H7.out.2.1⟩, by (simp [intOf] <;> omega)⟩
      · have hkM : k = M := by omega
        obtain ⟨kk, hkk⟩ : ∃ kk, at_ % (k + 1) = kk := ⟨_, rfl⟩
        have hkl : kk < k + 1 := by rw [← hkk]; exact Nat.mod_lt _ (by omega)
        have hk12 : k ≤ 12 := by omega
        have h01 : ((k : Int) + 1 == 0) = false := by rw [beq_eq_false_iff_ne]; omega
        have hrem : ((at_ : Nat) : Int).tmod ((k : Int) + 1) = kk := by
          rw [tmod_nat, hkk]
        have hkk0 : (0 : Int) ≤ kk := by omega
        have hkk1 : (kk : Int) < (k : Int) + 1 := by omega
        obtain ⟨g, gc', hgv, hgb, hgl, hgn, hcells⟩ := own_cellN hown (by omega)
        cases hgv
        have e5 := (hcells kk 5 hkl (by omega)).1
        simp only [ndC, List.getElem_cons_zero, List.getElem_cons_succ] at e5
        have b9 : Below wr.heap.size wr (wr.alloc (.cells #[] 39)) := (Below.refl _ wr).alloc (Nat.le_refl _) _
        replace e5 := (b9.cell (p := ⟨g, kk * 8 + 5, none⟩) hgl).trans e5
        have HI := hide (And.intro hown (And.intro hlaid (And.intro hbw (And.intro hkM (And.intro hgl (And.intro hcells (And.intro hkk b9)))))))
        clear b9 hown hlaid hbw hkM hgl hcells hkk hk
        go_wp2_with (at_builtin; refine stopNd ?_)
        unfold Hid
        obtain ⟨Wa, hWa⟩ : ∃ Wa, wr.alloc (.cells #[] 39) = Wa := ⟨_, rfl⟩
        have fa := World.alloc_heap_new wr (.cells #[] 39)
        have ba := HI.out.2.2.2.2.2.2.2
        have za : Wa.heap.size = wr.heap.size + 1 := by rw [← hWa]; simp
        rw [hWa] at fa ba ⊢
        have hown0 : Wa.ownsRow wr.heap.size 39 3 (.slice (some ⟨wr.heap.size, 0, none⟩) 0 0) ([] : List (ByteArray × Bool × Int)).length (sC []) := ⟨rfl, .inr ⟨wr.heap.size, 0, #[], rfl, Nat.le_refl _, fa, Nat.le_refl _, by unfold maxLen; omega, rfl, rfl⟩⟩
        have hsub : SubMem Wa.heap.size Wa (vs kk).sa (tsub 1000 kk) := by
          rcases (HI.out.2.1 kk hkl).2.2.2 with ⟨h6, h7, h8⟩ | ⟨h6, b, h7, h8, h9⟩
          · have e : tsub 1000 kk = [] := by unfold tsub; rw [if_neg h6, if_neg (by omega)]; rfl
            rw [e]
            exact ⟨by simp, fun i x hx => by simp at hx⟩
          · have e : tsub 1000 kk = [(rd, false, 0)] := by unfold tsub; rw [if_pos h6, if_neg (by omega)]; rfl
            have h10 := (ba.block b (Array.getElem?_eq_some_iff.1 h9).1).trans h9
            rw [e, h7]
            refine ⟨by simp, fun i x hx => ?_⟩
            match i, hx with
            | 0, hx =>
              simp at hx
              subst hx
              exact ⟨b, 0, rfl, (Array.getElem?_eq_some_iff.1 h10).1, by simp [World.cell?, h10], by simp [World.cell?, h10], by simp [World.cell?, h10]⟩
        have hT0 : (ndT p 1000 kk).subs = tsub 1000 kk := rfl
        obtain ⟨v1, w1, hap1, hown1, hgr1, hv1⟩ := app_s (T := 25) (cap := (vs kk).sc) hown0 hsub (by omega) (by unfold tsub; split <;> split <;> simp)
        refine l_val rfl _ (ex_appN rfl rfl rfl hap1) ?_
        obtain ⟨g1, c1, hv1'⟩ := own_shape1 hown1
        subst hv1'
        have b1 : Below wr.heap.size wr w1 := ba.grown hgr1 ba.size (fun g e => by cases e; exact Nat.le_refl _)
        have z1 := b1.size
        rw [List.nil_append] at hown1
        have H1 := hide (And.intro hown1 (And.intro b1 hT0))
        clear hown1 b1 hT0 hgr1 hap1 hsub hown0 fa ba hWa za hv1 e5
        go_wp2_with (at_builtin; refine stopNd ?_)
        unfold Hid
        obtain ⟨Wb, hWb⟩ : ∃ Wb, w1.alloc (.cells #[.string ⟨#[115, 64, 100]⟩, .bool false, .int .i64 1] 39) = Wb := ⟨_, rfl⟩
        have fb := World.alloc_heap_new w1 (.cells #[.string ⟨#[115, 64, 100]⟩, .bool false, .int .i64 1] 39)
        have bb : Below w1.heap.size w1 Wb := by rw [← hWb]; exact (Below.refl _ w1).alloc (Nat.le_refl _) _
        have zb : Wb.heap.size = w1.heap.size + 1 := by rw [← hWb]; simp
        rw [hWb] at fb ⊢
        have hownb := own_same (B := Wb) H1.out.1 (fun g e => bb.block g (own_lt H1.out.1 g e))
        have hsub2 : SubMem Wb.heap.size Wb (some ⟨w1.heap.size, 0, none⟩) [(sd, false, (1 : Int))] := by
          refine ⟨by simp, fun i x hx => ?_⟩
          match i, hx with
          | 0, hx =>
            simp at hx
            subst hx
            exact ⟨w1.heap.size, 0, rfl, by omega, by simp [World.cell?, fb, sd], by simp [World.cell?, fb], by simp [World.cell?, fb]⟩
        obtain ⟨v2, w2, hap2, hown2, hgr2, hv2⟩ := app_s (T := 25) (cap := 1) hownb hsub2 (by omega) (by unfold tsub; split <;> split <;> simp)
        refine l_val rfl _ (ex_appN rfl rfl rfl hap2) ?_
        obtain ⟨g2, c2, hv2'⟩ := own_shape1 hown2
        subst hv2'
        have b2 : Below wr.heap.size wr w2 := (H1.out.2.1.trans (bb.mono z1)).grown hgr2 (by omega) (fun g e => own_base hownb g e)
        have z2 := b2.size
        have e6 := (b2.cell (p := ⟨g, kk * 8 + 5, none⟩) HI.out.2.2.2.2.1).trans (HI.out.2.2.2.2.2.1 kk 5 hkl (by omega)).1
        have fr6 : w2.frozen? ⟨g, kk * 8 + 5, none⟩ = false := by
          rw [World.frozen?_of_block (b2.block g HI.out.2.2.2.2.1)]
          exact (HI.out.2.2.2.2.2.1 kk 5 hkl (by omega)).2
        simp only [ndC, List.getElem_cons_zero, List.getElem_cons_succ] at e6
        have etk : tsub 1000 kk ++ [(sd, false, (1 : Int))] = tsub kk kk := by
          have h1 : ¬ kk = 1000 := by omega
          unfold tsub
          simp [h1]
        rw [etk] at hown2 ⊢
        have H2 := hide (And.intro hown2 b2)
        clear hown2 b2 hgr2 hap2 hsub2 hownb fb bb hWb zb hv2 etk
        go_wp2_with fail
        obtain ⟨ga2, ca2, hv2, hsm2, hsl2, _, hbase2⟩ := own_s H2.out.1 (by unfold tsub; split <;> split <;> simp)
        cases hv2
        have hbw2 : Below w.heap.size w w2 := HI.out.2.2.1.trans (H2.out.2.mono hzw)
        have hgl2 : g < w2.heap.size := Nat.lt_of_lt_of_le HI.out.2.2.2.2.1 H2.out.2.size
        have hmem := tree_mem (p := p) (kk := kk) (n := k + 1) (g := g) (vs := vs) (sa := g2) (sc := c2) (w2 := w2) (by omega) hkl hgl2
          (fun i j hi hj => (H2.out.2.cell (p := ⟨g, i * 8 + j, none⟩) HI.out.2.2.2.2.1).trans (HI.out.2.2.2.2.2.1 i j hi hj).1)
          (fun i hi => (HI.out.2.1 i hi).keep fun j cs T hj hT => H2.out.2.block j (Array.getElem?_eq_some_iff.1 hj).1)
          hsm2 hsl2 (fun a e h => by have := (hbase2 a e).1; have := HI.out.2.2.2.2.1; omega)
          (fun j cs T hj hT e => by
            subst e
            have h1 := (H2.out.2.block j HI.out.2.2.2.2.1)
            rw [hj] at h1
            obtain ⟨_, ⟨e1, e2⟩ | ⟨g', cap', cur, e1, x1, x2, _⟩⟩ := HI.out.1
            · omega
            · cases e1
              rw [x2] at h1
              injection h1 with h1
              injection h1 with _ h1 _
              exact hT h1)
        obtain ⟨W6, hW6⟩ : ∃ W6, w2.setCell ⟨g, kk * 8 + 5, none⟩ (.slice g2 (tsub kk kk).length c2) = W6 := ⟨_, rfl⟩
        have b6 : Below w.heap.size w W6 := by rw [← hW6]; exact hbw2.setCell (p := ⟨g, _, none⟩) hgb _
        have z6 : W6.heap.size = w2.heap.size := by rw [← hW6]; exact size_set _ _ _
        rw [hW6] at hmem ⊢
        rw [← z6] at hmem
        have HJ := hide (And.intro hmem (And.intro b6 (And.intro HI.out.2.2.2.1 HI.out.2.2.2.2.2.2.1)))
        have hgl6 : g < W6.heap.size := by omega
        clear hmem b6 hsm2 hsl2 hbase2 hbw2 hW6 z6 hgl2
        clear H2 H1 HI e6 fr6 z2 z1
        go_loopw [9] (fun iv w3 => ∃ i : Nat, i ≤ k + 1 ∧ iv = .int .i64 i ∧ Below W6.heap.size W6 w3) (fun iv _ => k + 1 - (intOf iv).toNat)
        case atStart => exact ⟨0, Nat.zero_le _, rfl, Below.refl _ _⟩
        case round =>
          obtain ⟨i, hik, rfl, hb3⟩ := hrel
          have hz3 := hb3.size
          by_cases hlt : (i : Int) < (k : Int) + 1
          · have hilt : i < k + 1 := by omega
            have hi0 : (0 : Int) ≤ i := by omega
            have hplt := HH.out.2.2.2.2.1
            have hmem := (HJ.out.1.below hb3).raise hz3
            obtain ⟨_, bb, oo, ee, _, cc⟩ := hmem.2 i _ (nsT_at p kk hilt)
            cases ee
            have e0 := cc 0 (by omega)
            simp only [ndC, List.getElem_cons_zero, Nat.zero_add, Nat.add_zero] at e0
            have hfan := fan_any (some ⟨g, 0, none⟩) gc (nsT p kk (k + 1)) (vsK vs kk g2 c2) (ltN i) i (ndT p kk i) (toldT p kk i) wr hmem (nsT_at p kk hilt) rfl
              (fun j nd hj hn => by
                rw [nsT_at p kk (by omega)] at hn
                cases hn
                intro e
                have := ltN_inj (show j < 100 by omega) (show i < 100 by omega) e
                omega) rfl (told_tree (by omega) hplt hilt) (by rcases told_cases hplt kk i with ⟨_, h⟩ | ⟨_, h | h⟩ <;> rw [h] <;> simp) (role_tree hplt kk i) (compact_tree hplt kk i)
            rw [nsT_len, sort_tree hplt] at hfan
            have HFN := hide (And.intro hfan hb3)
            have hname : (ndT p kk i).name = ltN i := rfl
            rw [hname] at e0
            clear hfan hb3 hmem cc hplt hname
            go_wp2_with (go_at_call 20; refine HFN.out.1.mono ?_; rintro e w3 ⟨v3, rfl, hown3, b3⟩; refine stopNd ?_)
            unfold Hid
            have hlen : (toldT p kk i).length = (tolS p kk i).length := by
              rcases told_cases HH.out.2.2.2.2.1 kk i with ⟨h1, h2⟩ | ⟨h1, h2 | h2⟩ <;> rw [h2] <;> unfold tolS <;> rw [h1] <;> rfl
            rw [hlen] at hown3
            obtain ⟨g3, c3, hv3⟩ := own_shape1 hown3
            subst hv3
            have HF := hide (And.intro (HFN.out.2.trans (b3.mono HFN.out.2.size)) hown3)
            clear hown3 b3 hlen e0
            by_cases hie : i = kk
            · have hieq : ((i : Int) == kk) = true := by rw [hie]; simp
              have etol : tolS p kk i = [rd, sd] := by unfold tolS nearT; rw [hie]; simp
              rw [etol] at HF ⊢
              clear etol hie
              have hl2 : ([rd, sd] : List ByteArray).length = 2 := rfl
              rw [hl2] at HF ⊢
              go_wp2_with fail
              obtain ⟨V0, hV0⟩ : ∃ V0, w3.drew = V0 := ⟨_, rfl⟩
              have bV : Below w3.heap.size w3 V0 := by rw [← hV0]; exact (Below.refl _ w3).drew
              have BV : Below W6.heap.size W6 V0 := HF.out.1.trans (bV.mono HF.out.1.size)
              have hgV : g < V0.heap.size := Nat.lt_of_lt_of_le hgl6 BV.size
              have hownV := own_same (B := V0) HF.out.2 (fun g e => bV.block g (own_lt HF.out.2 g e))
              skip
              apply region_one (W0 := V0) (S := fun V => Below V0.heap.size V0 V) (hm := by kernel_rfl)
              case h =>
                rw [hV0]
                have S0 : Below V0.heap.size V0 V0 := Below.refl _ _
                refine anyH_take (i := 0) (v := .int .i64 i) rfl (some 85) rfl (by kernel_rfl) (by kernel_rfl) (by kernel_rfl) (fun _ _ _ h => by cases h.1) (by kernel_rfl) (fun w0 hw0 => by first | rfl | kernel_rfl) S0 ?_
                simp only [Act.put, List.setIfInBounds_toArray, List.set_cons_zero, List.set_cons_succ]
                refine anyH_take (i := 1) (v := .int .i64 kk) rfl (some 86) rfl (by kernel_rfl) (by kernel_rfl) (by kernel_rfl) (fun _ _ _ h => by cases h.1) (by kernel_rfl) (fun w0 hw0 => by first | rfl | kernel_rfl) S0 ?_
                simp only [Act.put, List.setIfInBounds_toArray, List.set_cons_zero, List.set_cons_succ]
                refine anyH_take (i := 2) (v := .bool true) rfl (some 87) rfl (by kernel_rfl) (by kernel_rfl) (by kernel_rfl) (fun _ _ _ h => by cases h.1) (by kernel_rfl) (fun _ _ => ex_eqI rfl rfl rfl hieq) S0 ?_
                simp only [Act.put, List.setIfInBounds_toArray, List.set_cons_zero, List.set_cons_succ]
                refine anyH_take (i := 3) (v := .bool true) rfl (some 88) rfl (by kernel_rfl) (by kernel_rfl) (by kernel_rfl) (fun _ _ _ h => by cases h.1) (by kernel_rfl) (fun w0 hw0 => by first | rfl | kernel_rfl) S0 ?_
                simp only [Act.put, List.setIfInBounds_toArray, List.set_cons_zero, List.set_cons_succ]
                refine anyH_off (i := 4) rfl (some 89) rfl (by kernel_rfl) (by kernel_rfl) (by kernel_rfl) (fun _ _ _ h => by cases h.1) (by kernel_rfl) S0 ?_
                simp only [Act.put, List.setIfInBounds_toArray, List.set_cons_zero, List.set_cons_succ]
                refine anyH_off (i := 5) rfl (some 90) rfl (by kernel_rfl) (by kernel_rfl) (by kernel_rfl) (fun _ _ _ h => by cases h.1) (by kernel_rfl) S0 ?_
                simp only [Act.put, List.setIfInBounds_toArray, List.set_cons_zero, List.set_cons_succ]
                refine anyH_off (i := 6) rfl (some 91) rfl (by kernel_rfl) (by kernel_rfl) (by kernel_rfl) (fun _ _ _ h => by cases h.1) (by kernel_rfl) S0 ?_
                simp only [Act.put, List.setIfInBounds_toArray, List.set_cons_zero, List.set_cons_succ]
                refine anyH_off (i := 7) rfl (some 92) rfl (by kernel_rfl) (by kernel_rfl) (by kernel_rfl) (fun _ _ _ h => by cases h.1) (by kernel_rfl) S0 ?_
                simp only [Act.put, List.setIfInBounds_toArray, List.set_cons_zero, List.set_cons_succ]
                refine anyH_off (i := 8) rfl (some 93) rfl (by kernel_rfl) (by kernel_rfl) (by kernel_rfl) (fun _ _ _ h => by cases h.1) (by kernel_rfl) S0 ?_
                simp only [Act.put, List.setIfInBounds_toArray, List.set_cons_zero, List.set_cons_succ]
                refine anyH_off (i := 9) rfl (some 94) rfl (by kernel_rfl) (by kernel_rfl) (by kernel_rfl) (fun _ _ _ h => by cases h.1) (by kernel_rfl) S0 ?_
                simp only [Act.put, List.setIfInBounds_toArray, List.set_cons_zero, List.set_cons_succ]
                refine anyH_off (i := 10) rfl (some 95) rfl (by kernel_rfl) (by kernel_rfl) (by kernel_rfl) (fun _ _ _ h => by cases h.1) (by kernel_rfl) S0 ?_
                simp only [Act.put, List.setIfInBounds_toArray, List.set_cons_zero, List.set_cons_succ]
                refine anyH_off (i := 11) rfl (some 96) rfl (by kernel_rfl) (by kernel_rfl) (by kernel_rfl) (fun _ _ _ h => by cases h.1) (by kernel_rfl) S0 ?_
                simp only [Act.put, List.setIfInBounds_toArray, List.set_cons_zero, List.set_cons_succ]
                refine anyH_off (i := 12) rfl (some 97) rfl (by kernel_rfl) (by kernel_rfl) (by kernel_rfl) (fun _ _ _ h => by cases h.1) (by kernel_rfl) S0 ?_
                simp only [Act.put, List.setIfInBounds_toArray, List.set_cons_zero, List.set_cons_succ]
                refine anyH_off (i := 13) rfl (some 98) rfl (by kernel_rfl) (by kernel_rfl) (by kernel_rfl) (fun _ _ _ h => by cases h.1) (by kernel_rfl) S0 ?_
                simp only [Act.put, List.setIfInBounds_toArray, List.set_cons_zero, List.set_cons_succ]
                refine anyH_off (i := 14) rfl (some 99) rfl (by kernel_rfl) (by kernel_rfl) (by kernel_rfl) (fun _ _ _ h => by cases h.1) (by kernel_rfl) S0 ?_
                simp only [Act.put, List.setIfInBounds_toArray, List.set_cons_zero, List.set_cons_succ]
                refine anyH_take (i := 15) (v := .bool true) rfl (some 100) rfl (by kernel_rfl) (by kernel_rfl) (by kernel_rfl) (fun _ _ _ h => by cases h.1) (by kernel_rfl) (fun _ _ => ex_pkT rfl rfl rfl) S0 ?_
                simp only [Act.put, List.setIfInBounds_toArray, List.set_cons_zero, List.set_cons_succ]
                refine anyH_val (i := 16) (by kernel_rfl) rfl (some 11) rfl (by kernel_rfl) (ex_anyv rfl rfl) S0 ?_
                simp only [Act.put, List.setIfInBounds_toArray, List.set_cons_zero, List.set_cons_succ]
                exact wpAnyH_done (by kernel_rfl) ⟨rfl, rfl, rfl⟩ _
              case hq =>
                clear hgV
                have HV := hide (And.intro BV bV)
                obtain ⟨g4, rfl, s0, s1⟩ := strs2 hownV
                unfold rd at s0
                unfold sd at s1
                clear hownV BV bV hV0
                go_wp2_with fail
                go_roundw
                case rel => exact ⟨i + 1, by omega, by simp, HV.out.1⟩
                case measure => simp [intOf]; omega
            · have hieq : ((i : Int) == kk) = false := by rw [beq_eq_false_iff_ne]; omega
              obtain ⟨nb, hnb⟩ : ∃ nb, ((ndT p kk i).parent.toList == (ltN kk).toList) = nb := ⟨_, rfl⟩
              have hnear : nearT p kk i = nb := by
                rw [← hnb]
                unfold nearT
                rw [decide_eq_false hie, Bool.false_or]
                show _ = ((if i = 0 then ⟨#[]⟩ else ltN (p i) : ByteArray).toList == _)
                by_cases h0 : i = 0
                · rw [if_pos h0, decide_eq_true h0, str_ne (ltN_ne kk)]
                  rfl
                · have hpi := HH.out.2.2.2.2.1 i (by omega)
                  rw [if_neg h0, decide_eq_false h0]
                  by_cases hpk : p i = kk
                  · rw [hpk]
                    simp
                  · rw [decide_eq_false hpk, str_ne (fun e => hpk (ltN_inj (by omega) (by omega) e))]
                    rfl
              cases nb with
              | true =>
                have etol : tolS p kk i = [rd, sd] := by unfold tolS; rw [hnear]; rfl
                rw [etol] at HF ⊢
                clear etol hnear
                have hl2 : ([rd, sd] : List ByteArray).length = 2 := rfl
                rw [hl2] at HF ⊢
                go_wp2_with fail
                obtain ⟨V0, hV0⟩ : ∃ V0, w3.drew = V0 := ⟨_, rfl⟩
                have bV : Below w3.heap.size w3 V0 := by rw [← hV0]; exact (Below.refl _ w3).drew
                have BV : Below W6.heap.size W6 V0 := HF.out.1.trans (bV.mono HF.out.1.size)
                have hgV : g < V0.heap.size := Nat.lt_of_lt_of_le hgl6 BV.size
                have hownV := own_same (B := V0) HF.out.2 (fun g e => bV.block g (own_lt HF.out.2 g e))
                have hmV := (HJ.out.1.below BV).raise BV.size
                obtain ⟨_, bi, oi, ei, _, ci⟩ := hmV.2 i _ (nsT_at p kk hilt)
                cases ei
                obtain ⟨_, bk, ok, ek, _, ck⟩ := hmV.2 kk _ (nsT_at p kk hkl)
                cases ek
                have ep := ci 7 (by omega)
                have en := ck 0 (by omega)
                simp only [ndC, List.getElem_cons_zero, List.getElem_cons_succ, Nat.zero_add, Nat.add_zero] at ep en
                clear ci ck hmV
                apply region_one (W0 := V0) (S := fun V => Below V0.heap.size V0 V) (hm := by kernel_rfl)
                case h =>
                  rw [hV0]
                  have S0 : Below V0.heap.size V0 V0 := Below.refl _ _
                  refine anyH_take (i := 0) (v := .int .i64 i) rfl (some 85) rfl (by kernel_rfl) (by kernel_rfl) (by kernel_rfl) (fun _ _ _ h => by cases h.1) (by kernel_rfl) (fun w0 hw0 => by first | rfl | kernel_rfl) S0 ?_
                  simp only [Act.put, List.setIfInBounds_toArray, List.set_cons_zero, List.set_cons_succ]
                  refine anyH_take (i := 1) (v := .int .i64 kk) rfl (some 86) rfl (by kernel_rfl) (by kernel_rfl) (by kernel_rfl) (fun _ _ _ h => by cases h.1) (by kernel_rfl) (fun w0 hw0 => by first | rfl | kernel_rfl) S0 ?_
                  simp only [Act.put, List.setIfInBounds_toArray, List.set_cons_zero, List.set_cons_succ]
                  refine anyH_take (i := 2) (v := .bool false) rfl (some 87) rfl (by kernel_rfl) (by kernel_rfl) (by kernel_rfl) (fun _ _ _ h => by cases h.1) (by kernel_rfl) (fun _ _ => ex_eqI rfl rfl rfl hieq) S0 ?_
                  simp only [Act.put, List.setIfInBounds_toArray, List.set_cons_zero, List.set_cons_succ]
                  refine anyH_take (i := 3) (v := .bool false) rfl (some 88) rfl (by kernel_rfl) (by kernel_rfl) (by kernel_rfl) (fun _ _ _ h => by cases h.1) (by kernel_rfl) (fun w0 hw0 => by first | rfl | kernel_rfl) S0 ?_
                  simp only [Act.put, List.setIfInBounds_toArray, List.set_cons_zero, List.set_cons_succ]
                  refine anyH_take (i := 4) (v := .slice (some ⟨g, 0, none⟩) (k + 1) gc) rfl (some 89) rfl (by kernel_rfl) (by kernel_rfl) (by kernel_rfl) (fun _ _ _ h => by cases h.1) (by kernel_rfl) (fun w0 hw0 => by first | rfl | kernel_rfl) S0 ?_
                  simp only [Act.put, List.setIfInBounds_toArray, List.set_cons_zero, List.set_cons_succ]
                  refine anyH_take (i := 5) (v := .int .i64 i) rfl (some 90) rfl (by kernel_rfl) (by kernel_rfl) (by kernel_rfl) (fun _ _ _ h => by cases h.1) (by kernel_rfl) (fun w0 hw0 => by first | rfl | kernel_rfl) S0 ?_
                  simp only [Act.put, List.setIfInBounds_toArray, List.set_cons_zero, List.set_cons_succ]
                  refine anyH_take (i := 6) (v := .pointer (some ⟨g, i * 8, none⟩)) rfl (some 91) rfl (by kernel_rfl) (by kernel_rfl) (by kernel_rfl) (fun _ _ _ h => by cases h.1) (by kernel_rfl) (fun _ _ => ex_idxN rfl rfl rfl hilt) S0 ?_
                  simp only [Act.put, List.setIfInBounds_toArray, List.set_cons_zero, List.set_cons_succ]
                  refine anyH_take (i := 7) (v := .pointer (some ⟨g, i * 8 + 7, none⟩)) rfl (some 92) rfl (by kernel_rfl) (by kernel_rfl) (by kernel_rfl) (fun _ _ _ h => by cases h.1) (by kernel_rfl) (fun _ _ => ex_fldN7 rfl rfl) S0 ?_
                  simp only [Act.put, List.setIfInBounds_toArray, List.set_cons_zero, List.set_cons_succ]
                  refine anyH_take (i := 8) (v := .string (ndT p kk i).parent) rfl (some 93) rfl (by kernel_rfl) (by kernel_rfl) (by kernel_rfl) (fun _ _ _ h => by cases h.1) (by kernel_rfl) (fun w0 hw0 => ex_load rfl rfl (load_str ((hw0.cell (p := ⟨g, i * 8 + 7, none⟩) hgV).trans ep))) S0 ?_
                  simp only [Act.put, List.setIfInBounds_toArray, List.set_cons_zero, List.set_cons_succ]
                  refine anyH_take (i := 9) (v := .slice (some ⟨g, 0, none⟩) (k + 1) gc) rfl (some 94) rfl (by kernel_rfl) (by kernel_rfl) (by kernel_rfl) (fun _ _ _ h => by cases h.1) (by kernel_rfl) (fun w0 hw0 => by first | rfl | kernel_rfl) S0 ?_
                  simp only [Act.put, List.setIfInBounds_toArray, List.set_cons_zero, List.set_cons_succ]
                  refine anyH_take (i := 10) (v := .int .i64 kk) rfl (some 95) rfl (by kernel_rfl) (by kernel_rfl) (by kernel_rfl) (fun _ _ _ h => by cases h.1) (by kernel_rfl) (fun w0 hw0 => by first | rfl | kernel_rfl) S0 ?_
                  simp only [Act.put, List.setIfInBounds_toArray, List.set_cons_zero, List.set_cons_succ]
                  refine anyH_take (i := 11) (v := .pointer (some ⟨g, kk * 8, none⟩)) rfl (some 96) rfl (by kernel_rfl) (by kernel_rfl) (by kernel_rfl) (fun _ _ _ h => by cases h.1) (by kernel_rfl) (fun _ _ => ex_idxN rfl rfl rfl hkl) S0 ?_
                  simp only [Act.put, List.setIfInBounds_toArray, List.set_cons_zero, List.set_cons_succ]
                  refine anyH_take (i := 12) (v := .pointer (some ⟨g, kk * 8, none⟩)) rfl (some 97) rfl (by kernel_rfl) (by kernel_rfl) (by kernel_rfl) (fun _ _ _ h => by cases h.1) (by kernel_rfl) (fun _ _ => ex_fldN0 rfl rfl) S0 ?_
                  simp only [Act.put, List.setIfInBounds_toArray, List.set_cons_zero, List.set_cons_succ]
                  refine anyH_take (i := 13) (v := .string (ltN kk)) rfl (some 98) rfl (by kernel_rfl) (by kernel_rfl) (by kernel_rfl) (fun _ _ _ h => by cases h.1) (by kernel_rfl) (fun w0 hw0 => ex_load rfl rfl (load_str ((hw0.cell (p := ⟨g, kk * 8, none⟩) hgV).trans en))) S0 ?_
                  simp only [Act.put, List.setIfInBounds_toArray, List.set_cons_zero, List.set_cons_succ]
                  refine anyH_take (i := 14) (v := .bool true) rfl (some 99) rfl (by kernel_rfl) (by kernel_rfl) (by kernel_rfl) (fun _ _ _ h => by cases h.1) (by kernel_rfl) (fun _ _ => ex_eqS rfl rfl rfl hnb) S0 ?_
                  simp only [Act.put, List.setIfInBounds_toArray, List.set_cons_zero, List.set_cons_succ]
                  refine anyH_take (i := 15) (v := .bool true) rfl (some 100) rfl (by kernel_rfl) (by kernel_rfl) (by kernel_rfl) (fun _ _ _ h => by cases h.1) (by kernel_rfl) (fun _ _ => ex_pkF rfl rfl rfl) S0 ?_
                  simp only [Act.put, List.setIfInBounds_toArray, List.set_cons_zero, List.set_cons_succ]
                  refine anyH_val (i := 16) (by kernel_rfl) rfl (some 11) rfl (by kernel_rfl) (ex_anyv rfl rfl) S0 ?_
                  simp only [Act.put, List.setIfInBounds_toArray, List.set_cons_zero, List.set_cons_succ]
                  exact wpAnyH_done (by kernel_rfl) ⟨rfl, rfl, rfl⟩ _
                case hq =>
                  clear hgV
                  have HV := hide (And.intro BV bV)
                  obtain ⟨g4, rfl, s0, s1⟩ := strs2 hownV
                  unfold rd at s0
                  unfold sd at s1
                  clear hownV BV bV hV0
                  go_wp2_with fail
                  go_roundw
                  case rel => exact ⟨i + 1, by omega, by simp, HV.out.1⟩
                  case measure => simp [intOf]; omega
              | false =>
                have etol : tolS p kk i = [rd] := by unfold tolS; rw [hnear]; rfl
                rw [etol] at HF ⊢
                clear etol hnear
                have hl2 : ([rd] : List ByteArray).length = 1 := rfl
                rw [hl2] at HF ⊢
                go_wp2_with fail
                obtain ⟨V0, hV0⟩ : ∃ V0, w3.drew = V0 := ⟨_, rfl⟩
                have bV : Below w3.heap.size w3 V0 := by rw [← hV0]; exact (Below.refl _ w3).drew
                have BV : Below W6.heap.size W6 V0 := HF.out.1.trans (bV.mono HF.out.1.size)
                have hgV : g < V0.heap.size := Nat.lt_of_lt_of_le hgl6 BV.size
                have hownV := own_same (B := V0) HF.out.2 (fun g e => bV.block g (own_lt HF.out.2 g e))
                have hmV := (HJ.out.1.below BV).raise BV.size
                obtain ⟨_, bi, oi, ei, _, ci⟩ := hmV.2 i _ (nsT_at p kk hilt)
                cases ei
                obtain ⟨_, bk, ok, ek, _, ck⟩ := hmV.2 kk _ (nsT_at p kk hkl)
                cases ek
                have ep := ci 7 (by omega)
                have en := ck 0 (by omega)
                simp only [ndC, List.getElem_cons_zero, List.getElem_cons_succ, Nat.zero_add, Nat.add_zero] at ep en
                clear ci ck hmV
                apply region_one (W0 := V0) (S := fun V => Below V0.heap.size V0 V) (hm := by kernel_rfl)
                case h =>
                  rw [hV0]
                  have S0 : Below V0.heap.size V0 V0 := Below.refl _ _
                  refine anyH_take (i := 0) (v := .int .i64 i) rfl (some 85) rfl (by kernel_rfl) (by kernel_rfl) (by kernel_rfl) (fun _ _ _ h => by cases h.1) (by kernel_rfl) (fun w0 hw0 => by first | rfl | kernel_rfl) S0 ?_
                  simp only [Act.put, List.setIfInBounds_toArray, List.set_cons_zero, List.set_cons_succ]
                  refine anyH_take (i := 1) (v := .int .i64 kk) rfl (some 86) rfl (by kernel_rfl) (by kernel_rfl) (by kernel_rfl) (fun _ _ _ h => by cases h.1) (by kernel_rfl) (fun w0 hw0 => by first | rfl | kernel_rfl) S0 ?_
                  simp only [Act.put, List.setIfInBounds_toArray, List.set_cons_zero, List.set_cons_succ]
                  refine anyH_take (i := 2) (v := .bool false) rfl (some 87) rfl (by kernel_rfl) (by kernel_rfl) (by kernel_rfl) (fun _ _ _ h => by cases h.1) (by kernel_rfl) (fun _ _ => ex_eqI rfl rfl rfl hieq) S0 ?_
                  simp only [Act.put, List.setIfInBounds_toArray, List.set_cons_zero, List.set_cons_succ]
                  refine anyH_take (i := 3) (v := .bool false) rfl (some 88) rfl (by kernel_rfl) (by kernel_rfl) (by kernel_rfl) (fun _ _ _ h => by cases h.1) (by kernel_rfl) (fun w0 hw0 => by first | rfl | kernel_rfl) S0 ?_
                  simp only [Act.put, List.setIfInBounds_toArray, List.set_cons_zero, List.set_cons_succ]
                  refine anyH_take (i := 4) (v := .slice (some ⟨g, 0, none⟩) (k + 1) gc) rfl (some 89) rfl (by kernel_rfl) (by kernel_rfl) (by kernel_rfl) (fun _ _ _ h => by cases h.1) (by kernel_rfl) (fun w0 hw0 => by first | rfl | kernel_rfl) S0 ?_
                  simp only [Act.put, List.setIfInBounds_toArray, List.set_cons_zero, List.set_cons_succ]
                  refine anyH_take (i := 5) (v := .int .i64 i) rfl (some 90) rfl (by kernel_rfl) (by kernel_rfl) (by kernel_rfl) (fun _ _ _ h => by cases h.1) (by kernel_rfl) (fun w0 hw0 => by first | rfl | kernel_rfl) S0 ?_
                  simp only [Act.put, List.setIfInBounds_toArray, List.set_cons_zero, List.set_cons_succ]
                  refine anyH_take (i := 6) (v := .pointer (some ⟨g, i * 8, none⟩)) rfl (some 91) rfl (by kernel_rfl) (by kernel_rfl) (by kernel_rfl) (fun _ _ _ h => by cases h.1) (by kernel_rfl) (fun _ _ => ex_idxN rfl rfl rfl hilt) S0 ?_
                  simp only [Act.put, List.setIfInBounds_toArray, List.set_cons_zero, List.set_cons_succ]
                  refine anyH_take (i := 7) (v := .pointer (some ⟨g, i * 8 + 7, none⟩)) rfl (some 92) rfl (by kernel_rfl) (by kernel_rfl) (by kernel_rfl) (fun _ _ _ h => by cases h.1) (by kernel_rfl) (fun _ _ => ex_fldN7 rfl rfl) S0 ?_
                  simp only [Act.put, List.setIfInBounds_toArray, List.set_cons_zero, List.set_cons_succ]
                  refine anyH_take (i := 8) (v := .string (ndT p kk i).parent) rfl (some 93) rfl (by kernel_rfl) (by kernel_rfl) (by kernel_rfl) (fun _ _ _ h => by cases h.1) (by kernel_rfl) (fun w0 hw0 => ex_load rfl rfl (load_str ((hw0.cell (p := ⟨g, i * 8 + 7, none⟩) hgV).trans ep))) S0 ?_
                  simp only [Act.put, List.setIfInBounds_toArray, List.set_cons_zero, List.set_cons_succ]
                  refine anyH_take (i := 9) (v := .slice (some ⟨g, 0, none⟩) (k + 1) gc) rfl (some 94) rfl (by kernel_rfl) (by kernel_rfl) (by kernel_rfl) (fun _ _ _ h => by cases h.1) (by kernel_rfl) (fun w0 hw0 => by first | rfl | kernel_rfl) S0 ?_
                  simp only [Act.put, List.setIfInBounds_toArray, List.set_cons_zero, List.set_cons_succ]
                  refine anyH_take (i := 10) (v := .int .i64 kk) rfl (some 95) rfl (by kernel_rfl) (by kernel_rfl) (by kernel_rfl) (fun _ _ _ h => by cases h.1) (by kernel_rfl) (fun w0 hw0 => by first | rfl | kernel_rfl) S0 ?_
                  simp only [Act.put, List.setIfInBounds_toArray, List.set_cons_zero, List.set_cons_succ]
                  refine anyH_take (i := 11) (v := .pointer (some ⟨g, kk * 8, none⟩)) rfl (some 96) rfl (by kernel_rfl) (by kernel_rfl) (by kernel_rfl) (fun _ _ _ h => by cases h.1) (by kernel_rfl) (fun _ _ => ex_idxN rfl rfl rfl hkl) S0 ?_
                  simp only [Act.put, List.setIfInBounds_toArray, List.set_cons_zero, List.set_cons_succ]
                  refine anyH_take (i := 12) (v := .pointer (some ⟨g, kk * 8, none⟩)) rfl (some 97) rfl (by kernel_rfl) (by kernel_rfl) (by kernel_rfl) (fun _ _ _ h => by cases h.1) (by kernel_rfl) (fun _ _ => ex_fldN0 rfl rfl) S0 ?_
                  simp only [Act.put, List.setIfInBounds_toArray, List.set_cons_zero, List.set_cons_succ]
                  refine anyH_take (i := 13) (v := .string (ltN kk)) rfl (some 98) rfl (by kernel_rfl) (by kernel_rfl) (by kernel_rfl) (fun _ _ _ h => by cases h.1) (by kernel_rfl) (fun w0 hw0 => ex_load rfl rfl (load_str ((hw0.cell (p := ⟨g, kk * 8, none⟩) hgV).trans en))) S0 ?_
                  simp only [Act.put, List.setIfInBounds_toArray, List.set_cons_zero, List.set_cons_succ]
                  refine anyH_take (i := 14) (v := .bool false) rfl (some 99) rfl (by kernel_rfl) (by kernel_rfl) (by kernel_rfl) (fun _ _ _ h => by cases h.1) (by kernel_rfl) (fun _ _ => ex_eqS rfl rfl rfl hnb) S0 ?_
                  simp only [Act.put, List.setIfInBounds_toArray, List.set_cons_zero, List.set_cons_succ]
                  refine anyH_take (i := 15) (v := .bool false) rfl (some 100) rfl (by kernel_rfl) (by kernel_rfl) (by kernel_rfl) (fun _ _ _ h => by cases h.1) (by kernel_rfl) (fun _ _ => ex_pkF rfl rfl rfl) S0 ?_
                  simp only [Act.put, List.setIfInBounds_toArray, List.set_cons_zero, List.set_cons_succ]
                  refine anyH_val (i := 16) (by kernel_rfl) rfl (some 11) rfl (by kernel_rfl) (ex_anyv rfl rfl) S0 ?_
                  simp only [Act.put, List.setIfInBounds_toArray, List.set_cons_zero, List.set_cons_succ]
                  exact wpAnyH_done (by kernel_rfl) ⟨rfl, rfl, rfl⟩ _
                case hq =>
                  clear hgV
                  have HV := hide (And.intro BV bV)
                  obtain ⟨g4, rfl, s0⟩ := strs1 hownV
                  unfold rd at s0
                  clear hownV BV bV hV0
                  go_wp2_with fail
                  go_roundw
                  case rel => exact ⟨i + 1, by omega, by simp, HV.out.1⟩
                  case measure => simp [intOf]; omega
          · have hmem := (HJ.out.1.below hb3).raise hz3
            obtain ⟨hok, bb, oo, ee, _, cc⟩ := hmem.2 0 _ (nsT_at p kk (show 0 < k + 1 by omega))
            cases ee
            have e0 := cc 0 (by omega)
            have e1 := cc 1 (by omega)
            have e2 := cc 2 (by omega)
            have e3 := cc 3 (by omega)
            have e4 := cc 4 (by omega)
            have e5 := cc 5 (by omega)
            have e6 := cc 6 (by omega)
            have e7 := cc 7 (by omega)
            simp only [ndC, List.getElem_cons_zero, List.getElem_cons_succ, Nat.zero_add, Nat.add_zero, Nat.zero_mul] at e0 e1 e2 e3 e4 e5 e6 e7
            have b3w := HJ.out.2.1.trans (hb3.mono HJ.out.2.1.size)
            have hR := rightN_any (ndT p kk 0) (vsK vs kk g2 c2 0) wr ⟨hok, ⟨by simp [ndT], fun j x hx => by simp [ndT] at hx⟩, by simp [ndT], fits_root p kk⟩ (HH.out.2.2.1.below b3w)
            unfold ndA at hR
            have HR := hide (And.intro hR b3w)
            clear hR b3w hmem cc hok hb3
            go_wp2_with (go_at_call 11; refine HR.out.1.mono ?_; rintro e w3 ⟨⟨rb, rfl, hrb⟩, b3⟩; refine stopNd ?_)
            unfold Hid
            have hrt := hrb.2 (right_root p kk)
            subst hrt
            have HB := hide (HR.out.2.trans (b3.mono HR.out.2.size))
            clear hrb b3
            go_wp2_with fail
            go_ret
            exact ⟨rfl, HB.out⟩
    · have hkM : k = M := by omega
      obtain ⟨kk, hkk⟩ : ∃ kk, at_ % (k + 1) = kk := ⟨_, rfl⟩
      have hkl : kk < k + 1 := by rw [← hkk]; exact Nat.mod_lt _ (by omega)
      have hk12 : k ≤ 12 := by omega
      have h01 : ((k : Int) + 1 == 0) = false := by rw [beq_eq_false_iff_ne]; omega
      have hrem : ((at_ : Nat) : Int).tmod ((k : Int) + 1) = kk := by
        rw [tmod_nat, hkk]
      have hkk0 : (0 : Int) ≤ kk := by omega
      have hkk1 : (kk : Int) < (k : Int) + 1 := by omega
      obtain ⟨g, gc', hgv, hgb, hgl, hgn, hcells⟩ := own_cellN hown (by omega)
      cases hgv
      have e5 := (hcells kk 5 hkl (by omega)).1
      simp only [ndC, List.getElem_cons_zero, List.getElem_cons_succ] at e5
      have b9 : Below wr.heap.size wr (wr.alloc (.cells #[] 39)) := (Below.refl _ wr).alloc (Nat.le_refl _) _
      replace e5 := (b9.cell (p := ⟨g, kk * 8 + 5, none⟩) hgl).trans e5
      have HI := hide (And.intro hown (And.intro hlaid (And.intro hbw (And.intro hkM (And.intro hgl (And.intro hcells (And.intro hkk b9)))))))
      clear b9 hown hlaid hbw hkM hgl hcells hkk hk
      go_wp2_with (at_builtin; refine stopNd ?_)
      unfold Hid
      obtain ⟨Wa, hWa⟩ : ∃ Wa, wr.alloc (.cells #[] 39) = Wa := ⟨_, rfl⟩
      have fa := World.alloc_heap_new wr (.cells #[] 39)
      have ba := HI.out.2.2.2.2.2.2.2
      have za : Wa.heap.size = wr.heap.size + 1 := by rw [← hWa]; simp
      rw [hWa] at fa ba ⊢
      have hown0 : Wa.ownsRow wr.heap.size 39 3 (.slice (some ⟨wr.heap.size, 0, none⟩) 0 0) ([] : List (ByteArray × Bool × Int)).length (sC []) := ⟨rfl, .inr ⟨wr.heap.size, 0, #[], rfl, Nat.le_refl _, fa, Nat.le_refl _, by unfold maxLen; omega, rfl, rfl⟩⟩
      have hsub : SubMem Wa.heap.size Wa (vs kk).sa (tsub 1000 kk) := by
        rcases (HI.out.2.1 kk hkl).2.2.2 with ⟨h6, h7, h8⟩ | ⟨h6, b, h7, h8, h9⟩
        · have e : tsub 1000 kk = [] := by unfold tsub; rw [if_neg h6, if_neg (by omega)]; rfl
          rw [e]
          exact ⟨by simp, fun i x hx => by simp at hx⟩
        · have e : tsub 1000 kk = [(rd, false, 0)] := by unfold tsub; rw [if_pos h6, if_neg (by omega)]; rfl
          have h10 := (ba.block b (Array.getElem?_eq_some_iff.1 h9).1).trans h9
          rw [e, h7]
          refine ⟨by simp, fun i x hx => ?_⟩
          match i, hx with
          | 0, hx =>
            simp at hx
            subst hx
            exact ⟨b, 0, rfl, (Array.getElem?_eq_some_iff.1 h10).1, by simp [World.cell?, h10], by simp [World.cell?, h10], by simp [World.cell?, h10]⟩
      have hT0 : (ndT p 1000 kk).subs = tsub 1000 kk := rfl
      obtain ⟨v1, w1, hap1, hown1, hgr1, hv1⟩ := app_s (T := 25) (cap := (vs kk).sc) hown0 hsub (by omega) (by unfold tsub; split <;> split <;> simp)
      refine l_val rfl _ (ex_appN rfl rfl rfl hap1) ?_
      obtain ⟨g1, c1, hv1'⟩ := own_shape1 hown1
      subst hv1'
      have b1 : Below wr.heap.size wr w1 := ba.grown hgr1 ba.size (fun g e => by cases e; exact Nat.le_refl _)
      have z1 := b1.size
      rw [List.nil_append] at hown1
      have H1 := hide (And.intro hown1 (And.intro b1 hT0))
      clear hown1 b1 hT0 hgr1 hap1 hsub hown0 fa ba hWa za hv1 e5
      go_wp2_with (at_builtin; refine stopNd ?_)
      unfold Hid
      obtain ⟨Wb, hWb⟩ : ∃ Wb, w1.alloc (.cells #[.string ⟨#[115, 64, 100]⟩, .bool false, .int .i64 1] 39) = Wb := ⟨_, rfl⟩
      have fb := World.alloc_heap_new w1 (.cells #[.string ⟨#[115, 64, 100]⟩, .bool false, .int .i64 1] 39)
      have bb : Below w1.heap.size w1 Wb := by rw [← hWb]; exact (Below.refl _ w1).alloc (Nat.le_refl _) _
      have zb : Wb.heap.size = w1.heap.size + 1 := by rw [← hWb]; simp
      rw [hWb] at fb ⊢
      have hownb := own_same (B := Wb) H1.out.1 (fun g e => bb.block g (own_lt H1.out.1 g e))
      have hsub2 : SubMem Wb.heap.size Wb (some ⟨w1.heap.size, 0, none⟩) [(sd, false, (1 : Int))] := by
        refine ⟨by simp, fun i x hx => ?_⟩
        match i, hx with
        | 0, hx =>
          simp at hx
          subst hx
          exact ⟨w1.heap.size, 0, rfl, by omega, by simp [World.cell?, fb, sd], by simp [World.cell?, fb], by simp [World.cell?, fb]⟩
      obtain ⟨v2, w2, hap2, hown2, hgr2, hv2⟩ := app_s (T := 25) (cap := 1) hownb hsub2 (by omega) (by unfold tsub; split <;> split <;> simp)
      refine l_val rfl _ (ex_appN rfl rfl rfl hap2) ?_
      obtain ⟨g2, c2, hv2'⟩ := own_shape1 hown2
      subst hv2'
      have b2 : Below wr.heap.size wr w2 := (H1.out.2.1.trans (bb.mono z1)).grown hgr2 (by omega) (fun g e => own_base hownb g e)
      have z2 := b2.size
      have e6 := (b2.cell (p := ⟨g, kk * 8 + 5, none⟩) HI.out.2.2.2.2.1).trans (HI.out.2.2.2.2.2.1 kk 5 hkl (by omega)).1
      have fr6 : w2.frozen? ⟨g, kk * 8 + 5, none⟩ = false := by
        rw [World.frozen?_of_block (b2.block g HI.out.2.2.2.2.1)]
        exact (HI.out.2.2.2.2.2.1 kk 5 hkl (by omega)).2
      simp only [ndC, List.getElem_cons_zero, List.getElem_cons_succ] at e6
      have etk : tsub 1000 kk ++ [(sd, false, (1 : Int))] = tsub kk kk := by
        have h1 : ¬ kk = 1000 := by omega
        unfold tsub
        simp [h1]
      rw [etk] at hown2 ⊢
      have H2 := hide (And.intro hown2 b2)
      clear hown2 b2 hgr2 hap2 hsub2 hownb fb bb hWb zb hv2 etk
      go_wp2_with fail
      obtain ⟨ga2, ca2, hv2, hsm2, hsl2, _, hbase2⟩ := own_s H2.out.1 (by unfold tsub; split <;> split <;> simp)
      cases hv2
      have hbw2 : Below w.heap.size w w2 := HI.out.2.2.1.trans (H2.out.2.mono hzw)
      have hgl2 : g < w2.heap.size := Nat.lt_of_lt_of_le HI.out.2.2.2.2.1 H2.out.2.size
      have hmem := tree_mem (p := p) (kk := kk) (n := k + 1) (g := g) (vs := vs) (sa := g2) (sc := c2) (w2 := w2) (by omega) hkl hgl2
        (fun i j hi hj => (H2.out.2.cell (p := ⟨g, i * 8 + j, none⟩) HI.out.2.2.2.2.1).trans (HI.out.2.2.2.2.2.1 i j hi hj).1)
        (fun i hi => (HI.out.2.1 i hi).keep fun j cs T hj hT => H2.out.2.block j (Array.getElem?_eq_some_iff.1 hj).1)
        hsm2 hsl2 (fun a e h => by have := (hbase2 a e).1; have := HI.out.2.2.2.2.1; omega)
        (fun j cs T hj hT e => by
          subst e
          have h1 := (H2.out.2.block j HI.out.2.2.2.2.1)
          rw [hj] at h1
          obtain ⟨_, ⟨e1, e2⟩ | ⟨g', cap', cur, e1, x1, x2, _⟩⟩ := HI.out.1
          · omega
          · cases e1
            rw [x2] at h1
            injection h1 with h1
            injection h1 with _ h1 _
            exact hT h1)
      obtain ⟨W6, hW6⟩ : ∃ W6, w2.setCell ⟨g, kk * 8 + 5, none⟩ (.slice g2 (tsub kk kk).length c2) = W6 := ⟨_, rfl⟩
      have b6 : Below w.heap.size w W6 := by rw [← hW6]; exact hbw2.setCell (p := ⟨g, _, none⟩) hgb _
      have z6 : W6.heap.size = w2.heap.size := by rw [← hW6]; exact size_set _ _ _
      rw [hW6] at hmem ⊢
      rw [← z6] at hmem
      have HJ := hide (And.intro hmem (And.intro b6 (And.intro HI.out.2.2.2.1 HI.out.2.2.2.2.2.2.1)))
      have hgl6 : g < W6.heap.size := by omega
      clear hmem b6 hsm2 hsl2 hbase2 hbw2 hW6 z6 hgl2
      clear H2 H1 HI e6 fr6 z2 z1
      go_loopw [9] (fun iv w3 => ∃ i : Nat, i ≤ k + 1 ∧ iv = .int .i64 i ∧ Below W6.heap.size W6 w3) (fun iv _ => k + 1 - (intOf iv).toNat)
      case atStart => exact ⟨0, Nat.zero_le _, rfl, Below.refl _ _⟩
      case round =>
        obtain ⟨i, hik, rfl, hb3⟩ := hrel
        have hz3 := hb3.size
        by_cases hlt : (i : Int) < (k : Int) + 1
        · have hilt : i < k + 1 := by omega
          have hi0 : (0 : Int) ≤ i := by omega
          have hplt := HH.out.2.2.2.2.1
          have hmem := (HJ.out.1.below hb3).raise hz3
          obtain ⟨_, bb, oo, ee, _, cc⟩ := hmem.2 i _ (nsT_at p kk hilt)
          cases ee
          have e0 := cc 0 (by omega)
          simp only [ndC, List.getElem_cons_zero, Nat.zero_add, Nat.add_zero] at e0
          have hfan := fan_any (some ⟨g, 0, none⟩) gc (nsT p kk (k + 1)) (vsK vs kk g2 c2) (ltN i) i (ndT p kk i) (toldT p kk i) wr hmem (nsT_at p kk hilt) rfl
            (fun j nd hj hn => by
              rw [nsT_at p kk (by omega)] at hn
              cases hn
              intro e
              have := ltN_inj (show j < 100 by omega) (show i < 100 by omega) e
              omega) rfl (told_tree (by omega) hplt hilt) (by rcases told_cases hplt kk i with ⟨_, h⟩ | ⟨_, h | h⟩ <;> rw [h] <;> simp) (role_tree hplt kk i) (compact_tree hplt kk i)
          rw [nsT_len, sort_tree hplt] at hfan
          have HFN := hide (And.intro hfan hb3)
          have hname : (ndT p kk i).name = ltN i := rfl
          rw [hname] at e0
          clear hfan hb3 hmem cc hplt hname
          go_wp2_with (go_at_call 20; refine HFN.out.1.mono ?_; rintro e w3 ⟨v3, rfl, hown3, b3⟩; refine stopNd ?_)
          unfold Hid
          have hlen : (toldT p kk i).length = (tolS p kk i).length := by
            rcases told_cases HH.out.2.2.2.2.1 kk i with ⟨h1, h2⟩ | ⟨h1, h2 | h2⟩ <;> rw [h2] <;> unfold tolS <;> rw [h1] <;> rfl
          rw [hlen] at hown3
          obtain ⟨g3, c3, hv3⟩ := own_shape1 hown3
          subst hv3
          have HF := hide (And.intro (HFN.out.2.trans (b3.mono HFN.out.2.size)) hown3)
          clear hown3 b3 hlen e0
          by_cases hie : i = kk
          · have hieq : ((i : Int) == kk) = true := by rw [hie]; simp
            have etol : tolS p kk i = [rd, sd] := by unfold tolS nearT; rw [hie]; simp
            rw [etol] at HF ⊢
            clear etol hie
            have hl2 : ([rd, sd] : List ByteArray).length = 2 := rfl
            rw [hl2] at HF ⊢
            go_wp2_with fail
            obtain ⟨V0, hV0⟩ : ∃ V0, w3.drew = V0 := ⟨_, rfl⟩
            have bV : Below w3.heap.size w3 V0 := by rw [← hV0]; exact (Below.refl _ w3).drew
            have BV : Below W6.heap.size W6 V0 := HF.out.1.trans (bV.mono HF.out.1.size)
            have hgV : g < V0.heap.size := Nat.lt_of_lt_of_le hgl6 BV.size
            have hownV := own_same (B := V0) HF.out.2 (fun g e => bV.block g (own_lt HF.out.2 g e))
            skip
            apply region_one (W0 := V0) (S := fun V => Below V0.heap.size V0 V) (hm := by kernel_rfl)
            case h =>
              rw [hV0]
              have S0 : Below V0.heap.size V0 V0 := Below.refl _ _
              refine anyH_take (i := 0) (v := .int .i64 i) rfl (some 85) rfl (by kernel_rfl) (by kernel_rfl) (by kernel_rfl) (fun _ _ _ h => by cases h.1) (by kernel_rfl) (fun w0 hw0 => by first | rfl | kernel_rfl) S0 ?_
              simp only [Act.put, List.setIfInBounds_toArray, List.set_cons_zero, List.set_cons_succ]
              refine anyH_take (i := 1) (v := .int .i64 kk) rfl (some 86) rfl (by kernel_rfl) (by kernel_rfl) (by kernel_rfl) (fun _ _ _ h => by cases h.1) (by kernel_rfl) (fun w0 hw0 => by first | rfl | kernel_rfl) S0 ?_
              simp only [Act.put, List.setIfInBounds_toArray, List.set_cons_zero, List.set_cons_succ]
              refine anyH_take (i := 2) (v := .bool true) rfl (some 87) rfl (by kernel_rfl) (by kernel_rfl) (by kernel_rfl) (fun _ _ _ h => by cases h.1) (by kernel_rfl) (fun _ _ => ex_eqI rfl rfl rfl hieq) S0 ?_
              simp only [Act.put, List.setIfInBounds_toArray, List.set_cons_zero, List.set_cons_succ]
              refine anyH_take (i := 3) (v := .bool true) rfl (some 88) rfl (by kernel_rfl) (by kernel_rfl) (by kernel_rfl) (fun _ _ _ h => by cases h.1) (by kernel_rfl) (fun w0 hw0 => by first | rfl | kernel_rfl) S0 ?_
              simp only [Act.put, List.setIfInBounds_toArray, List.set_cons_zero, List.set_cons_succ]
              refine anyH_off (i := 4) rfl (some 89) rfl (by kernel_rfl) (by kernel_rfl) (by kernel_rfl) (fun _ _ _ h => by cases h.1) (by kernel_rfl) S0 ?_
              simp only [Act.put, List.setIfInBounds_toArray, List.set_cons_zero, List.set_cons_succ]
              refine anyH_off (i := 5) rfl (some 90) rfl (by kernel_rfl) (by kernel_rfl) (by kernel_rfl) (fun _ _ _ h => by cases h.1) (by kernel_rfl) S0 ?_
              simp only [Act.put, List.setIfInBounds_toArray, List.set_cons_zero, List.set_cons_succ]
              refine anyH_off (i := 6) rfl (some 91) rfl (by kernel_rfl) (by kernel_rfl) (by kernel_rfl) (fun _ _ _ h => by cases h.1) (by kernel_rfl) S0 ?_
              simp only [Act.put, List.setIfInBounds_toArray, List.set_cons_zero, List.set_cons_succ]
              refine anyH_off (i := 7) rfl (some 92) rfl (by kernel_rfl) (by kernel_rfl) (by kernel_rfl) (fun _ _ _ h => by cases h.1) (by kernel_rfl) S0 ?_
              simp only [Act.put, List.setIfInBounds_toArray, List.set_cons_zero, List.set_cons_succ]
              refine anyH_off (i := 8) rfl (some 93) rfl (by kernel_rfl) (by kernel_rfl) (by kernel_rfl) (fun _ _ _ h => by cases h.1) (by kernel_rfl) S0 ?_
              simp only [Act.put, List.setIfInBounds_toArray, List.set_cons_zero, List.set_cons_succ]
              refine anyH_off (i := 9) rfl (some 94) rfl (by kernel_rfl) (by kernel_rfl) (by kernel_rfl) (fun _ _ _ h => by cases h.1) (by kernel_rfl) S0 ?_
              simp only [Act.put, List.setIfInBounds_toArray, List.set_cons_zero, List.set_cons_succ]
              refine anyH_off (i := 10) rfl (some 95) rfl (by kernel_rfl) (by kernel_rfl) (by kernel_rfl) (fun _ _ _ h => by cases h.1) (by kernel_rfl) S0 ?_
              simp only [Act.put, List.setIfInBounds_toArray, List.set_cons_zero, List.set_cons_succ]
              refine anyH_off (i := 11) rfl (some 96) rfl (by kernel_rfl) (by kernel_rfl) (by kernel_rfl) (fun _ _ _ h => by cases h.1) (by kernel_rfl) S0 ?_
              simp only [Act.put, List.setIfInBounds_toArray, List.set_cons_zero, List.set_cons_succ]
              refine anyH_off (i := 12) rfl (some 97) rfl (by kernel_rfl) (by kernel_rfl) (by kernel_rfl) (fun _ _ _ h => by cases h.1) (by kernel_rfl) S0 ?_
              simp only [Act.put, List.setIfInBounds_toArray, List.set_cons_zero, List.set_cons_succ]
              refine anyH_off (i := 13) rfl (some 98) rfl (by kernel_rfl) (by kernel_rfl) (by kernel_rfl) (fun _ _ _ h => by cases h.1) (by kernel_rfl) S0 ?_
              simp only [Act.put, List.setIfInBounds_toArray, List.set_cons_zero, List.set_cons_succ]
              refine anyH_off (i := 14) rfl (some 99) rfl (by kernel_rfl) (by kernel_rfl) (by kernel_rfl) (fun _ _ _ h => by cases h.1) (by kernel_rfl) S0 ?_
              simp only [Act.put, List.setIfInBounds_toArray, List.set_cons_zero, List.set_cons_succ]
              refine anyH_take (i := 15) (v := .bool true) rfl (some 100) rfl (by kernel_rfl) (by kernel_rfl) (by kernel_rfl) (fun _ _ _ h => by cases h.1) (by kernel_rfl) (fun _ _ => ex_pkT rfl rfl rfl) S0 ?_
              simp only [Act.put, List.setIfInBounds_toArray, List.set_cons_zero, List.set_cons_succ]
              refine anyH_val (i := 16) (by kernel_rfl) rfl (some 11) rfl (by kernel_rfl) (ex_anyv rfl rfl) S0 ?_
              simp only [Act.put, List.setIfInBounds_toArray, List.set_cons_zero, List.set_cons_succ]
              exact wpAnyH_done (by kernel_rfl) ⟨rfl, rfl, rfl⟩ _
            case hq =>
              clear hgV
              have HV := hide (And.intro BV bV)
              obtain ⟨g4, rfl, s0, s1⟩ := strs2 hownV
              unfold rd at s0
              unfold sd at s1
              clear hownV BV bV hV0
              go_wp2_with fail
              go_roundw
              case rel => exact ⟨i + 1, by omega, by simp, HV.out.1⟩
              case measure => simp [intOf]; omega
          · have hieq : ((i : Int) == kk) = false := by rw [beq_eq_false_iff_ne]; omega
            obtain ⟨nb, hnb⟩ : ∃ nb, ((ndT p kk i).parent.toList == (ltN kk).toList) = nb := ⟨_, rfl⟩
            have hnear : nearT p kk i = nb := by
              rw [← hnb]
              unfold nearT
              rw [decide_eq_false hie, Bool.false_or]
              show _ = ((if i = 0 then ⟨#[]⟩ else ltN (p i) : ByteArray).toList == _)
              by_cases h0 : i = 0
              · rw [if_pos h0, decide_eq_true h0, str_ne (ltN_ne kk)]
                rfl
              · have hpi := HH.out.2.2.2.2.1 i (by omega)
                rw [if_neg h0, decide_eq_false h0]
                by_cases hpk : p i = kk
                · rw [hpk]
                  simp
                · rw [decide_eq_false hpk, str_ne (fun e => hpk (ltN_inj (by omega) (by omega) e))]
                  rfl
            cases nb with
            | true =>
              have etol : tolS p kk i = [rd, sd] := by unfold tolS; rw [hnear]; rfl
              rw [etol] at HF ⊢
              clear etol hnear
              have hl2 : ([rd, sd] : List ByteArray).length = 2 := rfl
              rw [hl2] at HF ⊢
              go_wp2_with fail
              obtain ⟨V0, hV0⟩ : ∃ V0, w3.drew = V0 := ⟨_, rfl⟩
              have bV : Below w3.heap.size w3 V0 := by rw [← hV0]; exact (Below.refl _ w3).drew
              have BV : Below W6.heap.size W6 V0 := HF.out.1.trans (bV.mono HF.out.1.size)
              have hgV : g < V0.heap.size := Nat.lt_of_lt_of_le hgl6 BV.size
              have hownV := own_same (B := V0) HF.out.2 (fun g e => bV.block g (own_lt HF.out.2 g e))
              have hmV := (HJ.out.1.below BV).raise BV.size
              obtain ⟨_, bi, oi, ei, _, ci⟩ := hmV.2 i _ (nsT_at p kk hilt)
              cases ei
              obtain ⟨_, bk, ok, ek, _, ck⟩ := hmV.2 kk _ (nsT_at p kk hkl)
              cases ek
              have ep := ci 7 (by omega)
              have en := ck 0 (by omega)
              simp only [ndC, List.getElem_cons_zero, List.getElem_cons_succ, Nat.zero_add, Nat.add_zero] at ep en
              clear ci ck hmV
              apply region_one (W0 := V0) (S := fun V => Below V0.heap.size V0 V) (hm := by kernel_rfl)
              case h =>
                rw [hV0]
                have S0 : Below V0.heap.size V0 V0 := Below.refl _ _
                refine anyH_take (i := 0) (v := .int .i64 i) rfl (some 85) rfl (by kernel_rfl) (by kernel_rfl) (by kernel_rfl) (fun _ _ _ h => by cases h.1) (by kernel_rfl) (fun w0 hw0 => by first | rfl | kernel_rfl) S0 ?_
                simp only [Act.put, List.setIfInBounds_toArray, List.set_cons_zero, List.set_cons_succ]
                refine anyH_take (i := 1) (v := .int .i64 kk) rfl (some 86) rfl (by kernel_rfl) (by kernel_rfl) (by kernel_rfl) (fun _ _ _ h => by cases h.1) (by kernel_rfl) (fun w0 hw0 => by first | rfl | kernel_rfl) S0 ?_
                simp only [Act.put, List.setIfInBounds_toArray, List.set_cons_zero, List.set_cons_succ]
                refine anyH_take (i := 2) (v := .bool false) rfl (some 87) rfl (by kernel_rfl) (by kernel_rfl) (by kernel_rfl) (fun _ _ _ h => by cases h.1) (by kernel_rfl) (fun _ _ => ex_eqI rfl rfl rfl hieq) S0 ?_
                simp only [Act.put, List.setIfInBounds_toArray, List.set_cons_zero, List.set_cons_succ]
                refine anyH_take (i := 3) (v := .bool false) rfl (some 88) rfl (by kernel_rfl) (by kernel_rfl) (by kernel_rfl) (fun _ _ _ h => by cases h.1) (by kernel_rfl) (fun w0 hw0 => by first | rfl | kernel_rfl) S0 ?_
                simp only [Act.put, List.setIfInBounds_toArray, List.set_cons_zero, List.set_cons_succ]
                refine anyH_take (i := 4) (v := .slice (some ⟨g, 0, none⟩) (k + 1) gc) rfl (some 89) rfl (by kernel_rfl) (by kernel_rfl) (by kernel_rfl) (fun _ _ _ h => by cases h.1) (by kernel_rfl) (fun w0 hw0 => by first | rfl | kernel_rfl) S0 ?_
                simp only [Act.put, List.setIfInBounds_toArray, List.set_cons_zero, List.set_cons_succ]
                refine anyH_take (i := 5) (v := .int .i64 i) rfl (some 90) rfl (by kernel_rfl) (by kernel_rfl) (by kernel_rfl) (fun _ _ _ h => by cases h.1) (by kernel_rfl) (fun w0 hw0 => by first | rfl | kernel_rfl) S0 ?_
                simp only [Act.put, List.setIfInBounds_toArray, List.set_cons_zero, List.set_cons_succ]
                refine anyH_take (i := 6) (v := .pointer (some ⟨g, i * 8, none⟩)) rfl (some 91) rfl (by kernel_rfl) (by kernel_rfl) (by kernel_rfl) (fun _ _ _ h => by cases h.1) (by kernel_rfl) (fun _ _ => ex_idxN rfl rfl rfl hilt) S0 ?_
                simp only [Act.put, List.setIfInBounds_toArray, List.set_cons_zero, List.set_cons_succ]
                refine anyH_take (i := 7) (v := .pointer (some ⟨g, i * 8 + 7, none⟩)) rfl (some 92) rfl (by kernel_rfl) (by kernel_rfl) (by kernel_rfl) (fun _ _ _ h => by cases h.1) (by kernel_rfl) (fun _ _ => ex_fldN7 rfl rfl) S0 ?_
                simp only [Act.put, List.setIfInBounds_toArray, List.set_cons_zero, List.set_cons_succ]
                refine anyH_take (i := 8) (v := .string (ndT p kk i).parent) rfl (some 93) rfl (by kernel_rfl) (by kernel_rfl) (by kernel_rfl) (fun _ _ _ h => by cases h.1) (by kernel_rfl) (fun w0 hw0 => ex_load rfl rfl (load_str ((hw0.cell (p := ⟨g, i * 8 + 7, none⟩) hgV).trans ep))) S0 ?_
                simp only [Act.put, List.setIfInBounds_toArray, List.set_cons_zero, List.set_cons_succ]
                refine anyH_take (i := 9) (v := .slice (some ⟨g, 0, none⟩) (k + 1) gc) rfl (some 94) rfl (by kernel_rfl) (by kernel_rfl) (by kernel_rfl) (fun _ _ _ h => by cases h.1) (by kernel_rfl) (fun w0 hw0 => by first | rfl | kernel_rfl) S0 ?_
                simp only [Act.put, List.setIfInBounds_toArray, List.set_cons_zero, List.set_cons_succ]
                refine anyH_take (i := 10) (v := .int .i64 kk) rfl (some 95) rfl (by kernel_rfl) (by kernel_rfl) (by kernel_rfl) (fun _ _ _ h => by cases h.1) (by kernel_rfl) (fun w0 hw0 => by first | rfl | kernel_rfl) S0 ?_
                simp only [Act.put, List.setIfInBounds_toArray, List.set_cons_zero, List.set_cons_succ]
                refine anyH_take (i := 11) (v := .pointer (some ⟨g, kk * 8, none⟩)) rfl (some 96) rfl (by kernel_rfl) (by kernel_rfl) (by kernel_rfl) (fun _ _ _ h => by cases h.1) (by kernel_rfl) (fun _ _ => ex_idxN rfl rfl rfl hkl) S0 ?_
                simp only [Act.put, List.setIfInBounds_toArray, List.set_cons_zero, List.set_cons_succ]
                refine anyH_take (i := 12) (v := .pointer (some ⟨g, kk * 8, none⟩)) rfl (some 97) rfl (by kernel_rfl) (by kernel_rfl) (by kernel_rfl) (fun _ _ _ h => by cases h.1) (by kernel_rfl) (fun _ _ => ex_fldN0 rfl rfl) S0 ?_
                simp only [Act.put, List.setIfInBounds_toArray, List.set_cons_zero, List.set_cons_succ]
                refine anyH_take (i := 13) (v := .string (ltN kk)) rfl (some 98) rfl (by kernel_rfl) (by kernel_rfl) (by kernel_rfl) (fun _ _ _ h => by cases h.1) (by kernel_rfl) (fun w0 hw0 => ex_load rfl rfl (load_str ((hw0.cell (p := ⟨g, kk * 8, none⟩) hgV).trans en))) S0 ?_
                simp only [Act.put, List.setIfInBounds_toArray, List.set_cons_zero, List.set_cons_succ]
                refine anyH_take (i := 14) (v := .bool true) rfl (some 99) rfl (by kernel_rfl) (by kernel_rfl) (by kernel_rfl) (fun _ _ _ h => by cases h.1) (by kernel_rfl) (fun _ _ => ex_eqS rfl rfl rfl hnb) S0 ?_
                simp only [Act.put, List.setIfInBounds_toArray, List.set_cons_zero, List.set_cons_succ]
                refine anyH_take (i := 15) (v := .bool true) rfl (some 100) rfl (by kernel_rfl) (by kernel_rfl) (by kernel_rfl) (fun _ _ _ h => by cases h.1) (by kernel_rfl) (fun _ _ => ex_pkF rfl rfl rfl) S0 ?_
                simp only [Act.put, List.setIfInBounds_toArray, List.set_cons_zero, List.set_cons_succ]
                refine anyH_val (i := 16) (by kernel_rfl) rfl (some 11) rfl (by kernel_rfl) (ex_anyv rfl rfl) S0 ?_
                simp only [Act.put, List.setIfInBounds_toArray, List.set_cons_zero, List.set_cons_succ]
                exact wpAnyH_done (by kernel_rfl) ⟨rfl, rfl, rfl⟩ _
              case hq =>
                clear hgV
                have HV := hide (And.intro BV bV)
                obtain ⟨g4, rfl, s0, s1⟩ := strs2 hownV
                unfold rd at s0
                unfold sd at s1
                clear hownV BV bV hV0
                go_wp2_with fail
                go_roundw
                case rel => exact ⟨i + 1, by omega, by simp, HV.out.1⟩
                case measure => simp [intOf]; omega
            | false =>
              have etol : tolS p kk i = [rd] := by unfold tolS; rw [hnear]; rfl
              rw [etol] at HF ⊢
              clear etol hnear
              have hl2 : ([rd] : List ByteArray).length = 1 := rfl
              rw [hl2] at HF ⊢
              go_wp2_with fail
              obtain ⟨V0, hV0⟩ : ∃ V0, w3.drew = V0 := ⟨_, rfl⟩
              have bV : Below w3.heap.size w3 V0 := by rw [← hV0]; exact (Below.refl _ w3).drew
              have BV : Below W6.heap.size W6 V0 := HF.out.1.trans (bV.mono HF.out.1.size)
              have hgV : g < V0.heap.size := Nat.lt_of_lt_of_le hgl6 BV.size
              have hownV := own_same (B := V0) HF.out.2 (fun g e => bV.block g (own_lt HF.out.2 g e))
              have hmV := (HJ.out.1.below BV).raise BV.size
              obtain ⟨_, bi, oi, ei, _, ci⟩ := hmV.2 i _ (nsT_at p kk hilt)
              cases ei
              obtain ⟨_, bk, ok, ek, _, ck⟩ := hmV.2 kk _ (nsT_at p kk hkl)
              cases ek
              have ep := ci 7 (by omega)
              have en := ck 0 (by omega)
              simp only [ndC, List.getElem_cons_zero, List.getElem_cons_succ, Nat.zero_add, Nat.add_zero] at ep en
              clear ci ck hmV
              apply region_one (W0 := V0) (S := fun V => Below V0.heap.size V0 V) (hm := by kernel_rfl)
              case h =>
                rw [hV0]
                have S0 : Below V0.heap.size V0 V0 := Below.refl _ _
                refine anyH_take (i := 0) (v := .int .i64 i) rfl (some 85) rfl (by kernel_rfl) (by kernel_rfl) (by kernel_rfl) (fun _ _ _ h => by cases h.1) (by kernel_rfl) (fun w0 hw0 => by first | rfl | kernel_rfl) S0 ?_
                simp only [Act.put, List.setIfInBounds_toArray, List.set_cons_zero, List.set_cons_succ]
                refine anyH_take (i := 1) (v := .int .i64 kk) rfl (some 86) rfl (by kernel_rfl) (by kernel_rfl) (by kernel_rfl) (fun _ _ _ h => by cases h.1) (by kernel_rfl) (fun w0 hw0 => by first | rfl | kernel_rfl) S0 ?_
                simp only [Act.put, List.setIfInBounds_toArray, List.set_cons_zero, List.set_cons_succ]
                refine anyH_take (i := 2) (v := .bool false) rfl (some 87) rfl (by kernel_rfl) (by kernel_rfl) (by kernel_rfl) (fun _ _ _ h => by cases h.1) (by kernel_rfl) (fun _ _ => ex_eqI rfl rfl rfl hieq) S0 ?_
                simp only [Act.put, List.setIfInBounds_toArray, List.set_cons_zero, List.set_cons_succ]
                refine anyH_take (i := 3) (v := .bool false) rfl (some 88) rfl (by kernel_rfl) (by kernel_rfl) (by kernel_rfl) (fun _ _ _ h => by cases h.1) (by kernel_rfl) (fun w0 hw0 => by first | rfl | kernel_rfl) S0 ?_
                simp only [Act.put, List.setIfInBounds_toArray, List.set_cons_zero, List.set_cons_succ]
                refine anyH_take (i := 4) (v := .slice (some ⟨g, 0, none⟩) (k + 1) gc) rfl (some 89) rfl (by kernel_rfl) (by kernel_rfl) (by kernel_rfl) (fun _ _ _ h => by cases h.1) (by kernel_rfl) (fun w0 hw0 => by first | rfl | kernel_rfl) S0 ?_
                simp only [Act.put, List.setIfInBounds_toArray, List.set_cons_zero, List.set_cons_succ]
                refine anyH_take (i := 5) (v := .int .i64 i) rfl (some 90) rfl (by kernel_rfl) (by kernel_rfl) (by kernel_rfl) (fun _ _ _ h => by cases h.1) (by kernel_rfl) (fun w0 hw0 => by first | rfl | kernel_rfl) S0 ?_
                simp only [Act.put, List.setIfInBounds_toArray, List.set_cons_zero, List.set_cons_succ]
                refine anyH_take (i := 6) (v := .pointer (some ⟨g, i * 8, none⟩)) rfl (some 91) rfl (by kernel_rfl) (by kernel_rfl) (by kernel_rfl) (fun _ _ _ h => by cases h.1) (by kernel_rfl) (fun _ _ => ex_idxN rfl rfl rfl hilt) S0 ?_
                simp only [Act.put, List.setIfInBounds_toArray, List.set_cons_zero, List.set_cons_succ]
                refine anyH_take (i := 7) (v := .pointer (some ⟨g, i * 8 + 7, none⟩)) rfl (some 92) rfl (by kernel_rfl) (by kernel_rfl) (by kernel_rfl) (fun _ _ _ h => by cases h.1) (by kernel_rfl) (fun _ _ => ex_fldN7 rfl rfl) S0 ?_
                simp only [Act.put, List.setIfInBounds_toArray, List.set_cons_zero, List.set_cons_succ]
                refine anyH_take (i := 8) (v := .string (ndT p kk i).parent) rfl (some 93) rfl (by kernel_rfl) (by kernel_rfl) (by kernel_rfl) (fun _ _ _ h => by cases h.1) (by kernel_rfl) (fun w0 hw0 => ex_load rfl rfl (load_str ((hw0.cell (p := ⟨g, i * 8 + 7, none⟩) hgV).trans ep))) S0 ?_
                simp only [Act.put, List.setIfInBounds_toArray, List.set_cons_zero, List.set_cons_succ]
                refine anyH_take (i := 9) (v := .slice (some ⟨g, 0, none⟩) (k + 1) gc) rfl (some 94) rfl (by kernel_rfl) (by kernel_rfl) (by kernel_rfl) (fun _ _ _ h => by cases h.1) (by kernel_rfl) (fun w0 hw0 => by first | rfl | kernel_rfl) S0 ?_
                simp only [Act.put, List.setIfInBounds_toArray, List.set_cons_zero, List.set_cons_succ]
                refine anyH_take (i := 10) (v := .int .i64 kk) rfl (some 95) rfl (by kernel_rfl) (by kernel_rfl) (by kernel_rfl) (fun _ _ _ h => by cases h.1) (by kernel_rfl) (fun w0 hw0 => by first | rfl | kernel_rfl) S0 ?_
                simp only [Act.put, List.setIfInBounds_toArray, List.set_cons_zero, List.set_cons_succ]
                refine anyH_take (i := 11) (v := .pointer (some ⟨g, kk * 8, none⟩)) rfl (some 96) rfl (by kernel_rfl) (by kernel_rfl) (by kernel_rfl) (fun _ _ _ h => by cases h.1) (by kernel_rfl) (fun _ _ => ex_idxN rfl rfl rfl hkl) S0 ?_
                simp only [Act.put, List.setIfInBounds_toArray, List.set_cons_zero, List.set_cons_succ]
                refine anyH_take (i := 12) (v := .pointer (some ⟨g, kk * 8, none⟩)) rfl (some 97) rfl (by kernel_rfl) (by kernel_rfl) (by kernel_rfl) (fun _ _ _ h => by cases h.1) (by kernel_rfl) (fun _ _ => ex_fldN0 rfl rfl) S0 ?_
                simp only [Act.put, List.setIfInBounds_toArray, List.set_cons_zero, List.set_cons_succ]
                refine anyH_take (i := 13) (v := .string (ltN kk)) rfl (some 98) rfl (by kernel_rfl) (by kernel_rfl) (by kernel_rfl) (fun _ _ _ h => by cases h.1) (by kernel_rfl) (fun w0 hw0 => ex_load rfl rfl (load_str ((hw0.cell (p := ⟨g, kk * 8, none⟩) hgV).trans en))) S0 ?_
                simp only [Act.put, List.setIfInBounds_toArray, List.set_cons_zero, List.set_cons_succ]
                refine anyH_take (i := 14) (v := .bool false) rfl (some 99) rfl (by kernel_rfl) (by kernel_rfl) (by kernel_rfl) (fun _ _ _ h => by cases h.1) (by kernel_rfl) (fun _ _ => ex_eqS rfl rfl rfl hnb) S0 ?_
                simp only [Act.put, List.setIfInBounds_toArray, List.set_cons_zero, List.set_cons_succ]
                refine anyH_take (i := 15) (v := .bool false) rfl (some 100) rfl (by kernel_rfl) (by kernel_rfl) (by kernel_rfl) (fun _ _ _ h => by cases h.1) (by kernel_rfl) (fun _ _ => ex_pkF rfl rfl rfl) S0 ?_
                simp only [Act.put, List.setIfInBounds_toArray, List.set_cons_zero, List.set_cons_succ]
                refine anyH_val (i := 16) (by kernel_rfl) rfl (some 11) rfl (by kernel_rfl) (ex_anyv rfl rfl) S0 ?_
                simp only [Act.put, List.setIfInBounds_toArray, List.set_cons_zero, List.set_cons_succ]
                exact wpAnyH_done (by kernel_rfl) ⟨rfl, rfl, rfl⟩ _
              case hq =>
                clear hgV
                have HV := hide (And.intro BV bV)
                obtain ⟨g4, rfl, s0⟩ := strs1 hownV
                unfold rd at s0
                clear hownV BV bV hV0
                go_wp2_with fail
                go_roundw
                case rel => exact ⟨i + 1, by omega, by simp, HV.out.1⟩
                case measure => simp [intOf]; omega
        · have hmem := (HJ.out.1.below hb3).raise hz3
          obtain ⟨hok, bb, oo, ee, _, cc⟩ := hmem.2 0 _ (nsT_at p kk (show 0 < k + 1 by omega))
          cases ee
          have e0 := cc 0 (by omega)
          have e1 := cc 1 (by omega)
          have e2 := cc 2 (by omega)
          have e3 := cc 3 (by omega)
          have e4 := cc 4 (by omega)
          have e5 := cc 5 (by omega)
          have e6 := cc 6 (by omega)
          have e7 := cc 7 (by omega)
          simp only [ndC, List.getElem_cons_zero, List.getElem_cons_succ, Nat.zero_add, Nat.add_zero, Nat.zero_mul] at e0 e1 e2 e3 e4 e5 e6 e7
          have b3w := HJ.out.2.1.trans (hb3.mono HJ.out.2.1.size)
          have hR := rightN_any (ndT p kk 0) (vsK vs kk g2 c2 0) wr ⟨hok, ⟨by simp [ndT], fun j x hx => by simp [ndT] at hx⟩, by simp [ndT], fits_root p kk⟩ (HH.out.2.2.1.below b3w)
          unfold ndA at hR
          have HR := hide (And.intro hR b3w)
          clear hR b3w hmem cc hok hb3
          go_wp2_with (go_at_call 11; refine HR.out.1.mono ?_; rintro e w3 ⟨⟨rb, rfl, hrb⟩, b3⟩; refine stopNd ?_)
          unfold Hid
          have hrt := hrb.2 (right_root p kk)
          subst hrt
          have HB := hide (HR.out.2.trans (b3.mono HR.out.2.size))
          clear hrb b3
          go_wp2_with fail
          go_ret
          exact ⟨rfl, HB.out⟩
theorem topTree_int (ao : Option Addr) (cap : Nat) (par : List UInt8) (z : Int) (h0 : 0 ≤ z) (h1 : z ≤ 255) (w : World) (hp : BytesIn w.heap.size w ao par) (hg : Glob w) :
    Calls Tryd.prog 8 #[.slice ao par.length cap, .int .u8 z] w fun e w' => e = .returned (.bool true) ∧ Below w.heap.size w w' := by
  obtain ⟨n, rfl⟩ : ∃ n : Nat, z = n := ⟨z.toNat, by omega⟩
  exact topTree_any ao cap par n (by omega) w hp hg
end Go.Proofs.YtffjmkngdjbjlaaDoor
