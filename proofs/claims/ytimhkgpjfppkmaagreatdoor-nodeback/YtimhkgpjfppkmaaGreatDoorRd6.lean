/- A node's reader: a node. -/
import Derived.Test.YtimhkgpjfppkmaaGreatDoorRB
import Derived.Test.YtimhkgpjfppkmaaGreatDoorQS
namespace Go.Proofs.YtimhkgpjfppkmaaGreatDoor
open Go.RowKit Go.Shelf

theorem len_mem {α : Type} {enc : α → List UInt8} {x : α} : ∀ {l : List α}, x ∈ l → (enc x).length ≤ (encMany enc l).length
  | y :: l, h => by
    show (enc x).length ≤ (enc y ++ encMany enc l).length
    rw [List.length_append]
    rcases List.mem_cons.1 h with rfl | h
    · omega
    · have := len_mem (enc := enc) h
      omega
theorem encW_len (w : List UInt8) : w.length ≤ (encW w).length := by
  simp [encW]
  omega
theorem fits_of {n : Nd} {s r : List UInt8} (h : nodeF s = some (n, r)) (hs : s.length ≤ 281474976710656) : NdFits n := by
  have e := congrArg List.length (nodeF_some h)
  simp only [encN, List.length_append, encSev] at e
  have w1 := encW_len (bsT n.name)
  have w2 := encW_len (bsT n.parent)
  refine ⟨?_, ?_, fun x hx => ?_, fun x hx => ?_, fun x hx => ?_⟩
  · show n.name.size ≤ _
    have : (bsT n.name).length = n.name.size := rfl
    omega
  · show n.parent.size ≤ _
    have : (bsT n.parent).length = n.parent.size := rfl
    omega
  · have h1 := len_mem (enc := encAff) hx
    have h2 := encW_len (bsT x.1)
    have h3 : (bsT x.1).length = x.1.size := rfl
    simp only [encAff, List.length_append] at h1
    show x.1.size ≤ _
    omega
  · have h1 := len_mem (enc := encSub) hx
    have h2 := encW_len (bsT x.1)
    have h3 : (bsT x.1).length = x.1.size := rfl
    simp only [encSub, List.length_append] at h1
    show x.1.size ≤ _
    omega
  · have h1 := len_mem (enc := encIt) hx
    have h2 := encW_len (bsT x.1)
    have h3 : (bsT x.1).length = x.1.size := rfl
    have h4 := encW_len (bsT x.2.1)
    have h5 : (bsT x.2.1).length = x.2.1.size := rfl
    have h6 := encW_len (bsT x.2.2)
    have h7 : (bsT x.2.2).length = x.2.2.size := rfl
    simp only [encIt, List.length_append] at h1
    exact ⟨show x.1.size ≤ _ by omega, show x.2.1.size ≤ _ by omega, show x.2.2.size ≤ _ by omega⟩
theorem sevA_len {s r : List UInt8} {most : Nat} {l : List (ByteArray × Nat)} (h : sevF affF most s = some (l, r)) : r.length ≤ s.length := by
  rw [sevF_some (fun _ _ _ => affF_some) h]
  simp
theorem sevS_len {s r : List UInt8} {most : Nat} {l : List (ByteArray × Bool × Int)} (h : sevF subF most s = some (l, r)) : r.length ≤ s.length := by
  rw [sevF_some (fun _ _ _ => subF_some) h]
  simp
theorem sevI_len {s r : List UInt8} {most : Nat} {l : List (ByteArray × ByteArray × ByteArray)} (h : sevF itF most s = some (l, r)) : r.length ≤ s.length := by
  rw [sevF_some (fun _ _ _ => itF_some) h]
  simp
theorem res_ndK {fn : Func} {tmps : Array Value} {w : World} {r : Nat} {n : Nd} {u : NdW} (h : fn.results = #[.cell 2 27]) (hp : tmps[2]?.getD undef = .pointer (some ⟨r, 0, none⟩)) (hb : w.heap[r]? = some (.cells (ndA n u) 27)) : (results fn tmps).run Tryz.prog w = .ok (.agg (ndA n u)) w := by
  obtain ⟨c0, c1, c2, c3, c4, c5, c6, c7⟩ := nd_box hb
  unfold ndA
  simp [results, h, hp, c0, c1, c2, c3, c4, c5, c6, c7, go_sem, Tryz.isAgg27, Tryz.sizeOf27]
/-- Where a node's lists lie. -/
def Above (B : Nat) (v : NdW) : Prop := (∀ a, v.aa = some a → B ≤ a.block) ∧ (∀ a, v.sa = some a → B ≤ a.block) ∧ ∀ a, v.ia = some a → B ≤ a.block
theorem ndM_farK {w w' : World} {r : Nat} {n : Nd} {v : NdW} (h : NdM w.heap.size w n v) (hz : w'.heap.size = w.heap.size) (hb : ∀ k, k ≠ r → w'.heap[k]? = w.heap[k]?) (h1 : ∀ a, v.aa = some a → a.block ≠ r) (h2 : ∀ a, v.sa = some a → a.block ≠ r) (h3 : ∀ a, v.ia = some a → a.block ≠ r) : NdM w'.heap.size w' n v := by
  refine ⟨⟨⟨h.ok.1.1, fun k x hk => ?_⟩, ⟨h.ok.2.1.1, fun k x hk => ?_⟩, h.ok.2.2⟩, ⟨h.it.1, fun k x hk => ?_⟩, h.ic, h.fits⟩
  · obtain ⟨b, off, e, hb1, c0, c1⟩ := h.ok.1.2 k x hk
    have hne : b ≠ r := h1 _ e
    exact ⟨b, off, e, by rw [hz]; exact hb1, (World.cell?_of_block (hb b hne)).trans c0, (World.cell?_of_block (hb b hne)).trans c1⟩
  · obtain ⟨b, off, e, hb1, c0, c1, c2⟩ := h.ok.2.1.2 k x hk
    have hne : b ≠ r := h2 _ e
    exact ⟨b, off, e, by rw [hz]; exact hb1, (World.cell?_of_block (hb b hne)).trans c0, (World.cell?_of_block (hb b hne)).trans c1, (World.cell?_of_block (hb b hne)).trans c2⟩
  · obtain ⟨b, off, e, hb1, c0, c1, c2⟩ := h.it.2 k x hk
    have hne : b ≠ r := h3 _ e
    exact ⟨b, off, e, by rw [hz]; exact hb1, (World.cell?_of_block (hb b hne)).trans c0, (World.cell?_of_block (hb b hne)).trans c1, (World.cell?_of_block (hb b hne)).trans c2⟩
set_option maxRecDepth 100000 in
set_option maxHeartbeats 8000000 in
theorem rdNode_any (s0 : List UInt8) (hs : s0.length ≤ 281474976710656) (b B : Nat) (w : World) (hb : B ≤ b) (hg : EnvR B w) (hr : Rdr w b s0) :
    Calls Tryz.prog 32 #[.pointer (some ⟨b, 0, none⟩)] w fun e w' => ((∃ n r, nodeF s0 = some (n, r) ∧ ∃ v, e = .returned (.agg (ndA n v)) ∧ (NdM w'.heap.size w' n v ∧ Above w.heap.size v) ∧ Rdr w' b r) ∨ (nodeF s0 = none ∧ e = stopN)) ∧ w.grownBy w' (some b) := by
  obtain ⟨W0, hW0⟩ : ∃ W0, w.alloc (.cells #[.string ⟨#[]⟩, .bool false, .int .u8 0, .int .i64 0, .slice none 0 0, .slice none 0 0, .slice none 0 0, .string ⟨#[]⟩] 27) = W0 := ⟨_, rfl⟩
  have b0 : Below w.heap.size w W0 := by rw [← hW0]; exact (Below.refl _ w).alloc (Nat.le_refl _) _
  have f0 : W0.heap[w.heap.size]? = some (.cells #[.string ⟨#[]⟩, .bool false, .int .u8 0, .int .i64 0, .slice none 0 0, .slice none 0 0, .slice none 0 0, .string ⟨#[]⟩] 27) := by rw [← hW0]; exact World.alloc_heap_new _ _
  have hbl := (Array.getElem?_eq_some_iff.1 hr).1
  have H0 := hide (And.intro (hg.grown hb (grown_of b0)) (And.intro (hr.keep b0) (And.intro hs (And.intro (grown_of (b := b) b0) True.intro))))
  have HB := hide (And.intro f0 hbl)
  have HS := hide hs
  have HW0 := hide hW0
  have HC1 := hide (word_any s0 H0.out.2.2.1 b B W0 hb H0.out.1 H0.out.2.1)
  rw [← hW0] at HC1
  clear hg hr f0 b0 hs hbl hW0
  go_enter Tryz.func32, Tryz.ntmps32
  go_wp2_with fail
  refine HC1.out.mono ?_
  rintro e W1 ⟨⟨xa, s1, hx, rfl, hr⟩ | ⟨hx, rfl⟩, g⟩
  · rw [HW0.out] at g
    have H1 := hide (And.intro (H0.out.1.grown hb g) (And.intro hr (And.intro (Nat.le_trans ((word_len hx).2) H0.out.2.2.1) (And.intro (grown_trans H0.out.2.2.2.1 g) hx))))
    have HG1 := hide g
    have HC2 := hide (either_any ⟨#[99]⟩ ⟨#[108]⟩ s1 H1.out.2.2.1 b B W1 hb H1.out.1 H1.out.2.1)
    clear hx hr g
    go_wp2_with fail
    refine HC2.out.mono ?_
    rintro e W2 ⟨⟨xb, s2, hx, rfl, hr⟩ | ⟨hx, rfl⟩, g⟩
    · skip
      replace hx : eitF [99] [108] s1 = some (xb, s2) := hx
      have H2 := hide (And.intro (H1.out.1.grown hb g) (And.intro hr (And.intro (Nat.le_trans (eit_len hx) H1.out.2.2.1) (And.intro (grown_trans H1.out.2.2.2.1 g) hx))))
      have HG2 := hide (grown_trans HG1.out g)
      have HC3 := hide (number_any s2 H2.out.2.2.1 2 b B W2 hb H2.out.1 H2.out.2.1)
      clear hx hr g
      go_wp2_with fail
      refine HC3.out.mono ?_
      rintro e W3 ⟨⟨xc, s3, hx, rfl, hr⟩ | ⟨hx, rfl⟩, g⟩
      · skip
        have H3 := hide (And.intro (H2.out.1.grown hb g) (And.intro hr (And.intro (Nat.le_trans (num_len hx) H2.out.2.2.1) (And.intro (grown_trans H2.out.2.2.2.1 g) hx))))
        have HG3 := hide (grown_trans HG2.out g)
        have HC4 := hide (number_any s3 H3.out.2.2.1 8 b B W3 hb H3.out.1 H3.out.2.1)
        have hu : IntKind.u8.wrap ((xc : Nat) : Int) = xc := by have := (numF_some hx).2; show ((xc : Nat) : Int) % 256 = _; omega
        clear hx hr g
        go_wp2_with fail
        refine HC4.out.mono ?_
        rintro e W4 ⟨⟨xd, s4, hx, rfl, hr⟩ | ⟨hx, rfl⟩, g⟩
        · skip
          have H4 := hide (And.intro (H3.out.1.grown hb g) (And.intro hr (And.intro (Nat.le_trans (num_len hx) H3.out.2.2.1) (And.intro (grown_trans H3.out.2.2.2.1 g) hx))))
          have HG4 := hide (grown_trans HG3.out g)
          have HC5 := hide (word_any s4 H4.out.2.2.1 b B W4 hb H4.out.1 H4.out.2.1)
          clear hx hr g
          go_wp2_with fail
          refine HC5.out.mono ?_
          rintro e W5 ⟨⟨xe, s5, hx, rfl, hr⟩ | ⟨hx, rfl⟩, g⟩
          · skip
            have H5 := hide (And.intro (H4.out.1.grown hb g) (And.intro hr (And.intro (Nat.le_trans ((word_len hx).2) H4.out.2.2.1) (And.intro (grown_trans H4.out.2.2.2.1 g) hx))))
            have HG5 := hide (grown_trans HG4.out g)
            have HC6 := hide (sevAff_any s5 H5.out.2.2.1 16 b B (by omega) W5 hb H5.out.1 H5.out.2.1)
            clear hx hr g
            go_wp2_with fail
            refine HC6.out.mono ?_
            rintro e W6 ⟨⟨xf, s6, hx, v6, rfl, hown, hr, hlm⟩ | ⟨hx, rfl⟩, g⟩
            · skip
              have H6 := hide (And.intro (H5.out.1.grown hb g) (And.intro hr (And.intro (Nat.le_trans (sevA_len hx) H5.out.2.2.1) (And.intro (grown_trans H5.out.2.2.2.1 g) hx))))
              have HG6 := hide (grown_trans HG5.out g)
              have HLA := hide hown
              have HMA := hide hlm
              have HC7 := hide (sevSub_any s6 H6.out.2.2.1 16 b B (by omega) W6 hb H6.out.1 H6.out.2.1)
              clear hx hr g hown hlm
              go_wp2_with fail
              refine HC7.out.mono ?_
              rintro e W7 ⟨⟨xg, s7, hx, v7, rfl, hown, hr, hlm⟩ | ⟨hx, rfl⟩, g⟩
              · skip
                have H7 := hide (And.intro (H6.out.1.grown hb g) (And.intro hr (And.intro (Nat.le_trans (sevS_len hx) H6.out.2.2.1) (And.intro (grown_trans H6.out.2.2.2.1 g) hx))))
                have HG7 := hide (grown_trans HG6.out g)
                replace HLA := hide (own_same (B := W7) HLA.out (fun g0 e => g.block g0 (own_lt HLA.out g0 e) (fun h => by have := own_base HLA.out g0 e; have := HB.out.2; have := H5.out.2.2.2.1.size; injection h with h; omega)))
                have HLS := hide hown
                have HMS := hide hlm
                have HC8 := hide (sevIt_any s7 H7.out.2.2.1 8 b B (by omega) W7 hb H7.out.1 H7.out.2.1)
                clear hx hr g hown hlm
                go_wp2_with fail
                refine HC8.out.mono ?_
                rintro e W8 ⟨⟨xi, s8, hx, v8, rfl, hown, hr, hlm⟩ | ⟨hx, rfl⟩, g⟩
                · skip
                  have H8 := hide (And.intro (H7.out.1.grown hb g) (And.intro hr (And.intro (Nat.le_trans (sevI_len hx) H7.out.2.2.1) (And.intro (grown_trans H7.out.2.2.2.1 g) hx))))
                  have HG8 := hide (grown_trans HG7.out g)
                  replace HLA := hide (own_same (B := W8) HLA.out (fun g0 e => g.block g0 (own_lt HLA.out g0 e) (fun h => by have := own_base HLA.out g0 e; have := HB.out.2; have := H5.out.2.2.2.1.size; injection h with h; omega)))
                  replace HLS := hide (own_same (B := W8) HLS.out (fun g0 e => g.block g0 (own_lt HLS.out g0 e) (fun h => by have := own_base HLS.out g0 e; have := HB.out.2; have := H6.out.2.2.2.1.size; injection h with h; omega)))
                  have HLI := hide hown
                  have HMI := hide hlm
                  clear hx hr g hown hlm
                  have fw : W8.heap[w.heap.size]? = some (.cells #[.string ⟨#[]⟩, .bool false, .int .u8 0, .int .i64 0, .slice none 0 0, .slice none 0 0, .slice none 0 0, .string ⟨#[]⟩] 27) := by
                    have hlt : w.heap.size < W0.heap.size := (Array.getElem?_eq_some_iff.1 HB.out.1).1
                    have hne : (some w.heap.size : Option Nat) ≠ some b := fun h => by have := HB.out.2; injection h with h; omega
                    exact (HG8.out.block _ hlt hne).trans HB.out.1
                  have HF := hide fw
                  obtain ⟨a1, c1, e1, m1, l1, _, p1⟩ := own_a HLA.out (by have := HMA.out; omega)
                  obtain ⟨a2, c2, e2, m2, l2, _, p2⟩ := own_s HLS.out (by have := HMS.out; omega)
                  obtain ⟨a3, c3, e3, m3, l3, _, p3⟩ := own_i HLI.out (by have := HMI.out; omega)
                  subst e1 e2 e3
                  have HMM := hide (And.intro m1 (And.intro l1 (And.intro m2 (And.intro l2 (And.intro m3 (And.intro l3 (And.intro p1 (And.intro p2 p3))))))))
                  clear m1 l1 m2 l2 m3 l3 p1 p2 p3
                  have z0 : W8.cell? ⟨w.heap.size, 0, none⟩ = some (.string ⟨#[]⟩) := by simp [World.cell?, fw]
                  have q0 : W8.frozen? ⟨w.heap.size, 0, none⟩ = false := by simp [World.frozen?, fw]
                  have z1 : W8.cell? ⟨w.heap.size, 1, none⟩ = some (.bool false) := by simp [World.cell?, fw]
                  have q1 : W8.frozen? ⟨w.heap.size, 1, none⟩ = false := by simp [World.frozen?, fw]
                  have z2 : W8.cell? ⟨w.heap.size, 2, none⟩ = some (.int .u8 0) := by simp [World.cell?, fw]
                  have q2 : W8.frozen? ⟨w.heap.size, 2, none⟩ = false := by simp [World.frozen?, fw]
                  have z3 : W8.cell? ⟨w.heap.size, 3, none⟩ = some (.int .i64 0) := by simp [World.cell?, fw]
                  have q3 : W8.frozen? ⟨w.heap.size, 3, none⟩ = false := by simp [World.frozen?, fw]
                  have z4 : W8.cell? ⟨w.heap.size, 4, none⟩ = some (.slice none 0 0) := by simp [World.cell?, fw]
                  have q4 : W8.frozen? ⟨w.heap.size, 4, none⟩ = false := by simp [World.frozen?, fw]
                  have z5 : W8.cell? ⟨w.heap.size, 5, none⟩ = some (.slice none 0 0) := by simp [World.cell?, fw]
                  have q5 : W8.frozen? ⟨w.heap.size, 5, none⟩ = false := by simp [World.frozen?, fw]
                  have z6 : W8.cell? ⟨w.heap.size, 6, none⟩ = some (.slice none 0 0) := by simp [World.cell?, fw]
                  have q6 : W8.frozen? ⟨w.heap.size, 6, none⟩ = false := by simp [World.frozen?, fw]
                  have z7 : W8.cell? ⟨w.heap.size, 7, none⟩ = some (.string ⟨#[]⟩) := by simp [World.cell?, fw]
                  have q7 : W8.frozen? ⟨w.heap.size, 7, none⟩ = false := by simp [World.frozen?, fw]
                  clear fw
                  go_wp2_with fail
                  have hnode : nodeF s0 = some (({ name := sbT xa, coll := xb, acc := xc, max := (xd : Int), affs := xf, subs := xg, items := xi, parent := sbT xe } : Nd), s8) := by
                    unfold nodeF
                    rw [H1.out.2.2.2.2]
                    simp only [Option.bind_some]
                    rw [H2.out.2.2.2.2]
                    simp only [Option.bind_some]
                    rw [H3.out.2.2.2.2]
                    simp only [Option.bind_some]
                    rw [H4.out.2.2.2.2]
                    simp only [Option.bind_some]
                    rw [H5.out.2.2.2.2]
                    simp only [Option.bind_some]
                    rw [H6.out.2.2.2.2]
                    simp only [Option.bind_some]
                    rw [H7.out.2.2.2.2]
                    simp only [Option.bind_some]
                    rw [H8.out.2.2.2.2]
                    rfl
                  have hfit := fits_of hnode HS.out
                  have hlt0 : w.heap.size < W0.heap.size := (Array.getElem?_eq_some_iff.1 HB.out.1).1
                  have hM : NdM W8.heap.size W8 ({ name := sbT xa, coll := xb, acc := xc, max := (xd : Int), affs := xf, subs := xg, items := xi, parent := sbT xe } : Nd) (⟨a1, c1, a2, c2, a3, c3⟩ : NdW) := ⟨⟨HMM.out.1, HMM.out.2.2.1, HMM.out.2.1, HMM.out.2.2.2.1⟩, HMM.out.2.2.2.2.1, HMM.out.2.2.2.2.2.1, hfit⟩
                  refine bodyPost_ret (res_ndK (n := ({ name := sbT xa, coll := xb, acc := xc, max := (xd : Int), affs := xf, subs := xg, items := xi, parent := sbT xe } : Nd)) (u := (⟨a1, c1, a2, c2, a3, c3⟩ : NdW)) rfl rfl (at_set (at_set (at_set (at_set (at_set (at_set (at_set (at_set HF.out))))))))) rfl ⟨.inl ⟨({ name := sbT xa, coll := xb, acc := xc, max := (xd : Int), affs := xf, subs := xg, items := xi, parent := sbT xe } : Nd), s8, hnode, (⟨a1, c1, a2, c2, a3, c3⟩ : NdW), rfl, ?_, ?_⟩, ?_⟩
                  · refine ⟨?_, fun a e => by have := (HMM.out.2.2.2.2.2.2.1 a e).1; have := HG5.out.size; omega, fun a e => by have := (HMM.out.2.2.2.2.2.2.2.1 a e).1; have := HG6.out.size; omega, fun a e => by have := (HMM.out.2.2.2.2.2.2.2.2 a e).1; have := HG7.out.size; omega⟩
                    refine ndM_farK hM (r := w.heap.size) (by simp) (fun k hk => ?_) (fun a e => ?_) (fun a e => ?_) (fun a e => ?_)
                    · rw [set_farK _ _ _ _ _ hk, set_farK _ _ _ _ _ hk, set_farK _ _ _ _ _ hk, set_farK _ _ _ _ _ hk, set_farK _ _ _ _ _ hk, set_farK _ _ _ _ _ hk, set_farK _ _ _ _ _ hk, set_farK _ _ _ _ _ hk]
                    · have := (HMM.out.2.2.2.2.2.2.1 a e).1; have := HG5.out.size; omega
                    · have := (HMM.out.2.2.2.2.2.2.2.1 a e).1; have := HG6.out.size; omega
                    · have := (HMM.out.2.2.2.2.2.2.2.2 a e).1; have := HG7.out.size; omega
                  · exact Rdr.far (Rdr.far (Rdr.far (Rdr.far (Rdr.far (Rdr.far (Rdr.far (Rdr.far (H8.out.2.1) (by have := HB.out.2; omega)) (by have := HB.out.2; omega)) (by have := HB.out.2; omega)) (by have := HB.out.2; omega)) (by have := HB.out.2; omega)) (by have := HB.out.2; omega)) (by have := HB.out.2; omega)) (by have := HB.out.2; omega)
                  · exact grown_new (grown_new (grown_new (grown_new (grown_new (grown_new (grown_new (grown_new (H8.out.2.2.2.1) (Nat.le_refl _)) (Nat.le_refl _)) (Nat.le_refl _)) (Nat.le_refl _)) (Nat.le_refl _)) (Nat.le_refl _)) (Nat.le_refl _)) (Nat.le_refl _)
                · have HK := hide (And.intro hx g)
                  clear hx g
                  go_wp2_with fail
                  refine ⟨rfl, .inr ⟨?_, rfl⟩, grown_trans H7.out.2.2.2.1 HK.out.2⟩
                  unfold nodeF
                  rw [H1.out.2.2.2.2]
                  simp only [Option.bind_some]
                  rw [H2.out.2.2.2.2]
                  simp only [Option.bind_some]
                  rw [H3.out.2.2.2.2]
                  simp only [Option.bind_some]
                  rw [H4.out.2.2.2.2]
                  simp only [Option.bind_some]
                  rw [H5.out.2.2.2.2]
                  simp only [Option.bind_some]
                  rw [H6.out.2.2.2.2]
                  simp only [Option.bind_some]
                  rw [H7.out.2.2.2.2]
                  simp only [Option.bind_some]
                  rw [HK.out.1]
                  rfl
              · have HK := hide (And.intro hx g)
                clear hx g
                go_wp2_with fail
                refine ⟨rfl, .inr ⟨?_, rfl⟩, grown_trans H6.out.2.2.2.1 HK.out.2⟩
                unfold nodeF
                rw [H1.out.2.2.2.2]
                simp only [Option.bind_some]
                rw [H2.out.2.2.2.2]
                simp only [Option.bind_some]
                rw [H3.out.2.2.2.2]
                simp only [Option.bind_some]
                rw [H4.out.2.2.2.2]
                simp only [Option.bind_some]
                rw [H5.out.2.2.2.2]
                simp only [Option.bind_some]
                rw [H6.out.2.2.2.2]
                simp only [Option.bind_some]
                rw [HK.out.1]
                rfl
            · have HK := hide (And.intro hx g)
              clear hx g
              go_wp2_with fail
              refine ⟨rfl, .inr ⟨?_, rfl⟩, grown_trans H5.out.2.2.2.1 HK.out.2⟩
              unfold nodeF
              rw [H1.out.2.2.2.2]
              simp only [Option.bind_some]
              rw [H2.out.2.2.2.2]
              simp only [Option.bind_some]
              rw [H3.out.2.2.2.2]
              simp only [Option.bind_some]
              rw [H4.out.2.2.2.2]
              simp only [Option.bind_some]
              rw [H5.out.2.2.2.2]
              simp only [Option.bind_some]
              rw [HK.out.1]
              rfl
          · have HK := hide (And.intro hx g)
            clear hx g
            go_wp2_with fail
            refine ⟨rfl, .inr ⟨?_, rfl⟩, grown_trans H4.out.2.2.2.1 HK.out.2⟩
            unfold nodeF
            rw [H1.out.2.2.2.2]
            simp only [Option.bind_some]
            rw [H2.out.2.2.2.2]
            simp only [Option.bind_some]
            rw [H3.out.2.2.2.2]
            simp only [Option.bind_some]
            rw [H4.out.2.2.2.2]
            simp only [Option.bind_some]
            rw [HK.out.1]
            rfl
        · have HK := hide (And.intro hx g)
          clear hx g
          go_wp2_with fail
          refine ⟨rfl, .inr ⟨?_, rfl⟩, grown_trans H3.out.2.2.2.1 HK.out.2⟩
          unfold nodeF
          rw [H1.out.2.2.2.2]
          simp only [Option.bind_some]
          rw [H2.out.2.2.2.2]
          simp only [Option.bind_some]
          rw [H3.out.2.2.2.2]
          simp only [Option.bind_some]
          rw [HK.out.1]
          rfl
      · have HK := hide (And.intro hx g)
        clear hx g
        go_wp2_with fail
        refine ⟨rfl, .inr ⟨?_, rfl⟩, grown_trans H2.out.2.2.2.1 HK.out.2⟩
        unfold nodeF
        rw [H1.out.2.2.2.2]
        simp only [Option.bind_some]
        rw [H2.out.2.2.2.2]
        simp only [Option.bind_some]
        rw [HK.out.1]
        rfl
    · replace hx : eitF [99] [108] s1 = none := hx
      have HK := hide (And.intro hx g)
      clear hx g
      go_wp2_with fail
      refine ⟨rfl, .inr ⟨?_, rfl⟩, grown_trans H1.out.2.2.2.1 HK.out.2⟩
      unfold nodeF
      rw [H1.out.2.2.2.2]
      simp only [Option.bind_some]
      rw [HK.out.1]
      rfl
  · rw [HW0.out] at g
    have HK := hide (And.intro hx g)
    clear hx g
    go_wp2_with fail
    refine ⟨rfl, .inr ⟨?_, rfl⟩, grown_trans H0.out.2.2.2.1 HK.out.2⟩
    unfold nodeF
    rw [HK.out.1]
    rfl
end Go.Proofs.YtimhkgpjfppkmaaGreatDoor
