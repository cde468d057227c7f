/- A deed of chapter 8 on both stores, whichever it is. -/
import Derived.Test.YtfknjmfkkaoggaaS25
namespace Go.Proofs.Ytfknjmfkkaoggaa
open Go.RowKit Go.Shelf

set_option maxRecDepth 100000 in
set_option maxHeartbeats 4000000 in
theorem do_torn (base qs ps qt pt : Nat) (d : Dv) (vl vw ul uw : Value) (x : Sd) (w : World) (h : TwoS base qs ps qt pt d vl vw ul uw w) (hd : DvOk d) (h2 : 4 ≤ d.las.length) (hwf : d.wr.length + 5000 ≤ 1000000) (hx : SdOk base w x) (h0 : x.kind = 1) :
    Calls Try.prog 28 #[.pointer (some ⟨qs, 0, none⟩), .pointer (some ⟨qt, 0, none⟩), .agg (sdC x)] w fun e w' => e = .returned (.bool true) ∧ (∃ vl' vw' ul' uw', TwoS base qs ps qt pt (tornE d (x.b.take 700) x.wri x.sv) vl' vw' ul' uw' w') ∧ Below base w w' := by
  have hlow := h.low
  obtain ⟨W, hW, f1, z1, b1⟩ := boxedS w x
  obtain ⟨k0, k1, k2, k3⟩ := cellsS f1
  have bD : Below w.heap.size w W.drew := b1.trans (Below.refl _ W).drew
  have hT := h.below bD
  have hx' := hx.below (bD.mono hlow)
  have hcl := hx.len
  have hcm := hx.cap
  have hfw := few_any x.ba x.b x.bc W.drew hx'.by_ hx.len
  obtain ⟨m, hm⟩ : ∃ m, (x.b.take 700).length = m := ⟨_, rfl⟩
  have hmb : m ≤ x.bc := by rw [← hm, List.length_take]; omega
  have hsv := torn_all (cap := x.bc) (wri := x.wri) (cv := x.sc) hT.sto hd hT.low h2 (hx'.by_.take 700) hm hmb hcm hwf hx'.sv
  have hrs := fun (V V' : World) (hS : STo base qs ps vl vw (tornE d (x.b.take 700) x.wri x.sv) W.drew V) (hB : Below V.heap.size V V') => rtorn_all (cap := x.bc) (wri := x.wri) (cv := x.sc) ((hT.first hS).below hB) hd (Nat.le_trans hT.low (Nat.le_trans (sto_size hS).size hB.size)) h2 (((hx'.by_.take 700).below (sto_size hS)).below (hB.mono (Nat.le_trans hT.low (sto_size hS).size))) hm hwf ((hx'.sv.below (sto_size hS)).below (hB.mono (Nat.le_trans hT.low (sto_size hS).size)))
  have hfw2 := fun (V : World) (hS : STo base qs ps vl vw (tornE d (x.b.take 700) x.wri x.sv) W.drew V) => few_any x.ba x.b x.bc V (hx'.by_.below (sto_size hS)) hx.len
  rw [hm] at hfw
  obtain ⟨n, hn⟩ : ∃ n, x.b.length = n := ⟨_, rfl⟩
  obtain ⟨sn, hsn⟩ : ∃ n, x.sv.length = n := ⟨_, rfl⟩
  obtain ⟨er, her⟩ : ∃ er, errT d m x.wri = er := ⟨_, rfl⟩
  rw [her, hsn] at hsv
  rw [hn] at k1 hfw
  rw [hsn] at k3
  have hoff : ¬ foot ps vl vw w.heap.size := fun hf => by have := (h.sto.dev.lt hf).2; omega
  have hgo : ∀ V, STo base qs ps vl vw (tornE d (x.b.take 700) x.wri x.sv) W.drew V → V.cell? ⟨w.heap.size, 1, none⟩ = some (.slice x.ba n x.bc) ∧ V.cell? ⟨w.heap.size, 2, none⟩ = some (.int .i64 x.wri) ∧ V.cell? ⟨w.heap.size, 3, none⟩ = some (.slice x.sa sn x.sc) := fun V hS => by
    have := (cellsS (sto_keep hS (show W.drew.heap[w.heap.size]? = _ from f1) hoff)).2
    rwa [hn, hsn] at this
  have hoff2 : ¬ foot pt ul uw w.heap.size := fun hf => by have := (h.ref.dev.lt hf).2; omega
  have hgo3 : ∀ V V3, STo base qs ps vl vw (tornE d (x.b.take 700) x.wri x.sv) W.drew V → TTo base qt pt ul uw (tornE d (x.b.take 700) x.wri x.sv) V V3 → V3.cell? ⟨w.heap.size, 1, none⟩ = some (.slice x.ba n x.bc) ∧ V3.cell? ⟨w.heap.size, 2, none⟩ = some (.int .i64 x.wri) ∧ V3.cell? ⟨w.heap.size, 3, none⟩ = some (.slice x.sa sn x.sc) := fun V V3 hS hR => by
    have := (cellsS (tto_keep hR (sto_keep hS (show W.drew.heap[w.heap.size]? = _ from f1) hoff) hoff2)).2
    rwa [hn, hsn] at this
  have HG3 := hide hgo3
  have HH := hide (And.intro hT (And.intro bD (And.intro hfw (And.intro hsv hgo))))
  have HR := hide (And.intro hrs hfw2)
  have HN := hide (And.intro hm (And.intro hn (And.intro her hsn)))
  have k1' : W.drew.cell? ⟨w.heap.size, 1, none⟩ = some (.slice x.ba n x.bc) ∧ W.drew.cell? ⟨w.heap.size, 2, none⟩ = some (.int .i64 x.wri) ∧ W.drew.cell? ⟨w.heap.size, 3, none⟩ = some (.slice x.sa sn x.sc) := ⟨k1, k2, k3⟩
  rw [h0] at k0
  unfold sdC
  rw [h0, hn, hsn]
  unfold sdC at hW
  rw [h0, hn, hsn] at hW
  clear h hT hx hx' hd hfw hsv hrs hfw2 hgo hgo3 f1 b1 bD hm hn her hsn k1 k2 k3 hcl hcm hmb
  go_enter Try.func28, Try.ntmps28
  go_wp2_with fail
  go_region_held3 (fun w' => w'.cell? ⟨w.heap.size, 1, none⟩ = some (.slice x.ba n x.bc) ∧ w'.cell? ⟨w.heap.size, 2, none⟩ = some (.int .i64 x.wri) ∧ w'.cell? ⟨w.heap.size, 3, none⟩ = some (.slice x.sa sn x.sc)) ((first | exact k1' | exact HH.out.2.2.2.2 _ (by assumption) | exact HG3.out _ _ (by assumption) (by assumption)))
    (first
      | (go_at_call 17; refine HH.out.2.2.1.mono ?_; rintro e w1 ⟨rfl, e1⟩; rw [e1]; clear e1)
      | (go_at_call 24; refine HH.out.2.2.2.1.mono ?_; rintro e w1 ⟨rfl, t1⟩)
      | (go_at_call 17; have q2 := HR.out.2 w1 t1; rw [HN.out.1, HN.out.2.1] at q2; refine q2.mono ?_; rintro e w2 ⟨rfl, e2⟩; rw [e2]; clear e2 q2)
      | (go_at_call 51; have q3 := HR.out.1 w1 w1 t1 (Below.refl _ _); rw [HN.out.2.2.1, HN.out.2.2.2] at q3; refine q3.mono ?_; rintro e w3 ⟨rfl, t3⟩; clear q3))
  have HF := hide (HH.out.1.both t1 (Below.refl _ _) t3)
  clear t1 t3
  go_wp2_with fail
  go_ret
  exact ⟨rfl, HF.out.1, (HH.out.2.1.mono hlow).trans HF.out.2⟩
theorem do_else (base qs ps qt pt : Nat) (d : Dv) (vl vw ul uw : Value) (x : Sd) (w : World) (h : TwoS base qs ps qt pt d vl vw ul uw w) (h0 : x.kind ≠ 0) (h1 : x.kind ≠ 1) :
    Calls Try.prog 28 #[.pointer (some ⟨qs, 0, none⟩), .pointer (some ⟨qt, 0, none⟩), .agg (sdC x)] w fun e w' => e = .returned (.bool true) ∧ (∃ vl' vw' ul' uw', TwoS base qs ps qt pt d vl' vw' ul' uw' w') ∧ Below base w w' := by
  obtain ⟨W, hW, f1, z1, b1⟩ := boxedS w x
  obtain ⟨k0, _⟩ := cellsS f1
  have HH := hide (And.intro h b1)
  have e0 : (x.kind == 0) = false := by rw [beq_eq_false_iff_ne]; exact h0
  have e1 : (x.kind == 1) = false := by rw [beq_eq_false_iff_ne]; exact h1
  unfold sdC
  unfold sdC at hW
  clear h b1 f1 h0 h1
  go_enter Try.func28, Try.ntmps28
  go_wp2_with fail
  go_ret
  exact ⟨rfl, ⟨vl, vw, ul, uw, HH.out.1.below HH.out.2⟩, HH.out.2.mono HH.out.1.low⟩
/-- A deed on both, and they stay the same. -/
theorem do_any (base qs ps qt pt : Nat) (d : Dv) (vl vw ul uw : Value) (x : Sd) (w : World) (h : TwoS base qs ps qt pt d vl vw ul uw w) (hd : DvOk d) (h2 : 4 ≤ d.las.length) (hwf : d.wr.length + 5000 ≤ 1000000) (hx : SdOk base w x) :
    Calls Try.prog 28 #[.pointer (some ⟨qs, 0, none⟩), .pointer (some ⟨qt, 0, none⟩), .agg (sdC x)] w fun e w' => e = .returned (.bool true) ∧ (∃ vl' vw' ul' uw', TwoS base qs ps qt pt (deedS d x) vl' vw' ul' uw' w') ∧ Below base w w' := by
  unfold deedS
  by_cases h0 : x.kind = 0
  · rw [if_pos h0]
    exact do_save base qs ps qt pt d vl vw ul uw x w h hd h2 hwf hx h0
  · rw [if_neg h0]
    by_cases h1 : x.kind = 1
    · rw [if_pos h1]
      exact do_torn base qs ps qt pt d vl vw ul uw x w h hd h2 hwf hx h1
    · rw [if_neg h1]
      exact do_else base qs ps qt pt d vl vw ul uw x w h h0 h1
/-- What counts behind a deed. -/
theorem deed_inv {d : Dv} {k : Nat} {t : V} {l : List UInt8} (h : Inv d k t l) (x : Sd) (ht : t.toNat < 18446744073709551615) : ∃ k' t' l', Inv (deedS d x) k' t' l' ∧ t'.toNat ≤ t.toNat + 1 ∧ (deedS d x).las.length = d.las.length := by
  have hnf : ∀ b : List UInt8, ¬ Full d b.length → b.length ≤ (d.las.length - 2) / 2 * 64 := fun b hf => by
    unfold Full at hf
    omega
  unfold deedS
  split
  · unfold saveE
    split
    · exact ⟨k, t, l, h, by omega, rfl⟩
    · rename_i hf
      obtain ⟨i1, i2, _⟩ := inv_save (b := x.b.take 700) h (hnf _ hf) ht
      exact ⟨_, _, _, i1, by rw [inc_nat ht]; exact Nat.le_refl _, i2⟩
  · split
    · unfold tornE
      split
      · exact ⟨k, t, l, h, by omega, rfl⟩
      · rename_i hf
        split
        · exact ⟨k, t, l, h, by omega, rfl⟩
        · rename_i hn
          obtain ⟨i2, i1 | ⟨_, i1⟩⟩ := inv_torn (b := x.b.take 700) h x.wri x.sv (hnf _ hf) (by omega) ht
          · exact ⟨_, _, _, i1, by omega, i2⟩
          · exact ⟨_, _, _, i1, by rw [inc_nat ht]; exact Nat.le_refl _, i2⟩
    · exact ⟨k, t, l, h, by omega, rfl⟩
end Go.Proofs.Ytfknjmfkkaoggaa
