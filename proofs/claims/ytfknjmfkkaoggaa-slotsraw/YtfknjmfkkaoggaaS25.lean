/- A deed of chapter 8 on both stores. -/
import Derived.Test.YtfknjmfkkaoggaaS24a
namespace Go.Proofs.Ytfknjmfkkaoggaa
open Go.RowKit Go.Shelf

instance (d : Dv) (ln : Nat) : Decidable (Full d ln) := inferInstanceAs (Decidable (_ ∨ _))
def errS (d : Dv) (ln : Nat) : Int := if Full d ln then 4 else 0
def saveE (d : Dv) (b : List UInt8) : Dv := if Full d b.length then d else saveD d b
def errT (d : Dv) (ln : Nat) (wri : Int) : Int := if Full d ln then 4 else if wri < 0 then 2 else 0
def tornE (d : Dv) (b : List UInt8) (wri : Int) (sv : List Bool) : Dv := if Full d b.length then d else if wri < 0 then d else tornD d b wri sv
section
variable {base q p : Nat} {d : Dv} {vl vw : Value} {w : World}
theorem off_foot (h : IsS base q p d vl vw w) {ba : Option Addr} {b : List UInt8} (hb : base ≤ w.heap.size) (hB : ByteMem base w ba b) : ∀ g o, b ≠ [] → ba = some ⟨g, o, none⟩ → g < w.heap.size ∧ ¬ foot p vl vw g := by
  intro g o hne e
  obtain ⟨c, hc⟩ : ∃ c, b[0]? = some c := by
    cases b with
    | nil => exact absurd rfl hne
    | cons c _ => exact ⟨c, rfl⟩
  obtain ⟨g', o', e', h1, _⟩ := hB 0 c hc
  rw [e] at e'
  cases e'
  exact ⟨by omega, fun hf => by have := (h.dev.lt hf).1; omega⟩
theorem ByteMem.up {n₀ n₁ : Nat} {ba : Option Addr} {b : List UInt8} (h : ByteMem n₀ w ba b) (hn : n₀ ≤ n₁) : ByteMem n₁ w ba b := fun j c hj => by
  obtain ⟨g, o, e, h1, h2⟩ := h j c hj
  exact ⟨g, o, e, by omega, h2⟩
theorem BoolMem.up {n₀ n₁ : Nat} {ba : Option Addr} {b : List Bool} (h : BoolMem n₀ w ba b) (hn : n₀ ≤ n₁) : BoolMem n₁ w ba b := ⟨h.1, fun j c hj => by
  obtain ⟨g, o, e, h1, h2⟩ := h.2 j c hj
  exact ⟨g, o, e, by omega, h2⟩⟩
theorem save_all (h : IsS base q p d vl vw w) (hd : DvOk d) (hb : base ≤ w.heap.size) (h2 : 4 ≤ d.las.length) {ba : Option Addr} {b : List UInt8} {ln cap : Nat} (hB : ByteMem base w ba b) (hll : b.length = ln) (hc : ln ≤ cap) (hcm : cap ≤ 9223372036854775807) (hwf : d.wr.length + 5000 ≤ 1000000) :
    Calls Try.prog 22 #[.pointer (some ⟨q, 0, none⟩), .slice ba ln cap] w fun e w' => e = .returned (.int .i64 (errS d ln)) ∧ STo base q p vl vw (saveE d b) w w' := by
  unfold errS saveE
  rw [hll]
  by_cases hf : Full d ln
  · rw [if_pos hf, if_pos hf]
    exact save_full base q p d vl vw ba ln cap w h hd hb h2 hd.most (by omega) hf
  · rw [if_neg hf, if_neg hf]
    exact save_any base q p d vl vw ba b ln cap w h hd hb h2 hd.most (hB.up hb) (off_foot h hb hB) hll hc hwf hf
theorem torn_all (h : IsS base q p d vl vw w) (hd : DvOk d) (hb : base ≤ w.heap.size) (h2 : 4 ≤ d.las.length) {ba : Option Addr} {b : List UInt8} {ln cap : Nat} (hB : ByteMem base w ba b) (hll : b.length = ln) (hc : ln ≤ cap) (hcm : cap ≤ 9223372036854775807) (hwf : d.wr.length + 5000 ≤ 1000000) {ao : Option Addr} {wri : Int} {sv : List Bool} {cv : Nat} (hm : BoolMem base w ao sv) :
    Calls Try.prog 24 #[.pointer (some ⟨q, 0, none⟩), .slice ba ln cap, .int .i64 wri, .slice ao sv.length cv] w fun e w' => e = .returned (.int .i64 (errT d ln wri)) ∧ STo base q p vl vw (tornE d b wri sv) w w' := by
  unfold errT tornE
  rw [hll]
  by_cases hf : Full d ln
  · rw [if_pos hf, if_pos hf]
    exact torn_full base q p d vl vw ba ao wri sv cv ln cap w h hd hb h2 hd.most (by omega) hf
  · rw [if_neg hf, if_neg hf]
    by_cases hn : wri < 0
    · rw [if_pos hn, if_pos hn]
      exact torn_neg base q p d vl vw ba ao wri sv cv ln cap w h hd hb h2 hd.most hf hn
    · rw [if_neg hn, if_neg hn]
      refine torn_any base q p d vl vw ba ao wri sv cv b ln cap w h hd hb h2 hd.most (hB.up hb) (off_foot h hb hB) hll hc hwf hf hn (hm.up hb) fun j v g off hj e hf' => ?_
      obtain ⟨g', o', e', h1, _⟩ := hm.2 j v hj
      rw [e] at e'
      cases e'
      have := (h.dev.lt hf').1
      omega
end
section
variable {base q p : Nat} {d : Dv} {vl vw : Value} {w : World}
theorem rsave_all (h : IsT base q p d vl vw w) (hd : DvOk d) (hb : base ≤ w.heap.size) (h2 : 4 ≤ d.las.length) {ba : Option Addr} {b : List UInt8} {ln cap : Nat} (hB : ByteMem base w ba b) (hll : b.length = ln) (hwf : d.wr.length + 5000 ≤ 1000000) :
    Calls Try.prog 35 #[.pointer (some ⟨q, 0, none⟩), .slice ba ln cap] w fun e w' => e = .returned (.int .i64 (errS d ln)) ∧ TTo base q p vl vw (saveE d b) w w' := by
  unfold errS saveE
  rw [hll]
  by_cases hf : Full d ln
  · rw [if_pos hf, if_pos hf]
    exact rSave_full base q p d vl vw ba ln cap w h hd hb h2 hd.most hf
  · rw [if_neg hf, if_neg hf]
    exact rSave_any base q p d vl vw ba b ln cap w h hd hb h2 hd.most hB hll hwf hf
theorem rtorn_all (h : IsT base q p d vl vw w) (hd : DvOk d) (hb : base ≤ w.heap.size) (h2 : 4 ≤ d.las.length) {ba : Option Addr} {b : List UInt8} {ln cap : Nat} (hB : ByteMem base w ba b) (hll : b.length = ln) (hwf : d.wr.length + 5000 ≤ 1000000) {ao : Option Addr} {wri : Int} {sv : List Bool} {cv : Nat} (hm : BoolMem base w ao sv) :
    Calls Try.prog 51 #[.pointer (some ⟨q, 0, none⟩), .slice ba ln cap, .int .i64 wri, .slice ao sv.length cv] w fun e w' => e = .returned (.int .i64 (errT d ln wri)) ∧ TTo base q p vl vw (tornE d b wri sv) w w' := by
  unfold errT tornE
  rw [hll]
  by_cases hf : Full d ln
  · rw [if_pos hf, if_pos hf]
    exact rTorn_full base q p d vl vw ba ln cap ao wri sv.length cv w h hd hb h2 hd.most hf
  · rw [if_neg hf, if_neg hf]
    by_cases hn : wri < 0
    · rw [if_pos hn, if_pos hn]
      exact rTorn_neg base q p d vl vw ba ln cap ao wri sv.length cv w h hd hb h2 hd.most hf hn
    · rw [if_neg hn, if_neg hn]
      exact rTorn_any base q p d vl vw ba b ln cap ao wri sv sv.length cv w h hd hb h2 hd.most hB hll hwf hf hn hm rfl
end
/-- What a deed comes to. -/
def deedS (d : Dv) (x : Sd) : Dv := if x.kind = 0 then saveE d (x.b.take 700) else if x.kind = 1 then tornE d (x.b.take 700) x.wri x.sv else d
theorem sto_keep {base q p : Nat} {vl vw : Value} {d' : Dv} {w w' : World} (h : STo base q p vl vw d' w w') {g : Nat} {o : Obj} (hg : w.heap[g]? = some o) (hf : ¬ foot p vl vw g) : w'.heap[g]? = some o := by
  obtain ⟨vl', vw', _, k2, _⟩ := h
  exact (k2.same g (hp_lt hg) hf).trans hg
theorem sto_size {base q p : Nat} {vl vw : Value} {d' : Dv} {w w' : World} (h : STo base q p vl vw d' w w') : Below base w w' := by
  obtain ⟨vl', vw', _, k2, _⟩ := h
  exact k2.below
theorem tto_keep {base q p : Nat} {vl vw : Value} {d' : Dv} {w w' : World} (h : TTo base q p vl vw d' w w') {g : Nat} {o : Obj} (hg : w.heap[g]? = some o) (hf : ¬ foot p vl vw g) : w'.heap[g]? = some o := by
  obtain ⟨vl', vw', _, k2, _⟩ := h
  exact (k2.same g (hp_lt hg) hf).trans hg

set_option maxRecDepth 100000 in
set_option maxHeartbeats 4000000 in
theorem do_save (base qs ps qt pt : Nat) (d : Dv) (vl vw ul uw : Value) (x : Sd) (w : World) (h : TwoS base qs ps qt pt d vl vw ul uw w) (hd : DvOk d) (h2 : 4 ≤ d.las.length) (hwf : d.wr.length + 5000 ≤ 1000000) (hx : SdOk base w x) (h0 : x.kind = 0) :
    Calls Try.prog 28 #[.pointer (some ⟨qs, 0, none⟩), .pointer (some ⟨qt, 0, none⟩), .agg (sdC x)] w fun e w' => e = .returned (.bool true) ∧ (∃ vl' vw' ul' uw', TwoS base qs ps qt pt (saveE d (x.b.take 700)) vl' vw' ul' uw' w') ∧ Below base w w' := by
  have hlow := h.low
  obtain ⟨W, hW, f1, z1, b1⟩ := boxedS w x
  obtain ⟨k0, k1, k2, k3⟩ := cellsS f1
  have bD : Below w.heap.size w W.drew := b1.trans (Below.refl _ W).drew
  have hT := h.below bD
  have hx' := hx.below (bD.mono hlow)
  have hcl := hx.len
  have hcm := hx.cap
  have hfw := few_any x.ba x.b x.bc W.drew hx'.by_ hx.len
  obtain ⟨m, hm⟩ : ∃ m, (x.b.take 700).length = m := ⟨_, rfl⟩
  have hmb : m ≤ x.bc := by rw [← hm, List.length_take]; omega
  have hsv := save_all (cap := x.bc) hT.sto hd hT.low h2 (hx'.by_.take 700) hm hmb hcm hwf
  have hrs := fun (V V' : World) (hS : STo base qs ps vl vw (saveE d (x.b.take 700)) W.drew V) (hB : Below V.heap.size V V') => rsave_all (cap := x.bc) ((hT.first hS).below hB) hd (Nat.le_trans hT.low (Nat.le_trans (sto_size hS).size hB.size)) h2 (((hx'.by_.take 700).below (sto_size hS)).below (hB.mono (Nat.le_trans hT.low (sto_size hS).size))) hm hwf
  have hfw2 := fun (V : World) (hS : STo base qs ps vl vw (saveE d (x.b.take 700)) W.drew V) => few_any x.ba x.b x.bc V (hx'.by_.below (sto_size hS)) hx.len
  rw [hm] at hfw
  obtain ⟨n, hn⟩ : ∃ n, x.b.length = n := ⟨_, rfl⟩
  obtain ⟨er, her⟩ : ∃ er, errS d m = er := ⟨_, rfl⟩
  rw [her] at hsv
  rw [hn] at k1 hfw
  have hoff : ¬ foot ps vl vw w.heap.size := fun hf => by have := (h.sto.dev.lt hf).2; omega
  have hgo : ∀ V, STo base qs ps vl vw (saveE d (x.b.take 700)) W.drew V → V.cell? ⟨w.heap.size, 1, none⟩ = some (.slice x.ba n x.bc) := fun V hS => by
    have := (cellsS (sto_keep hS (show W.drew.heap[w.heap.size]? = _ from f1) hoff)).2.1
    rwa [hn] at this
  have hoff2 : ¬ foot pt ul uw w.heap.size := fun hf => by have := (h.ref.dev.lt hf).2; omega
  have hgo3 : ∀ V V3, STo base qs ps vl vw (saveE d (x.b.take 700)) W.drew V → TTo base qt pt ul uw (saveE d (x.b.take 700)) V V3 → V3.cell? ⟨w.heap.size, 1, none⟩ = some (.slice x.ba n x.bc) := fun V V3 hS hR => by
    have := (cellsS (tto_keep hR (sto_keep hS (show W.drew.heap[w.heap.size]? = _ from f1) hoff) hoff2)).2.1
    rwa [hn] at this
  have HG3 := hide hgo3
  have HH := hide (And.intro hT (And.intro bD (And.intro hfw (And.intro hsv hgo))))
  have HR := hide (And.intro hrs hfw2)
  have HN := hide (And.intro hm (And.intro hn her))
  have k1' : W.drew.cell? ⟨w.heap.size, 1, none⟩ = some (.slice x.ba n x.bc) := k1
  rw [h0] at k0
  unfold sdC
  rw [h0, hn]
  unfold sdC at hW
  rw [h0, hn] at hW
  clear h hT hx hx' hd hfw hsv hrs hfw2 hgo hgo3 f1 b1 bD hm hn her k2 k3 hcl hcm hmb
  go_enter Try.func28, Try.ntmps28
  go_wp2_with fail
  go_region_held3 (fun w' => w'.cell? ⟨w.heap.size, 1, none⟩ = some (.slice x.ba n x.bc)) ((first | exact k1' | exact HH.out.2.2.2.2 _ (by assumption) | exact HG3.out _ _ (by assumption) (by assumption)))
    (first
      | (go_at_call 17; refine HH.out.2.2.1.mono ?_; rintro e w1 ⟨rfl, e1⟩; rw [e1]; clear e1)
      | (go_at_call 22; refine HH.out.2.2.2.1.mono ?_; rintro e w1 ⟨rfl, t1⟩)
      | (go_at_call 17; have q2 := HR.out.2 w1 t1; rw [HN.out.1, HN.out.2.1] at q2; refine q2.mono ?_; rintro e w2 ⟨rfl, e2⟩; rw [e2]; clear e2 q2)
      | (go_at_call 35; have q3 := HR.out.1 w1 w1 t1 (Below.refl _ _); rw [HN.out.2.2] at q3; refine q3.mono ?_; rintro e w3 ⟨rfl, t3⟩; clear q3))
  have HF := hide (HH.out.1.both t1 (Below.refl _ _) t3)
  clear t1 t3
  go_wp2_with fail
  go_ret
  exact ⟨rfl, HF.out.1, (HH.out.2.1.mono hlow).trans HF.out.2⟩
end Go.Proofs.Ytfknjmfkkaoggaa
