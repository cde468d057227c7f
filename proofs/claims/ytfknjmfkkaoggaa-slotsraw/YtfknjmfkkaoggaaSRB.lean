/- The document's Save and Torn. The document's Device and Open. The document's Save and Torn where there is no room; Torn of a number below 0. -/
import Derived.Test.YtfknjmfkkaoggaaSR6a
import Derived.Test.YtfknjmfkkaoggaaSR6b
import Derived.Test.YtfknjmfkkaoggaaSR6c
import Derived.Test.YtfknjmfkkaoggaaSR6d
import Derived.Test.YtfknjmfkkaoggaaSR6
namespace Go.Proofs.Ytfknjmfkkaoggaa
open Go.RowKit Go.Shelf

theorem slot_two (d : Dv) : (theL d).slot = 0 ∨ (theL d).slot = 1 := by
  have := best_slot d 2 (Nat.le_refl _)
  unfold theL
  omega
theorem rsave_whole (base q p : Nat) (d : Dv) (vl vw : Value) (ba : Option Addr) (b : List UInt8) (ln cap : Nat) (wri : Int) (w : World) (h : IsT base q p d vl vw w) (hd : DvOk d) (hb : base ≤ w.heap.size) (h2 : 4 ≤ d.las.length) (h3 : d.las.length ≤ 4096) (hB : ByteMem base w ba b) (hln : b.length = ln) (hrm : ln ≤ (d.las.length - 2) / 2 * 64) (hwf : d.wr.length + 5000 ≤ 1000000) :
    Calls Try.prog 55 #[.pointer (some ⟨q, 0, none⟩), .slice ba ln cap, .bool false, .int .i64 wri] w fun e w' => (∃ v, e = .returned v) ∧ TTo base q p vl vw (saveD d b) w w' := by
  rcases slot_two d with hs | hs
  · exact rsave_f1 base q p d vl vw ba b ln cap wri w h hd hb h2 h3 hB hln hrm hwf hs
  · exact rsave_f0 base q p d vl vw ba b ln cap wri w h hd hb h2 h3 hB hln hrm hwf hs
theorem rsave_torn (base q p : Nat) (d : Dv) (vl vw : Value) (ba : Option Addr) (b : List UInt8) (ln cap : Nat) (wri : Int) (w : World) (h : IsT base q p d vl vw w) (hd : DvOk d) (hb : base ≤ w.heap.size) (h2 : 4 ≤ d.las.length) (h3 : d.las.length ≤ 4096) (hB : ByteMem base w ba b) (hln : b.length = ln) (hrm : ln ≤ (d.las.length - 2) / 2 * 64) (hwf : d.wr.length + 5000 ≤ 1000000) (hw0 : 0 ≤ wri) :
    Calls Try.prog 55 #[.pointer (some ⟨q, 0, none⟩), .slice ba ln cap, .bool true, .int .i64 wri] w fun e w' => (∃ v, e = .returned v) ∧ TTo base q p vl vw (putT d (1 - (theL d).slot) (theL d).turn b wri) w w' := by
  rcases slot_two d with hs | hs
  · exact rsave_t1 base q p d vl vw ba b ln cap wri w h hd hb h2 h3 hB hln hrm hwf hw0 hs
  · exact rsave_t0 base q p d vl vw ba b ln cap wri w h hd hb h2 h3 hB hln hrm hwf hw0 hs
theorem TTo.front {base q p : Nat} {d : Dv} {vl vw : Value} {d' : Dv} {w w1 w2 : World} (_h : IsT base q p d vl vw w) (hb : base ≤ w.heap.size) (hB : Below w.heap.size w w1) (ht : TTo base q p vl vw d' w1 w2) : TTo base q p vl vw d' w w2 := by
  obtain ⟨vl', vw', k1, k2, k3⟩ := ht
  refine ⟨vl', vw', k1, ⟨(hB.mono hb).trans k2.below, fun j hj hn => (k2.same j (Nat.lt_of_lt_of_le hj hB.size) hn).trans (hB.block j hj)⟩, fun j hj => ?_⟩
  rcases k3 j hj with e | e
  · exact .inl e
  · exact .inr (Nat.le_trans hB.size e)
set_option maxRecDepth 100000 in
set_option maxHeartbeats 4000000 in
theorem rSave_any (base q p : Nat) (d : Dv) (vl vw : Value) (ba : Option Addr) (b : List UInt8) (ln cap : Nat) (w : World) (h : IsT base q p d vl vw w) (hd : DvOk d) (hb : base ≤ w.heap.size) (h2 : 4 ≤ d.las.length) (h3 : d.las.length ≤ 4096) (hB : ByteMem base w ba b) (hln : b.length = ln) (hwf : d.wr.length + 5000 ≤ 1000000) (hf : ¬ Full d ln) :
    Calls Try.prog 35 #[.pointer (some ⟨q, 0, none⟩), .slice ba ln cap] w fun e w' => e = .returned (.int .i64 0) ∧ TTo base q p vl vw (saveD d b) w w' := by
  unfold Full at hf
  have HR := hide (rRoom_any base q p d vl vw w h h2 h3)
  have HT := hide (rTurn_any base q p d vl vw w h hd h2 h3)
  have HS := hide (fun (V : World) (hV : Below w.heap.size w V) => rsave_whole base q p d vl vw ba b ln cap 0 V (h.below hV) hd (Nat.le_trans hb hV.size) h2 h3 (hB.below (hV.mono hb)) hln (by omega) hwf)
  have HH := hide h
  obtain ⟨rm, hrm⟩ : ∃ rm, (d.las.length - 2) / 2 * 64 = rm := ⟨_, rfl⟩
  obtain ⟨tt, htt⟩ : ∃ tt, (theL d).turn = tt := ⟨_, rfl⟩
  rw [hrm] at HR hf
  rw [htt] at HT hf
  have c1 : ¬ (rm : Int) < ln := by omega
  have c2 : ¬ (tt.toNat : Int) = 18446744073709551615 := by omega
  have c3 : ((tt.toNat : Int) == 18446744073709551615) = false := by rw [beq_eq_false_iff_ne]; exact c2
  clear h hd hB hrm htt hf
  go_enter Try.func35, Try.ntmps35
  go_wp2_with (first
    | (go_at_call 43; refine HR.out.mono ?_; rintro e w' ⟨rfl, hw'⟩; rw [hw']; clear hw')
    | (go_at_call 42; refine HT.out.mono ?_; rintro e w1 ⟨rfl, b1⟩; have B1 := hide b1; clear b1)
    | (go_at_call 55; refine (HS.out w1 B1.out).mono ?_; rintro e w2 ⟨⟨v, rfl⟩, t2⟩; have T2 := hide t2; clear t2))
  go_ret
  exact ⟨rfl, TTo.front HH.out hb B1.out T2.out⟩
set_option maxRecDepth 100000 in
set_option maxHeartbeats 4000000 in
theorem rTorn_any (base q p : Nat) (d : Dv) (vl vw : Value) (ba : Option Addr) (b : List UInt8) (ln cap : Nat) (ao : Option Addr) (wri : Int) (sv : List Bool) (sn cv : Nat) (w : World) (h : IsT base q p d vl vw w) (hd : DvOk d) (hb : base ≤ w.heap.size) (h2 : 4 ≤ d.las.length) (h3 : d.las.length ≤ 4096) (hB : ByteMem base w ba b) (hln : b.length = ln) (hwf : d.wr.length + 5000 ≤ 1000000) (hf : ¬ Full d ln) (hw0 : ¬ wri < 0) (hm : BoolMem base w ao sv) (hsn : sv.length = sn) :
    Calls Try.prog 51 #[.pointer (some ⟨q, 0, none⟩), .slice ba ln cap, .int .i64 wri, .slice ao sn cv] w fun e w' => e = .returned (.int .i64 0) ∧ TTo base q p vl vw (tornD d b wri sv) w w' := by
  unfold Full at hf
  have HR := hide (rRoom_any base q p d vl vw w h h2 h3)
  have HT := hide (rTurn_any base q p d vl vw w h hd h2 h3)
  have HS := hide (fun (V : World) (hV : Below w.heap.size w V) => rsave_torn base q p d vl vw ba b ln cap wri V (h.below hV) hd (Nat.le_trans hb hV.size) h2 h3 (hB.below (hV.mono hb)) hln (by omega) hwf (by omega))
  have hok : DvOk (putT d (1 - (theL d).slot) (theL d).turn b wri) := putT_ok hd (by omega) b h2 (by omega) hwf
  obtain ⟨D2, hD2⟩ : ∃ D2, putT d (1 - (theL d).slot) (theL d).turn b wri = D2 := ⟨_, rfl⟩
  have hDt : tornD d b wri sv = settled D2 (svOf sv) := by unfold tornD; rw [hD2]
  rw [hDt]
  rw [hD2] at HS hok
  have HH := hide (And.intro h (And.intro hm hok))
  obtain ⟨rm, hrm⟩ : ∃ rm, (d.las.length - 2) / 2 * 64 = rm := ⟨_, rfl⟩
  obtain ⟨tt, htt⟩ : ∃ tt, (theL d).turn = tt := ⟨_, rfl⟩
  rw [hrm] at HR hf
  rw [htt] at HT hf
  have c1 : ¬ (rm : Int) < ln := by omega
  have c2 : ¬ (tt.toNat : Int) = 18446744073709551615 := by omega
  have c3 : ((tt.toNat : Int) == 18446744073709551615) = false := by rw [beq_eq_false_iff_ne]; exact c2
  clear h hd hB hrm htt hf hm hok hD2 hDt
  go_enter Try.func51, Try.ntmps51
  go_wp2_with (first
    | (go_at_call 43; refine HR.out.mono ?_; rintro e w' ⟨rfl, hw'⟩; rw [hw']; clear hw')
    | (go_at_call 42; refine HT.out.mono ?_; rintro e w1 ⟨rfl, b1⟩; have B1 := hide b1; clear b1)
    | (go_at_call 55; refine (HS.out w1 B1.out).mono ?_; rintro e w2 ⟨⟨v, rfl⟩, t2⟩; refine stopHere ?_))
  unfold Hid
  have t2' := TTo.front HH.out.1 hb B1.out t2
  obtain ⟨vl2, vw2, hI, hF, hN⟩ := t2'
  have sw := hF.below.size
  have c4 := hI.cell
  have hcr := rcrash_any base p D2 vl2 vw2 ao sv cv w2 hI.dev HH.out.2.2 (by omega) (HH.out.2.1.below hF.below)
  rw [hsn] at hcr
  have HC := hide hcr
  have HI := hide (And.intro hI (And.intro hF hN))
  clear t2 hcr hI hF hN
  go_wp2_with (go_at_call 70; refine HC.out.mono ?_; rintro e w3 ⟨rfl, t3⟩; have H3 := hide (TTo.then HI.out.1 HI.out.2.1 HI.out.2.2 hb (Below.refl _ _) t3); clear t3)
  go_ret
  exact ⟨rfl, H3.out⟩
end Go.Proofs.Ytfknjmfkkaoggaa
namespace Go.Proofs.Ytfknjmfkkaoggaa
open Go.RowKit Go.Shelf

theorem build_t (a : Option Addr) (w : World) : (Instr.build 104 #[(0, .pointer a)]).run Try.prog w = .ok (.agg #[.pointer a]) w := by kernel_rfl
set_option maxRecDepth 100000 in
set_option maxHeartbeats 2000000 in
theorem rdevice_any (base q p : Nat) (d : Dv) (vl vw : Value) (w : World) (h : IsT base q p d vl vw w) (hd : DvOk d) (hb : base ≤ w.heap.size) :
    Calls Try.prog 37 #[.pointer (some ⟨q, 0, none⟩)] w fun e w' => ∃ p' vl' vw', e = .returned (.pointer (some ⟨p', 0, none⟩)) ∧ IsR base p' d vl' vw' w' ∧ Below w.heap.size w w' ∧ ∀ j, foot p' vl' vw' j → w.heap.size ≤ j := by
  have c1 := h.cell
  have HF := hide (rfork_any base p d vl vw w h.dev hd hb)
  clear h hd
  go_enter Try.func37, Try.ntmps37
  go_wp2_with (go_at_call 54; refine HF.out.mono ?_; rintro e w3 ⟨p', vl', vw', rfl, k⟩; have H3 := hide k; clear k)
  go_ret
  exact ⟨p', vl', vw', rfl, H3.out⟩
set_option maxRecDepth 100000 in
set_option maxHeartbeats 2000000 in
theorem ropen_any (base p : Nat) (d : Dv) (vl vw : Value) (w : World) (h : IsR base p d vl vw w) (hd : DvOk d) (hb : base ≤ w.heap.size) (h2 : 4 ≤ d.las.length) :
    Calls Try.prog 34 #[.pointer (some ⟨p, 0, none⟩)] w fun e w' => ∃ q' p' vl' vw', e = .returned (.pointer (some ⟨q', 0, none⟩)) ∧ IsT base q' p' d vl' vw' w' ∧ w.heap.size ≤ q' ∧ Below w.heap.size w w' ∧ ∀ j, foot p' vl' vw' j → w.heap.size ≤ j := by
  have f2 := build_t
  have HZ := hide (rsize_any base p d vl vw w h)
  have HF := hide (rfork_any base p d vl vw w h hd hb)
  have h2' : ¬ ((d.las.length : Int) < 4) := by omega
  clear h hd
  go_enter Try.func34, Try.ntmps34
  go_wp2_with (first
    | (go_at_call 54; refine HF.out.mono ?_; rintro e w3 ⟨p', vl', vw', rfl, k⟩; have H3 := hide k; clear k)
    | (go_at_call 38; refine HZ.out.mono ?_; rintro e w3 ⟨rfl, rfl⟩))
  go_ret
  obtain ⟨k1, k2, k3⟩ := H3.out
  exact ⟨_, p', vl', vw', rfl, ⟨World.alloc_heap_new _ _, Nat.le_trans hb k2.size, k1.below ((Below.refl _ _).alloc (Nat.le_refl _) _)⟩, k2.size, k2.alloc k2.size _, k3⟩
end Go.Proofs.Ytfknjmfkkaoggaa
namespace Go.Proofs.Ytfknjmfkkaoggaa
open Go.RowKit Go.Shelf

set_option maxRecDepth 100000 in
set_option maxHeartbeats 4000000 in
theorem rSave_full (base q p : Nat) (d : Dv) (vl vw : Value) (ba : Option Addr) (ln cap : Nat) (w : World) (h : IsT base q p d vl vw w) (hd : DvOk d) (hb : base ≤ w.heap.size) (h2 : 4 ≤ d.las.length) (h3 : d.las.length ≤ 4096) (hf : Full d ln) :
    Calls Try.prog 35 #[.pointer (some ⟨q, 0, none⟩), .slice ba ln cap] w fun e w' => e = .returned (.int .i64 4) ∧ TTo base q p vl vw d w w' := by
  unfold Full at hf
  have HR := hide (rRoom_any base q p d vl vw w h h2 h3)
  have HT := hide (rTurn_any base q p d vl vw w h hd h2 h3)
  have HH := hide h
  obtain ⟨rm, hrm⟩ : ∃ rm, (d.las.length - 2) / 2 * 64 = rm := ⟨_, rfl⟩
  obtain ⟨tt, htt⟩ : ∃ tt, (theL d).turn = tt := ⟨_, rfl⟩
  rw [hrm] at HR hf
  rw [htt] at HT hf
  clear h hd hrm htt
  by_cases c1 : (rm : Int) < ln
  · clear hf
    go_enter Try.func35, Try.ntmps35
    go_wp2_with (go_at_call 43; refine HR.out.mono ?_; rintro e w' ⟨rfl, hw'⟩; rw [hw']; clear hw')
    go_ret
    exact ⟨rfl, HH.out.stay hb (Below.refl _ _)⟩
  · have c2 : (tt.toNat : Int) = 18446744073709551615 := by omega
    rw [c2] at HT
    clear hf c2
    go_enter Try.func35, Try.ntmps35
    go_wp2_with (first
      | (go_at_call 43; refine HR.out.mono ?_; rintro e w' ⟨rfl, hw'⟩; rw [hw']; clear hw')
      | (go_at_call 42; refine HT.out.mono ?_; rintro e w1 ⟨rfl, b1⟩; have B1 := hide b1; clear b1))
    go_ret
    exact ⟨rfl, HH.out.stay hb B1.out⟩
set_option maxRecDepth 100000 in
set_option maxHeartbeats 4000000 in
theorem rTorn_full (base q p : Nat) (d : Dv) (vl vw : Value) (ba : Option Addr) (ln cap : Nat) (ao : Option Addr) (wri : Int) (sn cv : Nat) (w : World) (h : IsT base q p d vl vw w) (hd : DvOk d) (hb : base ≤ w.heap.size) (h2 : 4 ≤ d.las.length) (h3 : d.las.length ≤ 4096) (hf : Full d ln) :
    Calls Try.prog 51 #[.pointer (some ⟨q, 0, none⟩), .slice ba ln cap, .int .i64 wri, .slice ao sn cv] w fun e w' => e = .returned (.int .i64 4) ∧ TTo base q p vl vw d w w' := by
  unfold Full at hf
  have HR := hide (rRoom_any base q p d vl vw w h h2 h3)
  have HT := hide (rTurn_any base q p d vl vw w h hd h2 h3)
  have HH := hide h
  obtain ⟨rm, hrm⟩ : ∃ rm, (d.las.length - 2) / 2 * 64 = rm := ⟨_, rfl⟩
  obtain ⟨tt, htt⟩ : ∃ tt, (theL d).turn = tt := ⟨_, rfl⟩
  rw [hrm] at HR hf
  rw [htt] at HT hf
  clear h hd hrm htt
  by_cases c1 : (rm : Int) < ln
  · clear hf
    go_enter Try.func51, Try.ntmps51
    go_wp2_with (go_at_call 43; refine HR.out.mono ?_; rintro e w' ⟨rfl, hw'⟩; rw [hw']; clear hw')
    go_ret
    exact ⟨rfl, HH.out.stay hb (Below.refl _ _)⟩
  · have c2 : (tt.toNat : Int) = 18446744073709551615 := by omega
    rw [c2] at HT
    clear hf c2
    go_enter Try.func51, Try.ntmps51
    go_wp2_with (first
      | (go_at_call 43; refine HR.out.mono ?_; rintro e w' ⟨rfl, hw'⟩; rw [hw']; clear hw')
      | (go_at_call 42; refine HT.out.mono ?_; rintro e w1 ⟨rfl, b1⟩; have B1 := hide b1; clear b1))
    go_ret
    exact ⟨rfl, HH.out.stay hb B1.out⟩
set_option maxRecDepth 100000 in
set_option maxHeartbeats 4000000 in
theorem rTorn_neg (base q p : Nat) (d : Dv) (vl vw : Value) (ba : Option Addr) (ln cap : Nat) (ao : Option Addr) (wri : Int) (sn cv : Nat) (w : World) (h : IsT base q p d vl vw w) (hd : DvOk d) (hb : base ≤ w.heap.size) (h2 : 4 ≤ d.las.length) (h3 : d.las.length ≤ 4096) (hf : ¬ Full d ln) (hwn : wri < 0) :
    Calls Try.prog 51 #[.pointer (some ⟨q, 0, none⟩), .slice ba ln cap, .int .i64 wri, .slice ao sn cv] w fun e w' => e = .returned (.int .i64 2) ∧ TTo base q p vl vw d w w' := by
  unfold Full at hf
  have HR := hide (rRoom_any base q p d vl vw w h h2 h3)
  have HT := hide (rTurn_any base q p d vl vw w h hd h2 h3)
  have HH := hide h
  obtain ⟨rm, hrm⟩ : ∃ rm, (d.las.length - 2) / 2 * 64 = rm := ⟨_, rfl⟩
  obtain ⟨tt, htt⟩ : ∃ tt, (theL d).turn = tt := ⟨_, rfl⟩
  rw [hrm] at HR hf
  rw [htt] at HT hf
  have c1 : ¬ (rm : Int) < ln := by omega
  have c2 : ¬ (tt.toNat : Int) = 18446744073709551615 := by omega
  have c3 : ((tt.toNat : Int) == 18446744073709551615) = false := by rw [beq_eq_false_iff_ne]; exact c2
  clear h hd hrm htt hf
  go_enter Try.func51, Try.ntmps51
  go_wp2_with (first
    | (go_at_call 43; refine HR.out.mono ?_; rintro e w' ⟨rfl, hw'⟩; rw [hw']; clear hw')
    | (go_at_call 42; refine HT.out.mono ?_; rintro e w1 ⟨rfl, b1⟩; have B1 := hide b1; clear b1))
  go_ret
  exact ⟨rfl, HH.out.stay hb B1.out⟩
end Go.Proofs.Ytfknjmfkkaoggaa
