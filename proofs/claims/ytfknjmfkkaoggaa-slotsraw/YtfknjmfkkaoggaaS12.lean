/- Slots: put. -/
import Derived.Test.YtfknjmfkkaoggaaS11
namespace Go.Proofs.Ytfknjmfkkaoggaa
open Go.RowKit Go.Shelf
attribute [local go_sem] Oper.semAt_some

theorem ex_leqT {o : Oper} {a : Act} {w : World} {x y : Operand} {m n : Int} (ho : o.op = .binOp .leq 3 x y 3) (hx : a.eval x = .int .i64 m) (hy : a.eval y = .int .i64 n) (h : m ≤ n) : (execOp a.eval o).run Try.prog w = .ok (.value (.bool true)) w := by
  unfold execOp
  simp only [ho, hx, hy]
  go_simp
theorem ex_leqF {o : Oper} {a : Act} {w : World} {x y : Operand} {m n : Int} (ho : o.op = .binOp .leq 3 x y 3) (hx : a.eval x = .int .i64 m) (hy : a.eval y = .int .i64 n) (h : ¬ m ≤ n) : (execOp a.eval o).run Try.prog w = .ok (.value (.bool false)) w := by
  unfold execOp
  simp only [ho, hx, hy]
  go_simp
theorem ex_incU {o : Oper} {a : Act} {w : World} {x : Operand} {t : V} (ho : o.op = .binOp .add 36 x (.const (.int .u64 1)) 36) (hx : a.eval x = .int .u64 t.toNat) : (execOp a.eval o).run Try.prog w = .ok (.value (.int .u64 (t + 1#64).toNat)) w := by
  have e : ((t + 1#64).toNat : Int) = ((t.toNat : Int) + 1) % 18446744073709551616 := by
    rw [BitVec.toNat_add]
    simp
  unfold execOp
  simp only [ho, hx]
  rw [e]
  go_simp
  rfl
theorem ex_i2w {o : Oper} {a : Act} {w : World} {y : Operand} {m : Nat} (ho : o.op = .convert 3 32 y) (hy : a.eval y = .int .i64 m) : (execOp a.eval o).run Try.prog w = .ok (.value (.int .u32 (BitVec.ofNat 32 m).toNat)) w := by
  have h : (convert 3 32 (.int .i64 m)).run Try.prog w = .ok (.int .u32 (BitVec.ofNat 32 m).toNat) w := by
    go_simp
    show ((m : Int) % 4294967296) = _
    simp
  unfold execOp
  simp [ho, hy, h]
/-- The device behind put. -/
def putT (d : Dv) (nx : Nat) (tn : V) (l : List UInt8) (wri : Int) : Dv :=
  if wri ≤ ((l.length + 63) / 64 : Nat) then putK d nx l (if wri < 0 then (l.length + 63) / 64 else wri.toNat)
  else dvWrite (settled (putK d nx l ((l.length + 63) / 64)) fun _ => true) nx (rootS (tn + 1#64) (BitVec.ofNat 32 l.length) (crcL l))
theorem foot_cells {base p : Nat} {d : Dv} {vl vw : Value} {w : World} (h : IsD base p d vl vw w) {j : Nat} (hj : foot p vl vw j) : ∃ cs T, w.heap[j]? = some (.cells cs T) := by
  rcases hj with rfl | hj | hj
  · exact ⟨_, _, h.here⟩
  · exact ⟨_, _, (own_obj h.las j hj).choose_spec⟩
  · exact ⟨_, _, (own_obj h.wr j hj).choose_spec⟩
theorem PutI.drew {base p : Nat} {vl vw : Value} {d' : Dv} {o0 o1 o2 o3 : Value} {T0 T1 T2 T3 : TypeId} {c1 : List Value} {w A : World} {vl' vw' : Value} (h : PutI base p vl vw d' o0 o1 o2 o3 T0 T1 T2 T3 c1 w A vl' vw') : PutI base p vl vw d' o0 o1 o2 o3 T0 T1 T2 T3 c1 w A.drew vl' vw' :=
  h.steady (Below.refl _ _).drew (fun _ => False) (fun _ h => h.elim) (fun _ _ h => h) (fun _ _ h _ _ => h)
theorem PutI.fin {base p : Nat} {vl vw : Value} {d' : Dv} {o0 o1 o2 o3 : Value} {T0 T1 T2 T3 : TypeId} {c1 : List Value} {w A : World} {vl' vw' : Value} (h : PutI base p vl vw d' o0 o1 o2 o3 T0 T1 T2 T3 c1 w A vl' vw') {D : Nat} {ds : Option (List Deferred)} (hD : base ≤ D ∧ w.heap.size ≤ D) (hd : A.heap[D]? = some (.deferred ds)) (o : Obj) : ToD base p vl vw d' w (A.putObj D o) := by
  refine ⟨vl', vw', h.dev.same (fun j hj => World.putObj_heap_other (fun e => ?_)), ⟨h.fr.below.trans (below_put _ _ hD.1), fun j hj hn => (World.putObj_heap_other (by omega)).trans (h.fr.same j hj hn)⟩, h.new⟩
  obtain ⟨cs, T, hcs⟩ := foot_cells h.dev hj
  rw [e, hd] at hcs
  cases hcs
theorem cellP {M : Blk} {n : Nat} {w w' : World} (h : ∀ j, j < n → ¬ M j → w.heap[j]? = w'.heap[j]?) {b i : Nat} (hb : b < n) (hm : ¬ M b) : w.cell? ⟨b, i, none⟩ = w'.cell? ⟨b, i, none⟩ := by
  simp [World.cell?, h b hb hm]
set_option maxRecDepth 100000 in
set_option maxHeartbeats 4000000 in
theorem put_any (base p : Nat) (d : Dv) (vl vw : Value) (sl nx : Nat) (tn : V) (vb : Value) (l : List UInt8) (ba : Option Addr) (ln cap : Nat) (wri : Int) (w : World) (h : IsD base p d vl vw w) (hd : DvOk d) (hb : base ≤ w.heap.size) (h2 : 4 ≤ d.las.length) (h3 : d.las.length ≤ 4096) (hnx : (1 : Int) - sl = nx) (hnx1 : nx ≤ 1) (hB : ByteMem w.heap.size w ba l) (hno : ∀ b o, l ≠ [] → ba = some ⟨b, o, none⟩ → b < w.heap.size ∧ ¬ foot p vl vw b) (hln : l.length = ln) (hc : ln ≤ cap) (hl : ln ≤ (d.las.length - 2) / 2 * 64) (hwf : d.wr.length + 5000 ≤ 1000000) :
    Calls Try.prog 46 #[hv p, .agg #[.int .i64 sl, .int .u64 tn.toNat, vb], .slice ba ln cap, .int .i64 wri] w fun e w' => (∃ v, e = .returned v) ∧ ToD base p vl vw (putT d nx tn l wri) w w' := by
  have hmf : ∀ (fn : Fn) (first cap : Array Value) (w : World), (Instr.makeFunc fn first cap).run Try.prog w = .ok (.func fn first cap) w := fun _ _ _ _ => rfl
  obtain ⟨W5, hW5, f0, f1, f2, f3, f4, z5, hB5⟩ := five_new w (.cells #[.pointer (some ⟨p, 0, none⟩)] 79) (.cells #[.int .i64 sl, .int .u64 tn.toNat, vb] 77) (.cells #[.int .i64 wri] 3) (.cells #[.int .i64 nx] 3) (.cells #[.slice ba ln cap] 30)
  have hsl : sl ≤ 1 := by omega
  have HN := hide hnx
  have hD5 := h.below hB5
  have hI5 : PutI base p vl vw d (.pointer (some ⟨p, 0, none⟩)) (.int .i64 sl) (.int .i64 wri) (.int .i64 nx) 79 77 3 3 [.int .u64 tn.toNat, vb] w W5 vl vw := ⟨hD5, fun j hj => .inl (h.lt hj).2, f0, f1, f2, f3, ⟨hB5.mono hb, fun j hj _ => hB5.block j hj⟩, fun j hj => .inl hj, by omega⟩
  have hS5 := sectors_seq 2 base (w.heap.size + 4) cap ln ba l W5 f4 (fun j v hj => by
    obtain ⟨b, o, e1, e2, e3⟩ := hB j v hj
    exact ⟨b, o, e1, by omega, (hB5.cell (p := ⟨b, _, none⟩) e2).trans e3⟩) hln hc (by omega) (by omega)
  have HH := hide (And.intro h (And.intro hd (And.intro hI5 (And.intro hS5 (And.intro hB hno)))))
  have HW := hide hW5
  clear h hd hI5 hS5 hB hno hD5 f0 f1 f2 f3 f4 hB5 hW5 hnx
  unfold hv
  refine (callsIn_wide (n := 3)).1 ?_
  refine callsIn_of_wp_marks Try.func46 rfl trivial ?_ rfl
  simp only [Try.ntmps46, List.size_toArray, List.length_cons, List.length_nil, Nat.reduceAdd, Nat.reduceSub, Array.replicate_succ, Array.replicate_zero, List.push_toArray, List.append_toArray, List.nil_append, List.cons_append]
  gi_wp2_with (first | (refine ⟨trivial, (callsIn_wide.2 (sectors_any _ _ _ _)).mono ?_⟩; rintro e w3 ⟨rfl, rfl⟩; rw [HN.out, HW.out]))
  simp only [Nat.add_assoc, Nat.reduceAdd]
  refine range_exit (.exit 0) (.exit 0) (.inr ⟨0, rfl, rfl⟩) (it := 76) (pre := #[]) (held := #[.pointer (some ⟨w.heap.size + 4, 0, none⟩)]) (by omega) rfl trivial rfl (enters_of Try.func76 (by kernel_rfl) rfl) (n₀ := base) (w0 := W5) (by omega) (Below.refl _ _)
    (fun b hb => by omega) (bsR ba l) (fun b ⟨hne, o, hbo⟩ => by have := (HH.out.2.2.2.2.2 b o hne hbo).1; omega) HH.out.2.2.2.1 (fun _ => rfl)
    (fun M k W => (wri < 0 ∨ (k : Int) ≤ wri) ∧ (∀ j, M j → w.heap.size + 4 ≤ j) ∧ ∃ vl' vw', PutI base p vl vw (putK d nx l k) (.pointer (some ⟨p, 0, none⟩)) (.int .i64 sl) (.int .i64 wri) (.int .i64 nx) 79 77 3 3 [.int .u64 tn.toNat, vb] w W vl' vw' ∧ ∀ j, foot p vl' vw' j → ¬ M j)
    (fun k W => ∃ i vl' vw', k = i + 1 ∧ wri = (i : Nat) ∧ PutI base p vl vw (putK d nx l i) (.pointer (some ⟨p, 0, none⟩)) (.int .i64 sl) (.int .i64 wri) (.int .i64 nx) 79 77 3 3 [.int .u64 tn.toNat, vb] w W vl' vw')
    ?hI ?hIx ?h0 (fun k => .cells (secA (secOf l k)) 59)
    (fun k bs => { tmps := #[.agg #[.pointer (some ⟨p, 0, none⟩)], .agg #[.int .i64 sl, .int .u64 tn.toNat, vb], .slice ba ln cap, .int .i64 wri, .pointer (some ⟨w.heap.size, 0, none⟩), .pointer (some ⟨w.heap.size + 1, 0, none⟩), undef, .pointer (some ⟨w.heap.size + 2, 0, none⟩), .pointer (some ⟨w.heap.size + 3, 0, none⟩), .int .i64 k, .pointer (some ⟨bs, 0, none⟩), .pointer (some ⟨w.heap.size + 1, 0, none⟩), .int .i64 sl, .int .i64 nx, .slice ba ln cap, .func (.func 76) #[] #[.pointer (some ⟨w.heap.size + 4, 0, none⟩)], .int .i64 k, .agg (secA (secOf l k)), undef, undef, undef, undef, undef, undef, undef, undef, undef, undef, undef, undef, undef, undef, undef, undef, undef, undef, undef, undef, undef, undef, undef, undef, undef, undef, undef, undef, undef, undef, undef, undef, undef, undef], defers := [] }) ?assign ?body ?done ?stop
  case hI =>
    rintro M M' k A B ⟨i0, i1, vl', vw', i2, i3⟩ hbB hcc hm
    have hbig := i2.big
    refine ⟨i0, fun j hj => ?_, vl', vw', i2.steady hbB M i1 i3 (fun j o hj ho hn => hcc j o hj (ho.imp id (fun h => by omega)) hn), fun j hj hM => i3 j hj (hm j (i2.dev.lt hj).2 hM)⟩
    by_cases hjA : j < A.heap.size
    · exact i1 j (hm j hjA hj)
    · omega
  case hIx =>
    rintro k A B ⟨i, vl', vw', e1, e2, i2⟩ hbB hcc
    exact ⟨i, vl', vw', e1, e2, i2.steady hbB (fun _ => False) (fun _ h => h.elim) (fun _ _ h => h) (fun j o hj ho _ => hcc j o hj (ho.imp id (fun h => by omega)))⟩
  case h0 => exact ⟨by omega, fun j hj => by omega, vl, vw, HH.out.2.2.1, fun j hj hM => by have := HH.out.2.2.1.far j hj; omega⟩
  case assign =>
    intro r k V K hk hK
    have hsl := secOf_len l k
    obtain ⟨sk, hsk⟩ : ∃ sk, secOf l k = sk := ⟨_, rfl⟩
    rw [hsk] at hsl hK ⊢
    have HST := hide (run_store_new (P := Try.prog) infoSecD V (cs := secA sk) (c := secA sec0) ((secA_size _).trans hsl) (secA_size _) (secA_one sk))
    gi_wp2_with (first | (refine i_store 59 HST.out rfl rfl rfl rfl ?_) | (refine i_alloc _ infoSecD rfl rfl ?_))
    exact hK
  case body =>
    rintro r M k V0 V ⟨i0, i1, vl', vw', i2, i3⟩ hbB hcc hk hM hbs hle
    have hbig := i2.big
    have q := i2.steady hbB M i1 i3 (fun j o hj ho _ => hcc j o hj (ho.imp id (fun h => by omega)))
    have hfb : ∀ j, foot p vl' vw' j → j < V0.heap.size := fun j hj => (i2.dev.lt hj).2
    obtain ⟨bs, hbsz⟩ : ∃ bs, V0.heap.size = bs := ⟨_, rfl⟩
    rw [hbsz] at hM hbs hle hfb hbig ⊢
    have hbV : bs < V.heap.size := hp_lt hbs
    obtain ⟨c2, _⟩ := cell1 q.b2
    by_cases hkw : (k : Int) = wri
    · have HQ := hide q
      clear q hcc i1 i2 i3 hM hbs hfb hbB
      gi_wp2_with fail
      exact ⟨rfl, KeepsFrom.refl _ _, k, vl', vw', rfl, hkw.symm, HQ.out⟩
    · have HQ := hide q
      have HM := hide (And.intro i1 (And.intro i3 (And.intro hM (And.intro hbs (And.intro hfb i0)))))
      clear q hcc i0 i1 i2 i3 hbB hM hbs hfb
      gi_wp2_with fail
      have hq := HQ.out
      obtain ⟨i1, i3, hM, hbs, hfb, i0⟩ := HM.out
      have nb : ∀ j, w.heap.size ≤ j → j < w.heap.size + 4 → ¬ foot p vl' vw' j := fun j h1 h2 hf => by have := hq.far j hf; omega
      have nbs : ¬ foot p vl' vw' bs := fun hf => by have := hfb bs hf; omega
      obtain ⟨V0', hV0⟩ : ∃ V0', V.drew = V0' := ⟨_, rfl⟩
      have S0 : ∀ j, j < V.heap.size → ¬ foot p vl' vw' j → V0'.heap[j]? = V.heap[j]? := fun j _ _ => by rw [← hV0]; rfl
      have hb0 : Below V.heap.size V V0' := by rw [← hV0]; exact (Below.refl _ _).drew
      have hz0 : V0'.heap.size = V.heap.size := by rw [← hV0]; rfl
      have hok := putK_ok HH.out.2.1 hnx1 l h2 k (by omega) (by omega)
      have hla := putK_las d nx l k
      have hwl := putK_wr d nx l k
      have hF := first_any base p (putK d nx l k) vl' vw' nx V0' (hq.dev.below hb0) (by rw [hla]; exact h2) (by rw [hla]; exact h3) hnx1
      rw [hla] at hF
      unfold hv at hF
      obtain ⟨ha, hha⟩ : ∃ ha, (d.las.length - 2) / 2 = ha := ⟨_, rfl⟩
      obtain ⟨fi, hfi⟩ : ∃ fi, 2 + nx * ha = fi := ⟨_, rfl⟩
      have hfl : fi + k < d.las.length := by
        rw [← hfi]
        rcases (show nx = 0 ∨ nx = 1 by omega) with e | e <;> rw [e] <;> omega
      rw [hha, hfi] at hF
      have hWr := fun (V1 : World) (hV1 : Below V.heap.size V V1) => write_any base p (putK d nx l k) vl' vw' (fi + k) (secOf l k) V1 (hq.dev.below hV1) hok (by have := hq.fr.below.size; have := hV1.size; omega) (by rw [hla]; exact hfl) (secOf_len l k) (by omega)
      refine region_roundR (S := fun w0 => ∀ j, j < V.heap.size → ¬ foot p vl' vw' j → w0.heap[j]? = V.heap[j]?) (fun _ W' => ∃ vl2 vw2, PutI base p vl vw (putK d nx l (k + 1)) (.pointer (some ⟨p, 0, none⟩)) (.int .i64 sl) (.int .i64 wri) (.int .i64 nx) 79 77 3 3 [.int .u64 tn.toNat, vb] w W' vl2 vw2 ∧ (∀ j, foot p vl2 vw2 j → foot p vl' vw' j ∨ V.heap.size ≤ j) ∧ Below base V W' ∧ (∀ j, j < V.heap.size → ¬ foot p vl' vw' j → W'.heap[j]? = V.heap[j]?)) (by kernel_rfl) (by kernel_rfl) ?rg ?hq
      case rg =>
        rw [hV0]
        refine anyH_take (i := 0) (v := .pointer (some ⟨w.heap.size, 0, none⟩)) rfl (some 21) rfl (by kernel_rfl) (by kernel_rfl) (by kernel_rfl) (fun _ _ _ h => by cases h.1) rfl (fun w0 hw0 => by first | rfl | kernel_rfl) S0 ?_
        simp only [Act.put, List.setIfInBounds_toArray, List.set_cons_zero, List.set_cons_succ]
        refine anyH_take (i := 1) (v := .pointer (some ⟨p, 0, none⟩)) rfl (some 22) rfl (by kernel_rfl) (by kernel_rfl) (by kernel_rfl) (fun _ _ _ h => by cases h.1) rfl (fun w0 hw0 => ex_load rfl rfl (run_load_cell Try.underlying49 rfl ((cellP hw0 (by omega) (nb _ (by omega) (by omega))).trans (cell1 hq.b0).1))) S0 ?_
        simp only [Act.put, List.setIfInBounds_toArray, List.set_cons_zero, List.set_cons_succ]
        refine anyH_take (i := 2) (v := .agg #[.pointer (some ⟨p, 0, none⟩)]) rfl (some 23) rfl (by kernel_rfl) (by kernel_rfl) (by kernel_rfl) (fun _ _ _ h => by cases h.1) rfl (fun w0 hw0 => ex_load rfl rfl (run_load_row infoH Try.underlying79 rfl rfl ((hw0 _ (by omega) (nb _ (by omega) (by omega))).trans hq.b0))) S0 ?_
        simp only [Act.put, List.setIfInBounds_toArray, List.set_cons_zero, List.set_cons_succ]
        refine anyH_take (i := 3) (v := .int .i64 nx) rfl (some 24) rfl (by kernel_rfl) (by kernel_rfl) (by kernel_rfl) (fun _ _ _ h => by cases h.1) rfl (fun w0 hw0 => ex_load rfl rfl (run_load_cell Try.underlying3 rfl ((cellP hw0 (by omega) (nb _ (by omega) (by omega))).trans (cell1 hq.b3).1))) S0 ?_
        simp only [Act.put, List.setIfInBounds_toArray, List.set_cons_zero, List.set_cons_succ]
        refine anyH_take (i := 5) (v := .int .i64 k) rfl (some 26) rfl (by kernel_rfl) (by kernel_rfl) (by kernel_rfl) (fun _ _ _ h => by cases h.1) rfl (fun w0 hw0 => by first | rfl | kernel_rfl) S0 ?_
        simp only [Act.put, List.setIfInBounds_toArray, List.set_cons_zero, List.set_cons_succ]
        refine anyH_take (i := 7) (v := .agg (secA (secOf l k))) rfl (some 28) rfl (by kernel_rfl) (by kernel_rfl) (by kernel_rfl) (fun _ _ _ h => by cases h.1) rfl (fun w0 hw0 => ex_load rfl rfl (run_load_row infoSecD undSecD rfl ((secA_size _).trans (secOf_len l k)) ((hw0 _ hbV nbs).trans hbs))) S0 ?_
        simp only [Act.put, List.setIfInBounds_toArray, List.set_cons_zero, List.set_cons_succ]
        refine anyH_one (i := 4) (by kernel_rfl) ?_
        refine op_call rfl (some 25) rfl rfl #[.agg #[.pointer (some ⟨p, 0, none⟩)], .int .i64 nx] rfl (by simp [Act.eval]) (fun _ _ => rfl) hF ?_
        rintro e V1 ⟨rfl, hb1⟩
        have hb01 : Below V.heap.size V V1 := hb0.trans (by rw [hz0] at hb1; exact hb1)
        have S1 : ∀ j, j < V.heap.size → ¬ foot p vl' vw' j → V1.heap[j]? = V.heap[j]? := fun j hj _ => hb01.block j hj
        refine ⟨_, rfl, S1, ?_⟩
        simp only [Act.put, List.setIfInBounds_toArray, List.set_cons_zero, List.set_cons_succ]
        refine anyH_val (i := 6) (v := .int .i64 ((fi + k : Nat))) (by kernel_rfl) rfl (some 27) rfl rfl (ex_addN rfl rfl rfl (by omega)) S1 ?_
        simp only [Act.put, List.setIfInBounds_toArray, List.set_cons_zero, List.set_cons_succ]
        refine anyH_one (i := 8) (by kernel_rfl) ?_
        refine op_call rfl (some 29) rfl rfl #[.pointer (some ⟨p, 0, none⟩), .int .i64 ((fi + k : Nat)), .agg (secA (secOf l k))] rfl (by simp [Act.eval]) (fun _ _ => rfl) (hWr V1 hb01) ?_
        rintro e V2 ⟨rfl, ht⟩
        obtain ⟨vl2, vw2, g1, g2, g3, g4⟩ := hq.wrote hb01 (by have := hq.fr.below.size; omega) ht
        refine ⟨_, rfl, g4, ?_⟩
        refine wpAnyH_done (by kernel_rfl) ⟨rfl, vl2, vw2, ?_, g2, g3, g4⟩ _
        rw [← hfi, ← hha] at g1
        exact g1
      case hq =>
        rintro a W' ⟨vl2, vw2, g1, g2, g3, g4⟩
        refine ⟨⟨g3.size, fun j o hj ho hc => ?_⟩, fun j hj => ?_, fun j hj => ?_, g3, ⟨by omega, i1, vl2, vw2, g1, fun j hj hMj => ?_⟩⟩
        · refine (g4 j (hp_lt ho) (fun hf => ?_)).trans ho
          obtain ⟨cs, T, hcs⟩ := foot_cells hq.dev hf
          rw [hcs] at ho
          cases ho
          cases hc
        · obtain ⟨_, _, o, ho, _⟩ := hM j hj
          exact g4 j (hp_lt ho) (fun hf => i3 j hf hj)
        · obtain ⟨hne, o, ho⟩ := hj
          have := HH.out.2.2.2.2.2 j o hne ho
          refine g4 j (by omega) (fun hf => ?_)
          rcases hq.new j hf with h | h
          · exact this.2 h
          · omega
        · rcases g2 j hj with h | h
          · exact i3 j h hMj
          · obtain ⟨_, _, o, ho, _⟩ := hM j hMj
            have := hp_lt ho
            omega
  case done =>
    rintro D M V hD ⟨i0, i1, vl', vw', q, i3⟩ hdd
    obtain ⟨c2, _⟩ := cell1 q.b2
    have HC := hide fun (V : World) => count_any ln V (by omega)
    obtain ⟨cn, hcn⟩ : ∃ cn, (ln + 63) / 64 = cn := ⟨_, rfl⟩
    rw [hcn] at HC i0 q
    by_cases hwc : wri ≤ (cn : Int)
    · have hpt : putT d nx tn l wri = putK d nx l cn := by
        unfold putT
        rw [hln, hcn, if_pos hwc]
        by_cases hw0 : wri < 0
        · rw [if_pos hw0]
        · rw [if_neg hw0, show wri.toNat = cn by omega]
      have HQ := hide (And.intro q hpt)
      have HD := hide hdd
      clear q hdd i0 i1 i3 hpt
      gi_wp2_with fail
      refine region_cut ({ tmps := #[.agg #[.pointer (some ⟨p, 0, none⟩)], .agg #[.int .i64 sl, .int .u64 tn.toNat, vb], .slice ba ln cap, .int .i64 wri, .pointer (some ⟨w.heap.size, 0, none⟩), .pointer (some ⟨w.heap.size + 1, 0, none⟩), undef, .pointer (some ⟨w.heap.size + 2, 0, none⟩), .pointer (some ⟨w.heap.size + 3, 0, none⟩), undef, undef, .pointer (some ⟨w.heap.size + 1, 0, none⟩), .int .i64 sl, .int .i64 nx, .slice ba ln cap, .func (.func 76) #[] #[.pointer (some ⟨w.heap.size + 4, 0, none⟩)], undef, undef, undef, undef, undef, undef, undef, undef, undef, undef, undef, undef, undef, undef, .int .i64 wri, .slice ba ln cap, .int .i64 ln, .int .i64 cn, .bool true, undef, undef, undef, undef, undef, undef, undef, undef, undef, undef, undef, undef, undef, undef, undef, undef, undef], defers := [{ target := .collected D, args := #[] }] } : Act) V.drew ?regA ?behA
      case regA =>
        refine region_rel (S := fun W => W.heap[w.heap.size + 2]? = V.heap[w.heap.size + 2]?) (fun a W => a = ({ tmps := #[.agg #[.pointer (some ⟨p, 0, none⟩)], .agg #[.int .i64 sl, .int .u64 tn.toNat, vb], .slice ba ln cap, .int .i64 wri, .pointer (some ⟨w.heap.size, 0, none⟩), .pointer (some ⟨w.heap.size + 1, 0, none⟩), undef, .pointer (some ⟨w.heap.size + 2, 0, none⟩), .pointer (some ⟨w.heap.size + 3, 0, none⟩), undef, undef, .pointer (some ⟨w.heap.size + 1, 0, none⟩), .int .i64 sl, .int .i64 nx, .slice ba ln cap, .func (.func 76) #[] #[.pointer (some ⟨w.heap.size + 4, 0, none⟩)], undef, undef, undef, undef, undef, undef, undef, undef, undef, undef, undef, undef, undef, undef, .int .i64 wri, .slice ba ln cap, .int .i64 ln, .int .i64 cn, .bool true, undef, undef, undef, undef, undef, undef, undef, undef, undef, undef, undef, undef, undef, undef, undef, undef, undef], defers := [{ target := .collected D, args := #[] }] } : Act) ∧ W = V.drew) (by kernel_rfl) ?rgA (fun a W h => ⟨rfl, h.1, h.2⟩)
        have S0 : V.drew.heap[w.heap.size + 2]? = V.heap[w.heap.size + 2]? := rfl
        refine anyH_take (i := 0) (v := .int .i64 wri) rfl (some 30) rfl (by kernel_rfl) (by kernel_rfl) (by kernel_rfl) (fun _ _ _ h => by cases h.1) rfl (fun w0 hw0 => ex_load rfl rfl (run_load_cell Try.underlying3 rfl (by rw [← c2]; simp [World.cell?, hw0]))) S0 ?_
        simp only [Act.put, List.setIfInBounds_toArray, List.set_cons_zero, List.set_cons_succ]
        refine anyH_take (i := 1) (v := .slice ba ln cap) rfl (some 31) rfl (by kernel_rfl) (by kernel_rfl) (by kernel_rfl) (fun _ _ _ h => by cases h.1) rfl (fun w0 hw0 => by first | rfl | kernel_rfl) S0 ?_
        simp only [Act.put, List.setIfInBounds_toArray, List.set_cons_zero, List.set_cons_succ]
        refine anyH_take (i := 2) (v := .int .i64 ln) rfl (some 32) rfl (by kernel_rfl) (by kernel_rfl) (by kernel_rfl) (fun _ _ _ h => by cases h.1) rfl (fun w0 hw0 => ex_lenB rfl rfl) S0 ?_
        simp only [Act.put, List.setIfInBounds_toArray, List.set_cons_zero, List.set_cons_succ]
        refine anyH_one (i := 3) (by kernel_rfl) ?_
        refine op_call rfl (some 33) rfl rfl #[.int .i64 ln] rfl (by simp [Act.eval]) (fun _ _ => rfl) (HC.out V.drew) ?_
        rintro e V1 ⟨he, hV1⟩
        rw [hV1]
        refine ⟨_, he, S0, ?_⟩
        clear he
        simp only [Act.put, List.setIfInBounds_toArray, List.set_cons_zero, List.set_cons_succ]
        refine anyH_val (i := 4) (by kernel_rfl) rfl (some 34) rfl rfl (ex_leqT rfl rfl rfl hwc) S0 ?_
        simp only [Act.put, List.setIfInBounds_toArray, List.set_cons_zero, List.set_cons_succ]
        exact wpAnyH_done (by kernel_rfl) ⟨rfl, rfl, rfl⟩ _
      case behA =>
        have hdr : V.drew.heap[D]? = some (.deferred (some [])) := HD.out
        gi_wp2_with fail
        refine ⟨by simp, .inl ⟨_, _, rfl, run_takeDeferred hdr, ?_⟩⟩
        refine ⟨_, results_none rfl _ _ _, ⟨_, rfl⟩, ?_⟩
        rw [HQ.out.2]
        exact HQ.out.1.drew.fin (by omega) hdr _
    · have hpt : putT d nx tn l wri = dvWrite (settled (putK d nx l cn) fun _ => true) nx (rootS (tn + 1#64) (BitVec.ofNat 32 ln) (crcL l)) := by
        unfold putT
        rw [hln, hcn, if_neg hwc]
      have hq0 := q.drew
      have hbV : base ≤ V.drew.heap.size := by have := hq0.big; omega
      have hok := putK_ok HH.out.2.1 hnx1 l h2 cn (by omega) (by omega)
      have hSy := sync_any base p (putK d nx l cn) vl' vw' V.drew hq0.dev hok hbV
      have c0 : V.drew.cell? ⟨w.heap.size, 0, none⟩ = some (.pointer (some ⟨p, 0, none⟩)) := (cell1 hq0.b0).1
      have HS := hide hSy
      have HQ := hide (And.intro hq0 (And.intro hpt (And.intro hbV (settled_ok hok fun _ => true))))
      have HD := hide hdd
      clear q hq0 hdd i0 i1 i3 hpt hSy hbV hok
      gi_wp2_with fail
      refine region_cut ({ tmps := #[.agg #[.pointer (some ⟨p, 0, none⟩)], .agg #[.int .i64 sl, .int .u64 tn.toNat, vb], .slice ba ln cap, .int .i64 wri, .pointer (some ⟨w.heap.size, 0, none⟩), .pointer (some ⟨w.heap.size + 1, 0, none⟩), undef, .pointer (some ⟨w.heap.size + 2, 0, none⟩), .pointer (some ⟨w.heap.size + 3, 0, none⟩), undef, undef, .pointer (some ⟨w.heap.size + 1, 0, none⟩), .int .i64 sl, .int .i64 nx, .slice ba ln cap, .func (.func 76) #[] #[.pointer (some ⟨w.heap.size + 4, 0, none⟩)], undef, undef, undef, undef, undef, undef, undef, undef, undef, undef, undef, undef, undef, undef, .int .i64 wri, .slice ba ln cap, .int .i64 ln, .int .i64 cn, .bool false, undef, undef, undef, undef, undef, undef, undef, undef, undef, undef, undef, undef, undef, undef, undef, undef, undef], defers := [{ target := .collected D, args := #[] }] } : Act) V.drew ?regB ?behB
      case regB =>
        refine region_rel (S := fun W => W.heap[w.heap.size + 2]? = V.heap[w.heap.size + 2]?) (fun a W => a = ({ tmps := #[.agg #[.pointer (some ⟨p, 0, none⟩)], .agg #[.int .i64 sl, .int .u64 tn.toNat, vb], .slice ba ln cap, .int .i64 wri, .pointer (some ⟨w.heap.size, 0, none⟩), .pointer (some ⟨w.heap.size + 1, 0, none⟩), undef, .pointer (some ⟨w.heap.size + 2, 0, none⟩), .pointer (some ⟨w.heap.size + 3, 0, none⟩), undef, undef, .pointer (some ⟨w.heap.size + 1, 0, none⟩), .int .i64 sl, .int .i64 nx, .slice ba ln cap, .func (.func 76) #[] #[.pointer (some ⟨w.heap.size + 4, 0, none⟩)], undef, undef, undef, undef, undef, undef, undef, undef, undef, undef, undef, undef, undef, undef, .int .i64 wri, .slice ba ln cap, .int .i64 ln, .int .i64 cn, .bool false, undef, undef, undef, undef, undef, undef, undef, undef, undef, undef, undef, undef, undef, undef, undef, undef, undef], defers := [{ target := .collected D, args := #[] }] } : Act) ∧ W = V.drew) (by kernel_rfl) ?rgB (fun a W h => ⟨rfl, h.1, h.2⟩)
        have S0 : V.drew.heap[w.heap.size + 2]? = V.heap[w.heap.size + 2]? := rfl
        refine anyH_take (i := 0) (v := .int .i64 wri) rfl (some 30) rfl (by kernel_rfl) (by kernel_rfl) (by kernel_rfl) (fun _ _ _ h => by cases h.1) rfl (fun w0 hw0 => ex_load rfl rfl (run_load_cell Try.underlying3 rfl (by rw [← c2]; simp [World.cell?, hw0]))) S0 ?_
        simp only [Act.put, List.setIfInBounds_toArray, List.set_cons_zero, List.set_cons_succ]
        refine anyH_take (i := 1) (v := .slice ba ln cap) rfl (some 31) rfl (by kernel_rfl) (by kernel_rfl) (by kernel_rfl) (fun _ _ _ h => by cases h.1) rfl (fun w0 hw0 => by first | rfl | kernel_rfl) S0 ?_
        simp only [Act.put, List.setIfInBounds_toArray, List.set_cons_zero, List.set_cons_succ]
        refine anyH_take (i := 2) (v := .int .i64 ln) rfl (some 32) rfl (by kernel_rfl) (by kernel_rfl) (by kernel_rfl) (fun _ _ _ h => by cases h.1) rfl (fun w0 hw0 => ex_lenB rfl rfl) S0 ?_
        simp only [Act.put, List.setIfInBounds_toArray, List.set_cons_zero, List.set_cons_succ]
        refine anyH_one (i := 3) (by kernel_rfl) ?_
        refine op_call rfl (some 33) rfl rfl #[.int .i64 ln] rfl (by simp [Act.eval]) (fun _ _ => rfl) (HC.out V.drew) ?_
        rintro e V1 ⟨he, hV1⟩
        rw [hV1]
        refine ⟨_, he, S0, ?_⟩
        clear he
        simp only [Act.put, List.setIfInBounds_toArray, List.set_cons_zero, List.set_cons_succ]
        refine anyH_val (i := 4) (by kernel_rfl) rfl (some 34) rfl rfl (ex_leqF rfl rfl rfl (by omega)) S0 ?_
        simp only [Act.put, List.setIfInBounds_toArray, List.set_cons_zero, List.set_cons_succ]
        exact wpAnyH_done (by kernel_rfl) ⟨rfl, rfl, rfl⟩ _
      case behB =>
        gi_wp2_with (first | (refine ⟨trivial, (callsIn_wide.2 HS.out).mono ?_⟩; rintro e V8 ⟨rfl, ht⟩; have HT := hide ht; clear ht))
        obtain ⟨hq0, hpt, hbV, hok⟩ := HQ.out
        obtain ⟨vl2, vw2, q8, g2, g3, g4⟩ := hq0.wrote (Below.refl _ _) hbV HT.out
        have hd8 : V8.heap[D]? = some (.deferred (some [])) := (g4 D (hp_lt HD.out) (fun hf => by
          obtain ⟨cs, T, hcs⟩ := foot_cells hq0.dev hf
          have := hcs.symm.trans HD.out
          cases this)).trans HD.out
        have nb : ∀ j, w.heap.size ≤ j → j < w.heap.size + 4 → ¬ foot p vl2 vw2 j := fun j h1 h2 hf => by have := q8.far j hf; omega
        have hbig := q8.big
        obtain ⟨V9, hV9⟩ : ∃ V9, V8.drew = V9 := ⟨_, rfl⟩
        have q9 := q8.drew
        rw [hV9] at q9
        have S0 : ∀ j, j < V8.heap.size → ¬ foot p vl2 vw2 j → V9.heap[j]? = V8.heap[j]? := fun j _ _ => by rw [← hV9]; rfl
        have hz9 : V9.heap.size = V8.heap.size := by rw [← hV9]; rfl
        have hBy : ByteMem V9.heap.size V9 ba l := fun j v hj => by
          obtain ⟨b, o, e1, e2, e3⟩ := HH.out.2.2.2.2.1 j v hj
          refine ⟨b, o, e1, by omega, ?_⟩
          rw [← e3]
          simp [World.cell?, q9.fr.same b e2 (HH.out.2.2.2.2.2 b o (fun e => by rw [e] at hj; cases hj) e1).2]
        have hSu := sum_any ba cap l V9 (by omega) hBy
        rw [hln] at hSu
        have hlas : (settled (putK d nx l cn) fun _ => true).las.length = d.las.length := by
          show (landAt _ _ _).length = _
          rw [landAt_len, putK_las]
        have hWr := fun (V1 : World) (hV1 : Below V9.heap.size V9 V1) => write_any base p (settled (putK d nx l cn) fun _ => true) vl2 vw2 nx (rootS (tn + 1#64) (BitVec.ofNat 32 ln) (crcL l)) V1 (q9.dev.below hV1) hok (by have := hV1.size; omega) (by rw [hlas]; omega) (root_lens _ _ _).2.2.2 (by show 0 < 1000000; omega)
        obtain ⟨e0, e1, _⟩ := cells3h q8.b1
        refine wpIn_wide.2 (region_rel (S := fun w0 => ∀ j, j < V8.heap.size → ¬ foot p vl2 vw2 j → w0.heap[j]? = V8.heap[j]?) (fun a W' => a.defers = [{ target := .collected D, args := #[] }] ∧ (∃ vl3 vw3, PutI base p vl vw (putT d nx tn l wri) (.pointer (some ⟨p, 0, none⟩)) (.int .i64 sl) (.int .i64 wri) (.int .i64 nx) 79 77 3 3 [.int .u64 tn.toNat, vb] w W' vl3 vw3) ∧ W'.heap[D]? = some (.deferred (some []))) (by kernel_rfl) ?rg9 ?beh9)
        case rg9 =>
          rw [hV9]
          refine anyH_take (i := 0) (v := .pointer (some ⟨w.heap.size, 0, none⟩)) rfl (some 38) rfl (by kernel_rfl) (by kernel_rfl) (by kernel_rfl) (fun _ _ _ h => by cases h.1) rfl (fun w0 hw0 => by first | rfl | kernel_rfl) S0 ?_
          simp only [Act.put, List.setIfInBounds_toArray, List.set_cons_zero, List.set_cons_succ]
          refine anyH_take (i := 1) (v := .pointer (some ⟨p, 0, none⟩)) rfl (some 39) rfl (by kernel_rfl) (by kernel_rfl) (by kernel_rfl) (fun _ _ _ h => by cases h.1) rfl (fun w0 hw0 => ex_load rfl rfl (run_load_cell Try.underlying49 rfl ((cellP hw0 (by omega) (nb _ (by omega) (by omega))).trans (cell1 q8.b0).1))) S0 ?_
          simp only [Act.put, List.setIfInBounds_toArray, List.set_cons_zero, List.set_cons_succ]
          refine anyH_take (i := 2) (v := .int .i64 nx) rfl (some 40) rfl (by kernel_rfl) (by kernel_rfl) (by kernel_rfl) (fun _ _ _ h => by cases h.1) rfl (fun w0 hw0 => ex_load rfl rfl (run_load_cell Try.underlying3 rfl ((cellP hw0 (by omega) (nb _ (by omega) (by omega))).trans (cell1 q8.b3).1))) S0 ?_
          simp only [Act.put, List.setIfInBounds_toArray, List.set_cons_zero, List.set_cons_succ]
          refine anyH_take (i := 3) (v := .pointer (some ⟨w.heap.size + 1, 1, none⟩)) rfl (some 41) rfl (by kernel_rfl) (by kernel_rfl) (by kernel_rfl) (fun _ _ _ h => by cases h.1) rfl (fun w0 hw0 => by first | rfl | kernel_rfl) S0 ?_
          simp only [Act.put, List.setIfInBounds_toArray, List.set_cons_zero, List.set_cons_succ]
          refine anyH_take (i := 4) (v := .int .u64 tn.toNat) rfl (some 42) rfl (by kernel_rfl) (by kernel_rfl) (by kernel_rfl) (fun _ _ _ h => by cases h.1) rfl (fun w0 hw0 => ex_load rfl rfl (run_load_cell Try.underlying36 rfl ((cellP hw0 (by omega) (nb _ (by omega) (by omega))).trans e1))) S0 ?_
          simp only [Act.put, List.setIfInBounds_toArray, List.set_cons_zero, List.set_cons_succ]
          refine anyH_take (i := 5) (v := .int .u64 (tn + 1#64).toNat) rfl (some 43) rfl (by kernel_rfl) (by kernel_rfl) (by kernel_rfl) (fun _ _ _ h => by cases h.1) rfl (fun w0 hw0 => ex_incU rfl rfl) S0 ?_
          simp only [Act.put, List.setIfInBounds_toArray, List.set_cons_zero, List.set_cons_succ]
          refine anyH_take (i := 6) (v := .slice ba ln cap) rfl (some 44) rfl (by kernel_rfl) (by kernel_rfl) (by kernel_rfl) (fun _ _ _ h => by cases h.1) rfl (fun w0 hw0 => by first | rfl | kernel_rfl) S0 ?_
          simp only [Act.put, List.setIfInBounds_toArray, List.set_cons_zero, List.set_cons_succ]
          refine anyH_take (i := 7) (v := .int .i64 ln) rfl (some 45) rfl (by kernel_rfl) (by kernel_rfl) (by kernel_rfl) (fun _ _ _ h => by cases h.1) rfl (fun w0 hw0 => ex_lenB rfl rfl) S0 ?_
          simp only [Act.put, List.setIfInBounds_toArray, List.set_cons_zero, List.set_cons_succ]
          refine anyH_take (i := 8) (v := .int .u32 (BitVec.ofNat 32 ln).toNat) rfl (some 46) rfl (by kernel_rfl) (by kernel_rfl) (by kernel_rfl) (fun _ _ _ h => by cases h.1) rfl (fun w0 hw0 => ex_i2w rfl rfl) S0 ?_
          simp only [Act.put, List.setIfInBounds_toArray, List.set_cons_zero, List.set_cons_succ]
          refine anyH_take (i := 9) (v := .slice ba ln cap) rfl (some 47) rfl (by kernel_rfl) (by kernel_rfl) (by kernel_rfl) (fun _ _ _ h => by cases h.1) rfl (fun w0 hw0 => by first | rfl | kernel_rfl) S0 ?_
          simp only [Act.put, List.setIfInBounds_toArray, List.set_cons_zero, List.set_cons_succ]
          refine anyH_one (i := 10) (by kernel_rfl) ?_
          refine op_call rfl (some 48) rfl rfl #[.slice ba ln cap] rfl (by simp [Act.eval]) (fun _ _ => rfl) hSu ?_
          rintro e V1 ⟨he, hV1⟩
          rw [hV1]
          refine ⟨_, he, S0, ?_⟩
          clear he
          rw [show ~~~ sumL l (BitVec.allOnes 32) = crcL l from rfl]
          simp only [Act.put, List.setIfInBounds_toArray, List.set_cons_zero, List.set_cons_succ]
          refine anyH_val (i := 11) (v := .agg #[.int .u64 (tn + 1#64).toNat, .int .u32 (BitVec.ofNat 32 ln).toNat, .int .u32 (crcL l).toNat]) (by kernel_rfl) rfl (some 49) rfl rfl (ex_build3 rfl (us := #[(0, .int .u64 (tn + 1#64).toNat), (1, .int .u32 (BitVec.ofNat 32 ln).toNat), (2, .int .u32 (crcL l).toNat)]) (by simp [Act.eval]) (run_build3 _ _ _ V9)) S0 ?_
          simp only [Act.put, List.setIfInBounds_toArray, List.set_cons_zero, List.set_cons_succ]
          refine anyH_one (i := 12) (by kernel_rfl) ?_
          refine op_call rfl (some 50) rfl rfl #[.agg #[.int .u64 (tn + 1#64).toNat, .int .u32 (BitVec.ofNat 32 ln).toNat, .int .u32 (crcL l).toNat]] rfl (by simp [Act.eval]) (fun _ _ => rfl) (sector_root (tn + 1#64) (BitVec.ofNat 32 ln) (crcL l) V9) ?_
          rintro e V2 ⟨rfl, hb2⟩
          have S2 : ∀ j, j < V8.heap.size → ¬ foot p vl2 vw2 j → V2.heap[j]? = V8.heap[j]? := fun j hj hn => (hb2.block j (by omega)).trans (S0 j hj hn)
          refine ⟨_, rfl, S2, ?_⟩
          simp only [Act.put, List.setIfInBounds_toArray, List.set_cons_zero, List.set_cons_succ]
          refine anyH_one (i := 13) (by kernel_rfl) ?_
          refine op_call rfl (some 51) rfl rfl #[.pointer (some ⟨p, 0, none⟩), .int .i64 nx, .agg (secA (rootS (tn + 1#64) (BitVec.ofNat 32 ln) (crcL l)))] rfl (by simp [Act.eval]) (fun _ _ => rfl) (hWr V2 hb2) ?_
          rintro e V3 ⟨rfl, ht⟩
          obtain ⟨vl3, vw3, k1, k2, k3, k4⟩ := q9.wrote hb2 (by omega) ht
          have S3 : ∀ j, j < V8.heap.size → ¬ foot p vl2 vw2 j → V3.heap[j]? = V8.heap[j]? := fun j hj hn => (k4 j (by omega) hn).trans (S0 j hj hn)
          refine ⟨_, rfl, S3, ?_⟩
          refine wpAnyH_done (by kernel_rfl) ⟨rfl, rfl, ⟨vl3, vw3, ?_⟩, (S3 D (hp_lt hd8) (fun hf => ?_)).trans hd8⟩ _
          · rw [hpt]
            exact k1
          · obtain ⟨cs, T, hcs⟩ := foot_cells q8.dev hf
            have := hcs.symm.trans hd8
            cases this
        case beh9 =>
          rintro ⟨tmps, defers⟩ W' ⟨hdf, ⟨vl3, vw3, k1⟩, k2⟩
          dsimp only at hdf
          subst hdf
          refine ⟨by simp, .inl ⟨_, _, rfl, run_takeDeferred k2, ?_⟩⟩
          refine ⟨_, results_none rfl _ _ _, ⟨_, rfl⟩, ?_⟩
          exact k1.fin (by omega) k2 _
  case stop =>
    rintro D k V hD hk ⟨i, vl', vw', rfl, hwi, q⟩ hdd
    obtain ⟨c2, _⟩ := cell1 q.b2
    have HC := hide fun (V : World) => count_any ln V (by omega)
    obtain ⟨cn, hcn⟩ : ∃ cn, (ln + 63) / 64 = cn := ⟨_, rfl⟩
    rw [hcn] at HC hk
    have hwc : wri ≤ (cn : Int) := by omega
    have hpt : putT d nx tn l wri = putK d nx l i := by
      unfold putT
      rw [hln, hcn, if_pos hwc, if_neg (by omega), hwi]
      rfl
    have HQ := hide (And.intro q hpt)
    have HD := hide hdd
    have HWI := hide hwi
    clear q hdd hpt hwi
    gi_wp2_with fail
    refine region_cut ({ tmps := #[.agg #[.pointer (some ⟨p, 0, none⟩)], .agg #[.int .i64 sl, .int .u64 tn.toNat, vb], .slice ba ln cap, .int .i64 wri, .pointer (some ⟨w.heap.size, 0, none⟩), .pointer (some ⟨w.heap.size + 1, 0, none⟩), undef, .pointer (some ⟨w.heap.size + 2, 0, none⟩), .pointer (some ⟨w.heap.size + 3, 0, none⟩), undef, undef, .pointer (some ⟨w.heap.size + 1, 0, none⟩), .int .i64 sl, .int .i64 nx, .slice ba ln cap, .func (.func 76) #[] #[.pointer (some ⟨w.heap.size + 4, 0, none⟩)], undef, undef, undef, undef, undef, undef, undef, undef, undef, undef, undef, undef, undef, undef, .int .i64 wri, .slice ba ln cap, .int .i64 ln, .int .i64 cn, .bool true, undef, undef, undef, undef, undef, undef, undef, undef, undef, undef, undef, undef, undef, undef, undef, undef, undef], defers := [{ target := .collected D, args := #[] }] } : Act) V.drew ?regC ?behC
    case regC =>
      refine region_rel (S := fun W => W.heap[w.heap.size + 2]? = V.heap[w.heap.size + 2]?) (fun a W => a = ({ tmps := #[.agg #[.pointer (some ⟨p, 0, none⟩)], .agg #[.int .i64 sl, .int .u64 tn.toNat, vb], .slice ba ln cap, .int .i64 wri, .pointer (some ⟨w.heap.size, 0, none⟩), .pointer (some ⟨w.heap.size + 1, 0, none⟩), undef, .pointer (some ⟨w.heap.size + 2, 0, none⟩), .pointer (some ⟨w.heap.size + 3, 0, none⟩), undef, undef, .pointer (some ⟨w.heap.size + 1, 0, none⟩), .int .i64 sl, .int .i64 nx, .slice ba ln cap, .func (.func 76) #[] #[.pointer (some ⟨w.heap.size + 4, 0, none⟩)], undef, undef, undef, undef, undef, undef, undef, undef, undef, undef, undef, undef, undef, undef, .int .i64 wri, .slice ba ln cap, .int .i64 ln, .int .i64 cn, .bool true, undef, undef, undef, undef, undef, undef, undef, undef, undef, undef, undef, undef, undef, undef, undef, undef, undef], defers := [{ target := .collected D, args := #[] }] } : Act) ∧ W = V.drew) (by kernel_rfl) ?rgC (fun a W h => ⟨rfl, h.1, h.2⟩)
      have S0 : V.drew.heap[w.heap.size + 2]? = V.heap[w.heap.size + 2]? := rfl
      refine anyH_take (i := 0) (v := .int .i64 wri) rfl (some 30) rfl (by kernel_rfl) (by kernel_rfl) (by kernel_rfl) (fun _ _ _ h => by cases h.1) rfl (fun w0 hw0 => ex_load rfl rfl (run_load_cell Try.underlying3 rfl (by rw [← c2]; simp [World.cell?, hw0]))) S0 ?_
      simp only [Act.put, List.setIfInBounds_toArray, List.set_cons_zero, List.set_cons_succ]
      refine anyH_take (i := 1) (v := .slice ba ln cap) rfl (some 31) rfl (by kernel_rfl) (by kernel_rfl) (by kernel_rfl) (fun _ _ _ h => by cases h.1) rfl (fun w0 hw0 => by first | rfl | kernel_rfl) S0 ?_
      simp only [Act.put, List.setIfInBounds_toArray, List.set_cons_zero, List.set_cons_succ]
      refine anyH_take (i := 2) (v := .int .i64 ln) rfl (some 32) rfl (by kernel_rfl) (by kernel_rfl) (by kernel_rfl) (fun _ _ _ h => by cases h.1) rfl (fun w0 hw0 => ex_lenB rfl rfl) S0 ?_
      simp only [Act.put, List.setIfInBounds_toArray, List.set_cons_zero, List.set_cons_succ]
      refine anyH_one (i := 3) (by kernel_rfl) ?_
      refine op_call rfl (some 33) rfl rfl #[.int .i64 ln] rfl (by simp [Act.eval]) (fun _ _ => rfl) (HC.out V.drew) ?_
      rintro e V1 ⟨he, hV1⟩
      rw [hV1]
      refine ⟨_, he, S0, ?_⟩
      clear he
      simp only [Act.put, List.setIfInBounds_toArray, List.set_cons_zero, List.set_cons_succ]
      refine anyH_val (i := 4) (by kernel_rfl) rfl (some 34) rfl rfl (ex_leqT rfl rfl rfl hwc) S0 ?_
      simp only [Act.put, List.setIfInBounds_toArray, List.set_cons_zero, List.set_cons_succ]
      exact wpAnyH_done (by kernel_rfl) ⟨rfl, rfl, rfl⟩ _
    case behC =>
      have hdr : V.drew.heap[D]? = some (.deferred (some [])) := HD.out
      gi_wp2_with fail
      refine ⟨by simp, .inl ⟨_, _, rfl, run_takeDeferred hdr, ?_⟩⟩
      refine ⟨_, results_none rfl _ _ _, ⟨_, rfl⟩, ?_⟩
      rw [HQ.out.2]
      exact HQ.out.1.drew.fin (by omega) hdr _
end Go.Proofs.Ytfknjmfkkaoggaa
