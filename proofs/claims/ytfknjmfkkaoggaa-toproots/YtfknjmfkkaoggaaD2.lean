/- The writes that do not last, one by one. -/
import Derived.Test.YtfknjmfkkaoggaaD1
import Derived.Test.YtfknjmfkkaoggaaDL
import Derived.Deep.RegionHeld3
namespace Go.Proofs.Ytfknjmfkkaoggaa
open Go.RowKit Go.Shelf
attribute [local go_sem] Oper.semAt_some

theorem stopHere {p : Prop} (h : Hid p) : p := h
/-- A write's value. -/
def wrV (l : List (Nat × Sec)) (k : Nat) : Value :=
  match l[k]? with
  | none => undef
  | some x => .agg (wrC1 x).toArray

set_option maxRecDepth 100000 in
set_option maxHeartbeats 4000000 in
theorem loose_seq (n n₀ base p : Nat) (d : Dv) (vl vw : Value) (w : World) (h : IsD base p d vl vw w) (hd : DvOk d) (M₀ : Blk) (G : Obj → Prop) (hM : ∀ j, M₀ j → vw.ownBlock = some j ∧ n₀ ≤ j) (hG : ∀ j o, M₀ j → w.heap[j]? = some o → G o) (hlow : ∀ j, vw.ownBlock = some j → j < n₀ ∨ M₀ j) :
    SeqOwn Fence.wide n Try.prog 56 #[.pointer (some ⟨p, 0, none⟩)] #[] (fun k => #[.int .i64 k, wrV d.wr k]) n₀ d.wr.length M₀ G w := fun l J Jx W hW hnw hJ hY h0 => by
  have hDW := h.below hW
  obtain ⟨_, c1, _⟩ := hDW.cells
  have hro : Fence.wide.round = none := rfl
  have hfew := hd.few
  obtain ⟨ga, gc, rfl⟩ := own_shape hDW.wr
  refine callsIn_of_wp Try.func56 rfl trivial ?_ hro
  simp only [Try.ntmps56, List.size_toArray, List.length_cons, List.length_nil, Nat.reduceAdd, Nat.reduceSub, Array.replicate_succ, Array.replicate_zero, List.push_toArray, List.append_toArray, List.nil_append, List.cons_append]
  gi_wp2
  gi_loopw [11] (fun i wr => ∃ k : Nat, k ≤ d.wr.length ∧ i = .int .i64 k ∧ J M₀ k wr ∧ Below n₀ W wr ∧ ∀ j, M₀ j → wr.heap[j]? = W.heap[j]?) (fun i _ => d.wr.length - (intOf i).toNat)
  case atStart => exact ⟨0, Nat.zero_le _, rfl, h0, Below.refl _ _, fun _ _ => rfl⟩
  case round =>
    obtain ⟨k, hk, rfl, hJk, hbw, hsB⟩ := hrel
    by_cases hlt : k < d.wr.length
    · obtain ⟨x, hx⟩ : ∃ x, d.wr[k]? = some x := ⟨d.wr[k], by simp [hlt]⟩
      obtain ⟨g, gc', hv, hgc, hr, _⟩ := hDW.wrAt hd hx
      cases hv
      have hgw : wr.heap[g]? = W.heap[g]? := by
        rcases hlow g rfl with h1 | h1
        · exact hbw.block g h1
        · exact hsB g h1
      have hr1 : wr.rangeAt g (k * 65) (wrC1 x) := fun j v hv => by
        have := hr j v hv
        rw [← this]
        simp [World.cell?, hgw]
      have hx65 := wr_len1 hd x (List.mem_of_getElem? hx)
      have hone : (wrC1 x).toArray.all (·.oneCell') = true := all_oneCell_toArray (fun v hv => by
        simp only [wrC1, List.mem_cons] at hv
        rcases hv with rfl | hv
        · rfl
        · exact one_bytes _ v hv)
      have hrun : (Instr.loadAt 98 (.pointer (some ⟨g, k * 65, none⟩))).run Try.prog wr = .ok (.agg (wrC1 x).toArray) wr := run_loadAt_mid wr g (k * 65) _ _ _ hr1 Try.underlying98 rfl ((info_size infoWrD).trans (by rw [hx65]))
      have hsto := run_store_new (P := Try.prog) infoWrD wr (cs := (wrC1 x).toArray) (c := (wrC1 (0, sec0)).toArray) (by simpa using hx65) (by simp [wrC1, byteCells_len, sec0]) hone
      obtain ⟨W1, hW1⟩ : ∃ W1, wr.alloc (.cells (wrC1 x).toArray 98) = W1 := ⟨_, rfl⟩
      have hlo1 := run_load_row (P := Try.prog) (w := W1) (cs := (wrC1 x).toArray) (g := wr.heap.size) (ty' := 98) infoWrD Try.underlying98 rfl (by simpa using hx65) (by rw [← hW1]; exact World.alloc_heap_new wr _)
      rw [hW1] at hsto
      have hnr : n₀ ≤ wr.heap.size := Nat.le_trans (Nat.le_trans hnw hW.size) hbw.size
      have hB1 : Below wr.heap.size wr W1 := by rw [← hW1]; exact (Below.refl _ wr).alloc (Nat.le_refl _) _
      have hst : wrV d.wr k = .agg (wrC1 x).toArray := by simp [wrV, hx]
      have hMlt : ∀ j, M₀ j → j < wr.heap.size := fun j hj => Nat.lt_of_lt_of_le (own_lt hDW.wr j (hM j hj).1) hbw.size
      have hfin := (hY M₀ k W1 (hJ _ _ _ _ _ hJk (hB1.mono hnr) (fun j hj _ => hB1.block j hj) (fun _ _ h => h)) hlt (fun j hj => ⟨(hM j hj).2, by
        have h1 := (hB1.block j (hMlt j hj)).trans (hsB j hj)
        have h2 := hW.block j (own_lt h.wr j (hM j hj).1)
        have h3 := Array.getElem?_eq_getElem (own_lt h.wr j (hM j hj).1)
        exact ⟨_, h1.trans (h2.trans h3), hG j _ hj h3⟩⟩)).mono (R' := fun e W6 => (e = .returned (.bool true) ∧ J M₀ (k + 1) W6 ∧ Below n₀ W W6 ∧ ∀ j, M₀ j → W6.heap[j]? = W.heap[j]?) ∨ (e = .returned (.bool false) ∧ Jx (k + 1) W6)) (by
        rintro e W6 (⟨rfl, h1, h2, h3⟩ | h)
        · exact .inl ⟨rfl, h1, hbw.trans ((hB1.mono hnr).trans h3), fun j hj => (h2 j hj).trans ((hB1.block j (hMlt j hj)).trans (hsB j hj))⟩
        · exact .inr h)
      obtain ⟨fn, tmps, assign, body, hy, hR⟩ := hfin
      rw [hst] at hy
      have HRUN := hide hrun
      have HSTO := hide hsto
      have HLO := hide hlo1
      have HRR := hide hR
      clear hr hr1 hrun hsto hlo1 hR hY hJk hbw hsB hgw hst hMlt hB1 hnr hone hJ hG hM hlow hDW h h0
      gi_wp2_with (first | (refine i_load _ HRUN.out rfl rfl rfl ?_) | (refine i_alloc _ infoWrD rfl rfl ?_) | (refine i_store _ HSTO.out rfl rfl rfl rfl ?_) | (refine i_load _ HLO.out rfl rfl rfl ?_))
      refine ⟨fun h => by simp [Fence.wide] at h, HRR.out.mono ?_⟩
      rintro e W6 (⟨rfl, j1, j2, j3⟩ | ⟨rfl, j1⟩)
      · gi_wp2_with fail
        go_roundw
        case rel => exact ⟨k + 1, by omega, by simp, j1, j2, j3⟩
        case measure => simp [intOf]; omega
      · gi_wp2_with fail
        refine bodyPost_ret (results_none rfl _ _ _) rfl ?_
        exact ⟨⟨_, rfl⟩, .inr ⟨_, by omega, j1⟩⟩
    · obtain rfl : k = d.wr.length := by omega
      clear hY hJ
      gi_wp2_with fail
      go_end0
      exact ⟨⟨_, rfl⟩, .inl ⟨_, hJk⟩⟩
end Go.Proofs.Ytfknjmfkkaoggaa
