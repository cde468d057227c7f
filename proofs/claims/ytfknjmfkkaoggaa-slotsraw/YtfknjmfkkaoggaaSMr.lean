/- Slots, plain reasoning: a Save on any device; a Torn behind all its writes. -/
import Derived.Test.YtfknjmfkkaoggaaSC
namespace Go.Proofs.Ytfknjmfkkaoggaa
open Go.RowKit Go.Shelf

/-- A slot that holds is of no younger turn than the one that counts. -/
theorem turn_le {d : Dv} {j : Nat} (hj : j ≤ 1) (h : HoldsS d j) : (rT (readS d j)).toNat ≤ (theL d).turn.toNat := by
  have hs : ∀ k, (best d k).turn.toNat ≤ (best d (k + 1)).turn.toNat := fun k => by
    by_cases c : HoldsS d k ∧ (best d k).turn.toNat < (rT (readS d k)).toNat
    · rw [best_yes c.1 c.2]
      exact Nat.le_of_lt c.2
    · rw [best_no c]
      exact Nat.le_refl _
  have hb : (rT (readS d j)).toNat ≤ (best d (j + 1)).turn.toNat := by
    by_cases c : (best d j).turn.toNat < (rT (readS d j)).toNat
    · rw [best_yes h c]
      exact Nat.le_refl _
    · rw [best_no fun x => c x.2]
      omega
  unfold theL
  rcases (show j = 0 ∨ j = 1 by omega) with rfl | rfl
  · exact Nat.le_trans hb (hs 1)
  · exact hb
theorem settled_wr (d : Dv) (sv : Nat → Bool) : (settled d sv).wr = [] := rfl
theorem settled_las (d : Dv) (sv : Nat → Bool) : (settled d sv).las.length = d.las.length := landAt_len d sv _
theorem putT_las (d : Dv) (n : Nat) (t : V) (b : List UInt8) (wri : Int) : (putT d n t b wri).las.length = d.las.length := by
  unfold putT
  split
  · rw [putK_las]
  · show (settled _ _).las.length = _
    rw [settled_las, putK_las]
theorem save_las (d : Dv) (b : List UInt8) : (saveD d b).las.length = d.las.length := by
  unfold saveD
  rw [settled_las, putT_las]
theorem torn_las (d : Dv) (b : List UInt8) (wri : Int) (sv : List Bool) : (tornD d b wri sv).las.length = d.las.length := by
  unfold tornD
  rw [settled_las, putT_las]
theorem the_slot (d : Dv) : (theL d).slot ≤ 1 := best_slot d 2 (Nat.le_refl _)
/-- What counts behind a Save. -/
theorem the_save {d : Dv} (hd : DvOk d) (h2 : 4 ≤ d.las.length) (hwf : d.wr.length + 5000 ≤ 1000000) {b : List UInt8} (hf : ¬ Full d b.length) : DvOk (saveD d b) ∧ (theL (saveD d b)).bytes = b := by
  have hk := the_slot d
  have hm := hd.most
  unfold Full at hf
  have hb : b.length ≤ (d.las.length - 2) / 2 * 64 := by omega
  have ht : (theL d).turn.toNat < 18446744073709551615 := by
    have := (theL d).turn.isLt
    omega
  have hl := save_las d b
  obtain ⟨k, ek⟩ : ∃ k, (theL d).slot = k := ⟨_, rfl⟩
  obtain ⟨t, et⟩ : ∃ t, (theL d).turn = t := ⟨_, rfl⟩
  have hle : ∀ j, j ≤ 1 → HoldsS d j → (rT (readS d j)).toNat ≤ t.toNat := fun j hj h => et ▸ turn_le hj h
  rw [ek] at hk
  rw [et] at ht
  have ok : DvOk (putT d (1 - k) t b 9223372036854775807) := putT_ok hd (by omega) b h2 hb hwf
  have eS : saveD d b = settled (putT d (1 - k) t b 9223372036854775807) (fun _ => true) := by
    unfold saveD
    rw [ek, et]
  have hok : DvOk (saveD d b) := by
    rw [eS]
    exact settled_ok ok _
  have ok1 : DvOk (putK d (1 - k) b ((b.length + 63) / 64)) := putK_ok hd (by omega) b h2 _ (by omega) (by omega)
  have hr : ∀ i, readS (saveD d b) i = if 1 - k = i then rootS (t + 1#64) (BitVec.ofNat 32 b.length) (crcL b) else readS (putK d (1 - k) b ((b.length + 63) / 64)) i := fun i => by
    rw [eS, readS_sync ok]
    unfold putT
    rw [if_neg (by omega), readS_write, readS_sync ok1]
  have hsec : ∀ n i, secAt (saveD d b) n i = readS (saveD d b) (2 + n * ((d.las.length - 2) / 2) + i) := fun n i => by
    unfold secAt
    rw [hl]
  have hi := inc_nat ht
  have hnz : t + 1#64 ≠ 0#64 := fun e => by
    rw [e] at hi
    have : (0#64 : V).toNat = 0 := rfl
    omega
  obtain ⟨q1, q2, q3⟩ := holds_new (d := saveD d b) (k := 1 - k) (t := t + 1#64) (l := b) hok (by rw [hr, if_pos rfl]) hnz (by omega) (fun i hi => by
    rw [hsec, hr, if_neg (by omega), putK_at _ _ _ _ _ hi])
  have hth := the_new (d := saveD d b) (k := 1 - k) (by omega) q1 (fun h => by
    have hkk : 1 - (1 - k) = k := by omega
    rw [hkk] at h ⊢
    have e1 : readS (saveD d b) k = readS d k := by
      rw [hr, if_neg (by omega), putK_read _ _ _ _ _ fun j hj => by omega]
    have e2 : ∀ i, i < (d.las.length - 2) / 2 → secAt (saveD d b) k i = secAt d k i := fun i hi => by
      rw [hsec, hr, if_neg (by omega), putK_read _ _ _ _ _ fun j hj => off_half hk (by omega) (by omega) (by omega) hi]
      rfl
    have h' := (holds_same (d := saveD d b) (d' := d) hl.symm e1.symm (fun i hi => (e2 i (by omega)).symm) h).1
    have := hle k hk h'
    rw [e1, q2, hi]
    omega)
  rw [hth]
  exact ⟨hok, q3⟩
/-- A Torn behind all its writes, of which the root survives, is a Save. -/
theorem torn_whole (d : Dv) (b : List UInt8) (wri : Int) (sv : List Bool) (hw : ¬ wri ≤ ((b.length + 63) / 64 : Nat)) (hs : svOf sv 0 = true) (hbl : b.length ≤ 1000000) : tornD d b wri sv = saveD d b := by
  have e : putT d (1 - (theL d).slot) (theL d).turn b wri = putT d (1 - (theL d).slot) (theL d).turn b 9223372036854775807 := by
    unfold putT
    rw [if_neg hw, if_neg (by omega)]
  unfold tornD saveD
  rw [e]
  obtain ⟨D, i, s, hD⟩ : ∃ D i s, putT d (1 - (theL d).slot) (theL d).turn b 9223372036854775807 = dvWrite (settled D fun _ => true) i s := by
    unfold putT
    rw [if_neg (by omega)]
    exact ⟨_, _, _, rfl⟩
  rw [hD]
  show Dv.mk (landAt _ _ (0 + 1)) [] = Dv.mk (landAt _ _ (0 + 1)) []
  rw [landAt_succ (x := (i, s)) rfl, landAt_succ (x := (i, s)) rfl, hs]
  rfl
end Go.Proofs.Ytfknjmfkkaoggaa
