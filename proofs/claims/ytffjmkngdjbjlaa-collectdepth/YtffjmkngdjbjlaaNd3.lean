/- Where the first node of each name stands. -/
import Derived.Test.YtffjmkngdjbjlaaNd2
namespace Go.Proofs.Ytffjmkngdjbjlaa
open Go.RowKit Go.MapKept
open Go.ChangeMaps (setBlock)

def plAdd (l : List En) (n : Nd) (i : Nat) : List En := if getE l n.name = none ∧ n.name.size ≠ 0 then l ++ [⟨n.name, i, l.length⟩] else l
def plTo (ns : List Nd) : Nat → List En
  | 0 => []
  | k + 1 => match ns[k]? with
    | some n => plAdd (plTo ns k) n k
    | none => plTo ns k
theorem getE_none {l : List En} {k : ByteArray} (h : getE l k = none) : ∀ x ∈ l, x.k ≠ k := by
  unfold getE at h
  rw [Option.map_eq_none_iff, List.find?_eq_none] at h
  intro x hx e
  exact h x hx (by simp [e])
theorem plAdd_ok {l : List En} (h : MOk l l.length) (n : Nd) (i : Nat) : MOk (plAdd l n i) (plAdd l n i).length := by
  unfold plAdd
  split
  · rename_i hc
    rw [List.length_append]
    exact more_ok h n.name i (getE_none hc.1)
  · exact h
theorem plTo_ok (ns : List Nd) : ∀ k, MOk (plTo ns k) (plTo ns k).length
  | 0 => ⟨by simp [plTo], by simp [plTo], by simp [plTo]⟩
  | k + 1 => by
    unfold plTo
    split
    · exact plAdd_ok (plTo_ok ns k) _ _
    · exact plTo_ok ns k
theorem setBlock_here (w : World) (b : Nat) (o : Obj) (hb : b < w.heap.size) : (setBlock w b o).heap[b]? = some o := by
  simp [setBlock, hb]
theorem setBlock_off (w : World) (b j : Nat) (o : Obj) (hj : j ≠ b) : (setBlock w b o).heap[j]? = w.heap[j]? := by
  simp [setBlock, Array.getElem?_setIfInBounds]
  intro h
  exact absurd h.symm hj
theorem below_setBlock {n₀ b : Nat} {w : World} (hb : n₀ ≤ b) (o : Obj) : Below n₀ w (setBlock w b o) := ⟨rfl, rfl, rfl, by simp [setBlock], fun k hk => setBlock_off w b k o (by omega)⟩
theorem str_full {s : ByteArray} (h : s.size ≠ 0) : s.toList.isEmpty = false := by
  cases hl : s.toList with
  | nil =>
    have : s.toList.length = s.size := by rw [ByteArray.toList_eq]; simp
    rw [hl] at this
    simp at this
    omega
  | cons a l => rfl
theorem str_none {s : ByteArray} (h : s.size = 0) : s.toList.isEmpty = true := by
  cases hl : s.toList with
  | nil => rfl
  | cons a l =>
    have : s.toList.length = s.size := by rw [ByteArray.toList_eq]; simp
    rw [hl] at this
    simp at this
    omega
set_option maxRecDepth 100000 in
set_option maxHeartbeats 4000000 in
theorem places_any (ao : Option Addr) (cap : Nat) (ns : List Nd) (vs : Nat → NdW) (w : World) (hm : NdsMem w.heap.size w ao ns vs) :
    Calls Try.prog 20 #[.slice ao ns.length cap] w fun e w' => e = .returned (.map (some w.heap.size)) ∧ w'.heap[w.heap.size]? = some (.map (enA (plTo ns ns.length)) (plTo ns ns.length).length) ∧ Below w.heap.size w w' := by
  obtain ⟨m, hml⟩ : ∃ m, ns.length = m := ⟨_, rfl⟩
  have hm3 : m ≤ 1000 := by have := hm.1; omega
  have HH := hide (And.intro hm hml)
  rw [hml]
  clear hm hml
  have hmk := run_makeMap (P := Try.prog) 59 w
  go_enter Try.func20, Try.ntmps20
  go_wp2_with fail
  clear hmk
  go_loopw [11] (fun iv wr => ∃ k : Nat, k ≤ m ∧ iv = .int .i64 k ∧ wr.heap[w.heap.size]? = some (.map (enA (plTo ns k)) (plTo ns k).length) ∧ Below w.heap.size w wr) (fun iv _ => m - (intOf iv).toNat)
  case atStart => exact ⟨0, Nat.zero_le _, rfl, World.alloc_heap_new w _, (Below.refl _ w).alloc (Nat.le_refl _) _⟩
  case round =>
    obtain ⟨k, hk, rfl, hmp, hbw⟩ := hrel
    have hzw := hbw.size
    have hlw : w.heap.size < wr.heap.size := (Array.getElem?_eq_some_iff.1 hmp).1
    by_cases hlt : (k : Int) < m
    · obtain ⟨n, hn⟩ : ∃ n, ns[k]? = some n := ⟨_, List.getElem?_eq_getElem (by have := HH.out.2; omega)⟩
      have hpl : plTo ns (k + 1) = plAdd (plTo ns k) n k := by rw [plTo, hn]
      obtain ⟨_, b, off, hbe, hb1, hc⟩ := HH.out.1.2 k n hn
      have d0 := (hbw.cell (p := ⟨b, _, none⟩) hb1).trans (hc 0 (by omega))
      have d1 := (hbw.cell (p := ⟨b, _, none⟩) hb1).trans (hc 1 (by omega))
      have d2 := (hbw.cell (p := ⟨b, _, none⟩) hb1).trans (hc 2 (by omega))
      have d3 := (hbw.cell (p := ⟨b, _, none⟩) hb1).trans (hc 3 (by omega))
      have d4 := (hbw.cell (p := ⟨b, _, none⟩) hb1).trans (hc 4 (by omega))
      have d5 := (hbw.cell (p := ⟨b, _, none⟩) hb1).trans (hc 5 (by omega))
      have d6 := (hbw.cell (p := ⟨b, _, none⟩) hb1).trans (hc 6 (by omega))
      have d7 := (hbw.cell (p := ⟨b, _, none⟩) hb1).trans (hc 7 (by omega))
      simp only [ndC, List.getElem_cons_zero, List.getElem_cons_succ, Nat.add_zero] at d0 d1 d2 d3 d4 d5 d6 d7
      obtain ⟨a4, h4⟩ : ∃ x, (vs k).aa = x := ⟨_, rfl⟩
      obtain ⟨n4, h4'⟩ : ∃ x, n.affs.length = x := ⟨_, rfl⟩
      obtain ⟨a5, h5⟩ : ∃ x, (vs k).sa = x := ⟨_, rfl⟩
      obtain ⟨n5, h5'⟩ : ∃ x, n.subs.length = x := ⟨_, rfl⟩
      rw [h4, h4'] at d4
      rw [h5, h5'] at d5
      have hk0 : (0 : Int) ≤ k := by omega
      obtain ⟨W1, hW1⟩ : ∃ W1, wr.alloc (.cells #[.string n.name, .bool n.coll, .int .u8 n.acc, .int .i64 n.max, .slice a4 n4 (vs k).ac, .slice a5 n5 (vs k).sc, .slice (vs k).ia n.items.length (vs k).ic, .string n.parent] 32) = W1 := ⟨_, rfl⟩
      have b1 : Below wr.heap.size wr W1 := by rw [← hW1]; exact (Below.refl _ wr).alloc (Nat.le_refl _) _
      have f1 : W1.heap[w.heap.size]? = some (.map (enA (plTo ns k)) (plTo ns k).length) := (b1.block _ hlw).trans hmp
      have hlk := run_lookup n.name f1 (plTo_ok ns k)
      have B1 : Below w.heap.size w W1 := hbw.trans (b1.mono hzw)
      have HI := hide (And.intro B1 (And.intro f1 (And.intro hpl hW1)))
      have hl1 : w.heap.size < W1.heap.size := (Array.getElem?_eq_some_iff.1 f1).1
      clear hbw hmp hc b1 B1 hpl hn h4 h5 h4' h5'
      rw [hbe]
      cases hg : getE (plTo ns k) n.name with
      | some i =>
        rw [hg] at hlk
        rw [← hW1] at hlk
        have HG := hide hg
        clear hg f1 hW1
        go_wp2_with fail
        have hp : plTo ns (k + 1) = plTo ns k := by rw [HI.out.2.2.1, plAdd, if_neg (fun h => by rw [HG.out] at h; cases h.1)]
        rw [HI.out.2.2.2]
        refine ⟨⟨k + 1, by omega, by simp, ?_, HI.out.1⟩, by simp [intOf]; omega⟩
        rw [hp]
        exact HI.out.2.1
      | none =>
        rw [hg] at hlk
        rw [← hW1] at hlk
        by_cases hsz : n.name.size = 0
        · have hse := str_none hsz
          have HG := hide hsz
          clear hg f1 hW1 hsz
          go_wp2_with fail
          have hp : plTo ns (k + 1) = plTo ns k := by rw [HI.out.2.2.1, plAdd, if_neg (fun h => h.2 HG.out)]
          rw [HI.out.2.2.2]
          refine ⟨⟨k + 1, by omega, by simp, ?_, HI.out.1⟩, by simp [intOf]; omega⟩
          rw [hp]
          exact HI.out.2.1
        · have hse := str_full hsz
          have hup := run_update n.name k f1 (getE_none hg)
          rw [← hW1] at hup
          have HG := hide (And.intro hg hsz)
          clear hg f1 hW1 hsz
          go_wp2_with fail
          have hp : plTo ns (k + 1) = plTo ns k ++ [⟨n.name, k, (plTo ns k).length⟩] := by rw [HI.out.2.2.1, plAdd, if_pos HG.out]
          rw [HI.out.2.2.2]
          refine ⟨⟨k + 1, by omega, by simp, ?_, HI.out.1.trans (below_setBlock (Nat.le_refl _) _)⟩, by simp [intOf]; omega⟩
          rw [hp, List.length_append]
          exact setBlock_here _ _ _ hl1
    · have hkm : k = m := by omega
      subst hkm
      have HI := hide (And.intro hmp hbw)
      clear hmp hbw
      go_wp2_with fail
      go_ret
      exact ⟨rfl, HI.out.1, HI.out.2⟩
end Go.Proofs.Ytffjmkngdjbjlaa
