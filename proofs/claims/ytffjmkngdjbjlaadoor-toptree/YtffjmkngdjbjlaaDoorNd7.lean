/- Fan: none of those who are told is struck; where a node stands. -/
import Derived.Test.YtffjmkngdjbjlaaDoorNd6
namespace Go.Proofs.YtffjmkngdjbjlaaDoor
open Go.RowKit

theorem own_str {w : World} {base n j : Nat} {v : Value} {ks : List ByteArray} {u : ByteArray} (h : w.ownsRow base 9 1 v n (strC ks)) (hj : ks[j]? = some u) : ∃ g gc, v = .slice (some ⟨g, 0, none⟩) n gc ∧ n ≤ gc ∧ g < w.heap.size ∧ w.cell? ⟨g, j, none⟩ = some (.string u) := by
  have hlt := (List.getElem?_eq_some_iff.1 hj).1
  obtain ⟨h1, ⟨_, h3⟩ | ⟨g, cap, cur, hv, x1, x2, x3, x4, x5, x6⟩⟩ := h
  · have : (strC ks).length = ks.length := by simp [strC]
    omega
  · refine ⟨g, cap, hv, x3, (Array.getElem?_eq_some_iff.1 x2).1, ?_⟩
    have hc : (strC ks)[j]? = some (.string u) := by simp [strC, hj]
    rw [← x6] at hc
    have hl2 := (List.getElem?_eq_some_iff.1 hc).1
    simp at hl2
    rw [List.getElem?_take_of_lt (by omega)] at hc
    simp [World.cell?, x2]
    simpa using hc
set_option maxRecDepth 100000 in
set_option maxHeartbeats 4000000 in
theorem fan2_any (n : Nd) (v : NdW) (s : ByteArray) (bn : Nat) (w : World) (hb : w.heap[bn]? = some (.cells (ndA n v) 28)) (hok : NdOk w.heap.size w n v) (ha : n.acc = 0) (hr : roleL n.affs s ≠ 1) :
    Calls Tryd.prog 56 #[.string s, .pointer (some ⟨bn, 0, none⟩)] w fun e w' => e = .returned (.bool false) ∧ Below w.heap.size w w' := by
  have HR := hide (reads_open n v s w hok ha hr)
  obtain ⟨c0, c1, c2, c3, c4, c5, c6, c7⟩ := nd_box hb
  clear hok ha hr hb
  unfold ndA at HR
  go_enter Tryd.func56, Tryd.ntmps56
  go_wp2_with fail
  refine HR.out.mono ?_
  rintro e w2 ⟨rfl, b2⟩
  have H2 := hide b2
  clear b2
  go_wp2_with fail
  go_ret
  exact ⟨rfl, H2.out⟩
set_option maxRecDepth 100000 in
set_option maxHeartbeats 4000000 in
theorem idxS_any (n : Nd) (v : NdW) (bn base : Nat) (ga : Option Addr) (gc : Nat) (ks : List ByteArray) (w : World) (hb : w.heap[bn]? = some (.cells (ndA n v) 28)) (hok : NdOk w.heap.size w n v) (ha : n.acc = 0) (hr : ∀ s ∈ ks, roleL n.affs s ≠ 1) (hk : w.ownsRow base 9 1 (.slice ga ks.length gc) ks.length (strC ks)) (hl : ks.length ≤ 1000000) :
    Calls Tryd.prog 80 #[.slice ga ks.length gc, .func (.func 56) #[] #[.pointer (some ⟨bn, 0, none⟩)]] w fun e w' => e = .returned (.int .i64 (-1)) ∧ Below w.heap.size w w' := by
  obtain ⟨m, hml⟩ : ∃ m, ks.length = m := ⟨_, rfl⟩
  have hbl : bn < w.heap.size := (Array.getElem?_eq_some_iff.1 hb).1
  rw [hml] at hk hl ⊢
  have HH := hide (And.intro hb (And.intro hok (And.intro ha (And.intro hr (And.intro hk hml)))))
  clear hb hok ha hr hk hml
  go_enter Tryd.func80, Tryd.ntmps80
  go_wp2_with fail
  go_loopw [8] (fun iv wr => ∃ k : Nat, k ≤ m ∧ iv = .int .i64 k ∧ Below w.heap.size w wr) (fun iv _ => m - (intOf iv).toNat)
  case atStart => exact ⟨0, Nat.zero_le _, rfl, Below.refl _ _⟩
  case round =>
    obtain ⟨k, hkm, rfl, hbw⟩ := hrel
    by_cases hlt : (k : Int) < m
    · obtain ⟨s, hs⟩ : ∃ s, ks[k]? = some s := ⟨_, List.getElem?_eq_getElem (by have := HH.out.2.2.2.2.2; omega)⟩
      obtain ⟨g, gc', hv, hgc, hgl, hcell⟩ := own_str HH.out.2.2.2.2.1 hs
      have e0 := (hbw.cell (p := ⟨g, k, none⟩) hgl).trans hcell
      have hfn := fan2_any n v s bn wr ((hbw.block bn hbl).trans HH.out.1) ((HH.out.2.1.below hbw).raise hbw.size) HH.out.2.2.1 (HH.out.2.2.2.1 s (List.mem_of_getElem? hs))
      have hk0 : (0 : Int) ≤ k := by omega
      cases hv
      have HF := hide (And.intro hfn hbw)
      clear hfn hbw hcell hs
      go_wp2_with (go_at_call 56; refine HF.out.1.mono ?_; rintro e w2 ⟨rfl, b2⟩; have H2 := hide (HF.out.2.trans (b2.mono HF.out.2.size)); clear b2)
      exact ⟨⟨k + 1, by omega, by simp, H2.out⟩, by simp [intOf]; omega⟩
    · have H2 := hide hbw
      clear hbw
      go_wp2_with fail
      go_ret
      exact ⟨rfl, H2.out⟩
set_option maxRecDepth 100000 in
set_option maxHeartbeats 4000000 in
/-- DeleteFunc, where none is struck. -/
theorem delete_any (n : Nd) (v : NdW) (bn base : Nat) (ga : Option Addr) (gc : Nat) (ks : List ByteArray) (w : World) (hb : w.heap[bn]? = some (.cells (ndA n v) 28)) (hok : NdOk w.heap.size w n v) (ha : n.acc = 0) (hr : ∀ s ∈ ks, roleL n.affs s ≠ 1) (hk : w.ownsRow base 9 1 (.slice ga ks.length gc) ks.length (strC ks)) (hl : ks.length ≤ 1000000) :
    Calls Tryd.prog 55 #[.slice ga ks.length gc, .func (.func 56) #[] #[.pointer (some ⟨bn, 0, none⟩)]] w fun e w' => e = .returned (.slice ga ks.length gc) ∧ Below w.heap.size w w' := by
  have HI := hide (idxS_any n v bn base ga gc ks w hb hok ha hr hk hl)
  obtain ⟨m, hml⟩ : ∃ m, ks.length = m := ⟨_, rfl⟩
  rw [hml] at HI ⊢
  clear hb hok ha hr hk hl hml
  go_enter Tryd.func55, Tryd.ntmps55
  go_wp2_with fail
  refine HI.out.mono ?_
  rintro e w2 ⟨rfl, b2⟩
  have H2 := hide b2
  clear b2
  go_wp2_with fail
  go_ret
  exact ⟨rfl, H2.out⟩
theorem fan1_any (n : Nd) (v : NdW) (s : ByteArray) (bs : Nat) (w : World) (hb : w.heap[bs]? = some (.cells #[.string s] 9)) : Calls Tryd.prog 50 #[.agg (ndA n v), .pointer (some ⟨bs, 0, none⟩)] w fun e w' => e = .returned (.bool (n.name.toList == s.toList)) ∧ Below w.heap.size w w' := by
  have hbl : bs < w.heap.size := (Array.getElem?_eq_some_iff.1 hb).1
  have c0 : (w.alloc (.cells (ndA n v) 28)).cell? ⟨bs, 0, none⟩ = some (.string s) := by
    rw [((Below.refl w.heap.size w).alloc (Nat.le_refl _) _).cell (p := ⟨bs, 0, none⟩) hbl]
    simp [World.cell?, hb]
  clear hb
  unfold ndA at c0 ⊢
  go_enter Tryd.func50, Tryd.ntmps50
  go_wp2_with fail
  go_ret
  exact ⟨rfl, (Below.refl _ w).alloc (Nat.le_refl _) _⟩
set_option maxRecDepth 100000 in
set_option maxHeartbeats 4000000 in
/-- Where the first node of a name stands, which is there. -/
theorem idxN_any (ao : Option Addr) (cap : Nat) (ns : List Nd) (vs : Nat → NdW) (s : ByteArray) (bs i0 : Nat) (w : World) (hm : NdsMem w.heap.size w ao ns vs) (hb : w.heap[bs]? = some (.cells #[.string s] 9)) (hi : ∃ n, ns[i0]? = some n ∧ n.name = s) (hn : ∀ j n, j < i0 → ns[j]? = some n → n.name ≠ s) :
    Calls Tryd.prog 49 #[.slice ao ns.length cap, .func (.func 50) #[] #[.pointer (some ⟨bs, 0, none⟩)]] w fun e w' => e = .returned (.int .i64 (i0 : Nat)) ∧ Below w.heap.size w w' := by
  obtain ⟨m, hml⟩ : ∃ m, ns.length = m := ⟨_, rfl⟩
  have hm3 : m ≤ 1000 := by have := hm.1; omega
  have hbl : bs < w.heap.size := (Array.getElem?_eq_some_iff.1 hb).1
  have him : i0 < m := by obtain ⟨n, hn, _⟩ := hi; have := (List.getElem?_eq_some_iff.1 hn).1; omega
  have HH := hide (And.intro hm (And.intro hb (And.intro hi (And.intro hn hml))))
  rw [hml]
  clear hm hb hi hn hml
  go_enter Tryd.func49, Tryd.ntmps49
  go_wp2_with fail
  go_loopw [8] (fun iv wr => ∃ k : Nat, k ≤ i0 ∧ iv = .int .i64 k ∧ Below w.heap.size w wr) (fun iv _ => m - (intOf iv).toNat)
  case atStart => exact ⟨0, Nat.zero_le _, rfl, Below.refl _ _⟩
  case round =>
    obtain ⟨k, hk, rfl, hbw⟩ := hrel
    have hlt : (k : Int) < m := by omega
    have hk0 : (0 : Int) ≤ k := by omega
    obtain ⟨n, hnk⟩ : ∃ n, ns[k]? = some n := ⟨_, List.getElem?_eq_getElem (by have := HH.out.2.2.2.2; omega)⟩
    obtain ⟨_, b, off, hbe, hb1, hc⟩ := HH.out.1.2 k n hnk
    have d0 := (hbw.cell (p := ⟨b, _, none⟩) hb1).trans (hc 0 (by omega))
    have d1 := (hbw.cell (p := ⟨b, _, none⟩) hb1).trans (hc 1 (by omega))
    have d2 := (hbw.cell (p := ⟨b, _, none⟩) hb1).trans (hc 2 (by omega))
    have d3 := (hbw.cell (p := ⟨b, _, none⟩) hb1).trans (hc 3 (by omega))
    have d4 := (hbw.cell (p := ⟨b, _, none⟩) hb1).trans (hc 4 (by omega))
    have d5 := (hbw.cell (p := ⟨b, _, none⟩) hb1).trans (hc 5 (by omega))
    have d6 := (hbw.cell (p := ⟨b, _, none⟩) hb1).trans (hc 6 (by omega))
    have d7 := (hbw.cell (p := ⟨b, _, none⟩) hb1).trans (hc 7 (by omega))
    simp only [ndC, List.getElem_cons_zero, List.getElem_cons_succ, Nat.add_zero] at d0 d1 d2 d3 d4 d5 d6 d7
    have hfn := fan1_any n (vs k) s bs wr ((hbw.block bs hbl).trans HH.out.2.1)
    unfold ndA at hfn
    rw [hbe]
    by_cases hki : k = i0
    · have hnm : (n.name.toList == s.toList) = true := by
        obtain ⟨n', h1, h2⟩ := HH.out.2.2.1
        rw [← hki, hnk] at h1
        cases h1
        rw [h2]
        simp
      rw [hnm] at hfn
      have HF := hide (And.intro hfn hbw)
      clear hfn hbw hc hnk hnm
      subst hki
      go_wp2_with (go_at_call 50; refine HF.out.1.mono ?_; rintro e w2 ⟨rfl, b2⟩; have H2 := hide (HF.out.2.trans (b2.mono HF.out.2.size)); clear b2)
      go_ret
      exact ⟨rfl, H2.out⟩
    · have hnm : (n.name.toList == s.toList) = false := by
        rw [beq_eq_false_iff_ne]
        exact fun e => HH.out.2.2.2.1 k n (by omega) hnk (ba_ext e)
      rw [hnm] at hfn
      have HF := hide (And.intro hfn hbw)
      clear hfn hbw hc hnk hnm
      go_wp2_with (go_at_call 50; refine HF.out.1.mono ?_; rintro e w2 ⟨rfl, b2⟩; have H2 := hide (HF.out.2.trans (b2.mono HF.out.2.size)); clear b2)
      exact ⟨⟨k + 1, by omega, by simp, H2.out⟩, by simp [intOf]; omega⟩
end Go.Proofs.YtffjmkngdjbjlaaDoor
