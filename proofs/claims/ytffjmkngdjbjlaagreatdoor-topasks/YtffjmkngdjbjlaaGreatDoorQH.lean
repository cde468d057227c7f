/- Those who are told: sorted, each once; none is struck. Fan: none of those who are told is struck; where a node stands. -/
import Derived.Test.YtffjmkngdjbjlaaGreatDoorNd5
import Derived.Test.YtffjmkngdjbjlaaGreatDoorQF
import Derived.Shelf.Slices.In.SortAlone
import Derived.Shelf.Slices.In.SortNone
import Derived.Shelf.Slices.In.CompactS
import Derived.Sort.EveryDepth
import Derived.Sort.OwnSorted
namespace Go.Proofs.YtffjmkngdjbjlaaGreatDoor
open Go.RowKit Go.Sort Go.Shelf

def ofS (l : Str) : ByteArray := ⟨l.toArray⟩
theorem ofS_toList (a : ByteArray) : ofS a.toList = a := ba_ext (by rw [ByteArray.toList_eq, ByteArray.toList_eq]; simp [ofS])
theorem toList_ofS (l : Str) : (ofS l).toList = l := by rw [ByteArray.toList_eq]; simp [ofS]
/-- Texts, sorted. -/
def sortS (ks : List ByteArray) : List ByteArray := ((ks.map ByteArray.toList).mergeSort fun x y => decide (x ≤ y)).map ofS
theorem sortS_len (ks : List ByteArray) : (sortS ks).length = ks.length := by simp [sortS]
theorem strC_enc (ks : List ByteArray) : strC ks = (ks.map ByteArray.toList).map encStr := by
  unfold strC
  rw [List.map_map]
  apply List.map_congr_left
  intro x _
  show Value.string x = Value.string (ofS x.toList)
  rw [ofS_toList]
theorem sort_any (base : Nat) (v : Value) (ks : List ByteArray) (w : World) (h : w.ownsRow base 9 1 v ks.length (strC ks)) (hs : ks.length ≤ 1000000) :
    Calls Tryz.prog 24 #[v] w fun e w' => e = .returned (.tuple #[]) ∧ w'.ownsRow base 9 1 v ks.length (strC (sortS ks)) ∧ w.grownBy w' v.ownBlock := by
  obtain ⟨h1, ⟨rfl, h2⟩ | ⟨g, cap, cur, rfl, x1, x2, x3, x4, x5, x6⟩⟩ := h
  · have hk : ks = [] := List.eq_nil_of_length_eq_zero h2
    subst hk
    refine (calls_of_every_depth fun D => AnyS.slices_Sort_string_none_alone lays190 D none 0 w).mono ?_
    rintro e w' ⟨rfl, rfl⟩
    refine ⟨rfl, ?_, World.grownBy.refl _ _⟩
    rw [show sortS [] = [] by simp [sortS]]
    exact World.ownsRow_nil _ _ _ _
  · have hl : (ks.map ByteArray.toList).length = ks.length := by simp
    have hH : Holds encStr w g 0 (ks.map ByteArray.toList).toArray := holds_of_block x2 (by
      rw [hl, ← strC_enc, ← x6, Nat.mul_one])
    have hc := calls_of_every_depth fun D => AnyS.slices_Sort_string_alone lays190 D g 0 cap (ks.map ByteArray.toList) w hH (hp_lt x2) (by rw [hl]; omega)
    rw [hl] at hc
    refine Calls.mono hc ?_
    rintro e w' ⟨rfl, n, os, rfl⟩
    have ho := ownsRow_sorted (w := w) (base := base) (g := g) (cap := cap) (n := n) (e := 9) (os := os) (cur := cur) (ss := ks.map ByteArray.toList) (ts := (ks.map ByteArray.toList).mergeSort fun x y => decide (x ≤ y)) (by simp) x1 x2 (by rw [hl]; exact x3) x4 x5
    rw [hl] at ho
    refine ⟨rfl, ?_, grownBy_sorted _⟩
    have he : strC (sortS ks) = ((ks.map ByteArray.toList).mergeSort fun x y => decide (x ≤ y)).map encStr := by
      unfold strC sortS
      rw [List.map_map]
      rfl
    rw [he]
    exact ho
/-- Compact, where no two neighbours are alike. -/
theorem compact_any (base : Nat) (v : Value) (ks : List ByteArray) (w : World) (h : w.ownsRow base 9 1 v ks.length (strC ks)) (hs : ks.length ≤ 1000000) (hc : Lib.compact (ks.map ByteArray.toList) = ks.map ByteArray.toList) :
    Calls Tryz.prog 25 #[v] w fun e w' => e = .returned v ∧ Below w.heap.size w w' := by
  obtain ⟨h1, ⟨rfl, h2⟩ | ⟨g, cap, cur, rfl, x1, x2, x3, x4, x5, x6⟩⟩ := h
  · refine (calls_of_every_depth fun D => AnyS.slices_Compact_string_empty_in lays194 D none 0 w).mono ?_
    rintro e w' ⟨rfl, rfl⟩
    exact ⟨rfl, Below.refl _ _⟩
  · have hl : (ks.map ByteArray.toList).length = ks.length := by simp
    have hH : Holds encStr w g 0 (ks.map ByteArray.toList).toArray := holds_of_block x2 (by
      rw [hl, ← strC_enc, ← x6, Nat.mul_one])
    have hcc := calls_of_every_depth fun D => AnyS.slices_Compact_string_in lays194 D g 0 cap (ks.map ByteArray.toList) w hH (by rw [hl]; omega) (by rw [hl]; exact x3)
    rw [hc, hl] at hcc
    refine Calls.mono hcc ?_
    rintro e w' ⟨rfl, q, rfl⟩
    refine ⟨rfl, ?_⟩
    rw [Nat.sub_self, List.replicate_zero, List.append_nil, putRow_self encStr (Sort.ahead w q) g 0 _ (holds_ahead encStr w q g 0 _ hH)]
    exact ⟨rfl, rfl, rfl, Nat.le_refl _, fun _ _ => rfl⟩
end Go.Proofs.YtffjmkngdjbjlaaGreatDoor
namespace Go.Proofs.YtffjmkngdjbjlaaGreatDoor
open Go.RowKit

theorem own_str {w : World} {base n j : Nat} {v : Value} {ks : List ByteArray} {u : ByteArray} (h : w.ownsRow base 9 1 v n (strC ks)) (hj : ks[j]? = some u) : ∃ g gc, v = .slice (some ⟨g, 0, none⟩) n gc ∧ n ≤ gc ∧ g < w.heap.size ∧ w.cell? ⟨g, j, none⟩ = some (.string u) := by
  have hlt := (List.getElem?_eq_some_iff.1 hj).1
  obtain ⟨h1, ⟨_, h3⟩ | ⟨g, cap, cur, hv, x1, x2, x3, x4, x5, x6⟩⟩ := h
  · have : (strC ks).length = ks.length := by simp [strC]
    omega
  · refine ⟨g, cap, hv, x3, (Array.getElem?_eq_some_iff.1 x2).1, ?_⟩
    have hc : (strC ks)[j]? = some (.string u) := by simp [strC, hj]
    rw [← x6] at hc
    have hl2 := (List.getElem?_eq_some_iff.1 hc).1
    simp at hl2
    rw [List.getElem?_take_of_lt (by omega)] at hc
    simp [World.cell?, x2]
    simpa using hc
set_option maxRecDepth 100000 in
set_option maxHeartbeats 4000000 in
theorem fan2_any (n : Nd) (v : NdW) (s : ByteArray) (bn : Nat) (w : World) (hb : w.heap[bn]? = some (.cells (ndA n v) 30)) (hok : NdOk w.heap.size w n v) (ha : n.acc = 0) (hr : roleL n.affs s ≠ 1) :
    Calls Tryz.prog 27 #[.string s, .pointer (some ⟨bn, 0, none⟩)] w fun e w' => e = .returned (.bool false) ∧ Below w.heap.size w w' := by
  have HR := hide (reads_open n v s w hok ha hr)
  obtain ⟨c0, c1, c2, c3, c4, c5, c6, c7⟩ := nd_box hb
  clear hok ha hr hb
  unfold ndA at HR
  go_enter Tryz.func27, Tryz.ntmps27
  go_wp2_with fail
  refine HR.out.mono ?_
  rintro e w2 ⟨rfl, b2⟩
  have H2 := hide b2
  clear b2
  go_wp2_with fail
  go_ret
  exact ⟨rfl, H2.out⟩
set_option maxRecDepth 100000 in
set_option maxHeartbeats 4000000 in
theorem idxS_any (n : Nd) (v : NdW) (bn base : Nat) (ga : Option Addr) (gc : Nat) (ks : List ByteArray) (w : World) (hb : w.heap[bn]? = some (.cells (ndA n v) 30)) (hok : NdOk w.heap.size w n v) (ha : n.acc = 0) (hr : ∀ s ∈ ks, roleL n.affs s ≠ 1) (hk : w.ownsRow base 9 1 (.slice ga ks.length gc) ks.length (strC ks)) (hl : ks.length ≤ 1000000) :
    Calls Tryz.prog 54 #[.slice ga ks.length gc, .func (.func 27) #[] #[.pointer (some ⟨bn, 0, none⟩)]] w fun e w' => e = .returned (.int .i64 (-1)) ∧ Below w.heap.size w w' := by
  obtain ⟨m, hml⟩ : ∃ m, ks.length = m := ⟨_, rfl⟩
  have hbl : bn < w.heap.size := (Array.getElem?_eq_some_iff.1 hb).1
  rw [hml] at hk hl ⊢
  have HH := hide (And.intro hb (And.intro hok (And.intro ha (And.intro hr (And.intro hk hml)))))
  clear hb hok ha hr hk hml
  go_enter Tryz.func54, Tryz.ntmps54
  go_wp2_with fail
  go_loopw [8] (fun iv wr => ∃ k : Nat, k ≤ m ∧ iv = .int .i64 k ∧ Below w.heap.size w wr) (fun iv _ => m - (intOf iv).toNat)
  case atStart => exact ⟨0, Nat.zero_le _, rfl, Below.refl _ _⟩
  case round =>
    obtain ⟨k, hkm, rfl, hbw⟩ := hrel
    by_cases hlt : (k : Int) < m
    · obtain ⟨s, hs⟩ : ∃ s, ks[k]? = some s := ⟨_, List.getElem?_eq_getElem (by have := HH.out.2.2.2.2.2; omega)⟩
      obtain ⟨g, gc', hv, hgc, hgl, hcell⟩ := own_str HH.out.2.2.2.2.1 hs
      have e0 := (hbw.cell (p := ⟨g, k, none⟩) hgl).trans hcell
      have hfn := fan2_any n v s bn wr ((hbw.block bn hbl).trans HH.out.1) ((HH.out.2.1.below hbw).raise hbw.size) HH.out.2.2.1 (HH.out.2.2.2.1 s (List.mem_of_getElem? hs))
      have hk0 : (0 : Int) ≤ k := by omega
      cases hv
      have HF := hide (And.intro hfn hbw)
      clear hfn hbw hcell hs
      go_wp2_with (go_at_call 27; refine HF.out.1.mono ?_; rintro e w2 ⟨rfl, b2⟩; have H2 := hide (HF.out.2.trans (b2.mono HF.out.2.size)); clear b2)
      exact ⟨⟨k + 1, by omega, by simp, H2.out⟩, by simp [intOf]; omega⟩
    · have H2 := hide hbw
      clear hbw
      go_wp2_with fail
      go_ret
      exact ⟨rfl, H2.out⟩
set_option maxRecDepth 100000 in
set_option maxHeartbeats 4000000 in
/-- DeleteFunc, where none is struck. -/
theorem delete_any (n : Nd) (v : NdW) (bn base : Nat) (ga : Option Addr) (gc : Nat) (ks : List ByteArray) (w : World) (hb : w.heap[bn]? = some (.cells (ndA n v) 30)) (hok : NdOk w.heap.size w n v) (ha : n.acc = 0) (hr : ∀ s ∈ ks, roleL n.affs s ≠ 1) (hk : w.ownsRow base 9 1 (.slice ga ks.length gc) ks.length (strC ks)) (hl : ks.length ≤ 1000000) :
    Calls Tryz.prog 26 #[.slice ga ks.length gc, .func (.func 27) #[] #[.pointer (some ⟨bn, 0, none⟩)]] w fun e w' => e = .returned (.slice ga ks.length gc) ∧ Below w.heap.size w w' := by
  have HI := hide (idxS_any n v bn base ga gc ks w hb hok ha hr hk hl)
  obtain ⟨m, hml⟩ : ∃ m, ks.length = m := ⟨_, rfl⟩
  rw [hml] at HI ⊢
  clear hb hok ha hr hk hl hml
  go_enter Tryz.func26, Tryz.ntmps26
  go_wp2_with fail
  refine HI.out.mono ?_
  rintro e w2 ⟨rfl, b2⟩
  have H2 := hide b2
  clear b2
  go_wp2_with fail
  go_ret
  exact ⟨rfl, H2.out⟩
theorem fan1_any (n : Nd) (v : NdW) (s : ByteArray) (bs : Nat) (w : World) (hb : w.heap[bs]? = some (.cells #[.string s] 9)) : Calls Tryz.prog 21 #[.agg (ndA n v), .pointer (some ⟨bs, 0, none⟩)] w fun e w' => e = .returned (.bool (n.name.toList == s.toList)) ∧ Below w.heap.size w w' := by
  have hbl : bs < w.heap.size := (Array.getElem?_eq_some_iff.1 hb).1
  have c0 : (w.alloc (.cells (ndA n v) 30)).cell? ⟨bs, 0, none⟩ = some (.string s) := by
    rw [((Below.refl w.heap.size w).alloc (Nat.le_refl _) _).cell (p := ⟨bs, 0, none⟩) hbl]
    simp [World.cell?, hb]
  clear hb
  unfold ndA at c0 ⊢
  go_enter Tryz.func21, Tryz.ntmps21
  go_wp2_with fail
  go_ret
  exact ⟨rfl, (Below.refl _ w).alloc (Nat.le_refl _) _⟩
set_option maxRecDepth 100000 in
set_option maxHeartbeats 4000000 in
/-- Where the first node of a name stands, which is there. -/
theorem idxN_any (ao : Option Addr) (cap : Nat) (ns : List Nd) (vs : Nat → NdW) (s : ByteArray) (bs i0 : Nat) (w : World) (hm : NdsMem w.heap.size w ao ns vs) (hb : w.heap[bs]? = some (.cells #[.string s] 9)) (hi : ∃ n, ns[i0]? = some n ∧ n.name = s) (hn : ∀ j n, j < i0 → ns[j]? = some n → n.name ≠ s) :
    Calls Tryz.prog 20 #[.slice ao ns.length cap, .func (.func 21) #[] #[.pointer (some ⟨bs, 0, none⟩)]] w fun e w' => e = .returned (.int .i64 (i0 : Nat)) ∧ Below w.heap.size w w' := by
  obtain ⟨m, hml⟩ : ∃ m, ns.length = m := ⟨_, rfl⟩
  have hm3 : m ≤ 1000 := by have := hm.1; omega
  have hbl : bs < w.heap.size := (Array.getElem?_eq_some_iff.1 hb).1
  have him : i0 < m := by obtain ⟨n, hn, _⟩ := hi; have := (List.getElem?_eq_some_iff.1 hn).1; omega
  have HH := hide (And.intro hm (And.intro hb (And.intro hi (And.intro hn hml))))
  rw [hml]
  clear hm hb hi hn hml
  go_enter Tryz.func20, Tryz.ntmps20
  go_wp2_with fail
  go_loopw [8] (fun iv wr => ∃ k : Nat, k ≤ i0 ∧ iv = .int .i64 k ∧ Below w.heap.size w wr) (fun iv _ => m - (intOf iv).toNat)
  case atStart => exact ⟨0, Nat.zero_le _, rfl, Below.refl _ _⟩
  case round =>
    obtain ⟨k, hk, rfl, hbw⟩ := hrel
    have hlt : (k : Int) < m := by omega
    have hk0 : (0 : Int) ≤ k := by omega
    obtain ⟨n, hnk⟩ : ∃ n, ns[k]? = some n := ⟨_, List.getElem?_eq_getElem (by have := HH.out.2.2.2.2; omega)⟩
    obtain ⟨_, b, off, hbe, hb1, hc⟩ := HH.out.1.2 k n hnk
    have d0 := (hbw.cell (p := ⟨b, _, none⟩) hb1).trans (hc 0 (by omega))
    have d1 := (hbw.cell (p := ⟨b, _, none⟩) hb1).trans (hc 1 (by omega))
    have d2 := (hbw.cell (p := ⟨b, _, none⟩) hb1).trans (hc 2 (by omega))
    have d3 := (hbw.cell (p := ⟨b, _, none⟩) hb1).trans (hc 3 (by omega))
    have d4 := (hbw.cell (p := ⟨b, _, none⟩) hb1).trans (hc 4 (by omega))
    have d5 := (hbw.cell (p := ⟨b, _, none⟩) hb1).trans (hc 5 (by omega))
    have d6 := (hbw.cell (p := ⟨b, _, none⟩) hb1).trans (hc 6 (by omega))
    have d7 := (hbw.cell (p := ⟨b, _, none⟩) hb1).trans (hc 7 (by omega))
    simp only [ndC, List.getElem_cons_zero, List.getElem_cons_succ, Nat.add_zero] at d0 d1 d2 d3 d4 d5 d6 d7
    have hfn := fan1_any n (vs k) s bs wr ((hbw.block bs hbl).trans HH.out.2.1)
    unfold ndA at hfn
    rw [hbe]
    by_cases hki : k = i0
    · have hnm : (n.name.toList == s.toList) = true := by
        obtain ⟨n', h1, h2⟩ := HH.out.2.2.1
        rw [← hki, hnk] at h1
        cases h1
        rw [h2]
        simp
      rw [hnm] at hfn
      have HF := hide (And.intro hfn hbw)
      clear hfn hbw hc hnk hnm
      subst hki
      go_wp2_with (go_at_call 21; refine HF.out.1.mono ?_; rintro e w2 ⟨rfl, b2⟩; have H2 := hide (HF.out.2.trans (b2.mono HF.out.2.size)); clear b2)
      go_ret
      exact ⟨rfl, H2.out⟩
    · have hnm : (n.name.toList == s.toList) = false := by
        rw [beq_eq_false_iff_ne]
        exact fun e => HH.out.2.2.2.1 k n (by omega) hnk (ba_ext e)
      rw [hnm] at hfn
      have HF := hide (And.intro hfn hbw)
      clear hfn hbw hc hnk hnm
      go_wp2_with (go_at_call 21; refine HF.out.1.mono ?_; rintro e w2 ⟨rfl, b2⟩; have H2 := hide (HF.out.2.trans (b2.mono HF.out.2.size)); clear b2)
      exact ⟨⟨k + 1, by omega, by simp, H2.out⟩, by simp [intOf]; omega⟩
end Go.Proofs.YtffjmkngdjbjlaaGreatDoor
