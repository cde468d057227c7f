/- Addresses: small letters. -/
import Derived.Test.YtffjmkngdjbjlaaDoorJ5
import Derived.Laws.IdiomStrings
namespace Go.Proofs.YtffjmkngdjbjlaaDoor
open Go.RowKit

/-- Bytes in a block of a call's own. -/
structure ByteBlk (w : World) (b : Nat) (l : List UInt8) : Prop where
  at_ : ∃ cs fr, w.heap[b]? = some (.cells cs 5 fr) ∧ l.length ≤ cs.size ∧ fr = (cs.size, cs.size + 1) ∧ ∀ (j : Nat) (c : UInt8), l[j]? = some c → cs[j]? = some (.int .u8 c.toNat)
theorem ByteBlk.cell {w : World} {b : Nat} {l : List UInt8} (h : ByteBlk w b l) {j : Nat} {c : UInt8} (hj : l[j]? = some c) : w.cell? ⟨b, j, none⟩ = some (.int .u8 c.toNat) ∧ w.frozen? ⟨b, j, none⟩ = false := by
  obtain ⟨cs, fr, h1, h2, h3, h4⟩ := h.at_
  have hlt := (List.getElem?_eq_some_iff.1 hj).1
  refine ⟨?_, ?_⟩
  · simp only [World.cell?, h1]
    have := h4 j c hj
    simpa using this
  · subst h3
    simp only [World.frozen?, h1]
    rw [decide_eq_false (by omega)]
    rfl
theorem ByteBlk.set {w : World} {b : Nat} {l : List UInt8} (h : ByteBlk w b l) {j : Nat} (hj : j < l.length) (c : UInt8) : ByteBlk (w.setCell ⟨b, j, none⟩ (.int .u8 c.toNat)) b (l.set j c) := by
  obtain ⟨cs, fr, h1, h2, h3, h4⟩ := h.at_
  refine ⟨cs.setIfInBounds j (.int .u8 c.toNat), fr, ?_, ?_, ?_, fun i x hi => ?_⟩
  · rw [setCell_eq_setRow w b j cs 5 fr _ h1]
    exact setRow_heap w b cs _ 5 _ h1
  · simpa using h2
  · simpa using h3
  · rw [List.getElem?_set] at hi
    rw [Array.getElem?_setIfInBounds]
    by_cases e : j = i
    · subst e
      rw [if_pos rfl, if_pos hj] at hi
      cases hi
      rw [if_pos rfl, if_pos (by omega)]
    · rw [if_neg e] at hi ⊢
      exact h4 i x hi
theorem ByteBlk.new (w : World) (s : ByteArray) : ByteBlk (w.drew.alloc (.cells (bytesRow s (grownCap w s.size 0 5)) 5 ((bytesRow s (grownCap w s.size 0 5)).size, (bytesRow s (grownCap w s.size 0 5)).size + 1))) w.heap.size s.data.toList := by
  refine ⟨_, _, World.alloc_heap_new w.drew _, ?_, rfl, fun j c hj => ?_⟩
  · unfold bytesRow
    rw [Array.size_append, Array.size_map, Array.length_toList]
    omega
  · have hlt := (List.getElem?_eq_some_iff.1 hj).1
    rw [Array.length_toList] at hlt
    unfold bytesRow
    rw [Array.getElem?_append_left (by rw [Array.size_map]; exact hlt), Array.getElem?_map]
    rw [Array.getElem?_toList] at hj
    rw [hj]
    rfl
/-- The first k bytes changed. -/
def mixL (f : UInt8 → UInt8) (l : List UInt8) (k : Nat) : List UInt8 := (l.take k).map f ++ l.drop k
theorem mix_zero (f : UInt8 → UInt8) (l : List UInt8) : mixL f l 0 = l := rfl
theorem mix_all (f : UInt8 → UInt8) (l : List UInt8) : mixL f l l.length = l.map f := by simp [mixL]
theorem mix_len (f : UInt8 → UInt8) (l : List UInt8) (k : Nat) : (mixL f l k).length = l.length := by
  unfold mixL
  rw [List.length_append, List.length_map, List.length_take, List.length_drop]
  omega
theorem mix_at {f : UInt8 → UInt8} {l : List UInt8} {k : Nat} {c : UInt8} (h : l[k]? = some c) : (mixL f l k)[k]? = some c := by
  have hlt := (List.getElem?_eq_some_iff.1 h).1
  unfold mixL
  rw [List.getElem?_append_right (by rw [List.length_map, List.length_take]; omega), List.length_map, List.length_take, List.getElem?_drop]
  rw [show k + (k - min k l.length) = k by omega]
  exact h
theorem mix_succ {f : UInt8 → UInt8} {l : List UInt8} {k : Nat} {c : UInt8} (h : l[k]? = some c) : mixL f l (k + 1) = (mixL f l k).set k (f c) := by
  have hlt := (List.getElem?_eq_some_iff.1 h).1
  unfold mixL
  have e1 : l.take (k + 1) = l.take k ++ [c] := by rw [List.take_add_one, h]; rfl
  have e2 : l.drop k = c :: l.drop (k + 1) := by
    rw [List.drop_eq_getElem_cons hlt]
    rw [List.getElem?_eq_getElem hlt] at h
    cases h
    rfl
  rw [e1, e2, List.map_append, List.set_append_right _ _ (by rw [List.length_map, List.length_take]; omega)]
  rw [List.length_map, List.length_take, show k - min k l.length = 0 by omega]
  simp
theorem set_same {l : List UInt8} {k : Nat} {c : UInt8} (h : l[k]? = some c) : l.set k c = l := by
  apply List.ext_getElem?
  intro i
  rw [List.getElem?_set]
  split
  · rename_i e
    subst e
    rw [h, if_pos (List.getElem?_eq_some_iff.1 h).1]
  · rfl

theorem lowB_cap {c : UInt8} (h : capB c = true) : lowB c = c + 32 := by unfold lowB; rw [if_pos h]
theorem lowB_not {c : UInt8} (h : capB c = false) : lowB c = c := by unfold lowB; rw [if_neg (by rw [h]; decide)]
set_option maxRecDepth 100000 in
theorem low_nat {c : UInt8} (h : capB c = true) : ((lowB c).toNat : Int) = c.toNat + 32 ∧ 65 ≤ c.toNat ∧ c.toNat ≤ 90 := by
  rw [lowB_cap h]
  unfold capB at h
  rw [Bool.and_eq_true, decide_eq_true_eq, decide_eq_true_eq] at h
  refine ⟨?_, h⟩
  rw [UInt8.toNat_add]
  show (((c.toNat + 32) % 256 : Nat) : Int) = _
  omega

set_option maxRecDepth 100000 in
set_option maxHeartbeats 2000000 in
theorem small_any (s : ByteArray) (w : World) (hs : s.size ≤ 9223372036854775807) : Calls Tryd.prog 107 #[.string s] w fun e w' => e = .returned (.string ⟨(s.data.toList.map lowB).toArray⟩) ∧ Below w.heap.size w w' := by
  have hl := size_list s
  obtain ⟨W1, hW1⟩ : ∃ W1, w.drew.alloc (.cells (bytesRow s (grownCap w s.size 0 5)) 5 ((bytesRow s (grownCap w s.size 0 5)).size, (bytesRow s (grownCap w s.size 0 5)).size + 1)) = W1 := ⟨_, rfl⟩
  obtain ⟨cap, hcap⟩ : ∃ cap, grownCap w s.size 0 5 = cap := ⟨_, rfl⟩
  have cv : (convert 9 45 (.string s)).run Tryd.prog w = .ok (.slice (some ⟨w.heap.size, 0, none⟩) s.size cap) W1 := by
    rw [← hW1, ← hcap]
    exact run_bytes_of_string w 9 45 5 s Tryd.underlying9 Tryd.underlying45 Tryd.underlying5
  have hB : ByteBlk W1 w.heap.size s.data.toList := by rw [← hW1]; exact ByteBlk.new w s
  have hb : Below w.heap.size w W1 := by rw [← hW1]; exact (((Below.refl _ w).drew).alloc (Nat.le_refl _) _)
  have H1 := hide (And.intro hB hb)
  clear hB hb hW1 hcap
  go_enter Tryd.func107, Tryd.ntmps107
  go_wp2_with fail
  go_loopw [10] (fun i wr => ∃ k : Nat, k ≤ s.size ∧ i = .int .i64 k ∧ ByteBlk wr w.heap.size (mixL lowB s.data.toList k) ∧ Below w.heap.size w wr) (fun i _ => s.size - (intOf i).toNat)
  case atStart => exact ⟨0, Nat.zero_le _, rfl, by rw [mix_zero]; exact H1.out.1, H1.out.2⟩
  case round =>
    obtain ⟨k, hk, rfl, hBk, hbk⟩ := hrel
    by_cases hp : k < s.size
    · have hsk := bget s k hp
      obtain ⟨cell, froz⟩ := hBk.cell (mix_at hsk)
      have hset := hBk.set (j := k) (by rw [mix_len, hl]; exact hp) (lowB s[k])
      rw [← mix_succ hsk] at hset
      have hcap := hide (capital_any s[k] wr)
      have H2 := hide (And.intro hBk (And.intro hset hbk))
      clear hBk hset hbk
      go_wp2_with fail
      refine hcap.out.mono ?_
      rintro e w2 ⟨rfl, hw⟩
      subst hw
      cases hq : capB s[k] with
      | true =>
        obtain ⟨e1, e2, e3⟩ := low_nat hq
        clear hq
        go_wp2_with fail
        rw [show ((s[k].toNat : Int) - 65 + 97) = (lowB s[k]).toNat by omega]
        exact ⟨⟨k + 1, by omega, by simp, H2.out.2.1, H2.out.2.2.setCell (p := ⟨_, k, none⟩) (Nat.le_refl _) _⟩, by simp [intOf]; omega⟩
      | false =>
        have hx := set_same (mix_at (f := lowB) hsk)
        have HX := hide (And.intro hq hx)
        clear hq hx
        go_wp2_with fail
        go_roundw
        case rel =>
          refine ⟨k + 1, by omega, by simp, ?_, H2.out.2.2⟩
          rw [mix_succ hsk, lowB_not HX.out.1, HX.out.2]
          exact H2.out.1
        case measure => simp [intOf]; omega
    · obtain rfl : k = s.size := by omega
      have hm := hBk
      rw [← hl, mix_all] at hm
      have hlm : (s.data.toList.map lowB).length = s.size := by rw [List.length_map, hl]
      have cb := run_convert_bytes_back (P := Tryd.prog) wr 45 9 5 ⟨w.heap.size, 0, none⟩ cap (s.data.toList.map lowB) Tryd.underlying45 Tryd.underlying5 Tryd.underlying9 (fun j hj => by
        have := (hm.cell (List.getElem?_eq_getElem hj)).1
        cases j with
        | zero => simpa [Addr.add] using this
        | succ j => simpa [Addr.add] using this)
      rw [hlm] at cb
      have H2 := hide hbk
      clear hm hBk hbk
      go_wp2_with fail
      go_ret
      exact ⟨rfl, H2.out⟩
end Go.Proofs.YtffjmkngdjbjlaaDoor
