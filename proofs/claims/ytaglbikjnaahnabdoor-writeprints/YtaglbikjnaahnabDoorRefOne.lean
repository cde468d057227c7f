/- A token by itself, as the document says it. -/
import Derived.Test.YtaglbikjnaahnabDoorRight
import Derived.Test.YtaglbikjnaahnabDoorRefName
import Derived.Test.YtaglbikjnaahnabDoorRefChars
import Derived.Test.YtaglbikjnaahnabDoorRefSame
namespace Go.Proofs.YtaglbikjnaahnabDoor
open Go.RowKit

theorem small_any (s : ByteArray) (w : World) (hs : s.size ≤ 9223372036854775807) (hT : Tabs w) : Calls Tryd.prog 64 #[.string s] w fun e w' => Tells (SmallT s) e ∧ Below w.heap.size w w' := by
  have HT := hide hT
  clear hT
  by_cases h : s.size ≤ 512
  · have h' : (s.size : Int) ≤ 512 := by omega
    go_enter Tryd.func64, Tryd.ntmps64
    go_wp2_with fail
    refine (refChars_any s w (by unfold maxLen; omega) HT.out).mono ?_
    rintro e w1 ⟨⟨h1, rfl⟩ | ⟨h1, rfl⟩, hb⟩
    · go_wp2_with fail
      go_ret
      exact ⟨.inl ⟨⟨h, h1⟩, rfl⟩, hb⟩
    · go_wp2_with fail
      go_ret
      exact ⟨.inr ⟨fun x => h1 x.2, rfl⟩, hb⟩
  · have h' : ¬ ((s.size : Int) ≤ 512) := by omega
    go_enter Tryd.func64, Tryd.ntmps64
    go_wp2_with fail
    go_ret
    exact ⟨.inr ⟨fun x => h x.1, rfl⟩, Below.refl _ _⟩

def One (t : Tok) : Prop :=
  (t.kind = 1 ∧ NameOk t.name ∧ t.text.size = 0 ∧ AttrsOk t.attrs) ∨ (t.kind = 2 ∧ NameOk t.name ∧ t.text.size = 0 ∧ t.attrs.length = 0) ∨
  (t.kind = 3 ∧ t.name.size = 0 ∧ t.attrs.length = 0 ∧ t.text.size ≠ 0 ∧ SmallT t.text)
theorem one_one {t : Tok} (h : t.kind = 1) : One t ↔ (NameOk t.name ∧ t.text.size = 0 ∧ AttrsOk t.attrs) := by simp [One, h]
theorem one_two {t : Tok} (h : t.kind = 2) : One t ↔ (NameOk t.name ∧ t.text.size = 0 ∧ t.attrs.length = 0) := by simp [One, h]
theorem one_three {t : Tok} (h : t.kind = 3) : One t ↔ (t.name.size = 0 ∧ t.attrs.length = 0 ∧ t.text.size ≠ 0 ∧ SmallT t.text) := by simp [One, h]
theorem one_none {t : Tok} (h1 : t.kind ≠ 1) (h2 : t.kind ≠ 2) (h3 : t.kind ≠ 3) : ¬ One t := by simp [One, h1, h2, h3]
theorem attrVal_take {al : List (ByteArray × ByteArray)} {k : Nat} {name : ByteArray} (h : ∀ j a, j < k → al[j]? = some a → a.1 ≠ name) : attrVal (al.take k) name = none := by
  refine attrVal_none (fun j a hj => ?_)
  have hlt := (List.getElem?_eq_some_iff.1 hj).1
  simp at hlt
  rw [List.getElem?_take_of_lt (by omega)] at hj
  exact h j a (by omega) hj
theorem attrVal_hit {al : List (ByteArray × ByteArray)} {j k : Nat} {a : ByteArray × ByteArray} (hj : al[j]? = some a) (hk : j < k) : attrVal (al.take k) a.1 ≠ none := by
  intro h
  unfold attrVal at h
  rw [Option.map_eq_none_iff, List.find?_eq_none] at h
  have hm : a ∈ al.take k := List.mem_of_getElem? (i := j) (by rw [List.getElem?_take_of_lt hk]; exact hj)
  exact h a hm (by simp)

set_option maxRecDepth 100000 in
set_option maxHeartbeats 4000000 in
theorem one_any (n₀ : Nat) (t : Tok) (ao : Option Addr) (cap : Nat) (w : World) (hnm : t.name.size ≤ 9223372036854775807) (htx : t.text.size ≤ 9223372036854775807) (hA : AttrMem n₀ w ao t.attrs) (hn : n₀ ≤ w.heap.size) (hT : Tabs w) :
    Calls Tryd.prog 47 #[.agg #[.int .u8 t.kind, .string t.name, .slice ao t.attrs.length cap, .string t.text]] w fun e w' => Tells (One t) e ∧ Below w.heap.size w w' := by
  have hlen := hA.1
  have HA := hide hA
  have HT := hide hT
  clear hA hT
  obtain ⟨kv, hkv⟩ : ∃ kv : Int, (t.kind : Int) = kv := ⟨_, rfl⟩
  rw [hkv]
  obtain ⟨W1, hW1⟩ : ∃ W1, w.alloc (.cells #[.int .u8 kv, .string t.name, .slice ao t.attrs.length cap, .string t.text] 52) = W1 := ⟨_, rfl⟩
  have hf : W1.heap[w.heap.size]? = some (.cells #[.int .u8 kv, .string t.name, .slice ao t.attrs.length cap, .string t.text] 52) := by rw [← hW1]; exact World.alloc_heap_new w _
  have hb1 : Below w.heap.size w W1 := by rw [← hW1]; exact (Below.refl _ w).alloc (Nat.le_refl _) _
  have hz1 : W1.heap.size = w.heap.size + 1 := by rw [← hW1]; simp
  obtain ⟨p0, p1, p2, p3⟩ := cells4 hf
  have HB := hide (And.intro hb1 hf)
  clear hb1 hf
  by_cases h1 : t.kind = 1
  · obtain rfl : kv = 1 := by omega
    have ho := one_one h1
    have HO := hide ho
    clear ho hkv h1
    go_enter Tryd.func47, Tryd.ntmps47
    go_wp2_with fail
    clear hW1
    refine (refName_any t.name W1 (by unfold maxLen; omega)).mono ?_
    rintro e w2 ⟨⟨hn1, rfl⟩ | ⟨hn1, rfl⟩, hw2⟩
    all_goals subst hw2
    case inr =>
      go_wp2_with fail
      go_ret
      exact ⟨.inr ⟨fun x => hn1 (HO.out.1 x).1, rfl⟩, HB.out.1⟩
    by_cases h0 : t.text.size = 0
    case neg =>
      have h0' := empty_false (s := t.text) (by omega)
      go_wp2_with fail
      go_ret
      exact ⟨.inr ⟨fun x => h0 (HO.out.1 x).2.1, rfl⟩, HB.out.1⟩
    have h0' := empty_true (s := t.text) (by omega)
    by_cases h8 : 8 < (t.attrs.length : Int)
    · go_wp2_with fail
      go_ret
      exact ⟨.inr ⟨fun x => by have := (HO.out.1 x).2.2.1; omega, rfl⟩, HB.out.1⟩
    go_wp2_with fail
    go_loopw [3] (fun i wr => ∃ k : Nat, k ≤ t.attrs.length ∧ i = .int .i64 k ∧ (∀ j a, j < k → t.attrs[j]? = some a → attrVal (t.attrs.take j) a.1 = none ∧ NameOk a.1 ∧ SmallT a.2) ∧ Below w2.heap.size w2 wr) (fun i _ => t.attrs.length - (intOf i).toNat)
    case atStart => exact ⟨0, Nat.zero_le _, rfl, fun j a h => by omega, Below.refl _ _⟩
    case round =>
      obtain ⟨k, hk, rfl, hne, hbw⟩ := hrel
      have hsz := hbw.size
      have HN := hide (And.intro hne hbw)
      clear hne hbw
      have d2 := (HN.out.2.cell (p := ⟨w.heap.size, 2, none⟩) (show w.heap.size < _ by omega)).trans p2
      by_cases hlt : k < t.attrs.length
      · obtain ⟨a, ha⟩ : ∃ a, t.attrs[k]? = some a := ⟨t.attrs[k], by simp [hlt]⟩
        obtain ⟨b, off, rfl, hb, c1, c2⟩ := HA.out.2.2 k a ha
        have hbb : Below n₀ w wr := (HB.out.1.mono hn).trans (HN.out.2.mono (by omega))
        have e1 := (hbb.cell (p := ⟨b, _, none⟩) hb).trans c1
        have e2 := (hbb.cell (p := ⟨b, _, none⟩) hb).trans c2
        have hsa := HA.out.2.1 a (List.mem_of_getElem? ha)
        have HBB := hide hbb
        clear c1 c2 hbb
        go_wp2_with fail
        refine (refName_any a.1 wr (by unfold maxLen; omega)).mono ?_
        rintro e w3 ⟨⟨ha1, rfl⟩ | ⟨ha1, rfl⟩, hw3⟩
        all_goals subst hw3
        case inr =>
          go_wp2_with fail
          go_ret
          exact ⟨.inr ⟨fun x => ha1 ((HO.out.1 x).2.2.2 k a ha).2.1, rfl⟩, HB.out.1.trans (HN.out.2.mono (by omega))⟩
        go_wp2_with fail
        refine (small_any a.2 w3 (by omega) (tabs_below HT.out (HB.out.1.trans (HN.out.2.mono (by omega))))).mono ?_
        rintro e w4 ⟨⟨ha2, rfl⟩ | ⟨ha2, rfl⟩, hb4⟩
        case inr =>
          have H4 := hide ((HB.out.1.trans (HN.out.2.mono (by omega))).trans (hb4.mono (by omega)))
          clear hb4
          go_wp2_with fail
          go_ret
          exact ⟨.inr ⟨fun x => ha2 ((HO.out.1 x).2.2.2 k a ha).2.2, rfl⟩, H4.out⟩
        have d3 := (hb4.cell (p := ⟨w.heap.size, 2, none⟩) (show w.heap.size < _ by omega)).trans d2
        have H4 := hide (HN.out.2.trans (hb4.mono hsz))
        have hbn := HBB.out.trans (hb4.mono (by omega))
        have HBN := hide hbn
        have e3 := (hb4.cell (p := ⟨b, _, none⟩) (show b < w3.heap.size by omega)).trans e1
        clear hb4 hbn e1 e2 d2
        go_wp2_with fail
        go_loopw [4] (fun i wq => (wq.heap = w4.heap ∧ Below w4.heap.size w4 wq) ∧ ∃ j : Nat, j ≤ k ∧ i = .int .i64 j ∧ ∀ i b, i < j → t.attrs[i]? = some b → b.1 ≠ a.1) (fun i _ => k - (intOf i).toNat)
        case atStart => exact ⟨⟨rfl, Below.refl _ _⟩, 0, Nat.zero_le _, rfl, fun i b h => by omega⟩
        case round =>
          obtain ⟨⟨hqh, hqb⟩, j, hj, rfl, hjq⟩ := hrel
          have d4 : wr.cell? ⟨w.heap.size, 2, none⟩ = some (.slice (some ⟨b, off, none⟩) t.attrs.length cap) := by simpa [World.cell?, hqh] using d3
          have e4 : wr.cell? ⟨b, off + k * 2, none⟩ = some (.string a.1) := by simpa [World.cell?, hqh] using e3
          have HQ := hide (And.intro hqh (And.intro hqb hjq))
          clear hqh hqb hjq d3 e3
          by_cases hjk : j < k
          · obtain ⟨y, hy⟩ : ∃ y, t.attrs[j]? = some y := ⟨t.attrs[j], by simp [show j < t.attrs.length by omega]⟩
            obtain ⟨b', off', e, hb', c1, _⟩ := HA.out.2.2 j y hy
            cases e
            have f4 : wr.cell? ⟨b, off + j * 2, none⟩ = some (.string y.1) := by have h := (HBN.out.cell (p := ⟨b, _, none⟩) hb').trans c1; simpa [World.cell?, HQ.out.1] using h
            clear c1
            have hjl : j < t.attrs.length := by omega
            by_cases he : y.1 = a.1
            · have he' : (y.1.toList == a.1.toList) = true := by simp [he]
              go_wp2_with fail
              go_quiet (fail)
              go_wp2_with fail
              go_ret
              refine ⟨.inr ⟨fun x => ?_, rfl⟩, HB.out.1.trans ((H4.out.trans ((below_drewN HQ.out.2.1 nq).mono H4.out.size)).mono (by omega))⟩
              exact attrVal_hit hy hjk (by rw [he]; exact ((HO.out.1 x).2.2.2 k a ha).1)
            · have he' : (y.1.toList == a.1.toList) = false := str_ne he
              go_wp2_with fail
              go_quiet (fail)
              go_wp2_with fail
              refine ⟨⟨⟨HQ.out.1, below_drewN HQ.out.2.1 nq⟩, j + 1, by omega, by simp, fun i z hi hz => ?_⟩, by simp [intOf]; omega⟩
              rcases Nat.lt_or_ge i j with h | h
              · exact HQ.out.2.2 i z h hz
              · obtain rfl : i = j := by omega
                rw [hy] at hz
                cases hz
                exact he
          · go_wp2_with fail
            go_roundw
            case rel =>
              refine ⟨k + 1, by omega, by simp, fun i z hi hz => ?_, H4.out.trans (HQ.out.2.1.mono H4.out.size)⟩
              rcases Nat.lt_or_ge i k with h | h
              · exact HN.out.1 i z h hz
              · obtain rfl : i = k := by omega
                rw [ha] at hz
                cases hz
                exact ⟨attrVal_take (fun i z hi hz => HQ.out.2.2 i z (by omega) hz), ha1, ha2⟩
            case measure => simp [intOf]; omega
      · go_wp2_with fail
        go_ret
        refine ⟨.inl ⟨HO.out.2 ⟨hn1, h0, by omega, fun i a hi => HN.out.1 i a (by have := (List.getElem?_eq_some_iff.1 hi).1; omega) hi⟩, rfl⟩, HB.out.1.trans (HN.out.2.mono (by omega))⟩
  · by_cases h2 : t.kind = 2
    · obtain rfl : kv = 2 := by omega
      have ho := one_two h2
      have HO := hide ho
      clear ho hkv h1
      go_enter Tryd.func47, Tryd.ntmps47
      go_wp2_with fail
      clear hW1
      refine (refName_any t.name W1 (by unfold maxLen; omega)).mono ?_
      rintro e w2 ⟨⟨hn1, rfl⟩ | ⟨hn1, rfl⟩, hw2⟩
      all_goals subst hw2
      case inr =>
        go_wp2_with fail
        go_ret
        exact ⟨.inr ⟨fun x => hn1 (HO.out.1 x).1, rfl⟩, HB.out.1⟩
      by_cases h0 : t.text.size = 0
      case neg =>
        have h0' := empty_false (s := t.text) (by omega)
        go_wp2_with fail
        go_ret
        exact ⟨.inr ⟨fun x => h0 (HO.out.1 x).2.1, rfl⟩, HB.out.1⟩
      have h0' := empty_true (s := t.text) (by omega)
      by_cases h8 : t.attrs.length = 0
      · have h8' : ((t.attrs.length : Int) == 0) = true := by rw [h8]; rfl
        go_wp2_with fail
        go_ret
        exact ⟨.inl ⟨HO.out.2 ⟨hn1, h0, h8⟩, rfl⟩, HB.out.1⟩
      · have h8' : ((t.attrs.length : Int) == 0) = false := by rw [beq_eq_false_iff_ne]; omega
        go_wp2_with fail
        go_ret
        exact ⟨.inr ⟨fun x => h8 (HO.out.1 x).2.2, rfl⟩, HB.out.1⟩
    · by_cases h3 : t.kind = 3
      · obtain rfl : kv = 3 := by omega
        have ho := one_three h3
        have HO := hide ho
        clear ho hkv h1 h2
        by_cases h0 : t.name.size = 0
        case neg =>
          have h0' := empty_false (s := t.name) (by omega)
          go_enter Tryd.func47, Tryd.ntmps47
          go_wp2_with fail
          go_ret
          exact ⟨.inr ⟨fun x => h0 (HO.out.1 x).1, rfl⟩, HB.out.1⟩
        have h0' := empty_true (s := t.name) (by omega)
        by_cases h8 : t.attrs.length = 0
        case neg =>
          have h8' : ((t.attrs.length : Int) == 0) = false := by rw [beq_eq_false_iff_ne]; omega
          go_enter Tryd.func47, Tryd.ntmps47
          go_wp2_with fail
          go_ret
          exact ⟨.inr ⟨fun x => h8 (HO.out.1 x).2.1, rfl⟩, HB.out.1⟩
        rw [h8] at hW1 p2 ⊢
        have HH8 := hide h8
        clear h8
        by_cases h4 : t.text.size = 0
        · have h4' := empty_true (s := t.text) (by omega)
          go_enter Tryd.func47, Tryd.ntmps47
          go_wp2_with fail
          go_ret
          exact ⟨.inr ⟨fun x => (HO.out.1 x).2.2.1 h4, rfl⟩, HB.out.1⟩
        have h4' := empty_false (s := t.text) (by omega)
        have hsm := small_any t.text W1 htx (tabs_below HT.out HB.out.1)
        have HSM := hide hsm
        clear hsm
        go_enter Tryd.func47, Tryd.ntmps47
        go_wp2_with fail
        refine HSM.out.mono ?_
        rintro e w4 ⟨⟨ha2, rfl⟩ | ⟨ha2, rfl⟩, hb4⟩
        · have H4 := hide (HB.out.1.trans (hb4.mono (by omega)))
          clear hb4
          go_wp2_with fail
          go_ret
          exact ⟨.inl ⟨HO.out.2 ⟨h0, HH8.out, h4, ha2⟩, rfl⟩, H4.out⟩
        · have H4 := hide (HB.out.1.trans (hb4.mono (by omega)))
          clear hb4
          go_wp2_with fail
          go_ret
          exact ⟨.inr ⟨fun x => ha2 (HO.out.1 x).2.2.2, rfl⟩, H4.out⟩
      · have z1 : (kv == 1) = false := by rw [beq_eq_false_iff_ne]; omega
        have z2 : (kv == 2) = false := by rw [beq_eq_false_iff_ne]; omega
        have z3 : (kv == 3) = false := by rw [beq_eq_false_iff_ne]; omega
        go_enter Tryd.func47, Tryd.ntmps47
        go_wp2_with fail
        go_ret
        exact ⟨.inr ⟨one_none h1 h2 h3, rfl⟩, HB.out.1⟩
end Go.Proofs.YtaglbikjnaahnabDoor
