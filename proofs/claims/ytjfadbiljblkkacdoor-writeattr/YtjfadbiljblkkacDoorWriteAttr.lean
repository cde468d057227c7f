/- WriteAttr, whatever its arguments. -/
import Derived.Test.YtjfadbiljblkkacDoorLive4
namespace Go.Proofs.YtjfadbiljblkkacDoor
open Go.RowKit

set_option maxRecDepth 100000 in
set_option maxHeartbeats 4000000 in
theorem writeAttr_any (name key value other : ByteArray) (w : World) (hn : name.size ≤ 9223372036854775807) (hk : key.size ≤ 9223372036854775807) (hv : value.size ≤ 9223372036854775807) (hU : Tabs w) (hl : EntLaid w) :
    Calls Tryd.prog 7 #[.string name, .agg #[.string key, .string value], .string other] w fun e w' => e = .returned (.bool true) ∧ Below w.heap.size w w' := by
  have HU := hide hU
  have HL := hide hl
  clear hU hl
  go_enter Tryd.func7, Tryd.ntmps7
  go_wp2_with fail
  obtain ⟨W1, hW1⟩ : ∃ W1, w.alloc (.cells #[.string key, .string value] 43) = W1 := ⟨_, rfl⟩
  have z1 : W1.heap.size = w.heap.size + 1 := by rw [← hW1]; simp
  have f1 : W1.heap[w.heap.size]? = some (.cells #[.string key, .string value] 43) := by rw [← hW1]; exact World.alloc_heap_new w _
  have e0 : W1.cell? ⟨w.heap.size, 0, none⟩ = some (.string key) := by simp [World.cell?, f1]
  have e1 : W1.cell? ⟨w.heap.size, 1, none⟩ = some (.string value) := by simp [World.cell?, f1]
  have hB1 : Below w.heap.size w W1 := by rw [← hW1]; exact (Below.refl _ w).alloc (Nat.le_refl _) _
  rw [hW1]
  clear hW1 f1
  have HB1 := hide hB1
  clear hB1
  go_region_held3 (fun w' => w'.cell? ⟨w.heap.size, 0, none⟩ = some (.string key) ∧ w'.cell? ⟨w.heap.size, 1, none⟩ = some (.string value)) (go_keep) (fail)
  go_wp2_with fail
  obtain ⟨W3, hW3⟩ : ∃ W3, (W1.alloc (.cells #[.string key, .string value] 43)).drew = W3 := ⟨_, rfl⟩
  have z3 : W3.heap.size = w.heap.size + 2 := by rw [← hW3]; simp; omega
  have g0 : W3.heap[w.heap.size + 1]? = some (.cells #[.string key, .string value] 43) := by rw [← hW3, ← z1]; exact World.alloc_heap_new W1 _
  have hb3 : Below w.heap.size w W3 := by rw [← hW3]; exact (HB1.out.alloc HB1.out.size _).drew
  rw [hW3]
  have hA : AttrMem W3.heap.size W3 (some ⟨w.heap.size + 1, 0, none⟩) [(key, value)] := by
    refine ⟨by simp, fun a ha => ?_, fun j a hj => ?_⟩
    · simp at ha
      subst ha
      exact ⟨hk, hv⟩
    · match j, hj with
      | 0, hj => cases hj; exact ⟨_, _, rfl, by omega, by simp [World.cell?, g0], by simp [World.cell?, g0]⟩
      | j + 1, hj => simp at hj
  refine (element_row name (some ⟨w.heap.size + 1, 0, none⟩) 1 [(key, value)] none 0 [] (fun _ => (none, 0)) W3 hn hA (fun h => by simp at h) ⟨by simp, by simp⟩ (by simp) (by simp)).mono ?_
  rintro e w4 ⟨v4, l4, rfl, hl4, hE4, hb4⟩
  have hl2 : l4.length = 2 := by have h := congrArg List.length hl4; simpa [elemT] using h
  obtain ⟨ao, cap, rfl, hT⟩ := tokMem_own hE4 (by omega)
  rw [hl4] at hT
  rw [hl2]
  obtain ⟨_, _, _, a1, _, b, off, rfl, hb, c1, c2, c3, c4⟩ := hT.2 0 ⟨1, name, [(key, value)], ⟨#[]⟩⟩ rfl
  obtain ⟨_, _, _, a2, _, b', off', hao, hb', d1, d2, d3, d4⟩ := hT.2 1 ⟨2, name, [], ⟨#[]⟩⟩ rfl
  cases hao
  simp only [Nat.zero_mul, Nat.add_zero, Nat.one_mul, List.length_cons, List.length_nil, Nat.zero_add] at c1 c2 c3 c4 d1 d2 d3 d4
  obtain ⟨p1, hp1⟩ : ∃ p1, (avOf l4 0).1 = p1 := ⟨_, rfl⟩
  obtain ⟨p2, hp2⟩ : ∃ p2, (avOf l4 1).1 = p2 := ⟨_, rfl⟩
  obtain ⟨q1, hq1⟩ : ∃ q1, (avOf l4 0).2 = q1 := ⟨_, rfl⟩
  obtain ⟨q2, hq2⟩ : ∃ q2, (avOf l4 1).2 = q2 := ⟨_, rfl⟩
  rw [hp1, hq1] at c3
  rw [hp2, hq2] at d3
  rw [hp1] at a1
  rw [hp2] at a2
  have HA1 := hide (And.intro a1 a2)
  have HB4 := hide (hb3.trans (hb4.mono hb3.size))
  have hB : b < w4.heap.size := hb
  clear hE4 hl4 hT hA hb4 hb3 hW3 g0 a1 a2 hp1 hp2 hq1 hq2 e0 e1
  by_cases ho : other = key
  · subst ho
    have av2 : attrVal [(other, value)] other = some value := by simp [attrVal]
    have av3 : attrVal [] other = none := rfl
    have h1 := attr_len w4.heap.size p1 q1 1 1 name ⟨#[]⟩ other [(other, value)] w4 HA1.out.1 (Nat.le_refl _) rfl
    rw [av2] at h1
    have H1 := hide h1
    clear h1
    go_wp2_with fail
    refine H1.out.mono ?_
    rintro e w5 ⟨rfl, hb5⟩
    have hs5 := hb5.size
    have c1w5 := (hb5.cell (p := ⟨b, _, none⟩) hB).trans c1
    have c2w5 := (hb5.cell (p := ⟨b, _, none⟩) hB).trans c2
    have c3w5 := (hb5.cell (p := ⟨b, _, none⟩) hB).trans c3
    have c4w5 := (hb5.cell (p := ⟨b, _, none⟩) hB).trans c4
    have d1w5 := (hb5.cell (p := ⟨b, _, none⟩) hB).trans d1
    have d2w5 := (hb5.cell (p := ⟨b, _, none⟩) hB).trans d2
    have d3w5 := (hb5.cell (p := ⟨b, _, none⟩) hB).trans d3
    have d4w5 := (hb5.cell (p := ⟨b, _, none⟩) hB).trans d4
    have h2 := attr_len w4.heap.size p1 q1 1 1 name ⟨#[]⟩ other [(other, value)] w5 (HA1.out.1.below hb5) hs5 rfl
    rw [av2] at h2
    have H2 := hide (And.intro h2 hb5)
    clear h2 hb5 c1 c2 c3 c4 d1 d2 d3 d4
    simp only [Option.getD_some, Option.isSome_some]
    go_wp2_with fail
    refine H2.out.1.mono ?_
    rintro e w6 ⟨rfl, hb6⟩
    have hs6 := hb6.size
    have hB5 : b < w5.heap.size := by omega
    have d1w6 := (hb6.cell (p := ⟨b, _, none⟩) hB5).trans d1w5
    have d2w6 := (hb6.cell (p := ⟨b, _, none⟩) hB5).trans d2w5
    have d3w6 := (hb6.cell (p := ⟨b, _, none⟩) hB5).trans d3w5
    have d4w6 := (hb6.cell (p := ⟨b, _, none⟩) hB5).trans d4w5
    have hbb6 := H2.out.2.trans (hb6.mono hs5)
    have h3 := attr_len w4.heap.size p2 q2 2 0 name ⟨#[]⟩ other [] w6 (HA1.out.2.below hbb6) (by omega) rfl
    rw [av3] at h3
    have H3 := hide (And.intro h3 hbb6)
    clear h3 hb6 hbb6 c1w5 c2w5 c3w5 c4w5 d1w5 d2w5 d3w5 d4w5
    simp only [Option.getD_some, Option.isSome_some]
    go_wp2_with fail
    refine H3.out.1.mono ?_
    rintro e w7 ⟨rfl, hb7⟩
    have hbw7 : Below w.heap.size w w7 := (HB4.out.trans (H3.out.2.mono HB4.out.size)).trans (hb7.mono (Nat.le_trans HB4.out.size (by omega)))
    have h4 := live4_any w7 (tabs_below HU.out hbw7) (HL.out.below hbw7 HL.out.size)
    have H4 := hide (And.intro h4 hbw7)
    clear h4 hb7 hbw7
    simp only [Option.getD_none, Option.isSome_none]
    go_wp2_with fail
    refine H4.out.1.mono ?_
    rintro e w8 ⟨rfl, hb8⟩
    have H8 := hide (H4.out.2.trans (hb8.mono H4.out.2.size))
    clear hb8
    go_wp2_with fail
    go_ret
    exact ⟨rfl, H8.out⟩
  · have ho1 : (other.toList == key.toList) = false := str_ne ho
    have av1 : attrVal [(key, value)] key = some value := by simp [attrVal]
    have av2 : attrVal [(key, value)] other = none := by simp [attrVal, List.find?_cons_of_neg, Ne.symm ho]
    have av3 : attrVal [] key = none := rfl
    have h1 := attr_len w4.heap.size p1 q1 1 1 name ⟨#[]⟩ key [(key, value)] w4 HA1.out.1 (Nat.le_refl _) rfl
    rw [av1] at h1
    have H1 := hide h1
    clear h1
    go_wp2_with fail
    refine H1.out.mono ?_
    rintro e w5 ⟨rfl, hb5⟩
    have hs5 := hb5.size
    have c1w5 := (hb5.cell (p := ⟨b, _, none⟩) hB).trans c1
    have c2w5 := (hb5.cell (p := ⟨b, _, none⟩) hB).trans c2
    have c3w5 := (hb5.cell (p := ⟨b, _, none⟩) hB).trans c3
    have c4w5 := (hb5.cell (p := ⟨b, _, none⟩) hB).trans c4
    have d1w5 := (hb5.cell (p := ⟨b, _, none⟩) hB).trans d1
    have d2w5 := (hb5.cell (p := ⟨b, _, none⟩) hB).trans d2
    have d3w5 := (hb5.cell (p := ⟨b, _, none⟩) hB).trans d3
    have d4w5 := (hb5.cell (p := ⟨b, _, none⟩) hB).trans d4
    have h2 := attr_len w4.heap.size p1 q1 1 1 name ⟨#[]⟩ other [(key, value)] w5 (HA1.out.1.below hb5) hs5 rfl
    rw [av2] at h2
    have H2 := hide (And.intro h2 hb5)
    clear h2 hb5 c1 c2 c3 c4 d1 d2 d3 d4
    simp only [Option.getD_some, Option.isSome_some]
    go_wp2_with fail
    refine H2.out.1.mono ?_
    rintro e w6 ⟨rfl, hb6⟩
    have hs6 := hb6.size
    have hB5 : b < w5.heap.size := by omega
    have d1w6 := (hb6.cell (p := ⟨b, _, none⟩) hB5).trans d1w5
    have d2w6 := (hb6.cell (p := ⟨b, _, none⟩) hB5).trans d2w5
    have d3w6 := (hb6.cell (p := ⟨b, _, none⟩) hB5).trans d3w5
    have d4w6 := (hb6.cell (p := ⟨b, _, none⟩) hB5).trans d4w5
    have hbb6 := H2.out.2.trans (hb6.mono hs5)
    have h3 := attr_len w4.heap.size p2 q2 2 0 name ⟨#[]⟩ key [] w6 (HA1.out.2.below hbb6) (by omega) rfl
    rw [av3] at h3
    have H3 := hide (And.intro h3 hbb6)
    clear h3 hb6 hbb6 c1w5 c2w5 c3w5 c4w5 d1w5 d2w5 d3w5 d4w5
    simp only [Option.getD_none, Option.isSome_none]
    go_wp2_with fail
    refine H3.out.1.mono ?_
    rintro e w7 ⟨rfl, hb7⟩
    have hbw7 : Below w.heap.size w w7 := (HB4.out.trans (H3.out.2.mono HB4.out.size)).trans (hb7.mono (Nat.le_trans HB4.out.size (by omega)))
    have h4 := live4_any w7 (tabs_below HU.out hbw7) (HL.out.below hbw7 HL.out.size)
    have H4 := hide (And.intro h4 hbw7)
    clear h4 hb7 hbw7
    simp only [Option.getD_none, Option.isSome_none]
    go_wp2_with fail
    refine H4.out.1.mono ?_
    rintro e w8 ⟨rfl, hb8⟩
    have H8 := hide (H4.out.2.trans (hb8.mono H4.out.2.size))
    clear hb8
    go_wp2_with fail
    go_ret
    exact ⟨rfl, H8.out⟩
end Go.Proofs.YtjfadbiljblkkacDoor
