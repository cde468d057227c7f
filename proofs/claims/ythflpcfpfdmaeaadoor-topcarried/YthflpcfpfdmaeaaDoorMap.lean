/- entityChars: the map of the five entities. -/
import Derived.Test.YthflpcfpfdmaeaaDoorEnt
import Derived.Test.YthflpcfpfdmaeaaDoorMath
import Derived.Maps.Own
import Derived.Maps.OwnSet
namespace Go.Proofs.YthflpcfpfdmaeaaDoor
open Go.RowKit Go.Maps

theorem law : Keyed Tryd.prog 9 := string_keyed Tryd.underlying9
theorem zeroRune (w : World) : (zeroValue 21).run Tryd.prog w = .ok (.int .i32 0) w := by kernel_rfl
/-- The map behind k rounds. -/
def mapC : Nat → DataW Unit
  | 0 => .map []
  | k + 1 => (mapC k).put (.string (entN k).data.toList) (.lit (.int .i32 (entC k)))

theorem ent_small (n : Nat) : (entN n).size ≤ maxLen := by
  match n with
  | 0 => decide
  | 1 => decide
  | 2 => decide
  | 3 => decide
  | 4 => decide
  | n + 5 => exact Nat.zero_le _
theorem ent_wf (n : Nat) (h : n < 5) : (Lit.int .i32 (entC n)).wf = true := by
  match n, h with
  | 0, _ => decide
  | 1, _ => decide
  | 2, _ => decide
  | 3, _ => decide
  | 4, _ => decide
theorem map_below {w w' : World} {b n : Nat} {D : DataW Unit} (h : w.ownsMap Tryd.prog 9 (plainElem Tryd.prog 21) b n D) (hb : Below w.heap.size w w') : w'.ownsMap Tryd.prog 9 (plainElem Tryd.prog 21) b n D := by
  obtain ⟨es, clock, hm, r⟩ := h
  exact ⟨es, clock, by rw [hb.block b (Array.getElem?_eq_some_iff.1 hm).1]; exact hm, r⟩
theorem map_alloc {w : World} {b n : Nat} {D : DataW Unit} (h : w.ownsMap Tryd.prog 9 (plainElem Tryd.prog 21) b n D) (o : Obj) : (w.alloc o).ownsMap Tryd.prog 9 (plainElem Tryd.prog 21) b n D :=
  map_below h ((Below.refl _ _).alloc (Nat.le_refl _) _)

theorem entityChars_any (w : World) (hl : EntLaid w) : Calls Tryd.prog 57 #[] w fun e w' => e = .returned (.map (some w.heap.size)) ∧ w'.ownsMap Tryd.prog 9 (plainElem Tryd.prog 21) w.heap.size 5 (mapC 5) ∧ Below w.heap.size w w' := by
  obtain ⟨t, fr, hg⟩ := hl
  have hlt : 0 < w.heap.size := (Array.getElem?_eq_some_iff.1 hg).1
  have Hg := hide (show (w.alloc (.map #[] 0)).heap[0]? = some (.cells entCs t fr) by rw [Below.heap_alloc _ _ _ hlt]; exact hg)
  have hmm := @run_makeMap Tryd.prog
  clear hg
  go_enter Tryd.func57, Tryd.ntmps57
  go_wp2_with (refine wpList_load_row rfl 86 _ rfl 0 rfl t entCs fr _ Hg.out Tryd.underlying86 rfl entSize ?_)
  clear Hg
  go_loopw [6] (fun i wr => ∃ n : Nat, n ≤ 5 ∧ i = .int .i64 n ∧ wr.ownsMap Tryd.prog 9 (plainElem Tryd.prog 21) w.heap.size n (mapC n) ∧ Below w.heap.size w wr) (fun i _ => 5 - (intOf i).toNat)
  case atStart => exact ⟨0, by omega, rfl, World.ownsMap_made _ _ _ _, (Below.refl _ _).alloc (Nat.le_refl _) _⟩
  case round =>
    obtain ⟨n, h2, rfl, hown, hb⟩ := hrel
    by_cases hlt : n < 5
    · have hix := entIndex n hlt
      have hb' := hb.size
      have hown1 := map_alloc hown (.cells #[.int .i32 (entC n), .string (entN n)] 85)
      have hkey : keyOf Tryd.prog 9 (.string (entN n)) = some (.string (entN n).data.toList) := WideMaps.keyOf_string_mk Tryd.underlying9 (ent_small n)
      have hwf : (Lit.int .i32 (entC n)).wf = true := ent_wf n hlt
      have HH := hide (show _ ∧ _ from ⟨hown1, hkey⟩)
      clear hown hown1 hkey
      go_wp2_with (at_mapUpdate; refine wpList_mapUpdate_own _ rfl _ _ _ 99 rfl 9 21 law Tryd.underlying99 _ w.heap.size n _ rfl HH.out.1 ?c1 _ _ _ rfl rfl HH.out.2 _ [] (plainElem_int Tryd.underlying21 hwf) ?_)
      case c1 => unfold maxLen; omega
      intro w1 hown2 hgr
      have hb3 := (hb.alloc hb' (.cells #[.int .i32 (entC n), .string (entN n)] 85)).grown hgr (by simp; omega) (fun k hk => by cases hk; exact Nat.le_refl _)
      clear HH hgr
      go_wp2_with fail
      exact ⟨⟨n + 1, by omega, by go_num, hown2, hb3⟩, by simp [intOf]; omega⟩
    · obtain rfl : n = 5 := by omega
      go_wp2_with fail
      go_ret
      exact ⟨rfl, hown, hb⟩
theorem mapC_list : mapC 5 = .map [(.string [97, 109, 112], .lit (.int .i32 38)), (.string [97, 112, 111, 115], .lit (.int .i32 39)), (.string [103, 116], .lit (.int .i32 62)), (.string [108, 116], .lit (.int .i32 60)), (.string [113, 117, 111, 116], .lit (.int .i32 34))] := by kernel_rfl
theorem map_no (l : List UInt8) (h : ∀ k, k < 5 → l ≠ (entN k).data.toList) : has (mapC 5) (.string l) = false := by
  have h0 := h 0 (by omega); have h1 := h 1 (by omega); have h2 := h 2 (by omega); have h3 := h 3 (by omega); have h4 := h 4 (by omega)
  rw [mapC_list]
  simp only [entN] at h0 h1 h2 h3 h4
  simp [has, Lit.sameKey, Ne.symm h0, Ne.symm h1, Ne.symm h2, Ne.symm h3, Ne.symm h4]
theorem map_yes (k : Nat) (h : k < 5) : has (mapC 5) (.string (entN k).data.toList) = true ∧ (mapC 5).atKey (.string (entN k).data.toList) (.lit (.int .i32 0)) = .lit (.int .i32 (entC k)) := by
  rw [mapC_list]
  match k, h with
  | 0, _ => exact ⟨by decide, rfl⟩
  | 1, _ => exact ⟨by decide, rfl⟩
  | 2, _ => exact ⟨by decide, rfl⟩
  | 3, _ => exact ⟨by decide, rfl⟩
  | 4, _ => exact ⟨by decide, rfl⟩
end Go.Proofs.YthflpcfpfdmaeaaDoor
