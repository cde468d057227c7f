/- Escape: each of the five characters as its entity. -/
import Derived.Test.YthflpcfpfdmaeaaDoorEntName
import Derived.Test.YthflpcfpfdmaeaaDoorEscM
namespace Go.Proofs.YthflpcfpfdmaeaaDoor
open Go.RowKit

theorem entityName_no (r : Int) (w : World) (hl : EntLaid w) (h : NotEnt r) : Calls Tryd.prog 34 #[.int .i32 r] w fun e w' => e = .returned (.string ⟨#[]⟩) ∧ Below w.heap.size w w' := by
  have he : entName r = ⟨#[]⟩ := by
    unfold entName
    rw [if_neg h.1, if_neg h.2.1, if_neg h.2.2.1, if_neg h.2.2.2.1, if_neg h.2.2.2.2]
  rw [← he]
  exact entityName_any r w hl

set_option maxHeartbeats 2000000 in
theorem escape_any (s : ByteArray) (w : World) (hs : s.size ≤ 1000000) (hl : EntLaid w) : Calls Tryd.prog 26 #[.string s] w fun e w' => e = .returned (.string ⟨(esc s.data.toList).toArray⟩) ∧ Below w.heap.size w w' := by
  have HL := hide hl
  clear hl
  go_enter Tryd.func26, Tryd.ntmps26
  go_wp2_with fail
  go_loopw [4] (fun cp wr => ∃ (pos c : Nat), c ≤ pos ∧ pos ≤ s.size ∧ cp = .int .i64 c ∧ Lib.IsBuilderF 46 5 w.heap.size w.heap.size (Lib.byteCells (esc (s.data.toList.take c))) wr ∧ wr.heap[w.heap.size + 1]? = some (.stringIter s pos) ∧ Below w.heap.size w wr ∧ ∀ (j : Nat) (h : j < s.size), c ≤ j → j < pos → Plain s[j]) (fun _ wr => s.size - wr.iterPos (w.heap.size + 1))
  case atStart =>
    refine ⟨0, 0, Nat.le_refl _, Nat.zero_le _, rfl, (Lib.IsBuilderF.of (Lib.fresh_isBuilder _ 5 w)).alloc _, ?_, ((Below.refl _ w).alloc (Nat.le_refl _) _).alloc (by simp) _, fun j h h1 h2 => by omega⟩
    have := World.iter_heap (w.alloc (.cells #[.pointer none, .slice none 0 0] 46)) s 0
    simpa using this
  case round =>
    obtain ⟨pos, c, hcp, hpos, rfl, hI, hit, hbw, hpl⟩ := hrel
    have hsz : w.heap.size + 1 < wr.heap.size := (Array.getElem?_eq_some_iff.1 hit).1
    by_cases hp : pos < s.size
    · have hnx : ∀ ty, (Instr.next (.pointer (some ⟨w.heap.size + 1, 0, none⟩)) true ty).run Tryd.prog wr = _ := fun ty => Lib.run_next_any_at wr (w.heap.size + 1) s pos ty hit hp
      obtain ⟨hw1, hw2⟩ := decode_width s pos hp
      have hI2 := hI.iterAt hit (pos + (Utf8.decode s pos).2)
      have hit2 := Lib.iterAt_heap wr (w.heap.size + 1) s pos (pos + (Utf8.decode s pos).2) hit
      have hbw2 := Lib.below_iterAt hbw (k := w.heap.size + 1) (by omega) s (pos + (Utf8.decode s pos).2)
      by_cases hne : NotEnt (Utf8.decode s pos).1
      · have Hne := hide hne
        have H2 := hide (show _ ∧ _ ∧ _ ∧ _ ∧ _ from ⟨hI2, hit2, hbw2, hit, hpl⟩)
        clear hI hI2 hit2 hbw2 hne hpl
        go_wp2_with fail
        refine (entityName_no _ _ (HL.out.below H2.out.2.2.1 HL.out.size) Hne.out).mono ?_
        rintro e w1 ⟨rfl, hb1⟩
        go_wp2_with fail
        have hit3 := (hb1.block (w.heap.size + 1) (by rw [Lib.iterAt_size]; omega)).trans H2.out.2.1
        refine ⟨⟨pos + (Utf8.decode s pos).2, c, by omega, hw2, rfl, isb_below H2.out.1 hb1, hit3, H2.out.2.2.1.trans (hb1.mono (by rw [Lib.iterAt_size]; omega)), fun j h h1 h2 => ?_⟩, ?_⟩
        · rcases Nat.lt_or_ge j pos with h3 | h3
          · exact H2.out.2.2.2.2 j h h1 h3
          · rcases Nat.eq_or_lt_of_le h3 with h4 | h4
            · subst h4
              by_cases ha : (s[pos]'hp).toNat < 128
              · have := Hne.out
                rw [decode_ascii s pos hp ha] at this
                exact plain_of (by unfold NotEnt at this; simpa using this)
              · exact plain_high (by omega)
            · obtain ⟨_, h5⟩ := decode_cont s pos j h4 h2
              exact plain_high h5
        · simp only [World.iterPos, hit3, H2.out.2.2.2.1]
          omega
      · obtain ⟨hd, nm, hnm, hz1, hz2, hcat⟩ := special s pos hp hne
        have hne2 : nm.toList.isEmpty = false := empty_false hz1
        have ha : (s[pos]'hp).toNat < 128 := by
          rcases Nat.lt_or_ge (s[pos]'hp).toNat 128 with h1 | h1
          · exact h1
          · have h3 := (decode_high s pos hp h1).1
            exact absurd (show NotEnt (Utf8.decode s pos).1 from ⟨by omega, by omega, by omega, by omega, by omega⟩) hne
        rw [hd] at hnm hI2 hit2 hbw2
        clear hnx hw1 hw2
        have hnx : ∀ ty, (Instr.next (.pointer (some ⟨w.heap.size + 1, 0, none⟩)) true ty).run Tryd.prog wr = _ := fun ty => Lib.run_next_ascii_at wr (w.heap.size + 1) s pos ty hit hp ha
        have Hcat := hide hcat
        have H2 := hide (show _ ∧ _ ∧ _ ∧ _ ∧ _ from ⟨hI2, hit2, hbw2, hit, hpl⟩)
        have Hn := hide (show ∀ w, EntLaid w → Calls Tryd.prog 34 #[.int .i32 (s[pos]'hp).toNat] w fun e w' => e = .returned (.string nm) ∧ Below w.heap.size w w' from fun w hl => by rw [← hnm]; exact entityName_any _ w hl)
        clear hI hI2 hit2 hbw2 hne hpl hcat hnm hd
        go_wp2_with fail
        refine (Hn.out _ (HL.out.below H2.out.2.2.1 HL.out.size)).mono ?_
        rintro e w1 ⟨rfl, hb1⟩
        have hsz1 : w.heap.size ≤ w1.heap.size := by have := hb1.size; rw [Lib.iterAt_size] at this; omega
        have hcl : (esc (s.data.toList.take c)).length ≤ 6 * c := Nat.le_trans (esc_length _) (by rw [List.length_take]; omega)
        have H3 := hide (isb_below H2.out.1 hb1)
        go_wp2_with fail
        refine (writeString w.heap.size w.heap.size _ _ _ H3.out (by rw [Lib.byteCells_length, ← size_list, app_list, app_list, app_list, ext_list, List.length_append, List.length_append, List.length_append, List.length_take, List.length_drop, size_list, size_list, size_list, size_list]; exact cat_le hcl hcp (Nat.le_of_lt hp) hs hz2) hsz1).mono ?_
        rintro e w2 ⟨rfl, hI4, hb2, hk2⟩
        go_wp2_with fail
        have hit3 := (hb1.block (w.heap.size + 1) (by rw [Lib.iterAt_size]; omega)).trans H2.out.2.1
        have hit4 := hk2.iter hit3 (by omega)
        refine ⟨⟨pos + 1, pos + 1, Nat.le_refl _, hp, by go_num, ?_, hit4, (H2.out.2.2.1.trans (hb1.mono (by rw [Lib.iterAt_size]; omega))).trans hb2, fun j h h1 h2 => by omega⟩, ?_⟩
        · have := esc_step s c pos nm.data.toList hcp hp H2.out.2.2.2.2 Hcat.out
          rw [← this, Lib.byteCells_append]
          refine Or.inr ?_
          have hI5 := hI4
          rw [show Lib.strCells (s.extract c pos ++ ⟨#[38]⟩ ++ nm ++ ⟨#[59]⟩) = Lib.byteCells ((s.data.toList.drop c).take (pos - c) ++ [38] ++ nm.data.toList ++ [59]) by
            unfold Lib.strCells; rw [app_list, app_list, app_list, ext_list]; rfl] at hI5
          exact hI5
        · simp only [World.iterPos, hit4, H2.out.2.2.2.1]
          omega
    · have hnx : ∀ ty, (Instr.next (.pointer (some ⟨w.heap.size + 1, 0, none⟩)) true ty).run Tryd.prog wr = _ := fun ty => Lib.run_next_end_at wr (w.heap.size + 1) s pos ty hit hp
      have HI := hide hI
      have Hpl := hide hpl
      have hcl : (esc (s.data.toList.take c)).length ≤ 6 * c := Nat.le_trans (esc_length _) (by rw [List.length_take]; omega)
      clear hI hpl
      go_wp2_with fail
      refine (writeString w.heap.size w.heap.size _ _ _ HI.out (by rw [Lib.byteCells_length, ← size_list, ext_list, List.length_take, List.length_drop, size_list]; omega) (by omega)).mono ?_
      rintro e w2 ⟨rfl, hI4, hb2, hk2⟩
      have HI5 := hide (show Lib.IsBuilderF 46 5 w.heap.size w.heap.size (Lib.byteCells (esc s.data.toList)) w2 by
        rw [← esc_rest s c (fun j h h1 => Hpl.out j h h1 (by omega)), Lib.byteCells_append]
        refine Or.inr ?_
        have hI5 := hI4
        rw [show Lib.strCells (s.extract c s.size) = Lib.byteCells (s.data.toList.drop c) by
          unfold Lib.strCells; rw [ext_list, List.take_of_length_le (by rw [List.length_drop, size_list]; omega)]; rfl] at hI5
        exact hI5)
      clear hI4 hk2
      have hsz2 : w.heap.size ≤ w2.heap.size := by have := hb2.size; omega
      go_wp2_with fail
      refine (builderString w.heap.size w.heap.size (esc s.data.toList) _ HI5.out hsz2).mono ?_
      rintro e w3 ⟨rfl, _, hb3, _⟩
      go_wp2_with fail
      go_ret
      exact ⟨rfl, (hbw.trans hb2).trans hb3⟩
end Go.Proofs.YthflpcfpfdmaeaaDoor
