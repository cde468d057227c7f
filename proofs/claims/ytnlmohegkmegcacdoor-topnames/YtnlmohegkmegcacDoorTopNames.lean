/- TopNames answers true at every number. -/
import Derived.Test.YtnlmohegkmegcacDoorFlt
import Derived.Test.YtnlmohegkmegcacDoorName
import Derived.Test.YtnlmohegkmegcacDoorEsc
namespace Go.Proofs.YtnlmohegkmegcacDoor
open Go.RowKit

theorem bytesOk (k : Nat) (h1 : 1 ≤ k) (h2 : k ≤ 10) : NameOk (tabN k) ∧ NameOk (tabT k) ∧ esc (tabN k).data.toList = (tabN k).data.toList := by
  have key : ∀ s : ByteArray, (decide (1 ≤ s.size) && decide (s.size ≤ 32) && (s.data.toList.zipIdx.all fun x => (decide (65 ≤ x.1.toNat) && decide (x.1.toNat ≤ 90)) || (decide (97 ≤ x.1.toNat) && decide (x.1.toNat ≤ 122)) || (decide (0 < x.2) && x.1.toNat == 45))) = true → NameOk s := by
    intro s h
    rw [Bool.and_eq_true, Bool.and_eq_true, decide_eq_true_eq, decide_eq_true_eq, List.all_eq_true] at h
    refine ⟨h.1.1, h.1.2, fun j hj => ?_⟩
    have hm : (s[j], j) ∈ s.data.toList.zipIdx := by
      rw [List.mem_zipIdx_iff_getElem?]
      rw [Array.getElem?_toList]
      exact Array.getElem?_eq_getElem hj
    have := h.2 _ hm
    simp only [Bool.or_eq_true, Bool.and_eq_true, decide_eq_true_eq, beq_iff_eq] at this
    rcases this with (⟨a, b⟩ | ⟨a, b⟩) | ⟨a, b⟩
    · exact Or.inl (Or.inl ⟨by omega, by omega⟩)
    · exact Or.inl (Or.inr (Or.inl ⟨by omega, by omega⟩))
    · exact Or.inr ⟨a, Or.inr (Or.inl (by omega))⟩
  have hk : k = 1 ∨ k = 2 ∨ k = 3 ∨ k = 4 ∨ k = 5 ∨ k = 6 ∨ k = 7 ∨ k = 8 ∨ k = 9 ∨ k = 10 := by omega
  rcases hk with rfl | rfl | rfl | rfl | rfl | rfl | rfl | rfl | rfl | rfl
  all_goals exact ⟨key _ (by decide), key _ (by decide), by decide⟩

theorem topNames_any (n : Int) (h0 : 0 ≤ n) (h1 : n ≤ 255) (w : World) (hR : RowsLaid w) (hE : EntLaid w) : Calls Tryd.prog 5 #[.int .u8 n] w fun e w' => e = .returned (.bool true) ∧ Below w.heap.size w w' := by
  have H := hide (show _ ∧ _ from ⟨hR, hE⟩)
  clear hR hE
  go_enter Tryd.func5, Tryd.ntmps5
  go_wp2_with fail
  obtain ⟨c, hc⟩ : ∃ c, c = n % 10 + 1 := ⟨_, rfl⟩
  have hc1 : 1 ≤ c := by omega
  have hc2 : c ≤ 10 := by omega
  rw [← hc]
  clear hc
  obtain ⟨na, hna⟩ : ∃ na, na = tabN c.toNat := ⟨_, rfl⟩
  obtain ⟨ta, hta⟩ : ∃ ta, ta = tabT c.toNat := ⟨_, rfl⟩
  have hok := bytesOk c.toNat (by omega) (by omega)
  rw [← hna, ← hta] at hok
  have HN := hide (show ∀ w, RowsLaid w → Calls Tryd.prog 15 #[.int .i64 c] w fun e w' => e = .returned (.string na) ∧ w' = w from fun w hl => by rw [hna]; exact fname_yes c w hc1 hc2 hl)
  have HT := hide (show ∀ w, RowsLaid w → Calls Tryd.prog 17 #[.int .i64 c] w fun e w' => e = .returned (.string ta) ∧ w' = w from fun w hl => by rw [hta]; exact ftype_yes c w hc1 hc2 hl)
  have HP := hide (show ∀ e, ParseEnds na e → e = .returned (.tuple #[.int .i64 c, .bool true]) from fun e h => parse_own hc1 hc2 (hna ▸ h))
  have HE := hide (show ∀ w, EntLaid w → Calls Tryd.prog 14 #[.string na] w fun e w' => e = .returned (.string na) ∧ Below w.heap.size w w' from fun w hl => by
    have := escape_any na w (by have := hok.1.2.1; omega) hl
    rw [hok.2.2] at this
    exact this)
  have Hok := hide (show NameOk na ∧ NameOk ta from ⟨hok.1, hok.2.1⟩)
  have hml : ∀ s : ByteArray, NameOk s → s.size ≤ maxLen := fun s h => by unfold maxLen; have := h.2.1; omega
  have Hml := hide hml
  clear hok hna hta hml
  refine (HN.out _ H.out.1).mono ?_
  rintro e w' ⟨rfl, rfl⟩
  rename_i w0
  go_wp2_with fail
  refine (parse_any na _ H.out.1).mono ?_
  rintro e w1 ⟨hp, hb1⟩
  have he := HP.out e hp
  subst he
  clear hp
  go_wp2_with fail
  refine (name_any na _ (Hml.out _ Hok.out.1)).mono ?_
  rintro e w2 ⟨hp, hb2⟩
  have he := hp.yes Hok.out.1
  subst he
  clear hp
  have hb3 := hb1.trans (hb2.mono hb1.size)
  clear hb1 hb2
  go_wp2_with fail
  refine (HE.out _ (H.out.2.below hb3 H.out.2.size)).mono ?_
  rintro e w4 ⟨rfl, hb4⟩
  have hb5 := hb3.trans (hb4.mono hb3.size)
  clear hb3 hb4
  go_wp2_with (go_at_call 17; refine (HT.out _ (H.out.1.below hb5 H.out.1.size)).mono ?_; rintro e w' ⟨rfl, rfl⟩)
  refine (name_any ta _ (Hml.out _ Hok.out.2)).mono ?_
  rintro e w6 ⟨hp, hb6⟩
  have he := hp.yes Hok.out.2
  subst he
  clear hp
  have hb7 := hb5.trans (hb6.mono hb5.size)
  clear hb5 hb6
  go_wp2_with fail
  go_ret
  exact ⟨rfl, hb7⟩
end Go.Proofs.YtnlmohegkmegcacDoor
