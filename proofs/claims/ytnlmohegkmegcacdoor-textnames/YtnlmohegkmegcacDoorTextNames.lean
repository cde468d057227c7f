/- TextNames answers true at every text and number. -/
import Derived.Test.YtnlmohegkmegcacDoorFacts64
import Derived.Test.YtnlmohegkmegcacDoorRefName
namespace Go.Proofs.YtnlmohegkmegcacDoor
open Go.RowKit

theorem nmAt_byte {s : ByteArray} {j : Nat} {h : j < s.size} (hn : NmAt s j h) : (s[j]'h).toNat < 128 ∧ 32 ≤ (s[j]'h).toNat ∧ Plain (s[j]'h) := by
  have key : ∀ b : UInt8, (IsB b.toNat ∨ IsG b.toNat) → b.toNat < 128 ∧ 32 ≤ b.toNat ∧ Plain b := by
    intro b hb
    unfold IsB IsG at hb
    refine ⟨by omega, by omega, ?_, ?_, ?_, ?_, ?_⟩ <;> (intro e; subst e; revert hb; decide)
  rcases hn with h1 | ⟨_, h1⟩
  · exact key _ (Or.inl h1)
  · exact key _ (Or.inr h1)
theorem name_bytes {s : ByteArray} (h : NameOk s) : ∀ b ∈ s.data.toList, b.toNat < 128 ∧ 32 ≤ b.toNat ∧ Plain b := by
  intro b hb
  obtain ⟨j, hj, rfl⟩ := List.mem_iff_getElem.1 hb
  have hj' : j < s.size := by rw [← size_list]; exact hj
  exact nmAt_byte (h.2.2 j hj')
theorem name_cut {s : ByteArray} (h : NameOk s) (k : Nat) (h1 : 1 ≤ k) (h2 : k ≤ s.size) : NameOk (s.extract 0 k) := by
  have hsz : (s.extract 0 k).size = k := by rw [ByteArray.size_extract]; omega
  refine ⟨by omega, by have := h.2.1; omega, fun j hj => ?_⟩
  have hj' : j < s.size := by omega
  have he : (s.extract 0 k)[j]'hj = s[j]'hj' := by
    rw [ByteArray.getElem_extract]
    congr 1
    omega
  have := h.2.2 j hj'
  unfold NmAt at this ⊢
  rw [he]
  exact this
theorem name_a_more {s : ByteArray} (h : NameOk s) (h32 : s.size < 32) : NameOk (s ++ ⟨#[97]⟩) := by
  have hsz : (s ++ (⟨#[97]⟩ : ByteArray)).size = s.size + 1 := by rw [ByteArray.size_append]; rfl
  refine ⟨by omega, by omega, fun j hj => ?_⟩
  rcases Nat.lt_or_ge j s.size with h1 | h1
  · have he : (s ++ (⟨#[97]⟩ : ByteArray))[j]'hj = s[j]'h1 := ByteArray.getElem_append_left h1
    have := h.2.2 j h1
    unfold NmAt at this ⊢
    rw [he]
    exact this
  · obtain rfl : j = s.size := by omega
    have he : (s ++ (⟨#[97]⟩ : ByteArray))[s.size]'hj = 97 := by
      rw [ByteArray.getElem_append_right (Nat.le_refl _)]
      have : ∀ (k : Nat) (hk : k < (⟨#[97]⟩ : ByteArray).size), k = 0 → (⟨#[97]⟩ : ByteArray)[k]'hk = 97 := by
        intro k hk e
        subst e
        rfl
      exact this _ _ (by omega)
    unfold NmAt
    rw [he]
    exact Or.inl (Or.inr (Or.inl (show (97 : Int) ≤ ((97 : UInt8).toNat : Int) ∧ ((97 : UInt8).toNat : Int) ≤ 122 by decide)))

set_option maxHeartbeats 4000000 in
theorem textNames_any (s : ByteArray) (n : Int) (h0 : 0 ≤ n) (h1 : n ≤ 255) (w : World) (hs : s.size ≤ maxLen) (hR : Ready w) : Calls Tryd.prog 4 #[.string s, .int .u8 n] w fun e w' => e = .returned (.bool true) ∧ Below w.heap.size w w' := by
  have H := hide hR
  clear hR
  by_cases hn : NameOk s
  · have hs1 := hn.1
    have hs32 := hn.2.1
    have hb := name_bytes hn
    have hesc : esc s.data.toList = s.data.toList := esc_plain _ fun x hx => (hb x hx).2.2
    obtain ⟨k, hk⟩ : ∃ k : Nat, (k : Int) = n % s.size + 1 := ⟨(n % s.size + 1).toNat, by
      have : 0 ≤ n % (s.size : Int) := Int.emod_nonneg _ (by omega)
      omega⟩
    have hk1 : 1 ≤ k := by
      have : 0 ≤ n % (s.size : Int) := Int.emod_nonneg _ (by omega)
      omega
    have hk2 : k ≤ s.size := by
      have : n % (s.size : Int) < s.size := Int.emod_lt_of_pos _ (by omega)
      omega
    have HN := hide (show ∀ w, Calls Tryd.prog 11 #[.string s] w fun e w' => e = .returned (.bool true) ∧ Below w.heap.size w w' from fun w =>
      (name_any s w hs).mono fun e w' ⟨he, hb⟩ => ⟨he.yes hn, hb⟩)
    have HK := hide (show ∀ w, Calls Tryd.prog 11 #[.string (s.extract 0 k)] w fun e w' => e = .returned (.bool true) ∧ Below w.heap.size w w' from fun w =>
      (name_any _ w (by unfold maxLen; have := (name_cut hn k hk1 hk2).2.1; omega)).mono fun e w' ⟨he, hb⟩ => ⟨he.yes (name_cut hn k hk1 hk2), hb⟩)
    have HA := hide (show ∀ w, Calls Tryd.prog 11 #[.string (s ++ ⟨#[97]⟩)] w fun e w' => e = .returned (.bool (decide ((s.size : Int) < 32))) ∧ Below w.heap.size w w' from fun w => by
      have hsz : (s ++ (⟨#[97]⟩ : ByteArray)).size = s.size + 1 := by rw [ByteArray.size_append]; rfl
      refine (name_any _ w (by unfold maxLen; omega)).mono fun e w' ⟨he, hb⟩ => ⟨?_, hb⟩
      by_cases h32 : s.size < 32
      · rw [he.yes (name_a_more hn h32), show decide ((s.size : Int) < 32) = true by simp; omega]
      · rw [he.no (fun h => by have := h.2.1; omega), show decide ((s.size : Int) < 32) = false by simp; omega])
    have HE := hide (show ∀ w, Ready w → Calls Tryd.prog 14 #[.string s] w fun e w' => e = .returned (.string s) ∧ Below w.heap.size w w' from fun w hl => by
      have := escape_any s w (by omega) hl.1
      rw [hesc] at this
      exact this)
    have HC := hide (show ∀ w, Ready w → Calls Tryd.prog 13 #[.string s] w fun e w' => e = .returned (.bool true) ∧ Below w.heap.size w w' from fun w hl => by
      refine (chars_any s w hs hl.2.1).mono ?_
      rintro e w' ⟨he, hbe⟩
      exact ⟨he.yes (chars_ascii _ fun x hx => ⟨(hb x hx).1, (hb x hx).2.1⟩), hbe⟩)
    clear hn hb hesc hs
    go_enter Tryd.func4, Tryd.ntmps4
    go_wp2_with fail
    refine (HN.out _).mono ?_
    rintro e w1 ⟨rfl, hb1⟩
    go_wp2_with fail
    rw [← hk]
    refine (live_any _ (H.out.below hb1)).mono ?_
    rintro e w2 ⟨rfl, hb2⟩
    have hb3 := hb1.trans (hb2.mono hb1.size)
    clear hb1 hb2
    go_wp2_with fail
    rw [show (n % (s.size : Int) + 1).toNat = k by rw [← hk]; exact Int.toNat_natCast k]
    refine (HK.out _).mono ?_
    rintro e w4 ⟨rfl, hb4⟩
    have hb5 := hb3.trans (hb4.mono hb3.size)
    clear hb3 hb4
    go_wp2_with fail
    refine (HA.out _).mono ?_
    rintro e w6 ⟨rfl, hb6⟩
    have hb7 := hb5.trans (hb6.mono hb5.size)
    clear hb5 hb6
    go_wp2_with fail
    refine (HC.out _ (H.out.below hb7)).mono ?_
    rintro e w8 ⟨rfl, hb8⟩
    have hb9 := hb7.trans (hb8.mono hb7.size)
    clear hb7 hb8
    go_wp2_with fail
    refine (HE.out _ (H.out.below hb9)).mono ?_
    rintro e w10 ⟨rfl, hb10⟩
    have hb11 := hb9.trans (hb10.mono hb9.size)
    clear hb9 hb10
    go_wp2_with fail
    go_ret
    exact ⟨rfl, hb11⟩
  · have HN := hide (show ∀ w, Calls Tryd.prog 11 #[.string s] w fun e w' => e = .returned (.bool false) ∧ Below w.heap.size w w' from fun w =>
      (name_any s w hs).mono fun e w' ⟨he, hb⟩ => ⟨he.no hn, hb⟩)
    have HF := hide (show ∀ w, Calls Tryd.prog 12 #[.string s] w fun e w' => e = .returned (.bool false) ∧ Below w.heap.size w w' from fun w =>
      (refName_any s w hs).mono fun e w' ⟨he, hb⟩ => ⟨he.no hn, by subst hb; exact Below.refl _ _⟩)
    clear hn hs
    go_enter Tryd.func4, Tryd.ntmps4
    go_wp2_with fail
    refine (HN.out _).mono ?_
    rintro e w1 ⟨rfl, hb1⟩
    go_wp2_with fail
    refine (live_any _ (H.out.below hb1)).mono ?_
    rintro e w2 ⟨rfl, hb2⟩
    have hb3 := hb1.trans (hb2.mono hb1.size)
    clear hb1 hb2
    go_wp2_with fail
    refine (HF.out _).mono ?_
    rintro e w4 ⟨rfl, hb4⟩
    have hb5 := hb3.trans (hb4.mono hb3.size)
    clear hb3 hb4
    go_wp2_with fail
    go_ret
    exact ⟨rfl, hb5⟩
end Go.Proofs.YtnlmohegkmegcacDoor
