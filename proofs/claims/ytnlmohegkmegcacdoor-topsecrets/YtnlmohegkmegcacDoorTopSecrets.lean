/- TopSecrets answers true at every name and secret. -/
import Derived.Test.YtnlmohegkmegcacDoorFacts64
import Derived.Test.YtnlmohegkmegcacDoorB64w
namespace Go.Proofs.YtnlmohegkmegcacDoor
open Go.RowKit

theorem name_a : NameOk ⟨#[97]⟩ := by
  refine ⟨by decide, by decide, fun j hj => ?_⟩
  obtain rfl : j = 0 := by have : (⟨#[97]⟩ : ByteArray).size = 1 := rfl; omega
  exact Or.inl (Or.inr (Or.inl (show (97 : Int) ≤ ((97 : UInt8).toNat : Int) ∧ ((97 : UInt8).toNat : Int) ≤ 122 by decide)))

theorem topSecrets_core (a c p : ByteArray) (w : World) (hR : Ready w) (ha : a.size ≤ 300) (hc : c.size ≤ 300) (hp : p = (⟨#[0]⟩ : ByteArray) ++ a ++ ⟨#[0]⟩ ++ c) : Calls Tryd.prog 6 #[.string a, .string c] w fun e w' => e = .returned (.bool true) ∧ Below w.heap.size w w' := by
  have h1 : decide (300 < (a.size : Int)) = false := by simp; omega
  have h2 : decide (300 < (c.size : Int)) = false := by simp; omega
  have hps : p.size ≤ 700 := by
    rw [hp, ← size_list, app_list, app_list, app_list, List.length_append, List.length_append, List.length_append, size_list, size_list]
    show 1 + a.size + 1 + c.size ≤ 700
    omega
  obtain ⟨b, hb⟩ : ∃ b : ByteArray, b = ⟨(b64 p.data.toList).toArray⟩ := ⟨_, rfl⟩
  have hbl : b.data.toList = b64 p.data.toList := by rw [hb]
  have hbs : b.size ≤ 2000 := by
    rw [← size_list, hbl]
    have := (b64_length p.data.toList).2
    rw [size_list] at this
    omega
  have hbb := b64_bytes p.data.toList
  rw [← hbl] at hbb
  have hesc : esc b.data.toList = b.data.toList := esc_plain _ fun x hx => (hbb x hx).2.2
  have H := hide hR
  have HB := hide (show ∀ w, Calls Tryd.prog 10 #[.string p] w fun e w' => e = .returned (.string b) ∧ Below w.heap.size w w' from fun w => by
    rw [hb]; exact base64_any p w (by omega))
  have HE := hide (show ∀ w, Ready w → Calls Tryd.prog 14 #[.string b] w fun e w' => e = .returned (.string b) ∧ Below w.heap.size w w' from fun w hl => by
    have := escape_any b w (by omega) hl.1
    rw [hesc] at this
    exact this)
  have HU := hide (show ∀ w, Ready w → Calls Tryd.prog 18 #[.string b] w fun e w' => e = .returned (.tuple #[.string b, .int .i64 0]) ∧ Below w.heap.size w w' from fun w hl => by
    refine unescape_is b b.data.toList w (by omega) hl ?_
    have := unesc_esc b.data.toList
    rw [hesc] at this
    exact this)
  have HV := hide (show ∀ w, Calls Tryd.prog 8 #[.string b] w fun e w' => e = .returned (.tuple #[.string p, .int .i64 0]) ∧ Below w.heap.size w w' from fun w =>
    unbase64_is b p.data.toList w (by omega) hbl.symm)
  have HC := hide (show ∀ w, Ready w → Calls Tryd.prog 13 #[.string b] w fun e w' => e = .returned (.bool true) ∧ Below w.heap.size w w' from fun w hl => by
    refine (chars_any b w (by unfold maxLen; omega) hl.2.1).mono ?_
    rintro e w' ⟨he, hbe⟩
    exact ⟨he.yes (chars_ascii _ fun x hx => ⟨(hbb x hx).1, (hbb x hx).2.1⟩), hbe⟩)
  clear hR hb hbl hbb hesc hbs hps
  go_enter Tryd.func6, Tryd.ntmps6
  go_wp2_with fail
  rw [← hp]
  refine (HB.out _).mono ?_
  rintro e w1 ⟨rfl, hb1⟩
  go_wp2_with fail
  refine (HE.out _ (H.out.below hb1)).mono ?_
  rintro e w2 ⟨rfl, hb2⟩
  have hb3 := hb1.trans (hb2.mono hb1.size)
  clear hb1 hb2
  go_wp2_with fail
  refine (HU.out _ (H.out.below hb3)).mono ?_
  rintro e w4 ⟨rfl, hb4⟩
  have hb5 := hb3.trans (hb4.mono hb3.size)
  clear hb3 hb4
  go_wp2_with fail
  refine (HV.out _).mono ?_
  rintro e w6 ⟨rfl, hb6⟩
  have hb7 := hb5.trans (hb6.mono hb5.size)
  clear hb5 hb6
  go_wp2_with fail
  refine (HE.out _ (H.out.below hb7)).mono ?_
  rintro e w8 ⟨rfl, hb8⟩
  have hb9 := hb7.trans (hb8.mono hb7.size)
  clear hb7 hb8
  go_wp2_with fail
  refine (HC.out _ (H.out.below hb9)).mono ?_
  rintro e w10 ⟨rfl, hb10⟩
  have hb11 := hb9.trans (hb10.mono hb9.size)
  clear hb9 hb10
  go_wp2_with fail
  go_ret
  exact ⟨rfl, hb11⟩

theorem topSecrets_any (a c : ByteArray) (w : World) (hR : Ready w) : Calls Tryd.prog 6 #[.string a, .string c] w fun e w' => e = .returned (.bool true) ∧ Below w.heap.size w w' := by
  by_cases ha : a.size ≤ 300
  · by_cases hc : c.size ≤ 300
    · exact topSecrets_core a c _ w hR ha hc rfl
    · have h1 : decide (300 < (a.size : Int)) = false := by simp; omega
      have h2 : decide (300 < (c.size : Int)) = true := by simp; omega
      clear hR
      go_enter Tryd.func6, Tryd.ntmps6
      go_wp2_with fail
      refine (name_any _ _ (by decide)).mono ?_
      rintro e w6 ⟨hp, hb6⟩
      have he := hp.yes name_a
      subst he
      go_wp2_with fail
      go_ret
      exact ⟨rfl, hb6⟩
  · have h1 : decide (300 < (a.size : Int)) = true := by simp; omega
    clear hR
    go_enter Tryd.func6, Tryd.ntmps6
    go_wp2_with fail
    refine (name_any _ _ (by decide)).mono ?_
    rintro e w6 ⟨hp, hb6⟩
    have he := hp.yes name_a
    subst he
    go_wp2_with fail
    go_ret
    exact ⟨rfl, hb6⟩
end Go.Proofs.YtnlmohegkmegcacDoor
