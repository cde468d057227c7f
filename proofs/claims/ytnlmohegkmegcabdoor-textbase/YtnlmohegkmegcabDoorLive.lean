/- What every law of the texts asks first: live; and short. -/
import Derived.Test.YtnlmohegkmegcabDoorUnesc
import Derived.Test.YtnlmohegkmegcabDoorUnw
import Derived.Test.YtnlmohegkmegcabDoorChars
import Derived.Test.YtnlmohegkmegcabDoorName
import Derived.Test.YtnlmohegkmegcabDoorEsc
namespace Go.Proofs.YtnlmohegkmegcabDoor
open Go.RowKit

/-- What the package text reads beside its arguments. -/
def Ready (w : World) : Prop := EntLaid w ∧ Lib.Utf8Tabs 0 1 w ∧ ∃ m, w.cell? ⟨3, 0, none⟩ = some (.int .i64 m)
theorem Ready.below {w w' : World} (h : Ready w) (hb : Below w.heap.size w w') : Ready w' := by
  obtain ⟨h1, h2, m, h3⟩ := h
  exact ⟨h1.below hb h1.size, tabs_below h2 hb, m, by rw [hb.cell (lt_of_cell h3)]; exact h3⟩

theorem unescape_is (s : ByteArray) (l : List UInt8) (w : World) (hs : s.size ≤ 1000000) (hR : Ready w) (h : unesc s.data.toList = some l) : Calls Tryd.prog 17 #[.string s] w fun e w' => e = .returned (.tuple #[.string ⟨l.toArray⟩, .int .i64 0]) ∧ Below w.heap.size w w' := by
  obtain ⟨h1, _, m, h3⟩ := hR
  refine (unescape_any s w hs h1 m h3).mono ?_
  rintro e w' ⟨he, hb⟩
  refine ⟨?_, hb⟩
  rcases he with ⟨l', h4, h5⟩ | ⟨h4, _⟩
  · rw [h] at h4
    cases h4
    exact h5
  · rw [h] at h4
    cases h4

theorem map_dg_inj : ∀ (a b : List Nat), (∀ v ∈ a, v < 64) → (∀ v ∈ b, v < 64) → a.map dg = b.map dg → a = b
  | [], [], _, _, _ => rfl
  | [], _ :: _, _, _, h => by simp at h
  | _ :: _, [], _, _, h => by simp at h
  | x :: a, y :: b, ha, hb, h => by
    simp only [List.map_cons, List.cons.injEq] at h
    have h1 := (dv_dg x (ha x (by simp))).1
    have h2 := (dv_dg y (hb y (by simp))).1
    rw [h.1, h2] at h1
    cases h1
    rw [map_dg_inj a b (fun v hv => ha v (by simp [hv])) (fun v hv => hb v (by simp [hv])) h.2]
theorem b64_inj {a b : List UInt8} (h : b64 a = b64 b) : a = b := by
  have h1 := trim_b64 a
  rw [h, trim_b64 b] at h1
  have h2 := map_dg_inj _ _ (vals_lt b) (vals_lt a) h1
  have h3 := fold_vals a []
  rw [← h2, fold_vals b []] at h3
  simpa using h3.symm
theorem unbase64_is (s : ByteArray) (l : List UInt8) (w : World) (hs : s.size ≤ 400000) (h : b64 l = s.data.toList) : Calls Tryd.prog 21 #[.string s] w fun e w' => e = .returned (.tuple #[.string ⟨l.toArray⟩, .int .i64 0]) ∧ Below w.heap.size w w' := by
  refine (unbase64_any s w hs).mono ?_
  rintro e w' ⟨he, hb⟩
  refine ⟨?_, hb⟩
  rcases he with ⟨l', h4, h5⟩ | ⟨h4, _⟩
  · rw [← h] at h4
    obtain rfl := b64_inj h4
    exact h5
  · exact absurd h (h4 l)

theorem name_iq : NameOk ⟨#[105, 113]⟩ := by
  refine ⟨by decide, by decide, fun j hj => ?_⟩
  have : j = 0 ∨ j = 1 := by have : (⟨#[105, 113]⟩ : ByteArray).size = 2 := rfl; omega
  rcases this with rfl | rfl
  · exact Or.inl (Or.inr (Or.inl (show (97 : Int) ≤ ((105 : UInt8).toNat : Int) ∧ ((105 : UInt8).toNat : Int) ≤ 122 by decide)))
  · exact Or.inl (Or.inr (Or.inl (show (97 : Int) ≤ ((113 : UInt8).toNat : Int) ∧ ((113 : UInt8).toNat : Int) ≤ 122 by decide)))

theorem live_any (w : World) (hR : Ready w) : Calls Tryd.prog 9 #[] w fun e w' => e = .returned (.bool true) ∧ Below w.heap.size w w' := by
  have H := hide hR
  clear hR
  go_enter Tryd.func9, Tryd.ntmps9
  go_wp2_with fail
  refine (unescape_is _ [97, 60, 98] _ (by decide) H.out (by decide)).mono ?_
  rintro e w1 ⟨rfl, hb1⟩
  go_wp2_with fail
  refine (unbase64_is _ [0, 97, 110, 110, 0, 112, 97] _ (by decide) (by decide)).mono ?_
  rintro e w2 ⟨rfl, hb2⟩
  have hb3 := hb1.trans (hb2.mono hb1.size)
  clear hb1 hb2
  go_wp2_with fail
  refine (escape_any _ _ (by decide) (H.out.below hb3).1).mono ?_
  rintro e w4 ⟨rfl, hb4⟩
  have hb5 := hb3.trans (hb4.mono hb3.size)
  clear hb3 hb4
  rw [show (⟨(esc (⟨#[97, 60, 98]⟩ : ByteArray).data.toList).toArray⟩ : ByteArray) = ⟨#[97, 38, 108, 116, 59, 98]⟩ by rfl]
  go_wp2_with fail
  refine (name_any _ _ (by decide)).mono ?_
  rintro e w6 ⟨hp, hb6⟩
  have he := hp.yes name_iq
  subst he
  have hb7 := hb5.trans (hb6.mono hb5.size)
  clear hb5 hb6 hp
  go_wp2_with fail
  go_ret
  exact ⟨rfl, hb7⟩

theorem short_any (s : ByteArray) (w : World) : Calls Tryd.prog 16 #[.string s] w fun e w' => (∃ t : ByteArray, t.size ≤ 3000 ∧ e = .returned (.string t)) ∧ w' = w := by
  by_cases h : s.size ≤ 3000
  · have h1 : decide (3000 < (s.size : Int)) = false := by simp; omega
    go_enter Tryd.func16, Tryd.ntmps16
    go_wp2_with fail
    go_ret
    exact ⟨⟨s, h, rfl⟩, rfl⟩
  · have h1 : decide (3000 < (s.size : Int)) = true := by simp; omega
    go_enter Tryd.func16, Tryd.ntmps16
    go_wp2_with fail
    go_ret
    exact ⟨⟨_, by rw [← size_list, ext_list, List.length_take]; omega, rfl⟩, rfl⟩
/-- The beginning of a text that short answers. -/
def cut3 (s : ByteArray) : ByteArray := if s.size ≤ 3000 then s else s.extract 0 3000
theorem cut3_size (s : ByteArray) : (cut3 s).size ≤ 3000 := by
  unfold cut3
  split
  · assumption
  · rw [← size_list, ext_list, List.length_take]; omega
theorem short_is (s : ByteArray) : ∃ t : ByteArray, t.size ≤ 3000 ∧ ∀ w, Calls Tryd.prog 16 #[.string s] w fun e w' => e = .returned (.string t) ∧ w' = w := by
  refine ⟨cut3 s, cut3_size s, fun w => ?_⟩
  unfold cut3
  by_cases h : s.size ≤ 3000
  · have h1 : decide (3000 < (s.size : Int)) = false := by simp; omega
    rw [if_pos h]
    go_enter Tryd.func16, Tryd.ntmps16
    go_wp2_with fail
    go_ret
    exact ⟨rfl, rfl⟩
  · have h1 : decide (3000 < (s.size : Int)) = true := by simp; omega
    rw [if_neg h]
    go_enter Tryd.func16, Tryd.ntmps16
    go_wp2_with fail
    go_ret
    exact ⟨rfl, rfl⟩
end Go.Proofs.YtnlmohegkmegcabDoor
