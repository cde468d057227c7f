/- For every condition: its type is one of four, its name is small letters and strokes. FaultTypes answers true. -/
import Derived.Test.YtnlmohegkmegcaaDoorG
import Derived.Test.YtnlmohegkmegcaaDoorRef
import Derived.LoopTactic
namespace Go.Proofs.YtnlmohegkmegcaaDoor
open Go.RowKit

def Small (s : ByteArray) : Prop := ∀ (j : Nat) (h : j < s.size), s[j].toNat = 45 ∨ (97 ≤ s[j].toNat ∧ s[j].toNat ≤ 122)
def Kind4 (t : ByteArray) : Prop := t = ⟨#[97, 117, 116, 104]⟩ ∨ t = ⟨#[99, 97, 110, 99, 101, 108]⟩ ∨ t = ⟨#[109, 111, 100, 105, 102, 121]⟩ ∨ t = ⟨#[119, 97, 105, 116]⟩

theorem empty_false {s : ByteArray} (h : 0 < s.size) : s.toList.isEmpty = false := by
  rw [ByteArray.toList_eq]
  cases hs : s.data.toList with
  | nil =>
    exfalso
    have h2 : s.data.toList.length = s.size := Array.length_toList
    rw [hs] at h2
    simp at h2
    omega
  | cons a r => rfl

set_option maxHeartbeats 1000000 in
theorem types_gen (c : Int) (s t : ByteArray) (w : World) (hL : Laid w) (hN : ∀ w, Laid w → Calls Tryd.prog 12 #[.int .i64 c] w fun e w' => e = .returned (.string s) ∧ w' = w)
    (hT : ∀ w, Laid w → Calls Tryd.prog 14 #[.int .i64 c] w fun e w' => e = .returned (.string t) ∧ w' = w) (h0 : 0 < s.size) (h1 : s.size ≤ 100) (hs : Small s) (ht : Kind4 t) :
    Calls Tryd.prog 8 #[.int .i64 c] w fun e w' => e = .returned (.bool true) ∧ Below w.heap.size w w' := by
  have he := empty_false h0
  rcases ht with rfl | rfl | rfl | rfl <;>
  · have H := hide (show _ ∧ _ ∧ _ ∧ _ from ⟨hL, hN, hT, hs⟩)
    clear hL hN hT hs
    go_enter Tryd.func8, Tryd.ntmps8
    go_wp2_with (first | (go_at_call 14; refine (H.out.2.2.1 _ H.out.1).mono ?_; rintro e w' ⟨rfl, rfl⟩) | (go_at_call 12; refine (H.out.2.1 _ H.out.1).mono ?_; rintro e w' ⟨rfl, rfl⟩))
    rename_i w0
    go_loop [5] (fun i => ∃ k : Nat, k ≤ s.size ∧ i = .int .i64 k) (fun i => s.size - (intOf i).toNat)
    case atStart => exact ⟨0, Nat.zero_le _, rfl⟩
    case round =>
      obtain ⟨k, hk, rfl⟩ := hrel
      by_cases hlt : k < s.size
      · rcases H.out.2.2.2 k hlt with hx | ⟨hx, hy⟩
        · have hb : ((s[k].toNat : Int) != 45) = false := by simp [hx]
          clear hx
          go_wp2_with fail
          exact ⟨⟨k + 1, by omega, by go_num⟩, by simp [intOf]; omega⟩
        · have hb : ((s[k].toNat : Int) != 45) = true := by rw [bne_iff_ne]; omega
          have hx' : ¬ ((s[k].toNat : Int) < 97) := by omega
          have hy' : ¬ (122 < (s[k].toNat : Int)) := by omega
          clear hx hy
          go_wp2_with fail
          exact ⟨⟨k + 1, by omega, by go_num⟩, by simp [intOf]; omega⟩
      · go_wp2_with (go_at_call 11; refine (live_any _ H.out.1).mono ?_; rintro e w' ⟨rfl, hb⟩)
        go_ret
        exact ⟨rfl, hb⟩

theorem small_of (s : ByteArray) (h : s.data.toList.all (fun b => b.toNat == 45 || (decide (97 ≤ b.toNat) && decide (b.toNat ≤ 122))) = true) : Small s := by
  intro j hj
  have hm : s[j] ∈ s.data.toList := by
    rw [Array.mem_toList_iff]
    exact Array.getElem_mem hj
  have := List.all_eq_true.1 h _ hm
  simpa using this
theorem rows_ok (k : Nat) (h1 : 1 ≤ k) (h2 : k ≤ 10) : 0 < (tabN k).size ∧ (tabN k).size ≤ 100 ∧ Small (tabN k) ∧ Kind4 (tabT k) := by
  have hk : k = 1 ∨ k = 2 ∨ k = 3 ∨ k = 4 ∨ k = 5 ∨ k = 6 ∨ k = 7 ∨ k = 8 ∨ k = 9 ∨ k = 10 := by omega
  rcases hk with rfl | rfl | rfl | rfl | rfl | rfl | rfl | rfl | rfl | rfl
  all_goals refine ⟨by decide, by decide, small_of _ (by decide), ?_⟩
  all_goals first | exact Or.inl rfl | exact Or.inr (Or.inl rfl) | exact Or.inr (Or.inr (Or.inl rfl)) | exact Or.inr (Or.inr (Or.inr rfl))

theorem types_no (c : Int) (w : World) (hL : Laid w) (h : c < 1 ∨ 10 < c) :
    Calls Tryd.prog 8 #[.int .i64 c] w fun e w' => e = .returned (.bool true) ∧ Below w.heap.size w w' := by
  have H := hide (show _ ∧ _ from ⟨hL, h⟩)
  clear hL h
  go_enter Tryd.func8, Tryd.ntmps8
  go_wp2_with (first | (go_at_call 14; refine (type_no c _ H.out.2).mono ?_; rintro e w' ⟨rfl, rfl⟩) | (go_at_call 12; refine (name_no c _ H.out.2).mono ?_; rintro e w' ⟨rfl, rfl⟩))
  refine (live_any _ H.out.1).mono ?_
  rintro e w2 ⟨rfl, hb⟩
  go_wp2_with (go_at_call 13; refine (refName_no c _ H.out.2).mono ?_; rintro e w' ⟨rfl, rfl⟩)
  go_ret
  exact ⟨rfl, hb⟩
theorem types_any (c : Int) (w : World) (hL : Laid w) : Calls Tryd.prog 8 #[.int .i64 c] w fun e w' => e = .returned (.bool true) ∧ Below w.heap.size w w' := by
  by_cases h : 1 ≤ c ∧ c ≤ 10
  · obtain ⟨r1, r2, r3, r4⟩ := rows_ok c.toNat (by omega) (by omega)
    exact types_gen c (tabN c.toNat) (tabT c.toNat) w hL (fun w hl => name_yes c w h.1 h.2 hl) (fun w hl => type_yes c w h.1 h.2 hl) r1 r2 r3 r4
  · exact types_no c w hL (by omega)
end Go.Proofs.YtnlmohegkmegcaaDoor
