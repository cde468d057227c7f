/- Elements one behind the other: no program in it. -/
import Derived.Test.YtaglbikjnaahnacDoorElemM
namespace Go.Proofs.YtaglbikjnaahnacDoor

theorem fit_top {la la' : Nat} {t : Tok} (h : Fit [] la t) : t.kind = 1 ∧ Fit [] la' t := by
  rcases h with h | ⟨_, h, _⟩ | ⟨_, h, _⟩
  · exact ⟨h.1, .inl h⟩
  · simp at h
  · simp at h
theorem openAt_app1 {a b : List Tok} {k : Nat} (h : k ≤ a.length) : openAt (a ++ b) k = openAt a k := by
  unfold openAt
  rw [List.take_append_of_le_length h]
theorem openAt_app2 {a b : List Tok} (h : openAt a a.length = []) (k : Nat) : openAt (a ++ b) (a.length + k) = openAt b k := by
  unfold openAt at h ⊢
  rw [List.take_length] at h
  rw [List.take_length_add_append, List.foldl_append, h]
theorem kindOf_nat (ts : List Tok) (k : Nat) : kindOf ts (k : Int) = (ts[k]?.map Tok.kind).getD 0 := by
  unfold kindOf
  rw [if_pos (by omega), Int.toNat_natCast]
theorem kindOf_app1 {a b : List Tok} {k : Nat} (h : k < a.length) : kindOf (a ++ b) (k : Int) = kindOf a (k : Int) := by
  rw [kindOf_nat, kindOf_nat, List.getElem?_append_left h]
theorem kindOf_app2 {a b : List Tok} (k : Nat) : kindOf (a ++ b) ((a.length + k : Nat) : Int) = kindOf b (k : Int) := by
  rw [kindOf_nat, kindOf_nat, List.getElem?_append_right (by omega), show a.length + k - a.length = k by omega]
theorem kindOf_neg (ts : List Tok) {i : Int} (h : i < 0) : kindOf ts i = 0 := by
  unfold kindOf
  rw [if_neg (by omega)]
theorem kindOf_ahead {a b : List Tok} {k : Nat} (h : k < a.length) : kindOf (a ++ b) ((k : Int) - 1) = kindOf a ((k : Int) - 1) := by
  cases k with
  | zero => rw [kindOf_neg _ (by omega), kindOf_neg _ (by omega)]
  | succ k =>
    rw [show (((k + 1 : Nat) : Int) - 1) = (k : Int) by omega]
    exact kindOf_app1 (by omega)

theorem right_app {a b : List Tok} (ha : RightT a) (hb : RightT b) (hl : a.length + b.length ≤ 64) : RightT (a ++ b) := by
  have hz : openAt a a.length = [] := List.eq_nil_of_length_eq_zero ha.2.2
  refine ⟨by rw [List.length_append]; exact hl, fun k t hk => ?_, ?_⟩
  · by_cases hkl : k < a.length
    · rw [List.getElem?_append_left hkl] at hk
      rw [openAt_app1 (by omega), kindOf_ahead hkl]
      exact ha.2.1 k t hk
    · obtain ⟨j, rfl⟩ : ∃ j, k = a.length + j := ⟨k - a.length, by omega⟩
      rw [List.getElem?_append_right (by omega), show a.length + j - a.length = j by omega] at hk
      have h := hb.2.1 j t hk
      rw [openAt_app2 hz]
      cases j with
      | zero => exact (fit_top h).2
      | succ j =>
        rw [show (((a.length + (j + 1) : Nat) : Int) - 1) = ((a.length + j : Nat) : Int) by omega, kindOf_app2]
        rw [show (((j + 1 : Nat) : Int) - 1) = (j : Int) by omega] at h
        exact h
  · rw [List.length_append, openAt_app2 hz]
    exact hb.2.2
theorem tops_app1 {a b : List Tok} : ∀ k, k ≤ a.length → topsTo (a ++ b) k = topsTo a k
  | 0, _ => rfl
  | k + 1, h => by
    rw [topsTo, topsTo, tops_app1 k (by omega), openAt_app1 (by omega)]
theorem tops_app2 {a b : List Tok} (h : openAt a a.length = []) : ∀ k, topsTo (a ++ b) (a.length + k) = topsTo a a.length + topsTo b k
  | 0 => by rw [Nat.add_zero, tops_app1 _ (Nat.le_refl _)]; rfl
  | k + 1 => by
    rw [← Nat.add_assoc, topsTo, tops_app2 h k, openAt_app2 h, topsTo]
    omega
theorem not_whole_app {a b : List Tok} (ha : WholeT a) (hb : WholeT b) : ¬ WholeT (a ++ b) := fun h => by
  have hz : openAt a a.length = [] := List.eq_nil_of_length_eq_zero ha.1.2.2
  have h2 := h.2
  rw [List.length_append, tops_app2 hz, ha.2, hb.2] at h2
  omega
theorem tokT_last {t : Tok} (h : t.kind = 1) (la la' nx : Nat) : tokT t la nx = tokT t la' nx := by simp [tokT, h]
theorem tokT_next {t : Tok} (h : t.kind ≠ 1) (la nx nx' : Nat) : tokT t la nx = tokT t la nx' := by simp [tokT, h]
theorem last_not_begin {a : List Tok} (ha : RightT a) {k : Nat} {t : Tok} (hk : a[k]? = some t) (he : k + 1 = a.length) : t.kind ≠ 1 := fun h => by
  have h1 := ha.2.2
  rw [← he, openAt_succ hk] at h1
  simp [opens, h] at h1
theorem print_app1 {a b : List Tok} (ha : RightT a) : ∀ k, k ≤ a.length → printTo (a ++ b) k = printTo a k
  | 0, _ => rfl
  | k + 1, h => by
    obtain ⟨t, ht⟩ : ∃ t, a[k]? = some t := ⟨a[k], by simp [show k < a.length by omega]⟩
    rw [printTo_succ ht, printTo_succ (show (a ++ b)[k]? = some t by rw [List.getElem?_append_left (by omega)]; exact ht), print_app1 ha k (by omega), kindOf_ahead (by omega)]
    congr 1
    by_cases he : k + 1 = a.length
    · exact tokT_next (last_not_begin ha ht he) _ _ _
    · rw [show ((k : Int) + 1) = ((k + 1 : Nat) : Int) by omega, kindOf_app1 (by omega)]
theorem print_app2 {a b : List Tok} (ha : RightT a) (hb : RightT b) : ∀ k, k ≤ b.length → printTo (a ++ b) (a.length + k) = printTo a a.length ++ printTo b k
  | 0, _ => by rw [Nat.add_zero, print_app1 ha _ (Nat.le_refl _)]; exact (List.append_nil _).symm
  | k + 1, h => by
    obtain ⟨t, ht⟩ : ∃ t, b[k]? = some t := ⟨b[k], by simp [show k < b.length by omega]⟩
    rw [← Nat.add_assoc, printTo_succ ht, printTo_succ (show (a ++ b)[a.length + k]? = some t by rw [List.getElem?_append_right (by omega), show a.length + k - a.length = k by omega]; exact ht), print_app2 ha hb k (by omega), List.append_assoc]
    congr 2
    rw [show (((a.length + k : Nat) : Int) + 1) = ((a.length + (k + 1) : Nat) : Int) by omega, kindOf_app2, show ((k : Int) + 1) = ((k + 1 : Nat) : Int) by omega]
    cases k with
    | zero => exact tokT_last (fit_top (la' := 0) (hb.2.1 0 t ht)).1 _ _ _
    | succ k => rw [show (((a.length + (k + 1) : Nat) : Int) - 1) = ((a.length + k : Nat) : Int) by omega, kindOf_app2, show (((k + 1 : Nat) : Int) - 1) = (k : Int) by omega]
theorem print_app {a b : List Tok} (ha : RightT a) (hb : RightT b) : printT (a ++ b) = printT a ++ printT b := by
  unfold printT
  rw [List.length_append]
  exact print_app2 ha hb _ (Nat.le_refl _)
theorem whole_pos {a : List Tok} (h : WholeT a) : 0 < a.length := by
  cases a with
  | nil => have := h.2; simp [topsTo] at this
  | cons => simp
end Go.Proofs.YtaglbikjnaahnacDoor
