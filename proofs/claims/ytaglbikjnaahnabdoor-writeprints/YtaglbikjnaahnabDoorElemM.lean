/- Elements about what is right, and elements one behind the other: no program in it. -/
import Derived.Test.YtaglbikjnaahnabDoorWhole
import Derived.Test.YtaglbikjnaahnabDoorElem
namespace Go.Proofs.YtaglbikjnaahnabDoor

def Fits (ts : List Tok) : Prop := ∀ k t, ts[k]? = some t → Fit (openAt ts k) (kindOf ts (k - 1 : Int)) t

theorem elemT_length (name : ByteArray) (al : List (ByteArray × ByteArray)) (ts : List Tok) : (elemT name al ts).length = ts.length + 2 := by simp [elemT]
theorem elemT_zero (name : ByteArray) (al : List (ByteArray × ByteArray)) (ts : List Tok) : (elemT name al ts)[0]? = some ⟨1, name, al, ⟨#[]⟩⟩ := by simp [elemT]
theorem elemT_mid (name : ByteArray) (al : List (ByteArray × ByteArray)) {ts : List Tok} {k : Nat} (h : k < ts.length) : (elemT name al ts)[k + 1]? = ts[k]? := by
  simp only [elemT, List.cons_append, List.nil_append, List.getElem?_cons_succ]
  rw [List.getElem?_append_left h]
theorem elemT_end (name : ByteArray) (al : List (ByteArray × ByteArray)) (ts : List Tok) : (elemT name al ts)[ts.length + 1]? = some ⟨2, name, [], ⟨#[]⟩⟩ := by
  simp only [elemT, List.cons_append, List.nil_append, List.getElem?_cons_succ]
  rw [List.getElem?_append_right (Nat.le_refl _)]
  simp
theorem opens_cons {name : ByteArray} {op : List ByteArray} {la : Nat} {t : Tok} (h : Fit op la t) : opens (name :: op) t = name :: opens op t := by
  rcases h with ⟨h1, _⟩ | ⟨h1, h2, _⟩ | ⟨h1, _⟩
  · simp [opens, h1]
  · have hne : op ≠ [] := fun e => by simp [e] at h2
    simp [opens, h1, List.dropLast_cons_of_ne_nil hne]
  · simp [opens, h1]
theorem el_open (name : ByteArray) (al : List (ByteArray × ByteArray)) {ts : List Tok} (hf : Fits ts) : ∀ k, k ≤ ts.length → openAt (elemT name al ts) (k + 1) = name :: openAt ts k
  | 0, _ => by
    rw [openAt_succ (elemT_zero name al ts)]
    simp [openAt, opens]
  | k + 1, hk => by
    obtain ⟨t, ht⟩ : ∃ t, ts[k]? = some t := ⟨ts[k], by simp [show k < ts.length by omega]⟩
    rw [openAt_succ ((elemT_mid name al (show k < ts.length by omega)).trans ht), el_open name al hf k (by omega), openAt_succ ht]
    exact opens_cons (hf k t ht)
theorem fit_cons {name : ByteArray} {op : List ByteArray} {la la' : Nat} {t : Tok} (h : Fit op la t) (hd : t.kind = 1 → op.length + 2 ≤ 8) (hla : 0 < op.length → la' = la) : Fit (name :: op) la' t := by
  rcases h with ⟨h1, _, h3⟩ | ⟨h1, h2, h3, h4⟩ | ⟨h1, h2, h3, h4⟩
  · exact .inl ⟨h1, by have := hd h1; simp; omega, h3⟩
  · refine .inr (.inl ⟨h1, by simp, ?_, h4⟩)
    cases op with
    | nil => simp at h2
    | cons x op => rw [List.getLast?_cons_cons]; exact h3
  · exact .inr (.inr ⟨h1, by simp, by rw [hla h2]; exact h3, h4⟩)
theorem kind_mid (name : ByteArray) (al : List (ByteArray × ByteArray)) {ts : List Tok} {k : Nat} (h : k + 1 < ts.length) : kindOf (elemT name al ts) (((k + 1 + 1 : Nat) : Int) - 1) = kindOf ts (((k + 1 : Nat) : Int) - 1) := by
  have e1 : (((k + 1 + 1 : Nat) : Int) - 1) = ((k + 1 : Nat) : Int) := by omega
  have e2 : (((k + 1 : Nat) : Int) - 1) = (k : Int) := by omega
  rw [e1, e2]
  unfold kindOf
  rw [if_pos (by omega), if_pos (by omega), Int.toNat_natCast, Int.toNat_natCast, elemT_mid name al (by omega)]

theorem right_elem {name : ByteArray} {ts : List Tok} (hR : RightT ts) (hd : ∀ k, k ≤ ts.length → (openAt ts k).length ≤ 7) (hl : ts.length + 2 ≤ 64) : RightT (elemT name [] ts) ↔ NameOk name := by
  constructor
  · intro h
    exact ((fit_one rfl).1 (h.2.1 0 _ (elemT_zero name [] ts))).2.1
  · intro hn
    have hz : openAt ts ts.length = [] := List.eq_nil_of_length_eq_zero hR.2.2
    refine ⟨by rw [elemT_length]; exact hl, fun k t hk => ?_, ?_⟩
    · have hlt := (List.getElem?_eq_some_iff.1 hk).1
      rw [elemT_length] at hlt
      match k, hk with
      | 0, hk =>
        rw [elemT_zero] at hk
        cases hk
        exact (fit_one rfl).2 ⟨by simp [openAt], hn, rfl, by simp, fun i a h => by simp at h⟩
      | k + 1, hk =>
        rw [el_open name [] hR.2.1 k (by omega)]
        by_cases hkl : k < ts.length
        · rw [elemT_mid name [] hkl] at hk
          refine fit_cons (hR.2.1 k t hk) (fun h1 => ?_) (fun h0 => ?_)
          · have h := hd (k + 1) (by omega)
            rw [openAt_succ hk] at h
            simp [opens, h1] at h
            omega
          · cases k with
            | zero => simp [openAt] at h0
            | succ k => exact kind_mid name [] hkl
        · obtain rfl : k = ts.length := by omega
          rw [elemT_end] at hk
          cases hk
          rw [hz]
          exact (fit_two rfl).2 ⟨by simp, rfl, rfl, rfl⟩
    · rw [elemT_length, openAt_succ (elemT_end name [] ts), el_open name [] hR.2.1 _ (Nat.le_refl _), hz]
      rfl
theorem tops_elem {name : ByteArray} {ts : List Tok} (hR : RightT ts) : ∀ k, k ≤ ts.length + 1 → topsTo (elemT name [] ts) (k + 1) = 1
  | 0, _ => by simp [topsTo, openAt]
  | k + 1, hk => by
    rw [topsTo, tops_elem hR k (by omega), el_open name [] hR.2.1 k (by omega)]
    simp
theorem whole_elem {name : ByteArray} {ts : List Tok} (hR : RightT ts) (hd : ∀ k, k ≤ ts.length → (openAt ts k).length ≤ 7) (hl : ts.length + 2 ≤ 64) : WholeT (elemT name [] ts) ↔ NameOk name := by
  unfold WholeT
  rw [right_elem hR hd hl, elemT_length, tops_elem hR (ts.length + 1) (Nat.le_refl _)]
  simp
theorem right_nil : RightT [] := ⟨by simp, by simp, by simp [openAt]⟩
theorem right_named {name : ByteArray} : RightT [⟨1, name, [], ⟨#[]⟩⟩, ⟨2, name, [], ⟨#[]⟩⟩] ↔ NameOk name :=
  right_elem (ts := []) right_nil (fun k hk => by simp [openAt]) (by simp)

/-- How deep the first k tokens lead; how deep they led at the most. -/
def dep (ts : List Tok) : Nat → Int
  | 0 => 0
  | k + 1 => dep ts k + (match ts[k]? with | some t => if t.kind = 1 then 1 else if t.kind = 2 then -1 else 0 | none => 0)
def mostTo (ts : List Tok) : Nat → Int
  | 0 => 0
  | k + 1 => if mostTo ts k < dep ts (k + 1) then dep ts (k + 1) else mostTo ts k
theorem dep_le (ts : List Tok) : ∀ k : Nat, -(k : Int) ≤ dep ts k ∧ dep ts k ≤ k
  | 0 => by simp [dep]
  | k + 1 => by
    have := dep_le ts k
    unfold dep
    split
    · split
      · omega
      · split <;> omega
    · omega
theorem most_le (ts : List Tok) : ∀ k : Nat, 0 ≤ mostTo ts k ∧ mostTo ts k ≤ k
  | 0 => by simp [mostTo]
  | k + 1 => by
    have := most_le ts k
    have := dep_le ts (k + 1)
    unfold mostTo
    split <;> omega
theorem dep_most (ts : List Tok) : ∀ k j : Nat, j ≤ k → dep ts j ≤ mostTo ts k
  | 0, j, h => by
    obtain rfl : j = 0 := by omega
    simp [dep, mostTo]
  | k + 1, j, h => by
    have ih := dep_most ts k
    unfold mostTo
    rcases Nat.lt_or_ge j (k + 1) with h1 | h1
    · have := ih j (by omega)
      split <;> omega
    · obtain rfl : j = k + 1 := by omega
      split <;> omega
theorem dep_open {ts : List Tok} (hf : Fits ts) : ∀ k : Nat, k ≤ ts.length → dep ts k = ((openAt ts k).length : Int)
  | 0, _ => by simp [dep, openAt]
  | k + 1, hk => by
    obtain ⟨t, ht⟩ : ∃ t, ts[k]? = some t := ⟨ts[k], by simp [show k < ts.length by omega]⟩
    rw [dep, dep_open hf k (by omega), openAt_succ ht, ht]
    rcases hf k t ht with ⟨h1, _⟩ | ⟨h1, h2, _⟩ | ⟨h1, _⟩
    · simp [opens, h1]
    · simp [opens, h1]
      omega
    · simp [opens, h1]
theorem shallow {ts : List Tok} (hR : RightT ts) (h : ¬ (8 ≤ mostTo ts ts.length)) (k : Nat) (hk : k ≤ ts.length) : (openAt ts k).length ≤ 7 := by
  have h1 := dep_most ts ts.length k hk
  rw [dep_open hR.2.1 k hk] at h1
  omega
end Go.Proofs.YtaglbikjnaahnabDoor
