/- A node's text: numbers and words. -/
import Derived.Lib.AtoiTie
import Derived.Lib.ItoaMem
import Derived.Lib.ItoaLen
namespace Go.Proofs.YtimhkgpjfppkmaaDoor

theorem decFrom_snoc (b : UInt8) : ∀ (l : List UInt8) (acc : Nat), Lib.decFrom acc (l ++ [b]) = (Lib.decFrom acc l).bind fun n => (Lib.digitVal b).map fun d => n * 10 + d
  | [], acc => by
    simp only [List.nil_append, Lib.decFrom, Option.bind_some]
    cases Lib.digitVal b <;> rfl
  | c :: l, acc => by
    simp only [List.cons_append, Lib.decFrom]
    cases Lib.digitVal c with
    | none => rfl
    | some d => exact decFrom_snoc b l _
theorem digitVal_of {k : Nat} (h : k < 10) : Lib.digitVal (UInt8.ofNat (48 + k)) = some k := by
  have e : (UInt8.ofNat (48 + k)).toNat = 48 + k := by
    rw [UInt8.toNat_ofNat']
    omega
  unfold Lib.digitVal
  rw [e, if_pos (by omega)]
  congr 1
  omega
theorem dec_ne (u : Nat) : Lib.decDigits u ≠ [] := by
  rw [Lib.decDigits]
  split <;> simp
theorem decFrom_dec (u : Nat) : Lib.decFrom 0 (Lib.decDigits u) = some u := by
  induction u using Nat.strongRecOn with
  | _ u ih =>
    rw [Lib.decDigits]
    split
    · rename_i h
      show Lib.decFrom 0 ([] ++ [_]) = _
      rw [decFrom_snoc, digitVal_of h]
      simp [Lib.decFrom]
    · rename_i h
      rw [decFrom_snoc, ih (u / 10) (by omega), digitVal_of (Nat.mod_lt _ (by omega))]
      simp only [Option.bind_some, Option.map_some, Option.some.injEq]
      omega
theorem dec_mem (u : Nat) : ∀ b ∈ Lib.decDigits u, 48 ≤ b.toNat ∧ b.toNat ≤ 57 := by
  induction u using Nat.strongRecOn with
  | _ u ih =>
    have e : ∀ k, k < 10 → (UInt8.ofNat (48 + k)).toNat = 48 + k := fun k hk => by
      rw [UInt8.toNat_ofNat']
      omega
    intro b hb
    rw [Lib.decDigits] at hb
    split at hb
    · rename_i h
      rw [List.mem_singleton.1 hb, e _ h]
      omega
    · rename_i h
      rcases List.mem_append.1 hb with hb | hb
      · exact ih (u / 10) (by omega) b hb
      · rw [List.mem_singleton.1 hb, e _ (Nat.mod_lt _ (by omega))]
        omega
theorem dec_inj {u v : Nat} (h : Lib.decDigits u = Lib.decDigits v) : u = v := by
  have h1 := decFrom_dec u
  rw [h, decFrom_dec v] at h1
  exact (Option.some.inj h1).symm
theorem atoi_dec (u : Nat) : Lib.atoi (Lib.decDigits u) = some (u : Int) := by
  have h1 := decFrom_dec u
  have h2 := dec_mem u
  have h3 := dec_ne u
  cases hd : Lib.decDigits u with
  | nil => exact absurd hd h3
  | cons b r =>
    rw [hd] at h1 h2
    have hb := h2 b (by simp)
    have n1 : ¬ b = 45 := fun e => by rw [e] at hb; exact absurd hb (by decide)
    have n2 : ¬ b = 43 := fun e => by rw [e] at hb; exact absurd hb (by decide)
    simp [Lib.atoi, n1, n2, Lib.decNat, h1]
theorem dec_len {u k : Nat} (h : u < 10 ^ k) (hk : 0 < k) : (Lib.decDigits u).length ≤ k := by
  induction k generalizing u with
  | zero => omega
  | succ k ih =>
    rw [Lib.decDigits]
    split
    · simp
    · rename_i h10
      by_cases hk0 : k = 0
      · subst hk0
        simp at h
        omega
      · have := ih (u := u / 10) (by rw [Nat.pow_succ] at h; omega) (by omega)
        simp
        omega
theorem atoiAll_dec {u : Nat} (h : u < 100000000000000000) : Lib.atoiAll (Lib.decDigits u) = .ok (u : Int) := by
  rw [Lib.atoiAll_short _ (by have := dec_len (u := u) (k := 17) h (by omega); omega), atoi_dec]
  rfl

/-- What digits answers: a number that is written so, and no greater. -/
def digF (s : List UInt8) (most : Nat) : Option Nat :=
  match Lib.atoiAll s with
  | .ok v => if 0 ≤ v ∧ v ≤ most ∧ Lib.itoa v = s then some v.toNat else none
  | _ => none
theorem digF_some {s : List UInt8} {most k : Nat} (h : digF s most = some k) : s = Lib.decDigits k ∧ k ≤ most := by
  unfold digF at h
  split at h
  · rename_i v _
    split at h
    · rename_i hv
      have hk := Option.some.inj h
      obtain ⟨u, rfl⟩ : ∃ u : Nat, v = u := ⟨v.toNat, by omega⟩
      rw [Lib.itoa_nonneg] at hv
      have : u = k := by omega
      subst this
      exact ⟨hv.2.2.symm, by omega⟩
    · cases h
  · cases h
theorem digF_dec {k most : Nat} (h : k ≤ most) (hk : k < 100000000000000000) : digF (Lib.decDigits k) most = some k := by
  unfold digF
  rw [atoiAll_dec hk]
  simp only [Lib.itoa_nonneg]
  rw [if_pos ⟨by omega, by omega, trivial⟩]
  simp

/-- A word as it is written: its length, a colon, itself. -/
def encW (w : List UInt8) : List UInt8 := Lib.decDigits w.length ++ 58 :: w
/-- The next word, and what is left. -/
def wordF (s : List UInt8) : Option (List UInt8 × List UInt8) :=
  match s.dropWhile (fun b => b != 58) with
  | [] => none
  | _ :: t => (digF (s.takeWhile fun b => b != 58) t.length).map fun n => (t.take n, t.drop n)
theorem takeDrop_colon {a t : List UInt8} (h : ∀ b ∈ a, b ≠ 58) : (a ++ 58 :: t).takeWhile (fun b => b != 58) = a ∧ (a ++ 58 :: t).dropWhile (fun b => b != 58) = 58 :: t := by
  induction a with
  | nil => simp
  | cons b a ih =>
    have h1 := ih fun x hx => h x (by simp [hx])
    have h2 := h b (by simp)
    simp [h2, h1.1, h1.2]
theorem wordF_enc (w r : List UInt8) (h : w.length < 100000000000000000) : wordF (encW w ++ r) = some (w, r) := by
  have e : encW w ++ r = Lib.decDigits w.length ++ 58 :: (w ++ r) := by simp [encW]
  have hm : ∀ b ∈ Lib.decDigits w.length, b ≠ 58 := fun b hb e => by
    have := dec_mem _ b hb
    rw [e] at this
    exact absurd this (by decide)
  obtain ⟨h1, h2⟩ := takeDrop_colon (t := w ++ r) hm
  unfold wordF
  rw [e, h2, h1]
  show ((digF (Lib.decDigits w.length) (w ++ r).length).map fun n => ((w ++ r).take n, (w ++ r).drop n)) = _
  rw [digF_dec (by simp) h]
  simp
theorem wordF_some {s w r : List UInt8} (h : wordF s = some (w, r)) : s = encW w ++ r := by
  unfold wordF at h
  have hs := List.takeWhile_append_dropWhile (p := fun b : UInt8 => b != 58) (l := s)
  split at h
  · cases h
  · rename_i c t hc
    have hc58 : c = 58 := by
      have := List.head?_dropWhile_not (fun b : UInt8 => b != 58) s
      rw [hc] at this
      simpa using this
    cases hd : digF (s.takeWhile fun b => b != 58) t.length with
    | none => rw [hd] at h; cases h
    | some n =>
      rw [hd] at h
      simp only [Option.map_some, Option.some.injEq, Prod.mk.injEq] at h
      obtain ⟨e1, e2⟩ := digF_some hd
      have hl : w.length = n := by rw [← h.1, List.length_take]; omega
      rw [← hs, hc, e1, hc58]
      unfold encW
      rw [hl, ← h.1, ← h.2]
      simp
end Go.Proofs.YtimhkgpjfppkmaaDoor
