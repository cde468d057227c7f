/- What a text in base 64 says: plain facts, and digit. -/
import Derived.Test.YtnlmohegkmegcabDoorB64
import Derived.Lib.TrimByte
namespace Go.Proofs.YtnlmohegkmegcabDoor
open Go.RowKit

/-- The number of a digit. -/
def dv (r : Nat) : Option Nat :=
  if 65 ≤ r ∧ r ≤ 90 then some (r - 65) else if 97 ≤ r ∧ r ≤ 122 then some (r - 97 + 26) else if 48 ≤ r ∧ r ≤ 57 then some (r - 48 + 52) else if r = 43 then some 62 else if r = 47 then some 63 else none
theorem dv_lt {r k : Nat} (h : dv r = some k) : k < 64 := by
  unfold dv at h
  repeat' split at h
  all_goals first | (cases h; done) | (cases h; omega) | skip
theorem dv_ascii {r k : Nat} (h : dv r = some k) : r < 128 := by
  unfold dv at h
  repeat' split at h
  all_goals first | (cases h; done) | (cases h; omega) | skip
theorem dv_fin : ∀ k : Fin 64, dv (dg k.val).toNat = some k.val ∧ dg k.val ≠ 61 := by decide
theorem dv_dg (k : Nat) (h : k < 64) : dv (dg k).toNat = some k ∧ dg k ≠ 61 := dv_fin ⟨k, h⟩

theorem tup_u32 {a b : Int} {x : Bool} (h : a = b) : Ending.returned (.tuple #[.int .u32 a, .bool x]) = .returned (.tuple #[.int .u32 b, .bool x]) := by rw [h]
theorem digit_yes (r k : Nat) (h : dv r = some k) (w : World) : Calls Tryd.prog 37 #[.int .i32 r] w fun e w' => e = .returned (.tuple #[.int .u32 k, .bool true]) ∧ w' = w := by
  unfold dv at h
  split at h
  · rename_i h1
    cases h
    have h2 : (65 : Int) ≤ (r : Int) := by omega
    have h3 : decide ((r : Int) ≤ 90) = true := by simp; omega
    have h4 : (r : Int) ≤ 90 := by omega
    go_enter Tryd.func37, Tryd.ntmps37
    go_wp2
    go_ret2
    exact ⟨tup_u32 (by omega), rfl⟩
  · rename_i h1
    split at h
    · rename_i h5
      cases h
      have h2 : (65 : Int) ≤ (r : Int) := by omega
      have h3 : decide ((r : Int) ≤ 90) = false := by simp; omega
      have h4 : (97 : Int) ≤ (r : Int) := by omega
      have h6 : decide ((r : Int) ≤ 122) = true := by simp; omega
      have h7 : (r : Int) ≤ 122 := by omega
      go_enter Tryd.func37, Tryd.ntmps37
      go_wp2
      go_ret2
      exact ⟨tup_u32 (by omega), rfl⟩
    · rename_i h5
      split at h
      · rename_i h6
        cases h
        have h2 : ¬ (65 : Int) ≤ (r : Int) := by omega
        have h4 : ¬ (97 : Int) ≤ (r : Int) := by omega
        have h7 : (48 : Int) ≤ (r : Int) := by omega
        have h8 : decide ((r : Int) ≤ 57) = true := by simp; omega
        have h9 : (r : Int) ≤ 57 := by omega
        go_enter Tryd.func37, Tryd.ntmps37
        go_wp2
        go_ret2
        exact ⟨tup_u32 (by omega), rfl⟩
      · rename_i h6
        split at h
        · rename_i h7
          cases h
          subst h7
          go_enter Tryd.func37, Tryd.ntmps37
          go_wp2
          go_ret2
          exact ⟨rfl, rfl⟩
        · split at h
          · rename_i h7
            cases h
            subst h7
            go_enter Tryd.func37, Tryd.ntmps37
            go_wp2
            go_ret2
            exact ⟨rfl, rfl⟩
          · cases h
theorem digit_no (r : Nat) (hr : r ≤ 2147483647) (h : dv r = none) (w : World) : Calls Tryd.prog 37 #[.int .i32 r] w fun e w' => e = .returned (.tuple #[.int .u32 0, .bool false]) ∧ w' = w := by
  have hn : ¬ (65 ≤ r ∧ r ≤ 90) ∧ ¬ (97 ≤ r ∧ r ≤ 122) ∧ ¬ (48 ≤ r ∧ r ≤ 57) ∧ ¬ r = 43 ∧ ¬ r = 47 := by
    unfold dv at h
    repeat' split at h
    all_goals first | (cases h; done) | (refine ⟨by omega, by omega, by omega, by omega, by omega⟩)
  obtain ⟨g1, g2, g3, g4, g5⟩ := hn
  have e1 : ((r : Int) == 43) = false := by rw [beq_eq_false_iff_ne]; omega
  have e2 : ((r : Int) == 47) = false := by rw [beq_eq_false_iff_ne]; omega
  have hc : r < 48 ∨ (57 < r ∧ r < 65) ∨ (90 < r ∧ r < 97) ∨ 122 < r := by omega
  clear h g1 g2 g3 g4 g5
  rcases hc with h1 | ⟨h1, h2⟩ | ⟨h1, h2⟩ | h1
  · have i1 : ¬ (65 : Int) ≤ (r : Int) := by omega
    have i2 : ¬ (97 : Int) ≤ (r : Int) := by omega
    have i3 : ¬ (48 : Int) ≤ (r : Int) := by omega
    go_enter Tryd.func37, Tryd.ntmps37
    go_wp2
    go_ret2
    exact ⟨rfl, rfl⟩
  · have i1 : ¬ (65 : Int) ≤ (r : Int) := by omega
    have i2 : ¬ (97 : Int) ≤ (r : Int) := by omega
    have i3 : (48 : Int) ≤ (r : Int) := by omega
    have i4 : decide ((r : Int) ≤ 57) = false := by simp; omega
    go_enter Tryd.func37, Tryd.ntmps37
    go_wp2
    go_ret2
    exact ⟨rfl, rfl⟩
  · have i1 : (65 : Int) ≤ (r : Int) := by omega
    have i2 : ¬ (97 : Int) ≤ (r : Int) := by omega
    have i3 : (48 : Int) ≤ (r : Int) := by omega
    have i4 : decide ((r : Int) ≤ 57) = false := by simp; omega
    have i5 : decide ((r : Int) ≤ 90) = false := by simp; omega
    go_enter Tryd.func37, Tryd.ntmps37
    go_wp2
    go_ret2
    exact ⟨rfl, rfl⟩
  · have i1 : (65 : Int) ≤ (r : Int) := by omega
    have i2 : (97 : Int) ≤ (r : Int) := by omega
    have i3 : (48 : Int) ≤ (r : Int) := by omega
    have i4 : decide ((r : Int) ≤ 57) = false := by simp; omega
    have i5 : decide ((r : Int) ≤ 90) = false := by simp; omega
    have i6 : decide ((r : Int) ≤ 122) = false := by simp; omega
    go_enter Tryd.func37, Tryd.ntmps37
    go_wp2
    go_ret2
    exact ⟨rfl, rfl⟩

/-- One digit more: the bits that wait, how many, what is told. -/
def dstep (st : Nat × Nat × List UInt8) (d : Nat) : Nat × Nat × List UInt8 :=
  if st.2.1 = 0 then (d, 6, st.2.2) else if st.2.1 = 2 then (0, 0, st.2.2 ++ [UInt8.ofNat (st.1 * 64 + d)]) else if st.2.1 = 4 then ((st.1 * 64 + d) % 4, 2, st.2.2 ++ [UInt8.ofNat ((st.1 * 64 + d) / 4)]) else ((st.1 * 64 + d) % 16, 4, st.2.2 ++ [UInt8.ofNat ((st.1 * 64 + d) / 16)])
/-- The numbers of a text's digits. -/
def vals : List UInt8 → List Nat
  | x :: y :: z :: r => [(x.toNat * 65536 + y.toNat * 256 + z.toNat) / 262144, (x.toNat * 65536 + y.toNat * 256 + z.toNat) / 4096 % 64, (x.toNat * 65536 + y.toNat * 256 + z.toNat) / 64 % 64, (x.toNat * 65536 + y.toNat * 256 + z.toNat) % 64] ++ vals r
  | [x, y] => [(x.toNat * 65536 + y.toNat * 256 + 0) / 262144, (x.toNat * 65536 + y.toNat * 256 + 0) / 4096 % 64, (x.toNat * 65536 + y.toNat * 256 + 0) / 64 % 64]
  | [x] => [(x.toNat * 65536 + 0 * 256 + 0) / 262144, (x.toNat * 65536 + 0 * 256 + 0) / 4096 % 64]
  | [] => []
def pad : List UInt8 → List UInt8
  | _ :: _ :: _ :: r => pad r
  | [_, _] => [61]
  | [_] => [61, 61]
  | [] => []
theorem b64_vals : ∀ l : List UInt8, b64 l = (vals l).map dg ++ pad l
  | x :: y :: z :: r => by
    simp only [b64, vals, pad, List.map_append, sx, List.append_assoc]
    rw [b64_vals r]
    rfl
  | [x, y] => rfl
  | [x] => rfl
  | [] => rfl
theorem vals_lt : ∀ (l : List UInt8), ∀ v ∈ vals l, v < 64
  | x :: y :: z :: r, v, h => by
    have hx := x.toNat_lt; have hy := y.toNat_lt; have hz := z.toNat_lt
    simp only [vals, List.mem_append, List.mem_cons, List.not_mem_nil, or_false] at h
    rcases h with (h | h | h | h) | h
    · omega
    · omega
    · omega
    · omega
    · exact vals_lt r v h
  | [x, y], v, h => by
    have hx := x.toNat_lt; have hy := y.toNat_lt
    simp only [vals, List.mem_cons, List.not_mem_nil, or_false] at h
    omega
  | [x], v, h => by
    have hx := x.toNat_lt
    simp only [vals, List.mem_cons, List.not_mem_nil, or_false] at h
    omega
  | [], v, h => by cases h
theorem byte_back {x : UInt8} {n : Nat} (h : n = x.toNat) : UInt8.ofNat n = x := by subst h; simp
theorem fold_vals : ∀ (l out : List UInt8), ((vals l).foldl dstep (0, 0, out)).2.2 = out ++ l
  | x :: y :: z :: r, out => by
    have hx := x.toNat_lt; have hy := y.toNat_lt; have hz := z.toNat_lt
    simp only [vals, List.foldl_append, List.foldl_cons, List.foldl_nil]
    have e : dstep (dstep (dstep (dstep (0, 0, out) ((x.toNat * 65536 + y.toNat * 256 + z.toNat) / 262144)) ((x.toNat * 65536 + y.toNat * 256 + z.toNat) / 4096 % 64)) ((x.toNat * 65536 + y.toNat * 256 + z.toNat) / 64 % 64)) ((x.toNat * 65536 + y.toNat * 256 + z.toNat) % 64) = (0, 0, out ++ [x, y, z]) := by
      simp only [dstep]
      simp [-UInt8.ofNat_add, -UInt8.ofNat_mul]
      refine ⟨byte_back (by omega), byte_back (by omega), byte_back (by omega)⟩
    rw [e, fold_vals r]
    simp
  | [x, y], out => by
    have hx := x.toNat_lt; have hy := y.toNat_lt
    simp only [vals, List.foldl_cons, List.foldl_nil, dstep]
    simp
    refine ⟨byte_back (by omega), byte_back (by omega)⟩
  | [x], out => by
    have hx := x.toNat_lt
    simp only [vals, List.foldl_cons, List.foldl_nil, dstep]
    simp
    exact byte_back (by omega)
  | [], out => by simp [vals]
theorem pad_all : ∀ l : List UInt8, ∀ b ∈ pad l, b = 61
  | _ :: _ :: _ :: r, b, h => pad_all r b h
  | [_, _], b, h => by simpa [pad] using h
  | [_], b, h => by simpa [pad] using h
  | [], b, h => by cases h
theorem trim_b64 (l : List UInt8) : Lib.trimRightB (b64 l) 61 = (vals l).map dg := by
  unfold Lib.trimRightB
  rw [b64_vals, List.reverse_append]
  have h1 : ∀ (p q : List UInt8), (∀ b ∈ p, b = 61) → (∀ b ∈ q.head?, b ≠ 61) → (p ++ q).dropWhile (· == 61) = q := by
    intro p q hp hq
    induction p with
    | nil =>
      cases q with
      | nil => rfl
      | cons a r =>
        have := hq a (by simp)
        simp [this]
    | cons a r ih =>
      have ha := hp a (by simp)
      subst ha
      simp only [List.cons_append, List.dropWhile_cons]
      simp only [beq_self_eq_true, if_true]
      exact ih (fun b hb => hp b (by simp [hb]))
  rw [h1]
  · simp
  · intro b hb
    exact pad_all l b (by simpa using hb)
  · intro b hb
    have hm : b ∈ ((vals l).map dg).reverse := List.mem_of_mem_head? hb
    rw [List.mem_reverse, List.mem_map] at hm
    obtain ⟨v, hv, rfl⟩ := hm
    exact (dv_dg v (vals_lt l v hv)).2
end Go.Proofs.YtnlmohegkmegcabDoor
