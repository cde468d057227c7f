/- The document's own Unbase64. -/
import Derived.Test.YtnlmohegkmegcabDoorRefB64
import Derived.Test.YtnlmohegkmegcabDoorUnw
namespace Go.Proofs.YtnlmohegkmegcabDoor
open Go.RowKit

/-- The number of a group of digits, as far as it goes. -/
def gN (l : List UInt8) : Int := l.foldl (fun n c => if c = 61 then n * 64 else n * 64 + pl c) 0
def gM (l : List UInt8) : Nat := (l.filter (fun c => !(c == 61))).length
theorem gN_snoc (l : List UInt8) (c : UInt8) : gN (l ++ [c]) = if c = 61 then gN l * 64 else gN l * 64 + pl c := by
  simp [gN, List.foldl_append]
theorem gM_snoc (l : List UInt8) (c : UInt8) : gM (l ++ [c]) = if c = 61 then gM l else gM l + 1 := by
  unfold gM
  rw [List.filter_append, List.length_append]
  by_cases h : c = 61 <;> simp [h]
theorem gM_le (l : List UInt8) : gM l ≤ l.length := List.length_filter_le _ _
theorem gN_bd : ∀ (n : Nat) (l : List UInt8), l.length = n → -(64 ^ n - 1 : Int) ≤ gN l ∧ gN l ≤ 64 ^ n - 1
  | 0, l, h => by
    obtain rfl : l = [] := List.eq_nil_of_length_eq_zero h
    decide
  | n + 1, l, h => by
    have hne : l ≠ [] := by intro e; subst e; cases h
    have hs := List.dropLast_concat_getLast hne
    obtain ⟨h1, h2⟩ := gN_bd n l.dropLast (by rw [List.length_dropLast, h]; rfl)
    rw [← hs, gN_snoc, Int.pow_succ]
    have hp := pl_bd (l.getLast hne)
    split <;> omega
def u8i (z : Int) : UInt8 := UInt8.ofNat (z % 256).toNat
def grp (l : List UInt8) : List UInt8 := [u8i (gN l / 65536), u8i (gN l / 256), u8i (gN l)].take (gM l - 1)
def ung : List UInt8 → List UInt8
  | a :: b :: c :: d :: r => grp [a, b, c, d] ++ ung r
  | _ => []
theorem ung_step (l : List UInt8) (h : 4 ≤ l.length) : ung l = grp (l.take 4) ++ ung (l.drop 4) := by
  match l, h with
  | a :: b :: c :: d :: r, _ => rfl
theorem grp_len (l : List UInt8) : (grp l).length ≤ 3 := by
  unfold grp
  rw [List.length_take]
  simp
  omega
theorem u8_back {x : UInt8} {z : Int} (h : z % 256 = x.toNat) : u8i z = x := by
  unfold u8i
  rw [h]
  simp
theorem ung_b64 : ∀ l : List UInt8, ung (b64 l) = l
  | [] => rfl
  | [x] => by
    have hx := x.toNat_lt
    have h1 : x.toNat * 65536 / 262144 < 64 := by omega
    have h2 : x.toNat * 65536 / 4096 % 64 < 64 := by omega
    have e1 := pl_dg _ h1
    have e2 := pl_dg _ h2
    have q1 := (dv_dg _ h1).2
    have q2 := (dv_dg _ h2).2
    simp only [b64, sx, Nat.zero_mul, Nat.add_zero, List.take, List.cons_append, List.nil_append, ung, grp, gN, gM, List.foldl_cons, List.foldl_nil, q1, q2, e1, e2, if_false, if_true, List.append_nil]
    simp [q1, q2]
    refine u8_back ?_
    omega
  | [x, y] => by
    have hx := x.toNat_lt
    have hy := y.toNat_lt
    have h1 : (x.toNat * 65536 + y.toNat * 256) / 262144 < 64 := by omega
    have h2 : (x.toNat * 65536 + y.toNat * 256) / 4096 % 64 < 64 := by omega
    have h3 : (x.toNat * 65536 + y.toNat * 256) / 64 % 64 < 64 := by omega
    have e1 := pl_dg _ h1
    have e2 := pl_dg _ h2
    have e3 := pl_dg _ h3
    have q1 := (dv_dg _ h1).2
    have q2 := (dv_dg _ h2).2
    have q3 := (dv_dg _ h3).2
    simp only [b64, sx, Nat.add_zero, List.take, List.cons_append, List.nil_append, ung, grp, gN, gM, List.foldl_cons, List.foldl_nil, q1, q2, q3, e1, e2, e3, if_false, if_true, List.append_nil]
    simp [q1, q2, q3]
    refine ⟨u8_back ?_, u8_back ?_⟩ <;> omega
  | x :: y :: z :: r => by
    have hx := x.toNat_lt
    have hy := y.toNat_lt
    have hz := z.toNat_lt
    have h1 : (x.toNat * 65536 + y.toNat * 256 + z.toNat) / 262144 < 64 := by omega
    have h2 : (x.toNat * 65536 + y.toNat * 256 + z.toNat) / 4096 % 64 < 64 := by omega
    have h3 : (x.toNat * 65536 + y.toNat * 256 + z.toNat) / 64 % 64 < 64 := by omega
    have h4 : (x.toNat * 65536 + y.toNat * 256 + z.toNat) % 64 < 64 := by omega
    have e1 := pl_dg _ h1
    have e2 := pl_dg _ h2
    have e3 := pl_dg _ h3
    have e4 := pl_dg _ h4
    have q1 := (dv_dg _ h1).2
    have q2 := (dv_dg _ h2).2
    have q3 := (dv_dg _ h3).2
    have q4 := (dv_dg _ h4).2
    simp only [b64, sx, List.cons_append, List.nil_append, ung, grp, gN, gM, List.foldl_cons, List.foldl_nil, q1, q2, q3, q4, e1, e2, e3, e4, if_false, ung_b64 r]
    simp [q1, q2, q3, q4]
    refine ⟨u8_back ?_, u8_back ?_, u8_back ?_⟩ <;> omega
end Go.Proofs.YtnlmohegkmegcabDoor
