/- Slots: the document's check sum. -/
import Derived.Test.YtfknjmfkkaoggaaS0
namespace Go.Proofs.Ytfknjmfkkaoggaa
open Go.RowKit

theorem low_bit (y : U) : y &&& 1#32 = 0#32 ∨ y &&& 1#32 = 1#32 := by
  have : (y &&& 1#32).toNat = y.toNat % 2 := by rw [BitVec.toNat_and]; exact Nat.and_one_is_mod _
  rcases Nat.mod_two_eq_zero_or_one y.toNat with h | h
  · left
    apply BitVec.eq_of_toNat_eq
    rw [this, h]
    rfl
  · right
    apply BitVec.eq_of_toNat_eq
    rw [this, h]
    rfl
/-- The document's step of a bit. -/
def refB (c : U) (k : Nat) (x : U) : U := if x &&& 1#32 = (c >>> k) &&& 1#32 then x >>> 1 else (x >>> 1) ^^^ 3988292384#32
def refN (c : U) : Nat → U → U
  | 0, x => x
  | n + 1, x => refB c n (refN c n x)
theorem xor_low (x d : U) : (x ^^^ d) &&& 1#32 = (x &&& 1#32) ^^^ (d &&& 1#32) := by
  ext i hi
  simp only [BitVec.getElem_and, BitVec.getElem_xor]
  cases x[i] <;> cases d[i] <;> simp
theorem crc_ref (c : U) (k : Nat) (x : U) : crcB (x ^^^ (c >>> k)) = refB c k x ^^^ (c >>> (k + 1)) := by
  have h1 : (x ^^^ (c >>> k)) >>> 1 = (x >>> 1) ^^^ (c >>> (k + 1)) := by rw [BitVec.ushiftRight_xor_distrib, ← BitVec.shiftRight_add]
  unfold crcB refB
  rw [h1, xor_low]
  rcases low_bit x with hx | hx <;> rcases low_bit (c >>> k) with hd | hd <;> rw [hx, hd]
  · rw [if_pos rfl, show (3988292384#32 &&& -(0#32 ^^^ 0#32)) = 0#32 by decide, BitVec.xor_zero]
  · rw [if_neg (by decide), show (3988292384#32 &&& -(0#32 ^^^ 1#32)) = 3988292384#32 by decide, BitVec.xor_assoc, BitVec.xor_assoc, BitVec.xor_comm (c >>> (k + 1))]
  · rw [if_neg (by decide), show (3988292384#32 &&& -(1#32 ^^^ 0#32)) = 3988292384#32 by decide, BitVec.xor_assoc, BitVec.xor_assoc, BitVec.xor_comm (c >>> (k + 1))]
  · rw [if_pos rfl, show (3988292384#32 &&& -(1#32 ^^^ 1#32)) = 0#32 by decide, BitVec.xor_zero]
theorem crcN_ref (c : U) (x : U) : ∀ n, crcN n (x ^^^ c) = refN c n x ^^^ (c >>> n)
  | 0 => by rw [BitVec.ushiftRight_zero]; rfl
  | n + 1 => by
    rw [crcN_succ, crcN_ref c x n, crc_ref]
    rfl
theorem byte_gone (c : UInt8) : byteU c >>> 8 = 0#32 := by
  apply BitVec.eq_of_toNat_eq
  rw [BitVec.toNat_ushiftRight, byteU_nat, Nat.shiftRight_eq_div_pow]
  have := c.toNat_lt
  show c.toNat / 2 ^ 8 = 0
  omega
theorem crc8_ref (c : UInt8) (x : U) : refN (byteU c) 8 x = crcN 8 (x ^^^ byteU c) := by
  rw [crcN_ref, byte_gone, BitVec.xor_zero]
theorem bit_c (c : UInt8) (j : Nat) : bits .and .u32 ((c.toNat : Int) % 4294967296 / 2 ^ j) 1 = ((byteU c >>> j) &&& 1#32).toNat := by
  have h : (c.toNat : Int) % 4294967296 / 2 ^ j = ((byteU c >>> j).toNat : Int) := by
    rw [byte_mod, BitVec.toNat_ushiftRight, Nat.shiftRight_eq_div_pow]
    norm_cast
  rw [h]
  exact bits_and (byteU c >>> j) 1#32
theorem bit_no {x : U} {c : UInt8} {j : Nat} (h : (bits .and .u32 (x.toNat : Int) 1 != bits .and .u32 ((c.toNat : Int) % 4294967296 / 2 ^ j) 1) = false) : x &&& 1#32 = (byteU c >>> j) &&& 1#32 := by
  rw [bit_c, show bits .and .u32 (x.toNat : Int) 1 = (x &&& 1#32).toNat from bits_and x 1#32] at h
  apply BitVec.eq_of_toNat_eq
  have := (bne_eq_false_iff_eq).1 h
  omega
theorem bit_yes {x : U} {c : UInt8} {j : Nat} (h : (bits .and .u32 (x.toNat : Int) 1 != bits .and .u32 ((c.toNat : Int) % 4294967296 / 2 ^ j) 1) = true) : ¬ x &&& 1#32 = (byteU c >>> j) &&& 1#32 := by
  rw [bit_c, show bits .and .u32 (x.toNat : Int) 1 = (x &&& 1#32).toNat from bits_and x 1#32] at h
  intro e
  rw [e] at h
  simp at h
theorem xor_poly (x : U) : bits .xor .u32 (x.toNat : Int) 3988292384 = (x ^^^ 3988292384#32).toNat := bits_xor x 3988292384#32
set_option maxRecDepth 100000 in
set_option maxHeartbeats 4000000 in
theorem rsum_any (ba : Option Addr) (cap : Nat) (l : List UInt8) (w : World) (hl : l.length ≤ 9223372036854775807) (hB : ByteMem w.heap.size w ba l) :
    Calls Try.prog 19 #[.slice ba l.length cap] w fun e w' => e = .returned (.int .u32 (~~~ sumL l (BitVec.allOnes 32)).toNat) ∧ w' = w := by
  have HB := hide hB
  clear hB
  obtain ⟨rr, hrr⟩ : ∃ rr, ~~~ sumL l (BitVec.allOnes 32) = rr := ⟨_, rfl⟩
  rw [hrr]
  have HR := hide hrr
  clear hrr
  go_enter Try.func19, Try.ntmps19
  go_wp2_with fail
  go_loopw [3, 4] (fun x i wr => ∃ k : Nat, k ≤ l.length ∧ i = .int .i64 k ∧ x = .int .u32 (sumL (l.take k) (BitVec.allOnes 32)).toNat ∧ wr = w) (fun _ i _ => l.length - (intOf i).toNat)
  case atStart => exact ⟨0, Nat.zero_le _, rfl, rfl, rfl⟩
  case round =>
    obtain ⟨k, hk, rfl, rfl, rfl⟩ := hrel
    by_cases hp : (k : Int) < l.length
    · obtain ⟨c, hc⟩ : ∃ c, l[k]? = some c := ⟨_, List.getElem?_eq_getElem (by omega)⟩
      obtain ⟨b, o, rfl, hb1, hcell⟩ := HB.out k c hc
      have ht : l.take (k + 1) = l.take k ++ [c] := by rw [List.take_add_one, hc]; rfl
      obtain ⟨x0, hx0⟩ : ∃ x0, sumL (l.take k) (BitVec.allOnes 32) = x0 := ⟨_, rfl⟩
      have hnext : sumL (l.take (k + 1)) (BitVec.allOnes 32) = refN (byteU c) 8 x0 := by rw [ht, sum_snoc, hx0, crc8_ref]
      have HN := hide hnext
      clear hnext ht
      rw [hx0]
      clear hx0
      go_wp2_with fail
      go_loopw [3, 5] (fun x i wr' => ∃ j : Nat, j ≤ 8 ∧ i = .int .i64 j ∧ x = .int .u32 (refN (byteU c) j x0).toNat ∧ wr' = wr) (fun _ i _ => 8 - (intOf i).toNat)
      case atStart => exact ⟨0, Nat.zero_le _, rfl, rfl, rfl⟩
      case round =>
        obtain ⟨j, hj, rfl, rfl, rfl⟩ := hrel
        by_cases hp2 : (j : Int) < 8
        · obtain ⟨x2, hx2⟩ : ∃ x2, refN (byteU c) j x0 = x2 := ⟨_, rfl⟩
          have hs : refN (byteU c) (j + 1) x0 = refB (byteU c) j x2 := by rw [← hx2]; rfl
          have HS := hide hs
          clear hs
          rw [hx2]
          clear hx2
          have hj8 : j < 8 := by omega
          go_wp2_with fail
          · rename_i h
            refine ⟨⟨j + 1, by omega, by simp, ?_, trivial⟩, by simp [intOf]; omega⟩
            rw [HS.out, half_of, xor_poly]
            unfold refB
            rw [if_neg (bit_yes h)]
          · rename_i h
            refine ⟨⟨j + 1, by omega, by simp, ?_, trivial⟩, by simp [intOf]; omega⟩
            rw [HS.out, half_of]
            unfold refB
            rw [if_pos (bit_no h)]
        · obtain rfl : j = 8 := by omega
          go_wp2_with fail
          refine ⟨⟨k + 1, by omega, by simp, ?_, trivial⟩, by simp [intOf]; omega⟩
          rw [HN.out]
    · obtain rfl : k = l.length := by omega
      rw [List.take_length]
      obtain ⟨f, hf⟩ : ∃ f, sumL l (BitVec.allOnes 32) = f := ⟨_, rfl⟩
      have HF := hide hf
      rw [hf]
      clear hf
      go_wp2_with fail
      go_ret
      exact ⟨by rw [not_int, ← HF.out, HR.out]; rfl, rfl⟩
end Go.Proofs.Ytfknjmfkkaoggaa
