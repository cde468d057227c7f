/- Slots: the check sum, bit by bit. Slots: the document's check sum. Slots: numbers, and where things lie. -/
import Derived.Test.YtfknjmfkkaoggaaD6
namespace Go.Proofs.Ytfknjmfkkaoggaa
open Go.RowKit

/-- Bytes that lie below a height. -/
def ByteMem (n₀ : Nat) (w : World) (ba : Option Addr) (l : List UInt8) : Prop := ∀ (j : Nat) (c : UInt8), l[j]? = some c → ∃ b o, ba = some ⟨b, o, none⟩ ∧ b < n₀ ∧ w.cell? ⟨b, o + j, none⟩ = some (.int .u8 c.toNat)
theorem ByteMem.below {n₀ : Nat} {w w' : World} {ba : Option Addr} {l : List UInt8} (h : ByteMem n₀ w ba l) (hb : Below n₀ w w') : ByteMem n₀ w' ba l := fun j c hj => by
  obtain ⟨b, o, h0, h1, h2⟩ := h j c hj
  exact ⟨b, o, h0, h1, (hb.cell (p := ⟨b, _, none⟩) h1).trans h2⟩
abbrev U := BitVec 32
theorem bits_of (x : U) : BitVec.ofInt 32 (x.toNat : Int) = x := by simp
theorem wrap_of (x : U) : IntKind.u32.wrap (x.toNat : Int) = x.toNat := by
  have := x.isLt
  show ((x.toNat : Int) % 4294967296) = x.toNat
  omega
theorem bits_xor (x y : U) : bits .xor .u32 x.toNat y.toNat = (x ^^^ y).toNat := by
  show IntKind.u32.wrap ((BitVec.ofInt 32 (x.toNat : Int) ^^^ BitVec.ofInt 32 (y.toNat : Int)).toNat : Int) = _
  rw [bits_of, bits_of, wrap_of]
theorem bits_and (x y : U) : bits .and .u32 x.toNat y.toNat = (x &&& y).toNat := by
  show IntKind.u32.wrap ((BitVec.ofInt 32 (x.toNat : Int) &&& BitVec.ofInt 32 (y.toNat : Int)).toNat : Int) = _
  rw [bits_of, bits_of, wrap_of]
theorem half_of (x : U) : (x.toNat : Int) / (2 : Int) = ((x >>> 1).toNat : Int) := by
  rw [BitVec.toNat_ushiftRight, Nat.shiftRight_eq_div_pow]
  omega
/-- A bit's step. -/
def crcB (x : U) : U := (x >>> 1) ^^^ (3988292384#32 &&& -(x &&& 1#32))
def crcN : Nat → U → U
  | 0, x => x
  | n + 1, x => crcN n (crcB x)
theorem crcN_succ (n : Nat) (x : U) : crcN (n + 1) x = crcB (crcN n x) := by
  induction n generalizing x with
  | zero => rfl
  | succ n ih => exact ih (crcB x)
def byteU (c : UInt8) : U := BitVec.ofNat 32 c.toNat
def sumL : List UInt8 → U → U
  | [], x => x
  | c :: r, x => sumL r (crcN 8 (x ^^^ byteU c))
theorem sum_snoc (l : List UInt8) (c : UInt8) (x : U) : sumL (l ++ [c]) x = crcN 8 (sumL l x ^^^ byteU c) := by
  induction l generalizing x with
  | nil => rfl
  | cons d r ih => exact ih _
theorem byteU_nat (c : UInt8) : (byteU c).toNat = c.toNat := by
  unfold byteU
  have := c.toNat_lt
  rw [BitVec.toNat_ofNat]
  omega
theorem neg_int (y : U) : -(y.toNat : Int) % 4294967296 = (-y).toNat := by
  rw [BitVec.toNat_neg]
  have := y.isLt
  omega
theorem crc_int (x : U) : bits .xor .u32 ((x.toNat : Int) / 2) (bits .and .u32 3988292384 (-bits .and .u32 (x.toNat : Int) 1 % 4294967296)) = (crcB x).toNat := by
  have h1 : bits .and .u32 (x.toNat : Int) 1 = (x &&& 1#32).toNat := bits_and x 1#32
  rw [half_of, h1, neg_int]
  have h2 : bits .and .u32 3988292384 ((-(x &&& 1#32)).toNat : Int) = (3988292384#32 &&& -(x &&& 1#32)).toNat := bits_and 3988292384#32 _
  rw [h2, bits_xor]
  rfl
theorem not_int (x : U) : bits .xor .u32 IntKind.u32.max (x.toNat : Int) = (~~~x).toNat := by
  have h : bits .xor .u32 IntKind.u32.max (x.toNat : Int) = (BitVec.allOnes 32 ^^^ x).toNat := bits_xor (BitVec.allOnes 32) x
  rw [h, BitVec.allOnes_xor]
theorem byte_mod (c : UInt8) : (c.toNat : Int) % 4294967296 = (byteU c).toNat := by
  rw [byteU_nat]
  have := c.toNat_lt
  omega
set_option maxRecDepth 100000 in
set_option maxHeartbeats 4000000 in
theorem sum_any (ba : Option Addr) (cap : Nat) (l : List UInt8) (w : World) (hl : l.length ≤ 9223372036854775807) (hB : ByteMem w.heap.size w ba l) :
    Calls Try.prog 18 #[.slice ba l.length cap] w fun e w' => e = .returned (.int .u32 (~~~ sumL l (BitVec.allOnes 32)).toNat) ∧ w' = w := by
  have HB := hide hB
  clear hB
  obtain ⟨rr, hrr⟩ : ∃ rr, ~~~ sumL l (BitVec.allOnes 32) = rr := ⟨_, rfl⟩
  rw [hrr]
  have HR := hide hrr
  clear hrr
  go_enter Try.func18, Try.ntmps18
  go_wp2_with fail
  go_loopw [3, 8] (fun x i wr => ∃ k : Nat, k ≤ l.length ∧ i = .int .i64 k ∧ x = .int .u32 (sumL (l.take k) (BitVec.allOnes 32)).toNat ∧ wr = w) (fun _ i _ => l.length - (intOf i).toNat)
  case atStart => exact ⟨0, Nat.zero_le _, rfl, rfl, rfl⟩
  case round =>
    obtain ⟨k, hk, rfl, rfl, rfl⟩ := hrel
    by_cases hp : (k : Int) < l.length
    · obtain ⟨c, hc⟩ : ∃ c, l[k]? = some c := ⟨_, List.getElem?_eq_getElem (by omega)⟩
      obtain ⟨b, o, rfl, hb1, hcell⟩ := HB.out k c hc
      have ht : l.take (k + 1) = l.take k ++ [c] := by rw [List.take_add_one, hc]; rfl
      obtain ⟨x0, hx0⟩ : ∃ x0, sumL (l.take k) (BitVec.allOnes 32) = x0 := ⟨_, rfl⟩
      have hnext : sumL (l.take (k + 1)) (BitVec.allOnes 32) = crcN 8 (x0 ^^^ byteU c) := by rw [ht, sum_snoc, hx0]
      have HN := hide hnext
      clear hnext ht
      rw [hx0]
      clear hx0
      go_wp2_with fail
      rw [byte_mod c, bits_xor]
      obtain ⟨x1, hx1⟩ : ∃ x1, x0 ^^^ byteU c = x1 := ⟨_, rfl⟩
      have HX := hide hx1
      rw [hx1]
      clear hx1
      go_loopw [3, 16] (fun x i wr' => ∃ j : Nat, j ≤ 8 ∧ i = .int .i64 j ∧ x = .int .u32 (crcN j x1).toNat ∧ wr' = wr) (fun _ i _ => 8 - (intOf i).toNat)
      case atStart => exact ⟨0, Nat.zero_le _, rfl, rfl, rfl⟩
      case round =>
        obtain ⟨j, hj, rfl, rfl, rfl⟩ := hrel
        by_cases hp2 : (j : Int) < 8
        · obtain ⟨x2, hx2⟩ : ∃ x2, crcN j x1 = x2 := ⟨_, rfl⟩
          have hs := crcN_succ j x1
          rw [hx2] at hs
          have HS := hide hs
          clear hs
          rw [hx2]
          clear hx2
          go_wp2_with fail
          refine ⟨⟨j + 1, by omega, by simp, ?_, trivial⟩, by simp [intOf]; omega⟩
          rw [HS.out, crc_int]
        · obtain rfl : j = 8 := by omega
          go_wp2_with fail
          refine ⟨⟨k + 1, by omega, by simp, ?_, trivial⟩, by simp [intOf]; omega⟩
          rw [HN.out, HX.out]
    · obtain rfl : k = l.length := by omega
      rw [List.take_length]
      obtain ⟨f, hf⟩ : ∃ f, sumL l (BitVec.allOnes 32) = f := ⟨_, rfl⟩
      have HF := hide hf
      rw [hf]
      clear hf
      go_wp2_with fail
      go_ret
      exact ⟨by rw [not_int, ← HF.out, HR.out]; rfl, rfl⟩
end Go.Proofs.Ytfknjmfkkaoggaa
namespace Go.Proofs.Ytfknjmfkkaoggaa
open Go.RowKit

theorem low_bit (y : U) : y &&& 1#32 = 0#32 ∨ y &&& 1#32 = 1#32 := by
  have : (y &&& 1#32).toNat = y.toNat % 2 := by rw [BitVec.toNat_and]; exact Nat.and_one_is_mod _
  rcases Nat.mod_two_eq_zero_or_one y.toNat with h | h
  · left
    apply BitVec.eq_of_toNat_eq
    rw [this, h]
    rfl
  · right
    apply BitVec.eq_of_toNat_eq
    rw [this, h]
    rfl
/-- The document's step of a bit. -/
def refB (c : U) (k : Nat) (x : U) : U := if x &&& 1#32 = (c >>> k) &&& 1#32 then x >>> 1 else (x >>> 1) ^^^ 3988292384#32
def refN (c : U) : Nat → U → U
  | 0, x => x
  | n + 1, x => refB c n (refN c n x)
theorem xor_low (x d : U) : (x ^^^ d) &&& 1#32 = (x &&& 1#32) ^^^ (d &&& 1#32) := by
  ext i hi
  simp only [BitVec.getElem_and, BitVec.getElem_xor]
  cases x[i] <;> cases d[i] <;> simp
theorem crc_ref (c : U) (k : Nat) (x : U) : crcB (x ^^^ (c >>> k)) = refB c k x ^^^ (c >>> (k + 1)) := by
  have h1 : (x ^^^ (c >>> k)) >>> 1 = (x >>> 1) ^^^ (c >>> (k + 1)) := by rw [BitVec.ushiftRight_xor_distrib, ← BitVec.shiftRight_add]
  unfold crcB refB
  rw [h1, xor_low]
  rcases low_bit x with hx | hx <;> rcases low_bit (c >>> k) with hd | hd <;> rw [hx, hd]
  · rw [if_pos rfl, show (3988292384#32 &&& -(0#32 ^^^ 0#32)) = 0#32 by decide, BitVec.xor_zero]
  · rw [if_neg (by decide), show (3988292384#32 &&& -(0#32 ^^^ 1#32)) = 3988292384#32 by decide, BitVec.xor_assoc, BitVec.xor_assoc, BitVec.xor_comm (c >>> (k + 1))]
  · rw [if_neg (by decide), show (3988292384#32 &&& -(1#32 ^^^ 0#32)) = 3988292384#32 by decide, BitVec.xor_assoc, BitVec.xor_assoc, BitVec.xor_comm (c >>> (k + 1))]
  · rw [if_pos rfl, show (3988292384#32 &&& -(1#32 ^^^ 1#32)) = 0#32 by decide, BitVec.xor_zero]
theorem crcN_ref (c : U) (x : U) : ∀ n, crcN n (x ^^^ c) = refN c n x ^^^ (c >>> n)
  | 0 => by rw [BitVec.ushiftRight_zero]; rfl
  | n + 1 => by
    rw [crcN_succ, crcN_ref c x n, crc_ref]
    rfl
theorem byte_gone (c : UInt8) : byteU c >>> 8 = 0#32 := by
  apply BitVec.eq_of_toNat_eq
  rw [BitVec.toNat_ushiftRight, byteU_nat, Nat.shiftRight_eq_div_pow]
  have := c.toNat_lt
  show c.toNat / 2 ^ 8 = 0
  omega
theorem crc8_ref (c : UInt8) (x : U) : refN (byteU c) 8 x = crcN 8 (x ^^^ byteU c) := by
  rw [crcN_ref, byte_gone, BitVec.xor_zero]
theorem bit_c (c : UInt8) (j : Nat) : bits .and .u32 ((c.toNat : Int) % 4294967296 / 2 ^ j) 1 = ((byteU c >>> j) &&& 1#32).toNat := by
  have h : (c.toNat : Int) % 4294967296 / 2 ^ j = ((byteU c >>> j).toNat : Int) := by
    rw [byte_mod, BitVec.toNat_ushiftRight, Nat.shiftRight_eq_div_pow]
    norm_cast
  rw [h]
  exact bits_and (byteU c >>> j) 1#32
theorem bit_no {x : U} {c : UInt8} {j : Nat} (h : (bits .and .u32 (x.toNat : Int) 1 != bits .and .u32 ((c.toNat : Int) % 4294967296 / 2 ^ j) 1) = false) : x &&& 1#32 = (byteU c >>> j) &&& 1#32 := by
  rw [bit_c, show bits .and .u32 (x.toNat : Int) 1 = (x &&& 1#32).toNat from bits_and x 1#32] at h
  apply BitVec.eq_of_toNat_eq
  have := (bne_eq_false_iff_eq).1 h
  omega
theorem bit_yes {x : U} {c : UInt8} {j : Nat} (h : (bits .and .u32 (x.toNat : Int) 1 != bits .and .u32 ((c.toNat : Int) % 4294967296 / 2 ^ j) 1) = true) : ¬ x &&& 1#32 = (byteU c >>> j) &&& 1#32 := by
  rw [bit_c, show bits .and .u32 (x.toNat : Int) 1 = (x &&& 1#32).toNat from bits_and x 1#32] at h
  intro e
  rw [e] at h
  simp at h
theorem xor_poly (x : U) : bits .xor .u32 (x.toNat : Int) 3988292384 = (x ^^^ 3988292384#32).toNat := bits_xor x 3988292384#32
set_option maxRecDepth 100000 in
set_option maxHeartbeats 4000000 in
theorem rsum_any (ba : Option Addr) (cap : Nat) (l : List UInt8) (w : World) (hl : l.length ≤ 9223372036854775807) (hB : ByteMem w.heap.size w ba l) :
    Calls Try.prog 19 #[.slice ba l.length cap] w fun e w' => e = .returned (.int .u32 (~~~ sumL l (BitVec.allOnes 32)).toNat) ∧ w' = w := by
  have HB := hide hB
  clear hB
  obtain ⟨rr, hrr⟩ : ∃ rr, ~~~ sumL l (BitVec.allOnes 32) = rr := ⟨_, rfl⟩
  rw [hrr]
  have HR := hide hrr
  clear hrr
  go_enter Try.func19, Try.ntmps19
  go_wp2_with fail
  go_loopw [3, 4] (fun x i wr => ∃ k : Nat, k ≤ l.length ∧ i = .int .i64 k ∧ x = .int .u32 (sumL (l.take k) (BitVec.allOnes 32)).toNat ∧ wr = w) (fun _ i _ => l.length - (intOf i).toNat)
  case atStart => exact ⟨0, Nat.zero_le _, rfl, rfl, rfl⟩
  case round =>
    obtain ⟨k, hk, rfl, rfl, rfl⟩ := hrel
    by_cases hp : (k : Int) < l.length
    · obtain ⟨c, hc⟩ : ∃ c, l[k]? = some c := ⟨_, List.getElem?_eq_getElem (by omega)⟩
      obtain ⟨b, o, rfl, hb1, hcell⟩ := HB.out k c hc
      have ht : l.take (k + 1) = l.take k ++ [c] := by rw [List.take_add_one, hc]; rfl
      obtain ⟨x0, hx0⟩ : ∃ x0, sumL (l.take k) (BitVec.allOnes 32) = x0 := ⟨_, rfl⟩
      have hnext : sumL (l.take (k + 1)) (BitVec.allOnes 32) = refN (byteU c) 8 x0 := by rw [ht, sum_snoc, hx0, crc8_ref]
      have HN := hide hnext
      clear hnext ht
      rw [hx0]
      clear hx0
      go_wp2_with fail
      go_loopw [3, 5] (fun x i wr' => ∃ j : Nat, j ≤ 8 ∧ i = .int .i64 j ∧ x = .int .u32 (refN (byteU c) j x0).toNat ∧ wr' = wr) (fun _ i _ => 8 - (intOf i).toNat)
      case atStart => exact ⟨0, Nat.zero_le _, rfl, rfl, rfl⟩
      case round =>
        obtain ⟨j, hj, rfl, rfl, rfl⟩ := hrel
        by_cases hp2 : (j : Int) < 8
        · obtain ⟨x2, hx2⟩ : ∃ x2, refN (byteU c) j x0 = x2 := ⟨_, rfl⟩
          have hs : refN (byteU c) (j + 1) x0 = refB (byteU c) j x2 := by rw [← hx2]; rfl
          have HS := hide hs
          clear hs
          rw [hx2]
          clear hx2
          have hj8 : j < 8 := by omega
          go_wp2_with fail
          · rename_i h
            refine ⟨⟨j + 1, by omega, by simp, ?_, trivial⟩, by simp [intOf]; omega⟩
            rw [HS.out, half_of, xor_poly]
            unfold refB
            rw [if_neg (bit_yes h)]
          · rename_i h
            refine ⟨⟨j + 1, by omega, by simp, ?_, trivial⟩, by simp [intOf]; omega⟩
            rw [HS.out, half_of]
            unfold refB
            rw [if_pos (bit_no h)]
        · obtain rfl : j = 8 := by omega
          go_wp2_with fail
          refine ⟨⟨k + 1, by omega, by simp, ?_, trivial⟩, by simp [intOf]; omega⟩
          rw [HN.out]
    · obtain rfl : k = l.length := by omega
      rw [List.take_length]
      obtain ⟨f, hf⟩ : ∃ f, sumL l (BitVec.allOnes 32) = f := ⟨_, rfl⟩
      have HF := hide hf
      rw [hf]
      clear hf
      go_wp2_with fail
      go_ret
      exact ⟨by rw [not_int, ← HF.out, HR.out]; rfl, rfl⟩
end Go.Proofs.Ytfknjmfkkaoggaa
namespace Go.Proofs.Ytfknjmfkkaoggaa
open Go.RowKit

abbrev V := BitVec 64
theorem vbits_of (x : V) : BitVec.ofInt 64 (x.toNat : Int) = x := by simp
theorem vwrap_of (x : V) : IntKind.u64.wrap (x.toNat : Int) = x.toNat := by
  have := x.isLt
  show ((x.toNat : Int) % 18446744073709551616) = x.toNat
  omega
theorem vbits_or (x y : V) : bits .or .u64 x.toNat y.toNat = (x ||| y).toNat := by
  show IntKind.u64.wrap ((BitVec.ofInt 64 (x.toNat : Int) ||| BitVec.ofInt 64 (y.toNat : Int)).toNat : Int) = _
  rw [vbits_of, vbits_of, vwrap_of]
def byteV (c : UInt8) : V := BitVec.ofNat 64 c.toNat
theorem byteV_nat (c : UInt8) : (byteV c).toNat = c.toNat := by
  unfold byteV
  have := c.toNat_lt
  rw [BitVec.toNat_ofNat]
  omega
def numL : List UInt8 → V → V
  | [], x => x
  | c :: r, x => numL r ((x <<< 8) ||| byteV c)
theorem num_snoc (l : List UInt8) (c : UInt8) (x : V) : numL (l ++ [c]) x = (numL l x <<< 8) ||| byteV c := by
  induction l generalizing x with
  | nil => rfl
  | cons d r ih => exact ih _
theorem num_int (x : V) (c : UInt8) : bits .or .u64 (IntKind.u64.wrap ((x.toNat : Int) * 256)) (IntKind.u64.wrap (c.toNat : Int)) = ((x <<< 8) ||| byteV c).toNat := by
  have h1 : IntKind.u64.wrap ((x.toNat : Int) * 256) = ((x <<< 8).toNat : Int) := by
    rw [BitVec.toNat_shiftLeft, Nat.shiftLeft_eq]
    show ((x.toNat : Int) * 256) % 18446744073709551616 = _
    omega
  have h2 : IntKind.u64.wrap (c.toNat : Int) = ((byteV c).toNat : Int) := by
    rw [← byteV_nat, vwrap_of]
  rw [h1, h2, vbits_or]
set_option maxRecDepth 100000 in
set_option maxHeartbeats 4000000 in
theorem number_any (ba : Option Addr) (cap : Nat) (l : List UInt8) (w : World) (hl : l.length ≤ 9223372036854775807) (hB : ByteMem w.heap.size w ba l) :
    Calls Try.prog 81 #[.slice ba l.length cap] w fun e w' => e = .returned (.int .u64 (numL l 0#64).toNat) ∧ w' = w := by
  have HB := hide hB
  clear hB
  obtain ⟨rr, hrr⟩ : ∃ rr, numL l 0#64 = rr := ⟨_, rfl⟩
  rw [hrr]
  have HR := hide hrr
  clear hrr
  go_enter Try.func81, Try.ntmps81
  go_wp2_with fail
  go_loopw [3, 8] (fun x i wr => ∃ k : Nat, k ≤ l.length ∧ i = .int .i64 k ∧ x = .int .u64 (numL (l.take k) 0#64).toNat ∧ wr = w) (fun _ i _ => l.length - (intOf i).toNat)
  case atStart => exact ⟨0, Nat.zero_le _, rfl, rfl, rfl⟩
  case round =>
    obtain ⟨k, hk, rfl, rfl, rfl⟩ := hrel
    by_cases hp : (k : Int) < l.length
    · obtain ⟨c, hc⟩ : ∃ c, l[k]? = some c := ⟨_, List.getElem?_eq_getElem (by omega)⟩
      obtain ⟨b, o, rfl, hb1, hcell⟩ := HB.out k c hc
      have ht : l.take (k + 1) = l.take k ++ [c] := by rw [List.take_add_one, hc]; rfl
      obtain ⟨x0, hx0⟩ : ∃ x0, numL (l.take k) 0#64 = x0 := ⟨_, rfl⟩
      have hnext : numL (l.take (k + 1)) 0#64 = (x0 <<< 8) ||| byteV c := by rw [ht, num_snoc, hx0]
      have HN := hide hnext
      clear hnext ht
      rw [hx0]
      clear hx0
      go_wp2_with fail
      refine ⟨⟨k + 1, by omega, by simp, ?_, trivial⟩, by simp [intOf]; omega⟩
      rw [HN.out, num_int]
    · obtain rfl : k = l.length := by omega
      rw [List.take_length, HR.out]
      go_wp2_with fail
      go_ret
      exact ⟨rfl, rfl⟩
set_option maxRecDepth 100000 in
set_option maxHeartbeats 4000000 in
theorem get_any (ba : Option Addr) (cap : Nat) (l : List UInt8) (w : World) (hl : l.length ≤ 9223372036854775807) (hB : ByteMem w.heap.size w ba l) :
    Calls Try.prog 80 #[.slice ba l.length cap] w fun e w' => e = .returned (.int .u64 (numL l 0#64).toNat) ∧ w' = w := by
  have HB := hide hB
  clear hB
  obtain ⟨rr, hrr⟩ : ∃ rr, numL l 0#64 = rr := ⟨_, rfl⟩
  rw [hrr]
  have HR := hide hrr
  clear hrr
  go_enter Try.func80, Try.ntmps80
  go_wp2_with fail
  go_loopw [3, 4] (fun x i wr => ∃ k : Nat, k ≤ l.length ∧ i = .int .i64 k ∧ x = .int .u64 (numL (l.take k) 0#64).toNat ∧ wr = w) (fun _ i _ => l.length - (intOf i).toNat)
  case atStart => exact ⟨0, Nat.zero_le _, rfl, rfl, rfl⟩
  case round =>
    obtain ⟨k, hk, rfl, rfl, rfl⟩ := hrel
    by_cases hp : (k : Int) < l.length
    · obtain ⟨c, hc⟩ : ∃ c, l[k]? = some c := ⟨_, List.getElem?_eq_getElem (by omega)⟩
      obtain ⟨b, o, rfl, hb1, hcell⟩ := HB.out k c hc
      have ht : l.take (k + 1) = l.take k ++ [c] := by rw [List.take_add_one, hc]; rfl
      obtain ⟨x0, hx0⟩ : ∃ x0, numL (l.take k) 0#64 = x0 := ⟨_, rfl⟩
      have hnext : numL (l.take (k + 1)) 0#64 = (x0 <<< 8) ||| byteV c := by rw [ht, num_snoc, hx0]
      have HN := hide hnext
      clear hnext ht
      rw [hx0]
      clear hx0
      go_wp2_with fail
      refine ⟨⟨k + 1, by omega, by simp, ?_, trivial⟩, by simp [intOf]; omega⟩
      rw [HN.out, num_int]
    · obtain rfl : k = l.length := by omega
      rw [List.take_length, HR.out]
      go_wp2_with fail
      go_ret
      exact ⟨rfl, rfl⟩
/-- How many sectors so many bytes take. -/
theorem count_any (n : Nat) (w : World) (hn : n ≤ 1000000) : Calls Try.prog 62 #[.int .i64 n] w fun e w' => e = .returned (.int .i64 ((n + 63) / 64 : Nat)) ∧ w' = w := by
  go_enter Try.func62, Try.ntmps62
  go_wp2_with fail
  go_ret
  refine ⟨?_, rfl⟩
  have : ((n : Int) + 64 - 1) / 64 = ((n + 63) / 64 : Nat) := by omega
  rw [← this]
  rfl
/-- A store's inside: a device. -/
def hv (p : Nat) : Value := .agg #[.pointer (some ⟨p, 0, none⟩)]
set_option maxRecDepth 100000 in
theorem half_any (base p : Nat) (d : Dv) (vl vw : Value) (w : World) (h : IsD base p d vl vw w) (h2 : 4 ≤ d.las.length) (h3 : d.las.length ≤ 4096) : Calls Try.prog 66 #[hv p] w fun e w' => e = .returned (.int .i64 ((d.las.length - 2) / 2 : Nat)) ∧ Below w.heap.size w w' := by
  unfold hv
  obtain ⟨W1, hW1⟩ : ∃ W1, w.alloc (.cells #[.pointer (some ⟨p, 0, none⟩)] 79) = W1 := ⟨_, rfl⟩
  have hb1 : Below w.heap.size w W1 := by rw [← hW1]; exact (Below.refl _ w).alloc (Nat.le_refl _) _
  have n1 : W1.heap[w.heap.size]? = some (.cells #[.pointer (some ⟨p, 0, none⟩)] 79) := by rw [← hW1]; exact World.alloc_heap_new _ _
  have f1 : W1.cell? ⟨w.heap.size, 0, none⟩ = some (.pointer (some ⟨p, 0, none⟩)) := by simp [World.cell?, n1]
  have HS := hide (size_any base p d vl vw W1 (h.below hb1))
  have HH := hide hb1
  clear hb1 h
  go_enter Try.func66, Try.ntmps66
  go_wp2_with fail
  refine HS.out.mono ?_
  rintro e w2 ⟨rfl, rfl⟩
  go_wp2_with fail
  go_ret
  refine ⟨?_, HH.out⟩
  have : ((d.las.length : Int) - 2) / 2 = ((d.las.length - 2) / 2 : Nat) := by omega
  rw [← this]
  rfl
set_option maxRecDepth 100000 in
theorem room_any (base p : Nat) (d : Dv) (vl vw : Value) (w : World) (h : IsD base p d vl vw w) (h2 : 4 ≤ d.las.length) (h3 : d.las.length ≤ 4096) : Calls Try.prog 48 #[hv p] w fun e w' => e = .returned (.int .i64 ((d.las.length - 2) / 2 * 64 : Nat)) ∧ Below w.heap.size w w' := by
  obtain ⟨W1, hW1⟩ : ∃ W1, w.alloc (.cells #[.pointer (some ⟨p, 0, none⟩)] 79) = W1 := ⟨_, rfl⟩
  have hb1 : Below w.heap.size w W1 := by rw [← hW1]; exact (Below.refl _ w).alloc (Nat.le_refl _) _
  have n1 : W1.heap[w.heap.size]? = some (.cells #[.pointer (some ⟨p, 0, none⟩)] 79) := by rw [← hW1]; exact World.alloc_heap_new _ _
  have f1 : W1.cell? ⟨w.heap.size, 0, none⟩ = some (.pointer (some ⟨p, 0, none⟩)) := by simp [World.cell?, n1]
  have z1 : W1.heap.size = w.heap.size + 1 := by rw [← hW1]; simp
  obtain ⟨n, hn⟩ : ∃ n, (d.las.length - 2) / 2 = n := ⟨_, rfl⟩
  have hh := half_any base p d vl vw W1 (h.below hb1) h2 h3
  rw [hn] at hh ⊢
  unfold hv at hh ⊢
  have hn2 : n ≤ 4096 := by omega
  have HS := hide hh
  have HH := hide (And.intro hb1 z1)
  clear hb1 h hh hn z1
  go_enter Try.func48, Try.ntmps48
  go_wp2_with fail
  refine HS.out.mono ?_
  rintro e w2 ⟨rfl, hb2⟩
  have H2 := hide hb2
  clear hb2
  go_wp2_with fail
  go_ret
  refine ⟨?_, HH.out.1.trans (H2.out.mono (by have := HH.out.2; omega))⟩
  have : (n : Int) * 64 = (n * 64 : Nat) := by omega
  rw [← this]
  rfl
set_option maxRecDepth 100000 in
theorem first_any (base p : Nat) (d : Dv) (vl vw : Value) (k : Nat) (w : World) (h : IsD base p d vl vw w) (h2 : 4 ≤ d.las.length) (h3 : d.las.length ≤ 4096) (hk : k ≤ 1) : Calls Try.prog 61 #[hv p, .int .i64 k] w fun e w' => e = .returned (.int .i64 (2 + k * ((d.las.length - 2) / 2) : Nat)) ∧ Below w.heap.size w w' := by
  obtain ⟨W1, hW1⟩ : ∃ W1, w.alloc (.cells #[.pointer (some ⟨p, 0, none⟩)] 79) = W1 := ⟨_, rfl⟩
  have hb1 : Below w.heap.size w W1 := by rw [← hW1]; exact (Below.refl _ w).alloc (Nat.le_refl _) _
  have n1 : W1.heap[w.heap.size]? = some (.cells #[.pointer (some ⟨p, 0, none⟩)] 79) := by rw [← hW1]; exact World.alloc_heap_new _ _
  have f1 : W1.cell? ⟨w.heap.size, 0, none⟩ = some (.pointer (some ⟨p, 0, none⟩)) := by simp [World.cell?, n1]
  have z1 : W1.heap.size = w.heap.size + 1 := by rw [← hW1]; simp
  obtain ⟨n, hn⟩ : ∃ n, (d.las.length - 2) / 2 = n := ⟨_, rfl⟩
  have hh := half_any base p d vl vw W1 (h.below hb1) h2 h3
  rw [hn] at hh ⊢
  unfold hv at hh ⊢
  have hn2 : n ≤ 4096 := by omega
  have HS := hide hh
  have HH := hide (And.intro hb1 z1)
  clear hb1 h hh hn z1
  have hkn : k * n ≤ 4096 := by
    have : k * n ≤ 1 * n := Nat.mul_le_mul_right n hk
    omega
  obtain ⟨m, hm⟩ : ∃ m, k * n = m := ⟨_, rfl⟩
  have hm' : (k : Int) * n = m := by rw [← hm]; simp
  rw [hm] at hkn ⊢
  clear hm
  go_enter Try.func61, Try.ntmps61
  go_wp2_with fail
  refine HS.out.mono ?_
  rintro e w2 ⟨rfl, hb2⟩
  have H2 := hide hb2
  clear hb2
  go_wp2_with fail
  go_ret
  refine ⟨?_, HH.out.1.trans (H2.out.mono (by have := HH.out.2; omega))⟩
  have : (2 : Int) + m = (2 + m : Nat) := by omega
  rw [← this]
  rfl
end Go.Proofs.Ytfknjmfkkaoggaa
