/- Slots: the check sum, bit by bit. -/
import Derived.Test.YtfknjmfkkaoggaaD6
namespace Go.Proofs.Ytfknjmfkkaoggaa
open Go.RowKit

/-- Bytes that lie below a height. -/
def ByteMem (n₀ : Nat) (w : World) (ba : Option Addr) (l : List UInt8) : Prop := ∀ (j : Nat) (c : UInt8), l[j]? = some c → ∃ b o, ba = some ⟨b, o, none⟩ ∧ b < n₀ ∧ w.cell? ⟨b, o + j, none⟩ = some (.int .u8 c.toNat)
theorem ByteMem.below {n₀ : Nat} {w w' : World} {ba : Option Addr} {l : List UInt8} (h : ByteMem n₀ w ba l) (hb : Below n₀ w w') : ByteMem n₀ w' ba l := fun j c hj => by
  obtain ⟨b, o, h0, h1, h2⟩ := h j c hj
  exact ⟨b, o, h0, h1, (hb.cell (p := ⟨b, _, none⟩) h1).trans h2⟩
abbrev U := BitVec 32
theorem bits_of (x : U) : BitVec.ofInt 32 (x.toNat : Int) = x := by simp
theorem wrap_of (x : U) : IntKind.u32.wrap (x.toNat : Int) = x.toNat := by
  have := x.isLt
  show ((x.toNat : Int) % 4294967296) = x.toNat
  omega
theorem bits_xor (x y : U) : bits .xor .u32 x.toNat y.toNat = (x ^^^ y).toNat := by
  show IntKind.u32.wrap ((BitVec.ofInt 32 (x.toNat : Int) ^^^ BitVec.ofInt 32 (y.toNat : Int)).toNat : Int) = _
  rw [bits_of, bits_of, wrap_of]
theorem bits_and (x y : U) : bits .and .u32 x.toNat y.toNat = (x &&& y).toNat := by
  show IntKind.u32.wrap ((BitVec.ofInt 32 (x.toNat : Int) &&& BitVec.ofInt 32 (y.toNat : Int)).toNat : Int) = _
  rw [bits_of, bits_of, wrap_of]
theorem half_of (x : U) : (x.toNat : Int) / (2 : Int) = ((x >>> 1).toNat : Int) := by
  rw [BitVec.toNat_ushiftRight, Nat.shiftRight_eq_div_pow]
  omega
/-- A bit's step. -/
def crcB (x : U) : U := (x >>> 1) ^^^ (3988292384#32 &&& -(x &&& 1#32))
def crcN : Nat → U → U
  | 0, x => x
  | n + 1, x => crcN n (crcB x)
theorem crcN_succ (n : Nat) (x : U) : crcN (n + 1) x = crcB (crcN n x) := by
  induction n generalizing x with
  | zero => rfl
  | succ n ih => exact ih (crcB x)
def byteU (c : UInt8) : U := BitVec.ofNat 32 c.toNat
def sumL : List UInt8 → U → U
  | [], x => x
  | c :: r, x => sumL r (crcN 8 (x ^^^ byteU c))
theorem sum_snoc (l : List UInt8) (c : UInt8) (x : U) : sumL (l ++ [c]) x = crcN 8 (sumL l x ^^^ byteU c) := by
  induction l generalizing x with
  | nil => rfl
  | cons d r ih => exact ih _
theorem byteU_nat (c : UInt8) : (byteU c).toNat = c.toNat := by
  unfold byteU
  have := c.toNat_lt
  rw [BitVec.toNat_ofNat]
  omega
theorem neg_int (y : U) : -(y.toNat : Int) % 4294967296 = (-y).toNat := by
  rw [BitVec.toNat_neg]
  have := y.isLt
  omega
theorem crc_int (x : U) : bits .xor .u32 ((x.toNat : Int) / 2) (bits .and .u32 3988292384 (-bits .and .u32 (x.toNat : Int) 1 % 4294967296)) = (crcB x).toNat := by
  have h1 : bits .and .u32 (x.toNat : Int) 1 = (x &&& 1#32).toNat := bits_and x 1#32
  rw [half_of, h1, neg_int]
  have h2 : bits .and .u32 3988292384 ((-(x &&& 1#32)).toNat : Int) = (3988292384#32 &&& -(x &&& 1#32)).toNat := bits_and 3988292384#32 _
  rw [h2, bits_xor]
  rfl
theorem not_int (x : U) : bits .xor .u32 IntKind.u32.max (x.toNat : Int) = (~~~x).toNat := by
  have h : bits .xor .u32 IntKind.u32.max (x.toNat : Int) = (BitVec.allOnes 32 ^^^ x).toNat := bits_xor (BitVec.allOnes 32) x
  rw [h, BitVec.allOnes_xor]
theorem byte_mod (c : UInt8) : (c.toNat : Int) % 4294967296 = (byteU c).toNat := by
  rw [byteU_nat]
  have := c.toNat_lt
  omega
set_option maxRecDepth 100000 in
set_option maxHeartbeats 4000000 in
theorem sum_any (ba : Option Addr) (cap : Nat) (l : List UInt8) (w : World) (hl : l.length ≤ 9223372036854775807) (hB : ByteMem w.heap.size w ba l) :
    Calls Try.prog 18 #[.slice ba l.length cap] w fun e w' => e = .returned (.int .u32 (~~~ sumL l (BitVec.allOnes 32)).toNat) ∧ w' = w := by
  have HB := hide hB
  clear hB
  obtain ⟨rr, hrr⟩ : ∃ rr, ~~~ sumL l (BitVec.allOnes 32) = rr := ⟨_, rfl⟩
  rw [hrr]
  have HR := hide hrr
  clear hrr
  go_enter Try.func18, Try.ntmps18
  go_wp2_with fail
  go_loopw [3, 8] (fun x i wr => ∃ k : Nat, k ≤ l.length ∧ i = .int .i64 k ∧ x = .int .u32 (sumL (l.take k) (BitVec.allOnes 32)).toNat ∧ wr = w) (fun _ i _ => l.length - (intOf i).toNat)
  case atStart => exact ⟨0, Nat.zero_le _, rfl, rfl, rfl⟩
  case round =>
    obtain ⟨k, hk, rfl, rfl, rfl⟩ := hrel
    by_cases hp : (k : Int) < l.length
    · obtain ⟨c, hc⟩ : ∃ c, l[k]? = some c := ⟨_, List.getElem?_eq_getElem (by omega)⟩
      obtain ⟨b, o, rfl, hb1, hcell⟩ := HB.out k c hc
      have ht : l.take (k + 1) = l.take k ++ [c] := by rw [List.take_add_one, hc]; rfl
      obtain ⟨x0, hx0⟩ : ∃ x0, sumL (l.take k) (BitVec.allOnes 32) = x0 := ⟨_, rfl⟩
      have hnext : sumL (l.take (k + 1)) (BitVec.allOnes 32) = crcN 8 (x0 ^^^ byteU c) := by rw [ht, sum_snoc, hx0]
      have HN := hide hnext
      clear hnext ht
      rw [hx0]
      clear hx0
      go_wp2_with fail
      rw [byte_mod c, bits_xor]
      obtain ⟨x1, hx1⟩ : ∃ x1, x0 ^^^ byteU c = x1 := ⟨_, rfl⟩
      have HX := hide hx1
      rw [hx1]
      clear hx1
      go_loopw [3, 16] (fun x i wr' => ∃ j : Nat, j ≤ 8 ∧ i = .int .i64 j ∧ x = .int .u32 (crcN j x1).toNat ∧ wr' = wr) (fun _ i _ => 8 - (intOf i).toNat)
      case atStart => exact ⟨0, Nat.zero_le _, rfl, rfl, rfl⟩
      case round =>
        obtain ⟨j, hj, rfl, rfl, rfl⟩ := hrel
        by_cases hp2 : (j : Int) < 8
        · obtain ⟨x2, hx2⟩ : ∃ x2, crcN j x1 = x2 := ⟨_, rfl⟩
          have hs := crcN_succ j x1
          rw [hx2] at hs
          have HS := hide hs
          clear hs
          rw [hx2]
          clear hx2
          go_wp2_with fail
          refine ⟨⟨j + 1, by omega, by simp, ?_, trivial⟩, by simp [intOf]; omega⟩
          rw [HS.out, crc_int]
        · obtain rfl : j = 8 := by omega
          go_wp2_with fail
          refine ⟨⟨k + 1, by omega, by simp, ?_, trivial⟩, by simp [intOf]; omega⟩
          rw [HN.out, HX.out]
    · obtain rfl : k = l.length := by omega
      rw [List.take_length]
      obtain ⟨f, hf⟩ : ∃ f, sumL l (BitVec.allOnes 32) = f := ⟨_, rfl⟩
      have HF := hide hf
      rw [hf]
      clear hf
      go_wp2_with fail
      go_ret
      exact ⟨by rw [not_int, ← HF.out, HR.out]; rfl, rfl⟩
end Go.Proofs.Ytfknjmfkkaoggaa
