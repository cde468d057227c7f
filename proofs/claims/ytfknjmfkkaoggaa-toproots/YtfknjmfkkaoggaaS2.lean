/- Slots: numbers, and where things lie. -/
import Derived.Test.YtfknjmfkkaoggaaS1
namespace Go.Proofs.Ytfknjmfkkaoggaa
open Go.RowKit

abbrev V := BitVec 64
theorem vbits_of (x : V) : BitVec.ofInt 64 (x.toNat : Int) = x := by simp
theorem vwrap_of (x : V) : IntKind.u64.wrap (x.toNat : Int) = x.toNat := by
  have := x.isLt
  show ((x.toNat : Int) % 18446744073709551616) = x.toNat
  omega
theorem vbits_or (x y : V) : bits .or .u64 x.toNat y.toNat = (x ||| y).toNat := by
  show IntKind.u64.wrap ((BitVec.ofInt 64 (x.toNat : Int) ||| BitVec.ofInt 64 (y.toNat : Int)).toNat : Int) = _
  rw [vbits_of, vbits_of, vwrap_of]
def byteV (c : UInt8) : V := BitVec.ofNat 64 c.toNat
theorem byteV_nat (c : UInt8) : (byteV c).toNat = c.toNat := by
  unfold byteV
  have := c.toNat_lt
  rw [BitVec.toNat_ofNat]
  omega
def numL : List UInt8 → V → V
  | [], x => x
  | c :: r, x => numL r ((x <<< 8) ||| byteV c)
theorem num_snoc (l : List UInt8) (c : UInt8) (x : V) : numL (l ++ [c]) x = (numL l x <<< 8) ||| byteV c := by
  induction l generalizing x with
  | nil => rfl
  | cons d r ih => exact ih _
theorem num_int (x : V) (c : UInt8) : bits .or .u64 (IntKind.u64.wrap ((x.toNat : Int) * 256)) (IntKind.u64.wrap (c.toNat : Int)) = ((x <<< 8) ||| byteV c).toNat := by
  have h1 : IntKind.u64.wrap ((x.toNat : Int) * 256) = ((x <<< 8).toNat : Int) := by
    rw [BitVec.toNat_shiftLeft, Nat.shiftLeft_eq]
    show ((x.toNat : Int) * 256) % 18446744073709551616 = _
    omega
  have h2 : IntKind.u64.wrap (c.toNat : Int) = ((byteV c).toNat : Int) := by
    rw [← byteV_nat, vwrap_of]
  rw [h1, h2, vbits_or]
set_option maxRecDepth 100000 in
set_option maxHeartbeats 4000000 in
theorem number_any (ba : Option Addr) (cap : Nat) (l : List UInt8) (w : World) (hl : l.length ≤ 9223372036854775807) (hB : ByteMem w.heap.size w ba l) :
    Calls Try.prog 81 #[.slice ba l.length cap] w fun e w' => e = .returned (.int .u64 (numL l 0#64).toNat) ∧ w' = w := by
  have HB := hide hB
  clear hB
  obtain ⟨rr, hrr⟩ : ∃ rr, numL l 0#64 = rr := ⟨_, rfl⟩
  rw [hrr]
  have HR := hide hrr
  clear hrr
  go_enter Try.func81, Try.ntmps81
  go_wp2_with fail
  go_loopw [3, 8] (fun x i wr => ∃ k : Nat, k ≤ l.length ∧ i = .int .i64 k ∧ x = .int .u64 (numL (l.take k) 0#64).toNat ∧ wr = w) (fun _ i _ => l.length - (intOf i).toNat)
  case atStart => exact ⟨0, Nat.zero_le _, rfl, rfl, rfl⟩
  case round =>
    obtain ⟨k, hk, rfl, rfl, rfl⟩ := hrel
    by_cases hp : (k : Int) < l.length
    · obtain ⟨c, hc⟩ : ∃ c, l[k]? = some c := ⟨_, List.getElem?_eq_getElem (by omega)⟩
      obtain ⟨b, o, rfl, hb1, hcell⟩ := HB.out k c hc
      have ht : l.take (k + 1) = l.take k ++ [c] := by rw [List.take_add_one, hc]; rfl
      obtain ⟨x0, hx0⟩ : ∃ x0, numL (l.take k) 0#64 = x0 := ⟨_, rfl⟩
      have hnext : numL (l.take (k + 1)) 0#64 = (x0 <<< 8) ||| byteV c := by rw [ht, num_snoc, hx0]
      have HN := hide hnext
      clear hnext ht
      rw [hx0]
      clear hx0
      go_wp2_with fail
      refine ⟨⟨k + 1, by omega, by simp, ?_, trivial⟩, by simp [intOf]; omega⟩
      rw [HN.out, num_int]
    · obtain rfl : k = l.length := by omega
      rw [List.take_length, HR.out]
      go_wp2_with fail
      go_ret
      exact ⟨rfl, rfl⟩
set_option maxRecDepth 100000 in
set_option maxHeartbeats 4000000 in
theorem get_any (ba : Option Addr) (cap : Nat) (l : List UInt8) (w : World) (hl : l.length ≤ 9223372036854775807) (hB : ByteMem w.heap.size w ba l) :
    Calls Try.prog 80 #[.slice ba l.length cap] w fun e w' => e = .returned (.int .u64 (numL l 0#64).toNat) ∧ w' = w := by
  have HB := hide hB
  clear hB
  obtain ⟨rr, hrr⟩ : ∃ rr, numL l 0#64 = rr := ⟨_, rfl⟩
  rw [hrr]
  have HR := hide hrr
  clear hrr
  go_enter Try.func80, Try.ntmps80
  go_wp2_with fail
  go_loopw [3, 4] (fun x i wr => ∃ k : Nat, k ≤ l.length ∧ i = .int .i64 k ∧ x = .int .u64 (numL (l.take k) 0#64).toNat ∧ wr = w) (fun _ i _ => l.length - (intOf i).toNat)
  case atStart => exact ⟨0, Nat.zero_le _, rfl, rfl, rfl⟩
  case round =>
    obtain ⟨k, hk, rfl, rfl, rfl⟩ := hrel
    by_cases hp : (k : Int) < l.length
    · obtain ⟨c, hc⟩ : ∃ c, l[k]? = some c := ⟨_, List.getElem?_eq_getElem (by omega)⟩
      obtain ⟨b, o, rfl, hb1, hcell⟩ := HB.out k c hc
      have ht : l.take (k + 1) = l.take k ++ [c] := by rw [List.take_add_one, hc]; rfl
      obtain ⟨x0, hx0⟩ : ∃ x0, numL (l.take k) 0#64 = x0 := ⟨_, rfl⟩
      have hnext : numL (l.take (k + 1)) 0#64 = (x0 <<< 8) ||| byteV c := by rw [ht, num_snoc, hx0]
      have HN := hide hnext
      clear hnext ht
      rw [hx0]
      clear hx0
      go_wp2_with fail
      refine ⟨⟨k + 1, by omega, by simp, ?_, trivial⟩, by simp [intOf]; omega⟩
      rw [HN.out, num_int]
    · obtain rfl : k = l.length := by omega
      rw [List.take_length, HR.out]
      go_wp2_with fail
      go_ret
      exact ⟨rfl, rfl⟩
/-- How many sectors so many bytes take. -/
theorem count_any (n : Nat) (w : World) (hn : n ≤ 1000000) : Calls Try.prog 62 #[.int .i64 n] w fun e w' => e = .returned (.int .i64 ((n + 63) / 64 : Nat)) ∧ w' = w := by
  go_enter Try.func62, Try.ntmps62
  go_wp2_with fail
  go_ret
  refine ⟨?_, rfl⟩
  have : ((n : Int) + 64 - 1) / 64 = ((n + 63) / 64 : Nat) := by omega
  rw [← this]
  rfl
/-- A store's inside: a device. -/
def hv (p : Nat) : Value := .agg #[.pointer (some ⟨p, 0, none⟩)]
set_option maxRecDepth 100000 in
theorem half_any (base p : Nat) (d : Dv) (vl vw : Value) (w : World) (h : IsD base p d vl vw w) (h2 : 4 ≤ d.las.length) (h3 : d.las.length ≤ 4096) : Calls Try.prog 66 #[hv p] w fun e w' => e = .returned (.int .i64 ((d.las.length - 2) / 2 : Nat)) ∧ Below w.heap.size w w' := by
  unfold hv
  obtain ⟨W1, hW1⟩ : ∃ W1, w.alloc (.cells #[.pointer (some ⟨p, 0, none⟩)] 79) = W1 := ⟨_, rfl⟩
  have hb1 : Below w.heap.size w W1 := by rw [← hW1]; exact (Below.refl _ w).alloc (Nat.le_refl _) _
  have n1 : W1.heap[w.heap.size]? = some (.cells #[.pointer (some ⟨p, 0, none⟩)] 79) := by rw [← hW1]; exact World.alloc_heap_new _ _
  have f1 : W1.cell? ⟨w.heap.size, 0, none⟩ = some (.pointer (some ⟨p, 0, none⟩)) := by simp [World.cell?, n1]
  have HS := hide (size_any base p d vl vw W1 (h.below hb1))
  have HH := hide hb1
  clear hb1 h
  go_enter Try.func66, Try.ntmps66
  go_wp2_with fail
  refine HS.out.mono ?_
  rintro e w2 ⟨rfl, rfl⟩
  go_wp2_with fail
  go_ret
  refine ⟨?_, HH.out⟩
  have : ((d.las.length : Int) - 2) / 2 = ((d.las.length - 2) / 2 : Nat) := by omega
  rw [← this]
  rfl
set_option maxRecDepth 100000 in
theorem room_any (base p : Nat) (d : Dv) (vl vw : Value) (w : World) (h : IsD base p d vl vw w) (h2 : 4 ≤ d.las.length) (h3 : d.las.length ≤ 4096) : Calls Try.prog 48 #[hv p] w fun e w' => e = .returned (.int .i64 ((d.las.length - 2) / 2 * 64 : Nat)) ∧ Below w.heap.size w w' := by
  obtain ⟨W1, hW1⟩ : ∃ W1, w.alloc (.cells #[.pointer (some ⟨p, 0, none⟩)] 79) = W1 := ⟨_, rfl⟩
  have hb1 : Below w.heap.size w W1 := by rw [← hW1]; exact (Below.refl _ w).alloc (Nat.le_refl _) _
  have n1 : W1.heap[w.heap.size]? = some (.cells #[.pointer (some ⟨p, 0, none⟩)] 79) := by rw [← hW1]; exact World.alloc_heap_new _ _
  have f1 : W1.cell? ⟨w.heap.size, 0, none⟩ = some (.pointer (some ⟨p, 0, none⟩)) := by simp [World.cell?, n1]
  have z1 : W1.heap.size = w.heap.size + 1 := by rw [← hW1]; simp
  obtain ⟨n, hn⟩ : ∃ n, (d.las.length - 2) / 2 = n := ⟨_, rfl⟩
  have hh := half_any base p d vl vw W1 (h.below hb1) h2 h3
  rw [hn] at hh ⊢
  unfold hv at hh ⊢
  have hn2 : n ≤ 4096 := by omega
  have HS := hide hh
  have HH := hide (And.intro hb1 z1)
  clear hb1 h hh hn z1
  go_enter Try.func48, Try.ntmps48
  go_wp2_with fail
  refine HS.out.mono ?_
  rintro e w2 ⟨rfl, hb2⟩
  have H2 := hide hb2
  clear hb2
  go_wp2_with fail
  go_ret
  refine ⟨?_, HH.out.1.trans (H2.out.mono (by have := HH.out.2; omega))⟩
  have : (n : Int) * 64 = (n * 64 : Nat) := by omega
  rw [← this]
  rfl
set_option maxRecDepth 100000 in
theorem first_any (base p : Nat) (d : Dv) (vl vw : Value) (k : Nat) (w : World) (h : IsD base p d vl vw w) (h2 : 4 ≤ d.las.length) (h3 : d.las.length ≤ 4096) (hk : k ≤ 1) : Calls Try.prog 61 #[hv p, .int .i64 k] w fun e w' => e = .returned (.int .i64 (2 + k * ((d.las.length - 2) / 2) : Nat)) ∧ Below w.heap.size w w' := by
  obtain ⟨W1, hW1⟩ : ∃ W1, w.alloc (.cells #[.pointer (some ⟨p, 0, none⟩)] 79) = W1 := ⟨_, rfl⟩
  have hb1 : Below w.heap.size w W1 := by rw [← hW1]; exact (Below.refl _ w).alloc (Nat.le_refl _) _
  have n1 : W1.heap[w.heap.size]? = some (.cells #[.pointer (some ⟨p, 0, none⟩)] 79) := by rw [← hW1]; exact World.alloc_heap_new _ _
  have f1 : W1.cell? ⟨w.heap.size, 0, none⟩ = some (.pointer (some ⟨p, 0, none⟩)) := by simp [World.cell?, n1]
  have z1 : W1.heap.size = w.heap.size + 1 := by rw [← hW1]; simp
  obtain ⟨n, hn⟩ : ∃ n, (d.las.length - 2) / 2 = n := ⟨_, rfl⟩
  have hh := half_any base p d vl vw W1 (h.below hb1) h2 h3
  rw [hn] at hh ⊢
  unfold hv at hh ⊢
  have hn2 : n ≤ 4096 := by omega
  have HS := hide hh
  have HH := hide (And.intro hb1 z1)
  clear hb1 h hh hn z1
  have hkn : k * n ≤ 4096 := by
    have : k * n ≤ 1 * n := Nat.mul_le_mul_right n hk
    omega
  obtain ⟨m, hm⟩ : ∃ m, k * n = m := ⟨_, rfl⟩
  have hm' : (k : Int) * n = m := by rw [← hm]; simp
  rw [hm] at hkn ⊢
  clear hm
  go_enter Try.func61, Try.ntmps61
  go_wp2_with fail
  refine HS.out.mono ?_
  rintro e w2 ⟨rfl, hb2⟩
  have H2 := hide hb2
  clear hb2
  go_wp2_with fail
  go_ret
  refine ⟨?_, HH.out.1.trans (H2.out.mono (by have := HH.out.2; omega))⟩
  have : (2 : Int) + m = (2 + m : Nat) := by omega
  rw [← this]
  rfl
end Go.Proofs.Ytfknjmfkkaoggaa
