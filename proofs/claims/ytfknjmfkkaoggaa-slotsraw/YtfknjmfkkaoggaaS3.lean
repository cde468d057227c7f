/- Slots: a number's bytes are laid. -/
import Derived.Test.YtfknjmfkkaoggaaSA
namespace Go.Proofs.Ytfknjmfkkaoggaa
open Go.RowKit

def beByte (x : V) (i : Nat) : UInt8 := UInt8.ofNat (x.toNat / 2 ^ (8 * i))
/-- The last i of n bytes from o on are laid. -/
def setBe (s : List UInt8) (o n : Nat) (x : V) : Nat → List UInt8
  | 0 => s
  | i + 1 => (setBe s o n x i).set (o + n - 1 - i) (beByte x i)
theorem setBe_len (s : List UInt8) (o n : Nat) (x : V) : ∀ i, (setBe s o n x i).length = s.length
  | 0 => rfl
  | i + 1 => by unfold setBe; rw [List.length_set, setBe_len s o n x i]
theorem secA_set (s : List UInt8) (k : Nat) (c : UInt8) : (secA s).setIfInBounds k (.int .u8 c.toNat) = secA (s.set k c) := by
  unfold secA Lib.byteCells
  rw [List.map_set]
  simp
theorem secA_at (s : List UInt8) (k : Nat) (c : UInt8) (h : s[k]? = some c) : (secA s)[k]? = some (.int .u8 c.toNat) := by
  unfold secA Lib.byteCells
  simp [h]
theorem be_int (x : V) (i : Nat) : (x.toNat : Int) / 2 ^ (8 * i) % 256 = (beByte x i).toNat := by
  unfold beByte
  rw [show (UInt8.ofNat (x.toNat / 2 ^ (8 * i))).toNat = x.toNat / 2 ^ (8 * i) % 256 from UInt8.toNat_ofNat']
  obtain ⟨m, hm⟩ : ∃ m : Nat, 2 ^ (8 * i) = m := ⟨_, rfl⟩
  have hm' : (2 : Int) ^ (8 * i) = (m : Int) := by rw [← hm]; exact (Int.natCast_pow 2 (8 * i)).symm
  rw [hm, hm', Int.natCast_emod, Int.natCast_ediv]
  rfl
set_option maxRecDepth 100000 in
set_option maxHeartbeats 4000000 in
theorem setNumber_any (g o n cap : Nat) (T : TypeId) (x : V) (s : List UInt8) (w : World) (hw : w.heap[g]? = some (.cells (secA s) T)) (hs : o + n ≤ s.length) (hn : n ≤ 8) :
    Calls Try.prog 77 #[.slice (some ⟨g, o, none⟩) n cap, .int .u64 x.toNat] w fun e w' => (∃ v, e = .returned v) ∧ w'.heap[g]? = some (.cells (secA (setBe s o n x n)) T) ∧ (∀ j, j ≠ g → w'.heap[j]? = w.heap[j]?) ∧ Below g w w' := by
  go_enter Try.func77, Try.ntmps77
  go_wp2_with fail
  go_loopw [7] (fun i wr => ∃ k : Nat, k ≤ n ∧ i = .int .i64 k ∧ wr.heap[g]? = some (.cells (secA (setBe s o n x k)) T) ∧ (∀ j, j ≠ g → wr.heap[j]? = w.heap[j]?) ∧ Below g w wr) (fun i _ => n - (intOf i).toNat)
  case atStart => exact ⟨0, Nat.zero_le _, rfl, hw, fun _ _ => rfl, Below.refl _ _⟩
  case round =>
    obtain ⟨k, hk, rfl, h1, h2, h3⟩ := hrel
    by_cases hp : (k : Int) < n
    · have hlen := setBe_len s o n x k
      obtain ⟨c, hc⟩ : ∃ c, (setBe s o n x k)[o + (n - 1 - k)]? = some c := ⟨_, List.getElem?_eq_getElem (by rw [hlen]; omega)⟩
      have hcell : wr.cell? ⟨g, o + (n - 1 - k), none⟩ = some (.int .u8 c.toNat) := by
        simp only [World.cell?, h1]
        exact secA_at _ _ _ hc
      have hfro : wr.frozen? ⟨g, o + (n - 1 - k), none⟩ = false := by simp [World.frozen?, h1]
      have e1 : (n : Int) - 1 - k = (n - 1 - k : Nat) := by omega
      have H := hide (And.intro h1 (And.intro h2 h3))
      clear h1 h2 h3 hw
      go_wp2_with fail
      rw [be_int]
      have ei : o + (n - 1 - k) = o + n - 1 - k := by omega
      refine ⟨⟨k + 1, by omega, by simp, ?_, fun j hj => (Below.heap_setCell _ _ _ _ hj).trans (H.out.2.1 j hj), H.out.2.2.setCell (p := ⟨g, _, none⟩) (Nat.le_refl _) _⟩, by simp [intOf]; omega⟩
      rw [heap_setCell_same wr g _ _ T _ H.out.1, secA_set, ei]
      rfl
    · obtain rfl : k = n := by omega
      have H := hide (And.intro h1 (And.intro h2 h3))
      clear h1 h2 h3 hw
      go_wp2_with fail
      exact bodyPost_end (results_none rfl _ _ _) rfl ⟨⟨_, rfl⟩, H.out.1, H.out.2.1, H.out.2.2⟩
end Go.Proofs.Ytfknjmfkkaoggaa
