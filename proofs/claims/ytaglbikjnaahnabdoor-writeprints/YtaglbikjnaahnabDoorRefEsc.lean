/- The document's own Escape. -/
import Derived.Test.YtaglbikjnaahnabDoorRefEnt
import Derived.LoopTactic
import Derived.Deep.QuietTactic
import Derived.BigQuiet
namespace Go.Proofs.YtaglbikjnaahnabDoor
open Go.RowKit

def refA (k : Nat) : ByteArray := match k with | 0 => ⟨#[38]⟩ | 1 => ⟨#[60]⟩ | 2 => ⟨#[62]⟩ | 3 => ⟨#[39]⟩ | _ => ⟨#[34]⟩
def refB (k : Nat) : ByteArray := match k with | 0 => ⟨#[38, 97, 109, 112, 59]⟩ | 1 => ⟨#[38, 108, 116, 59]⟩ | 2 => ⟨#[38, 103, 116, 59]⟩ | 3 => ⟨#[38, 97, 112, 111, 115, 59]⟩ | _ => ⟨#[38, 113, 117, 111, 116, 59]⟩
def cAfter (b : UInt8) : Nat → ByteArray
  | 0 => ⟨#[b]⟩
  | k + 1 => if (refA k).data.toList = [b] then refB k else cAfter b k

theorem ext_one (s : ByteArray) (i : Nat) (h : i < s.size) : s.extract i (i + 1) = ⟨#[s[i]]⟩ := by
  apply ByteArray.ext
  apply Array.toList_inj.1
  have h1 := ext_list s i (i + 1)
  rw [h1, show i + 1 - i = 1 by omega]
  have h2 := list_at s i h
  rw [List.take_one, List.head?_drop, h2]
  rfl
theorem slice_one (s : ByteArray) (i : Nat) (h : i < s.size) (w : World) : (Instr.slice 9 (.string s) (some (.int .i64 i)) (some (.int .i64 (i + 1))) none).run Tryd.prog w = .ok (.string ⟨#[s[i]]⟩) w := by
  rw [run_slice_string (P := Tryd.prog) w 9 s .i64 .i64 i (i + 1) Tryd.underlying9 (by omega) (by omega) (by omega)]
  rw [show (((i : Int) + 1).toNat) = i + 1 by omega, Int.toNat_natCast, ext_one s i h]
theorem ref_cell (k : Nat) (h : k < 5) : refCs[k * 2]? = some (.string (refA k)) ∧ refCs[k * 2 + 1]? = some (.string (refB k)) := by
  have hk : k = 0 ∨ k = 1 ∨ k = 2 ∨ k = 3 ∨ k = 4 := by omega
  rcases hk with rfl | rfl | rfl | rfl | rfl <;> exact ⟨rfl, rfl⟩
set_option maxRecDepth 100000 in
theorem cAfter_fin : ∀ n : Fin 256, (cAfter (UInt8.ofNat n.val) 5).data.toList = escB (UInt8.ofNat n.val) := by decide
theorem cAfter_esc (b : UInt8) : (cAfter b 5).data.toList = escB b := by
  have := cAfter_fin ⟨b.toNat, b.toNat_lt⟩
  simpa using this
theorem esc_more (l : List UInt8) (i : Nat) (b : UInt8) (h : l[i]? = some b) : esc (l.take (i + 1)) = esc (l.take i) ++ escB b := by
  rw [List.take_add_one, h, esc_append]
  simp [esc]

set_option maxHeartbeats 1000000 in
theorem refEscape_any (s : ByteArray) (w : World) (hs : s.size ≤ 3000) : Calls Tryd.prog 45 #[.string s] w fun e w' => e = .returned (.string ⟨(esc s.data.toList).toArray⟩) ∧ Below w.heap.size w w' := by
  go_enter Tryd.func45, Tryd.ntmps45
  go_wp2_with fail
  refine (refEnt_any _).mono ?_
  rintro e w1 ⟨rfl, hw1⟩
  have hb0 : w1.heap[w.heap.size]? = some (.cells refCs 91) := by rw [hw1]; exact heap_alloc_new _ _
  have hbl0 : Below w.heap.size w w1 := by rw [hw1]; exact (Below.refl _ w).alloc (Nat.le_refl _) _
  have HB := hide (show _ ∧ _ from ⟨hb0, hbl0⟩)
  clear hb0 hbl0 hw1
  go_wp2_with fail
  go_loopw [3, 5] (fun co ci wr => ∃ (i : Nat) (O : ByteArray), i ≤ s.size ∧ ci = .int .i64 i ∧ co = .string O ∧ O.data.toList = esc (s.data.toList.take i) ∧ Below w1.heap.size w1 wr) (fun _ ci _ => s.size - (intOf ci).toNat)
  case atStart => exact ⟨0, ⟨#[]⟩, Nat.zero_le _, rfl, rfl, rfl, Below.refl _ _⟩
  case round =>
    obtain ⟨i, O, hi, rfl, rfl, hO, hbw⟩ := hrel
    have hOs : O.size ≤ 18000 := by
      rw [← size_list, hO]
      have := esc_length (s.data.toList.take i)
      rw [List.length_take, size_list] at this
      omega
    have HO := hide hO
    clear hO
    by_cases hp : i < s.size
    · have hbk : wr.heap[w.heap.size]? = some (.cells refCs 91) := by
        rw [hbw.block _ (Array.getElem?_eq_some_iff.1 HB.out.1).1]; exact HB.out.1
      have hsl := slice_one s i hp
      obtain ⟨b, hb⟩ : ∃ b, b = s[i] := ⟨_, rfl⟩
      have hbi := list_at s i hp
      rw [← hb] at hbi
      have HW := hide (show _ ∧ _ ∧ _ from ⟨hbw, hbk, hbi⟩)
      rw [← hb] at hsl
      clear hbw hbk hb hbi
      go_wp2_with fail
      go_loopw [6, 7] (fun cc ck wq => ∃ k : Nat, k ≤ 5 ∧ ck = .int .i64 k ∧ cc = .string (cAfter b k) ∧ Below w1.heap.size w1 wq) (fun _ ck _ => 5 - (intOf ck).toNat)
      case atStart => exact ⟨0, Nat.zero_le _, rfl, rfl, HW.out.1⟩
      case round =>
        obtain ⟨k, hk, rfl, rfl, hbq⟩ := hrel
        have hbk2 : wr.heap[w.heap.size]? = some (.cells refCs 91) := by
          rw [hbq.block _ (Array.getElem?_eq_some_iff.1 HB.out.1).1]; exact HB.out.1
        have HQ := hide (show _ ∧ _ from ⟨hbq, hbk2⟩)
        clear hbq hbk2
        have hk5 : k = 5 ∨ k < 5 := by omega
        rcases hk5 with rfl | hk5
        · obtain ⟨C, hC⟩ : ∃ C, C = cAfter b 5 := ⟨_, rfl⟩
          rw [← hC]
          have hCl : C.data.toList = escB b := by rw [hC]; exact cAfter_esc b
          have hCs : C.size ≤ 6 := by rw [← size_list, hCl]; exact escB_length b
          have HC := hide hCl
          clear hC hCl
          go_wp2_with fail
          refine ⟨⟨i + 1, O ++ C, by omega, by go_num, rfl, ?_, HQ.out.1⟩, by simp [intOf]; omega⟩
          rw [app_list, HO.out, HC.out, esc_more _ i b HW.out.2.2]
        · have c0 : wr.cell? ⟨w.heap.size, k * 2, none⟩ = some (.string (refA k)) := by
            have := (ref_cell k hk5).1
            simp [World.cell?, HQ.out.2, this]
          have c1 : wr.cell? ⟨w.heap.size, k * 2 + 1, none⟩ = some (.string (refB k)) := by
            have := (ref_cell k hk5).2
            simp [World.cell?, HQ.out.2, this]
          have hk1 : k + 1 ≤ 5 := by omega
          by_cases hc : (refA k).data.toList = [b]
          · have hc1 : ((refA k).toList == [b]) = true := by rw [ByteArray.toList_eq, beq_iff_eq]; exact hc
            have Hc := hide (show cAfter b (k + 1) = refB k by simp only [cAfter]; rw [if_pos hc])
            clear hc
            go_wp2_with fail
            go_quiet (fail)
            go_wp2_with fail
            exact ⟨⟨k + 1, hk1, by go_num, by rw [Hc.out], below_drewN HQ.out.1 _⟩, by simp [intOf]; omega⟩
          · have hc1 : ((refA k).toList == [b]) = false := by rw [ByteArray.toList_eq, beq_eq_false_iff_ne]; exact hc
            have Hc := hide (show cAfter b (k + 1) = cAfter b k by simp only [cAfter]; rw [if_neg hc])
            clear hc
            go_wp2_with fail
            go_quiet (fail)
            go_wp2_with fail
            exact ⟨⟨k + 1, hk1, by go_num, by rw [Hc.out], below_drewN HQ.out.1 _⟩, by simp [intOf]; omega⟩
    · have hie : i = s.size := by omega
      subst hie
      go_wp2_with fail
      go_ret
      refine ⟨?_, HB.out.2.trans (hbw.mono HB.out.2.size)⟩
      have h1 := HO.out
      rw [List.take_of_length_le (by rw [size_list]; exact Nat.le_refl _)] at h1
      rw [← h1]
      rfl
end Go.Proofs.YtaglbikjnaahnabDoor
