/- Addresses: capital letters. -/
import Derived.Test.YtgdbhijlblafcaaJ7
namespace Go.Proofs.Ytgdbhijlblafcaa
open Go.RowKit

def smaB (b : UInt8) : Bool := decide (97 ≤ b.toNat) && decide (b.toNat ≤ 122)
theorem upB_yes {c : UInt8} (h : smaB c = true) : upB c = c - 32 := by
  unfold smaB at h
  rw [Bool.and_eq_true, decide_eq_true_eq, decide_eq_true_eq] at h
  unfold upB
  rw [if_pos h]
theorem upB_not {c : UInt8} (h : smaB c = false) : upB c = c := by
  unfold upB
  rw [if_neg (fun g => by unfold smaB at h; rw [decide_eq_true g.1, decide_eq_true g.2] at h; cases h)]
theorem up_nat {c : UInt8} (h : smaB c = true) : ((upB c).toNat : Int) = c.toNat - 32 ∧ 97 ≤ c.toNat ∧ c.toNat ≤ 122 := by
  rw [upB_yes h]
  unfold smaB at h
  rw [Bool.and_eq_true, decide_eq_true_eq, decide_eq_true_eq] at h
  refine ⟨?_, h⟩
  rw [UInt8.toNat_sub]
  show (((2 ^ 8 - 32 + c.toNat) % 2 ^ 8 : Nat) : Int) = _
  omega
set_option maxRecDepth 100000 in
set_option maxHeartbeats 2000000 in
theorem upper_any (s : ByteArray) (w : World) (hs : s.size ≤ 9223372036854775807) : Calls Try.prog 9 #[.string s] w fun e w' => e = .returned (.string ⟨(s.data.toList.map upB).toArray⟩) ∧ Below w.heap.size w w' := by
  have hl := size_list s
  obtain ⟨W1, hW1⟩ : ∃ W1, w.drew.alloc (.cells (bytesRow s (grownCap w s.size 0 5)) 5 ((bytesRow s (grownCap w s.size 0 5)).size, (bytesRow s (grownCap w s.size 0 5)).size + 1)) = W1 := ⟨_, rfl⟩
  obtain ⟨cap, hcap⟩ : ∃ cap, grownCap w s.size 0 5 = cap := ⟨_, rfl⟩
  have cv : (convert 9 32 (.string s)).run Try.prog w = .ok (.slice (some ⟨w.heap.size, 0, none⟩) s.size cap) W1 := by
    rw [← hW1, ← hcap]
    exact run_bytes_of_string w 9 32 5 s Try.underlying9 Try.underlying32 Try.underlying5
  have hB : ByteBlk W1 w.heap.size s.data.toList := by rw [← hW1]; exact ByteBlk.new w s
  have hb : Below w.heap.size w W1 := by rw [← hW1]; exact (((Below.refl _ w).drew).alloc (Nat.le_refl _) _)
  have H1 := hide (And.intro hB hb)
  clear hB hb hW1 hcap
  go_enter Try.func9, Try.ntmps9
  go_wp2_with fail
  go_loopw [4] (fun i wr => ∃ k : Nat, k ≤ s.size ∧ i = .int .i64 k ∧ ByteBlk wr w.heap.size (mixL upB s.data.toList k) ∧ Below w.heap.size w wr) (fun i _ => s.size - (intOf i).toNat)
  case atStart => exact ⟨0, Nat.zero_le _, rfl, by rw [mix_zero]; exact H1.out.1, H1.out.2⟩
  case round =>
    obtain ⟨k, hk, rfl, hBk, hbk⟩ := hrel
    by_cases hp : k < s.size
    · have hsk := bget s k hp
      obtain ⟨cell, froz⟩ := hBk.cell (mix_at hsk)
      have hset := hBk.set (j := k) (by rw [mix_len, hl]; exact hp) (upB s[k])
      rw [← mix_succ hsk] at hset
      have H2 := hide (And.intro hBk (And.intro hset hbk))
      clear hBk hset hbk
      cases hq : smaB s[k] with
      | true =>
        obtain ⟨e1, e2, e3⟩ := up_nat hq
        have g1 : (97 : Int) ≤ s[k].toNat := by omega
        have g2 : decide ((s[k].toNat : Int) ≤ 122) = true := by simp; omega
        clear hq
        go_wp2_with fail
        rw [show ((s[k].toNat : Int) - 32) = (upB s[k]).toNat by omega]
        exact ⟨⟨k + 1, by omega, by simp, H2.out.2.1, H2.out.2.2.setCell (p := ⟨_, k, none⟩) (Nat.le_refl _) _⟩, by simp [intOf]; omega⟩
      | false =>
        have hx := set_same (mix_at (f := upB) hsk)
        have HX := hide (And.intro hq hx)
        have hq' : ¬ (97 ≤ s[k].toNat ∧ s[k].toNat ≤ 122) := by
          rintro ⟨h1, h2⟩
          unfold smaB at hq
          rw [decide_eq_true h1, decide_eq_true h2] at hq
          cases hq
        by_cases g1 : (97 : Int) ≤ s[k].toNat
        · have g2 : decide ((s[k].toNat : Int) ≤ 122) = false := by simp; omega
          clear hq hx hq'
          go_wp2_with fail
          go_roundw
          case rel =>
            refine ⟨k + 1, by omega, by simp, ?_, H2.out.2.2⟩
            rw [mix_succ hsk, upB_not HX.out.1, HX.out.2]
            exact H2.out.1
          case measure => simp [intOf]; omega
        · clear hq hx hq'
          go_wp2_with fail
          go_roundw
          case rel =>
            refine ⟨k + 1, by omega, by simp, ?_, H2.out.2.2⟩
            rw [mix_succ hsk, upB_not HX.out.1, HX.out.2]
            exact H2.out.1
          case measure => simp [intOf]; omega
    · obtain rfl : k = s.size := by omega
      have hm := hBk
      rw [← hl, mix_all] at hm
      have hlm : (s.data.toList.map upB).length = s.size := by rw [List.length_map, hl]
      have cb := run_convert_bytes_back (P := Try.prog) wr 32 9 5 ⟨w.heap.size, 0, none⟩ cap (s.data.toList.map upB) Try.underlying32 Try.underlying5 Try.underlying9 (fun j hj => by
        have := (hm.cell (List.getElem?_eq_getElem hj)).1
        cases j with
        | zero => simpa [Addr.add] using this
        | succ j => simpa [Addr.add] using this)
      rw [hlm] at cb
      have H2 := hide hbk
      clear hm hBk hbk
      go_wp2_with fail
      go_ret
      exact ⟨rfl, H2.out⟩
end Go.Proofs.Ytgdbhijlblafcaa
