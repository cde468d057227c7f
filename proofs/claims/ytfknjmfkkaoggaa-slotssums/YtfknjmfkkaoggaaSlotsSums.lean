/- SlotsSums. -/
import Derived.Test.YtfknjmfkkaoggaaS21
namespace Go.Proofs.Ytfknjmfkkaoggaa
open Go.RowKit Go.Shelf

set_option maxRecDepth 100000 in
set_option maxHeartbeats 4000000 in
theorem slotsSums_any (ba : Option Addr) (cap : Nat) (l : List UInt8) (w : World) (hcl : l.length ≤ cap) (_hcm : cap ≤ 9223372036854775807) (hT : ByteMem w.heap.size w ba l) :
    Calls Try.prog 4 #[.slice ba l.length cap] w fun e w' => e = .returned (.bool true) ∧ Below w.heap.size w w' := by
  have HF := hide (few_any ba l cap w hT hcl)
  have hl7 : (l.take 700).length ≤ 9223372036854775807 := by rw [List.length_take]; omega
  have HB := hide (hT.take 700)
  obtain ⟨n, hn⟩ : ∃ n, l.length = n := ⟨_, rfl⟩
  rw [hn] at HF ⊢
  obtain ⟨x, hx⟩ : ∃ x, l.take 700 = x := ⟨_, rfl⟩
  rw [hx] at HF HB hl7
  obtain ⟨m, hm⟩ : ∃ m, x.length = m := ⟨_, rfl⟩
  rw [hm] at HF
  clear hT hx hn hcl
  go_enter Try.func4, Try.ntmps4
  go_wp2_with (first
    | (go_at_call 17; refine HF.out.mono ?_; rintro e w1 ⟨rfl, hw1⟩; rw [hw1]; clear hw1)
    | (go_at_call 15; refine (live_any w).mono ?_; rintro e w2 ⟨rfl, b2⟩; have H2 := hide b2; clear b2; have hs := sum_any ba cap x w2 hl7 (fun j c hj => (HB.out.below H2.out j c hj).imp fun b ⟨o, e1, e2, e3⟩ => ⟨o, e1, Nat.lt_of_lt_of_le e2 H2.out.size, e3⟩); have hs2 := rsum_any ba cap x w2 hl7 (fun j c hj => (HB.out.below H2.out j c hj).imp fun b ⟨o, e1, e2, e3⟩ => ⟨o, e1, Nat.lt_of_lt_of_le e2 H2.out.size, e3⟩); rw [hm] at hs hs2; have HS := hide hs; have HS2 := hide hs2; clear hs hs2)
    | (go_at_call 18; refine HS.out.mono ?_; rintro e w3 ⟨rfl, hw3⟩; rw [hw3]; clear hw3)
    | (go_at_call 19; refine HS2.out.mono ?_; rintro e w3 ⟨rfl, hw3⟩; rw [hw3]; clear hw3))
  go_ret
  exact ⟨rfl, H2.out⟩
end Go.Proofs.Ytfknjmfkkaoggaa
