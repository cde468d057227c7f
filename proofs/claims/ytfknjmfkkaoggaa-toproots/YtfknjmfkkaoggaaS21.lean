/- Slots: Save and Torn of a store that is nil; few. -/
import Derived.Test.YtfknjmfkkaoggaaS20
namespace Go.Proofs.Ytfknjmfkkaoggaa
open Go.RowKit Go.Shelf

set_option maxRecDepth 100000 in
set_option maxHeartbeats 4000000 in
theorem ready_nil (ba : Option Addr) (ln cap : Nat) (w : World) : Calls Try.prog 45 #[.pointer none, .slice ba ln cap] w fun e w' => e = .returned (.tuple #[.agg #[.int .i64 0, .int .u64 0, .slice none 0 0], .int .i64 1]) ∧ Below w.heap.size w w' := by
  obtain ⟨W1, hW1, g0, b1, z1⟩ : ∃ W, w.alloc (.cells #[.int .i64 0, .int .u64 0, .slice none 0 0] 77) = W ∧ W.heap[w.heap.size]? = some (.cells #[.int .i64 0, .int .u64 0, .slice none 0 0] 77) ∧ Below w.heap.size w W ∧ W.heap.size = w.heap.size + 1 := ⟨_, rfl, World.alloc_heap_new _ _, (Below.refl _ _).alloc (Nat.le_refl _) _, by simp⟩
  obtain ⟨y0, y1, y2, y3, y4, y5⟩ := cells3h g0
  have HW := hide hW1
  have HH := hide (And.intro g0 b1)
  clear hW1 g0 b1
  go_enter Try.func45, Try.ntmps45
  go_wp2_with (first
    | (refine l_alloc 77 infoHeld rfl rfl ?_; rw [HW.out]))
  exact bodyPost_ret (results_held rfl rfl rfl (set3 HH.out.1 _ _ _)) rfl ⟨rfl, below3 HH.out.2 (Nat.le_refl _) _ _ _⟩
set_option maxRecDepth 100000 in
set_option maxHeartbeats 4000000 in
theorem save_nil (ba : Option Addr) (ln cap : Nat) (w : World) : Calls Try.prog 22 #[.pointer none, .slice ba ln cap] w fun e w' => e = .returned (.int .i64 1) ∧ Below w.heap.size w w' := by
  have HR := hide (ready_nil ba ln cap w)
  go_enter Try.func22, Try.ntmps22
  go_wp2_with (first
    | (go_at_call 45; refine HR.out.mono ?_; rintro e w3 ⟨rfl, b3⟩; refine stopHere ?_))
  unfold Hid
  have HS4 := hide (run_store_new (P := Try.prog) infoHeld w3 (cs := #[.int .i64 0, .int .u64 0, .slice none 0 0]) (c := #[.int .i64 0, .int .u64 0, .slice none 0 0]) rfl rfl (by simp [Value.oneCell']))
  have HB := hide (show Below w.heap.size w (w3.alloc (.cells #[.int .i64 0, .int .u64 0, .slice none 0 0] 77)) from b3.alloc b3.size _)
  clear b3
  go_wp2_with (first
    | (refine l_store 77 HS4.out rfl rfl rfl rfl ?_)
    | (refine l_alloc 77 infoHeld rfl rfl ?_))
  go_ret
  exact ⟨rfl, HB.out⟩
set_option maxRecDepth 100000 in
set_option maxHeartbeats 4000000 in
theorem torn_nil (ba ao : Option Addr) (ln cap : Nat) (wri : Int) (n cv : Nat) (w : World) : Calls Try.prog 24 #[.pointer none, .slice ba ln cap, .int .i64 wri, .slice ao n cv] w fun e w' => e = .returned (.int .i64 1) ∧ Below w.heap.size w w' := by
  have HR := hide (ready_nil ba ln cap w)
  go_enter Try.func24, Try.ntmps24
  go_wp2_with (first
    | (go_at_call 45; refine HR.out.mono ?_; rintro e w3 ⟨rfl, b3⟩; refine stopHere ?_))
  unfold Hid
  have HS4 := hide (run_store_new (P := Try.prog) infoHeld w3 (cs := #[.int .i64 0, .int .u64 0, .slice none 0 0]) (c := #[.int .i64 0, .int .u64 0, .slice none 0 0]) rfl rfl (by simp [Value.oneCell']))
  have HB := hide (show Below w.heap.size w (w3.alloc (.cells #[.int .i64 0, .int .u64 0, .slice none 0 0] 77)) from b3.alloc b3.size _)
  clear b3
  go_wp2_with (first
    | (refine l_store 77 HS4.out rfl rfl rfl rfl ?_)
    | (refine l_alloc 77 infoHeld rfl rfl ?_))
  go_ret
  exact ⟨rfl, HB.out⟩
/-- At most 700 bytes. -/
theorem few_any {n₀ : Nat} (ba : Option Addr) (l : List UInt8) (cap : Nat) (w : World) (hB : ByteMem n₀ w ba l) (hc : l.length ≤ cap) : Calls Try.prog 17 #[.slice ba l.length cap] w fun e w' => e = .returned (.slice ba (l.take 700).length cap) ∧ w' = w := by
  obtain ⟨m, hml⟩ : ∃ m, l.length = m := ⟨_, rfl⟩
  by_cases h : 700 < m
  · have h2 : (l.take 700).length = 700 := by rw [List.length_take]; omega
    rw [h2]
    obtain ⟨x, hx⟩ : ∃ x, l[0]? = some x := ⟨l[0]'(by omega), by simp⟩
    obtain ⟨b, off, rfl, _⟩ := hB 0 x hx
    rw [hml] at hc ⊢
    have h1 : (700 : Int) < m := by omega
    have hci : (700 : Int) ≤ cap := by omega
    clear h2 hx hB
    go_enter Try.func17, Try.ntmps17
    go_wp2_with fail
    go_ret
    exact ⟨rfl, rfl⟩
  · rw [List.take_of_length_le (by omega)]
    rw [hml]
    have h1 : ¬ (700 : Int) < m := by omega
    clear hB
    go_enter Try.func17, Try.ntmps17
    go_wp2_with fail
    go_ret
    exact ⟨rfl, rfl⟩
theorem ByteMem.take {n₀ : Nat} {w : World} {ba : Option Addr} {l : List UInt8} (h : ByteMem n₀ w ba l) (k : Nat) : ByteMem n₀ w ba (l.take k) := fun j c hj => h j c (by
  rw [List.getElem?_take] at hj
  split at hj
  · exact hj
  · cases hj)
end Go.Proofs.Ytfknjmfkkaoggaa
