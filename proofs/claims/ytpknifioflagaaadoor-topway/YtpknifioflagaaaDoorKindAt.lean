/- The kind of a token at a place. -/
import Derived.Test.YtpknifioflagaaaDoorToks
namespace Go.Proofs.YtpknifioflagaaaDoor
open Go.RowKit

theorem kindAt_any (n₀ : Nat) (ao : Option Addr) (cap : Nat) (ts : List Tok) (av : Nat → Option Addr × Nat) (i : Int) (w : World) (hT : TokMem n₀ w ao ts av) (hi : -1 ≤ i ∧ i ≤ ts.length) :
    Calls Tryd.prog 70 #[.slice ao ts.length cap, .int .i64 i] w fun e w' => e = .returned (.int .u8 (kindOf ts i)) ∧ w' = w := by
  obtain ⟨hlen, hc⟩ := hT
  by_cases h0 : 0 ≤ i
  · obtain ⟨k, rfl⟩ : ∃ k : Nat, i = k := ⟨i.toNat, by omega⟩
    by_cases hk : k < ts.length
    · obtain ⟨t, ht⟩ : ∃ t, ts[k]? = some t := ⟨ts[k], by simp [hk]⟩
      obtain ⟨hkd, _, _, _, _, b, off, rfl, hb, c1, _⟩ := hc k t ht
      have hko : kindOf ts (k : Int) = t.kind := by simp [kindOf, ht]
      rw [hko]
      have h1 : ¬ ((k : Int) < 0) := by omega
      have h2 : ¬ ((ts.length : Int) ≤ k) := by omega
      go_enter Tryd.func70, Tryd.ntmps70
      go_wp2
      go_ret
      exact ⟨rfl, rfl⟩
    · have hn : ts[k]? = none := by simp; omega
      have hko : kindOf ts (k : Int) = 0 := by simp [kindOf, hn]
      rw [hko]
      have h1 : ¬ ((k : Int) < 0) := by omega
      have h2 : (ts.length : Int) ≤ k := by omega
      go_enter Tryd.func70, Tryd.ntmps70
      go_wp2
      go_ret
      exact ⟨rfl, rfl⟩
  · have hko : kindOf ts i = 0 := by simp [kindOf, h0]
    rw [hko]
    have h1 : i < 0 := by omega
    go_enter Tryd.func70, Tryd.ntmps70
    go_wp2
    go_ret
    exact ⟨rfl, rfl⟩
end Go.Proofs.YtpknifioflagaaaDoor
