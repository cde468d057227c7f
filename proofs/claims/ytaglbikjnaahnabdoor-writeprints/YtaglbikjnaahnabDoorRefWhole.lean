/- Whether tokens are one element, and their text, as the document says it. -/
import Derived.Test.YtaglbikjnaahnabDoorRefRight
import Derived.Test.YtaglbikjnaahnabDoorRefEsc
import Derived.Test.YtaglbikjnaahnabDoorElemM
namespace Go.Proofs.YtaglbikjnaahnabDoor
open Go.RowKit

theorem tops_mono (ts : List Tok) (i : Nat) : ∀ d, topsTo ts i ≤ topsTo ts (i + d)
  | 0 => Nat.le_refl _
  | d + 1 => by
    have := tops_mono ts i d
    rw [← Nat.add_assoc, topsTo]
    omega
theorem tops_few {ts : List Tok} : ∀ k, k + 1 ≤ ts.length → (∀ i, i + 1 ≤ k → (openAt ts (i + 1)).length ≠ 0) → topsTo ts (k + 1) = 1
  | 0, _, _ => by simp [topsTo, openAt]
  | k + 1, hk, h => by
    rw [topsTo, tops_few k (by omega) (fun i hi => h i (by omega)), if_neg (h k (Nat.le_refl _))]
theorem whole_iff {ts : List Tok} (hR : RightT ts) (hn : 0 < ts.length) : WholeT ts ↔ ∀ i, i + 1 < ts.length → (openAt ts (i + 1)).length ≠ 0 := by
  constructor
  · rintro ⟨_, h⟩ i hi h0
    have h1 : topsTo ts (0 + 1) ≤ topsTo ts (0 + 1 + i) := tops_mono ts (0 + 1) i
    have h2 : topsTo ts (i + 1 + 1) ≤ topsTo ts (i + 1 + 1 + (ts.length - (i + 2))) := tops_mono ts (i + 1 + 1) _
    rw [show i + 1 + 1 + (ts.length - (i + 2)) = ts.length by omega, h] at h2
    have h3 : topsTo ts (i + 1 + 1) = topsTo ts (i + 1) + 1 := by rw [topsTo, if_pos h0]
    have h4 : topsTo ts (0 + 1) = 1 := by simp [topsTo, openAt]
    rw [show 0 + 1 + i = i + 1 by omega] at h1
    omega
  · intro h
    refine ⟨hR, ?_⟩
    have h1 := tops_few (ts := ts) (ts.length - 1) (by omega) (fun i hi => h i (by omega))
    rwa [show ts.length - 1 + 1 = ts.length by omega] at h1

set_option maxRecDepth 100000 in
set_option maxHeartbeats 4000000 in
theorem refWhole_any (ao : Option Addr) (cap : Nat) (ts : List Tok) (av : Nat → Option Addr × Nat) (w : World) (hT : TokMem w.heap.size w ao ts av) (hU : Tabs w) :
    Calls Tryd.prog 29 #[.slice ao ts.length cap] w fun e w' => Tells (WholeT ts) e ∧ Below w.heap.size w w' := by
  have hlen := hT.1
  have HT := hide hT
  have HR := hide (refRight_any ao cap ts av w hT hU)
  clear hT
  go_enter Tryd.func29, Tryd.ntmps29
  go_wp2_with fail
  refine HR.out.mono ?_
  rintro e w1 ⟨⟨hr, rfl⟩ | ⟨hr, rfl⟩, hb1⟩
  case inr =>
    have HB := hide hb1
    clear hb1
    go_wp2_with fail
    go_ret
    exact ⟨.inr ⟨fun x => hr x.1, rfl⟩, HB.out⟩
  have HB := hide hb1
  have hr64 := hr.1
  have HRT := hide hr
  clear hb1 HR hr
  by_cases hz : ts.length = 0
  · have hz' : ((ts.length : Int) == 0) = true := by rw [hz]; rfl
    have hno : ¬ WholeT ts := fun x => by have := x.2; rw [hz] at this; simp [topsTo] at this
    go_wp2_with fail
    go_ret
    exact ⟨.inr ⟨hno, rfl⟩, HB.out⟩
  have hz' : ((ts.length : Int) == 0) = false := by rw [beq_eq_false_iff_ne]; omega
  have HW := hide (whole_iff HRT.out (by omega))
  go_wp2_with fail
  go_loopw [3, 4] (fun d i wr => wr = w1 ∧ ∃ k : Nat, k ≤ ts.length ∧ i = .int .i64 k ∧ d = .int .i64 (openAt ts k).length ∧ ∀ i, i + 1 ≤ k → i + 1 < ts.length → (openAt ts (i + 1)).length ≠ 0) (fun _ i _ => ts.length - (intOf i).toNat)
  case atStart => exact ⟨rfl, 0, Nat.zero_le _, rfl, by simp [openAt], fun i h => by omega⟩
  case round =>
    obtain ⟨hwr, k, hk, rfl, rfl, hop⟩ := hrel
    subst hwr
    have HOP := hide hop
    have hol := openAt_le ts k
    clear hop
    by_cases hlt : k < ts.length
    · obtain ⟨t, ht⟩ : ∃ t, ts[k]? = some t := ⟨ts[k], by simp [hlt]⟩
      obtain ⟨_, _, _, _, _, b, off, rfl, hb, c1, _⟩ := HT.out.2 k t ht
      have d1 := (HB.out.cell (p := ⟨b, _, none⟩) hb).trans c1
      have hs1 := openAt_succ ht
      have hf := HRT.out.2.1 k t ht
      clear c1
      obtain ⟨n1, hn1⟩ : ∃ n1, (openAt ts (k + 1)).length = n1 := ⟨_, rfl⟩
      obtain ⟨n0, hn0⟩ : ∃ n0, (openAt ts k).length = n0 := ⟨_, rfl⟩
      have hkind : (t.kind = 1 ∧ n1 = n0 + 1) ∨ (t.kind = 2 ∧ n0 = n1 + 1) ∨ (t.kind = 3 ∧ n1 = n0) := by
        rw [← hn1, ← hn0, hs1]
        rcases hf with ⟨h1, _⟩ | ⟨h1, h2, _⟩ | ⟨h1, _⟩
        · exact .inl ⟨h1, by simp [opens, h1]⟩
        · exact .inr (.inl ⟨h1, by simp [opens, h1]; omega⟩)
        · exact .inr (.inr ⟨h1, by simp [opens, h1]⟩)
      rw [hn0] at hol ⊢
      have HN := hide hn1
      have hnext : (k + 1 < ts.length → n1 ≠ 0) → ∀ i, i + 1 ≤ k + 1 → i + 1 < ts.length → (openAt ts (i + 1)).length ≠ 0 := fun h0 i hi hl => by
        rcases Nat.lt_or_ge (i + 1) (k + 1) with h | h
        · exact HOP.out i (by omega) hl
        · obtain rfl : i = k := by omega
          rw [hn1]
          exact h0 hl
      have HNX := hide hnext
      clear hnext hs1 hf hn1 hn0
      rcases hkind with ⟨k1, rfl⟩ | ⟨k1, rfl⟩ | ⟨k1, rfl⟩
      · have q1 : ((t.kind : Int) == 1) = true := by rw [k1]; rfl
        have q2 : ((t.kind : Int) == 2) = false := by rw [k1]; rfl
        have q3 : ((n0 : Int) + 1 == 0) = false := by rw [beq_eq_false_iff_ne]; omega
        go_wp2_with fail
        exact ⟨⟨trivial, k + 1, by omega, by simp, by rw [HN.out] <;> simp, HNX.out (fun _ => by omega)⟩, by simp [intOf]; omega⟩
      · have q1 : ((t.kind : Int) == 1) = false := by rw [k1]; rfl
        have q2 : ((t.kind : Int) == 2) = true := by rw [k1]; rfl
        by_cases h0 : n1 = 0
        · subst h0
          by_cases hl : k + 1 < ts.length
          · have hl' : (k : Int) < (ts.length : Int) - 1 := by omega
            go_wp2_with fail
            go_ret
            exact ⟨.inr ⟨fun x => HW.out.1 x k hl HN.out, rfl⟩, HB.out⟩
          · have hl' : ¬ ((k : Int) < (ts.length : Int) - 1) := by omega
            go_wp2_with fail
            exact ⟨⟨trivial, k + 1, by omega, by simp, by rw [HN.out] <;> simp, HNX.out (fun h => by omega)⟩, by simp [intOf]; omega⟩
        · have q3 : ((n1 : Int) == 0) = false := by rw [beq_eq_false_iff_ne]; omega
          have q4 : ((n1 : Int) + 1 - 1 == 0) = false := by rw [beq_eq_false_iff_ne]; omega
          go_wp2_with fail
          exact ⟨⟨trivial, k + 1, by omega, by simp, by rw [HN.out] <;> simp, HNX.out (fun _ => h0)⟩, by simp [intOf]; omega⟩
      · have q1 : ((t.kind : Int) == 1) = false := by rw [k1]; rfl
        have q2 : ((t.kind : Int) == 2) = false := by rw [k1]; rfl
        by_cases h0 : n1 = 0
        · subst h0
          by_cases hl : k + 1 < ts.length
          · have hl' : (k : Int) < (ts.length : Int) - 1 := by omega
            go_wp2_with fail
            go_ret
            exact ⟨.inr ⟨fun x => HW.out.1 x k hl HN.out, rfl⟩, HB.out⟩
          · have hl' : ¬ ((k : Int) < (ts.length : Int) - 1) := by omega
            go_wp2_with fail
            exact ⟨⟨trivial, k + 1, by omega, by simp, by rw [HN.out] <;> simp, HNX.out (fun h => by omega)⟩, by simp [intOf]; omega⟩
        · have q3 : ((n1 : Int) == 0) = false := by rw [beq_eq_false_iff_ne]; omega
          go_wp2_with fail
          exact ⟨⟨trivial, k + 1, by omega, by simp, by rw [HN.out] <;> simp, HNX.out (fun _ => h0)⟩, by simp [intOf]; omega⟩
    · obtain rfl : k = ts.length := by omega
      go_wp2_with fail
      go_ret
      exact ⟨.inl ⟨HW.out.2 (fun i hi => HOP.out i (by omega) hi), rfl⟩, HB.out⟩
end Go.Proofs.YtaglbikjnaahnabDoor
