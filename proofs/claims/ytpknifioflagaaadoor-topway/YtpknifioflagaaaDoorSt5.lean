/- Stanzas: the kind of a name. -/
import Derived.Test.YtpknifioflagaaaDoorSt1
namespace Go.Proofs.YtpknifioflagaaaDoor
open Go.RowKit

/-- The kind of an element's name; none is 0. -/
def kNum (name : ByteArray) : Int := if name = kindB 1 then 1 else if name = kindB 2 then 2 else if name = kindB 3 then 3 else 0
theorem cells3k {w : World} {b : Nat} {x y z : Value} {T : TypeId} (h : w.heap[b]? = some (.cells #[x, y, z] T)) : w.cell? ⟨b, 0, none⟩ = some x ∧ w.cell? ⟨b, 1, none⟩ = some y ∧ w.cell? ⟨b, 2, none⟩ = some z := by
  refine ⟨by simp [World.cell?, h], by simp [World.cell?, h], by simp [World.cell?, h]⟩
set_option maxRecDepth 100000 in
set_option maxHeartbeats 1000000 in
theorem kindNamed_any (name : ByteArray) (w : World) : Calls Tryd.prog 58 #[.string name] w fun e w' => e = .returned (.int .u8 (kNum name)) ∧ Below w.heap.size w w' := by
  obtain ⟨rb, hrb⟩ : ∃ rb, kNum name = rb := ⟨_, rfl⟩
  rw [hrb]
  have HRB := hide hrb
  clear hrb
  obtain ⟨W1, hW1, a1, b1, z1⟩ := newV w 22 #[.int .u8 1, .int .u8 2, .int .u8 3]
  obtain ⟨c0, c1, c2⟩ := cells3k a1
  have H0 := hide b1
  clear a1 b1
  go_enter Tryd.func58, Tryd.ntmps58
  go_wp2_with fail
  go_loop [7] (fun i => ∃ k : Nat, k ≤ 3 ∧ i = .int .i64 k ∧ ∀ j : Nat, j < k → kindB (j + 1) ≠ name) (fun i => 3 - (intOf i).toNat)
  case atStart => exact ⟨0, Nat.zero_le _, rfl, fun j hj => by omega⟩
  case round =>
    obtain ⟨k, hk, rfl, hpre⟩ := hrel
    have Hpre := hide hpre
    clear hpre
    rcases (show k = 0 ∨ k = 1 ∨ k = 2 ∨ k = 3 by omega) with rfl | rfl | rfl | rfl
    · have hkn := hide (kindName_any 1 W1)
      by_cases he : kindB 1 = name
      · have HV := hide (HRB.out.symm.trans (show kNum name = 1 by unfold kNum; rw [if_pos he.symm]))
        go_wp2_with fail
        refine hkn.out.mono ?_
        rintro e w2 ⟨rfl, hw⟩
        subst hw
        rw [he]
        clear he
        go_wp2_with fail
        go_ret
        rw [HV.out]
        exact ⟨rfl, H0.out⟩
      · have hne := str_ne he
        have HE := hide he
        obtain ⟨kb, hkb⟩ : ∃ kb, kindB 1 = kb := ⟨_, rfl⟩
        rw [hkb] at hkn hne
        clear he
        go_wp2_with fail
        refine hkn.out.mono ?_
        rintro e w2 ⟨rfl, hw⟩
        subst hw
        go_wp2_with fail
        refine ⟨⟨1, by omega, by simp, fun j hj => ?_⟩, by simp [intOf]⟩
        rcases (show j < 0 ∨ j = 0 by omega) with h | rfl
        · exact Hpre.out j h
        · exact HE.out
    · have hkn := hide (kindName_any 2 W1)
      by_cases he : kindB 2 = name
      · have HV := hide (HRB.out.symm.trans (show kNum name = 2 by unfold kNum; rw [if_neg (fun h => Hpre.out 0 (by omega) h.symm)]; rw [if_pos he.symm]))
        go_wp2_with fail
        refine hkn.out.mono ?_
        rintro e w2 ⟨rfl, hw⟩
        subst hw
        rw [he]
        clear he
        go_wp2_with fail
        go_ret
        rw [HV.out]
        exact ⟨rfl, H0.out⟩
      · have hne := str_ne he
        have HE := hide he
        obtain ⟨kb, hkb⟩ : ∃ kb, kindB 2 = kb := ⟨_, rfl⟩
        rw [hkb] at hkn hne
        clear he
        go_wp2_with fail
        refine hkn.out.mono ?_
        rintro e w2 ⟨rfl, hw⟩
        subst hw
        go_wp2_with fail
        refine ⟨⟨2, by omega, by simp, fun j hj => ?_⟩, by simp [intOf]⟩
        rcases (show j < 1 ∨ j = 1 by omega) with h | rfl
        · exact Hpre.out j h
        · exact HE.out
    · have hkn := hide (kindName_any 3 W1)
      by_cases he : kindB 3 = name
      · have HV := hide (HRB.out.symm.trans (show kNum name = 3 by unfold kNum; rw [if_neg (fun h => Hpre.out 0 (by omega) h.symm)]; rw [if_neg (fun h => Hpre.out 1 (by omega) h.symm)]; rw [if_pos he.symm]))
        go_wp2_with fail
        refine hkn.out.mono ?_
        rintro e w2 ⟨rfl, hw⟩
        subst hw
        rw [he]
        clear he
        go_wp2_with fail
        go_ret
        rw [HV.out]
        exact ⟨rfl, H0.out⟩
      · have hne := str_ne he
        have HE := hide he
        obtain ⟨kb, hkb⟩ : ∃ kb, kindB 3 = kb := ⟨_, rfl⟩
        rw [hkb] at hkn hne
        clear he
        go_wp2_with fail
        refine hkn.out.mono ?_
        rintro e w2 ⟨rfl, hw⟩
        subst hw
        go_wp2_with fail
        refine ⟨⟨3, by omega, by simp, fun j hj => ?_⟩, by simp [intOf]⟩
        rcases (show j < 2 ∨ j = 2 by omega) with h | rfl
        · exact Hpre.out j h
        · exact HE.out
    · have HV := hide (HRB.out.symm.trans (show kNum name = 0 by unfold kNum; rw [if_neg (fun h => Hpre.out 0 (by omega) h.symm), if_neg (fun h => Hpre.out 1 (by omega) h.symm), if_neg (fun h => Hpre.out 2 (by omega) h.symm)]))
      go_wp2_with fail
      go_ret
      rw [HV.out]
      exact ⟨rfl, H0.out⟩
end Go.Proofs.YtpknifioflagaaaDoor
