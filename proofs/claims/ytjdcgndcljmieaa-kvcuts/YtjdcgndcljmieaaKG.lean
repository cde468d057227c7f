/- What deeds make may be in a map. -/
import Derived.Test.YtjdcgndcljmieaaR9
namespace Go.Proofs.Ytjdcgndcljmieaa
open Go.RowKit

theorem good_put {L : List Pr} (h : Good L) (hR : Rising L) (k v : ByteArray) : Good (putL L k v) := by
  unfold putL
  by_cases h0 : putE L k v = 0
  · rw [if_pos h0]
    unfold putE at h0
    by_cases hb : badKV k v
    · rw [if_pos hb] at h0
      cases h0
    · rw [if_neg hb] at h0
      have hb' := hb
      unfold badKV at hb'
      refine ⟨?_, fun x hx => ?_⟩
      · rw [putM_len hR]
        by_cases hn : getM L k = none
        · rw [if_pos hn]
          by_cases h1 : 128 ≤ L.length
          · rw [if_pos ⟨hn, h1⟩] at h0
            cases h0
          · omega
        · rw [if_neg hn]
          exact h.few
      · rcases mem_putM.1 hx with rfl | ⟨hx, _⟩
        · refine ⟨?_, ?_, ?_⟩ <;> simp <;> omega
        · exact h.each x hx
  · rw [if_neg h0]
    exact h
theorem good_del {L : List Pr} (h : Good L) (k : ByteArray) : Good (delM L k) :=
  ⟨Nat.le_trans (delM_le L k) h.few, fun x hx => h.each x (List.mem_filter.1 hx).1⟩
theorem rise_deed {L : List Pr} (hR : Rising L) (x : Dk) : Rising (deedOf L x) := by
  unfold deedOf putL
  split
  · split
    · exact putM_rising hR _ _
    · exact hR
  · split
    · exact rising_filter hR _
    · exact hR
theorem good_deed {L : List Pr} (h : Good L) (hR : Rising L) (x : Dk) : Good (deedOf L x) := by
  unfold deedOf
  split
  · exact good_put h hR _ _
  · split
    · exact good_del h _
    · exact h
theorem good_fold : ∀ (l : List Dk) (L : List Pr), Good L → Rising L → Good (l.foldl deedOf L) ∧ Rising (l.foldl deedOf L)
  | [], _, h, hR => ⟨h, hR⟩
  | x :: l, _, h, hR => good_fold l _ (good_deed h hR x) (rise_deed hR x)
theorem good_play (ds : List Dk) (k : Nat) : Good (playM ds k) := (good_fold (ds.take k) [] ⟨by simp, fun x hx => by cases hx⟩ List.Pairwise.nil).1
theorem IsM.less {base base' p b : Nat} {L : List Pr} {w : World} (h : IsM base p b L w) (hb : base' ≤ base) : IsM base' p b L w := ⟨Nat.le_trans hb h.low, Nat.le_trans hb h.lowb, h.here, h.rise, h.held⟩
theorem IsR.less {base base' p : Nat} {v : Value} {L : List Pr} {w : World} (h : IsR base p v L w) (hb : base' ≤ base) : IsR base' p v L w := ⟨Nat.le_trans hb h.low, h.here, own_less h.row hb, h.rise, h.few⟩
end Go.Proofs.Ytjdcgndcljmieaa
