/- The document's the, Load, Turn. -/
import Derived.Test.YtfknjmfkkaoggaaSR4
namespace Go.Proofs.Ytfknjmfkkaoggaa
open Go.RowKit Go.Shelf

theorem the_tie {d : Dv} (h0 : HoldsS d 0) (hl : ¬ (rT (readS d 0)).toNat < (rT (readS d 1)).toNat) : theL d = ⟨0, rT (readS d 0), bytL d 0 (rN (readS d 0)).toNat⟩ := by
  have hp : 0 < (rT (readS d 0)).toNat := by
    rcases Nat.eq_zero_or_pos (rT (readS d 0)).toNat with e | e
    · exact absurd (BitVec.eq_of_toNat_eq (by rw [e]; rfl)) h0.2.1
    · exact e
  have b0 : best d 0 = ⟨1, 0#64, []⟩ := rfl
  have b1 : best d 1 = ⟨0, rT (readS d 0), bytL d 0 (rN (readS d 0)).toNat⟩ := best_yes h0 (by rw [b0]; exact hp)
  unfold theL
  rw [best_no (k := 1) (fun ⟨_, h2⟩ => by rw [b1] at h2; exact hl h2), b1]
theorem slot_yes {base q p : Nat} {d : Dv} {vl vw : Value} {k : Nat} {w : World} (h : IsT base q p d vl vw w) (hd : DvOk d) (h2 : 4 ≤ d.las.length) (h3 : d.las.length ≤ 4096) (hk : k ≤ 1) (hh : HoldsS d k) :
    Calls Try.prog 73 #[.pointer (some ⟨q, 0, none⟩), .int .i64 k] w fun e w' => ∃ v, e = .returned (.tuple #[v, .int .u64 (rT (readS d k)).toNat]) ∧ Row w' w.heap.size v (bytL d k (rN (readS d k)).toNat) ∧ Below w.heap.size w w' := by
  refine (rslot_any base q p d vl vw k w h hd h2 h3 hk).mono ?_
  rintro e w' ⟨⟨_, v, rfl, r⟩ | ⟨hn, _⟩, b⟩
  · exact ⟨v, rfl, r, b⟩
  · exact absurd hh hn
theorem slot_no {base q p : Nat} {d : Dv} {vl vw : Value} {k : Nat} {w : World} (h : IsT base q p d vl vw w) (hd : DvOk d) (h2 : 4 ≤ d.las.length) (h3 : d.las.length ≤ 4096) (hk : k ≤ 1) (hh : ¬ HoldsS d k) :
    Calls Try.prog 73 #[.pointer (some ⟨q, 0, none⟩), .int .i64 k] w fun e w' => e = .returned (.tuple #[.slice none 0 0, .int .u64 0]) ∧ Below w.heap.size w w' := by
  refine (rslot_any base q p d vl vw k w h hd h2 h3 hk).mono ?_
  rintro e w' ⟨⟨hn, _⟩ | ⟨_, he⟩, b⟩
  · exact absurd hn hh
  · exact ⟨he, b⟩
theorem row_nil (w : World) (base : Nat) : Row w base (.slice none 0 0) [] := ⟨rfl, .inl ⟨rfl, rfl⟩⟩
theorem results_thr {fn : Func} {tmps : Array Value} {w : World} {a b c : Nat} {x y z : Value} (h : fn.results = #[.tmp a, .tmp b, .tmp c]) (ha : tmps[a]?.getD undef = x) (hb : tmps[b]?.getD undef = y) (hc : tmps[c]?.getD undef = z) : (results fn tmps).run Try.prog w = .ok (.tuple #[x, y, z]) w := by
  simp [results, h, ha, hb, hc]
/-- What the document's the answers. -/
def TheR (d : Dv) (w : World) (e : Ending) (w' : World) : Prop := ∃ (a : Int) (v : Value), e = .returned (.tuple #[.int .i64 a, v, .int .u64 (theL d).turn.toNat]) ∧ (a = 0 ∧ (theL d).slot = 0 ∨ a ≠ 0 ∧ (theL d).slot = 1) ∧ Row w' w.heap.size v (theL d).bytes ∧ Below w.heap.size w w'
theorem holds_pos {d : Dv} {k : Nat} (h : HoldsS d k) : 0 < (rT (readS d k)).toNat := by
  rcases Nat.eq_zero_or_pos (rT (readS d k)).toNat with e | e
  · exact absurd (BitVec.eq_of_toNat_eq (by rw [e]; rfl)) h.2.1
  · exact e
set_option maxRecDepth 100000 in
set_option maxHeartbeats 4000000 in
theorem rthe_any (base q p : Nat) (d : Dv) (vl vw : Value) (w : World) (h : IsT base q p d vl vw w) (hd : DvOk d) (h2 : 4 ≤ d.las.length) (h3 : d.las.length ≤ 4096) :
    Calls Try.prog 57 #[.pointer (some ⟨q, 0, none⟩)] w (TheR d w) := by
  obtain ⟨R, hR⟩ : ∃ R, TheR d w = R := ⟨_, rfl⟩
  rw [hR]
  have HR := hide hR
  have HH := hide (And.intro h hd)
  have c1 := h.cell
  clear h hd hR
  obtain ⟨t0, ht0⟩ : ∃ t, rT (readS d 0) = t := ⟨_, rfl⟩
  obtain ⟨t1, ht1⟩ : ∃ t, rT (readS d 1) = t := ⟨_, rfl⟩
  by_cases a0 : HoldsS d 0
  · have H0 := hide (slot_yes HH.out.1 HH.out.2 h2 h3 (by omega : (0 : Nat) ≤ 1) a0)
    have p0 := holds_pos a0
    rw [ht0] at H0 p0
    have hz0 : ¬ (t0.toNat : Int) = 0 := by omega
    have hz0' : ((t0.toNat : Int) == 0) = false := by rw [beq_eq_false_iff_ne]; exact hz0
    by_cases a1 : HoldsS d 1
    · by_cases hlt : t0.toNat < t1.toNat
      · have ht : theL d = ⟨1, t1, bytL d 1 (rN (readS d 1)).toNat⟩ := by
          have := the_new (d := d) (k := 1) (Nat.le_refl _) a1 (fun _ => by rw [show 1 - 1 = 0 from rfl, ht0, ht1]; exact hlt)
          rw [ht1] at this
          exact this
        have hlt' : (t0.toNat : Int) < t1.toNat := by omega
        have HA := hide (And.intro a0 (And.intro a1 ht))
        clear a0 a1 ht
        go_enter Try.func57, Try.ntmps57
        go_wp2_with (go_at_call 73; refine H0.out.mono ?_; rintro e w1 ⟨v1, rfl, r1, b1⟩; refine stopHere ?_)
        unfold Hid
        have hs1 := slot_yes (HH.out.1.below b1) HH.out.2 h2 h3 (Nat.le_refl 1) HA.out.2.1
        rw [ht1] at hs1
        have H1 := hide hs1
        have B1 := hide (And.intro r1 b1)
        clear hs1 r1 b1
        go_wp2_with (go_at_call 73; refine H1.out.mono ?_; rintro e w2 ⟨v2, rfl, r2, b2⟩; have B2 := hide (And.intro r2 b2); clear r2 b2)
        refine bodyPost_ret (results_thr rfl rfl rfl rfl) rfl ?_
        rw [← HR.out]
        unfold TheR
        rw [HA.out.2.2]
        exact ⟨1, v2, rfl, .inr ⟨by decide, rfl⟩, B2.out.1.lower B1.out.2.size, B1.out.2.trans (B2.out.2.mono B1.out.2.size)⟩
      · have ht : theL d = ⟨0, t0, bytL d 0 (rN (readS d 0)).toNat⟩ := by
          have := the_tie a0 (by rw [ht0, ht1]; exact hlt)
          rw [ht0] at this
          exact this
        have hlt' : ¬ (t0.toNat : Int) < t1.toNat := by omega
        have HA := hide (And.intro a0 (And.intro a1 ht))
        clear a0 a1 ht
        go_enter Try.func57, Try.ntmps57
        go_wp2_with (go_at_call 73; refine H0.out.mono ?_; rintro e w1 ⟨v1, rfl, r1, b1⟩; refine stopHere ?_)
        unfold Hid
        have hs1 := slot_yes (HH.out.1.below b1) HH.out.2 h2 h3 (Nat.le_refl 1) HA.out.2.1
        rw [ht1] at hs1
        have H1 := hide hs1
        have B1 := hide (And.intro r1 b1)
        clear hs1 r1 b1
        go_wp2_with (go_at_call 73; refine H1.out.mono ?_; rintro e w2 ⟨v2, rfl, r2, b2⟩; have B2 := hide (And.intro r2 b2); clear r2 b2)
        refine bodyPost_ret (results_thr rfl rfl rfl rfl) rfl ?_
        rw [← HR.out]
        unfold TheR
        rw [HA.out.2.2]
        exact ⟨0, v1, rfl, .inl ⟨rfl, rfl⟩, B1.out.1.below B2.out.2, B1.out.2.trans (B2.out.2.mono B1.out.2.size)⟩
    · have ht : theL d = ⟨0, t0, bytL d 0 (rN (readS d 0)).toNat⟩ := by
        have := the_new (d := d) (k := 0) (Nat.zero_le _) a0 (fun hh => absurd hh a1)
        rw [ht0] at this
        exact this
      have hlt' : ¬ (t0.toNat : Int) < 0 := by omega
      have HA := hide (And.intro a0 (And.intro a1 ht))
      clear a0 a1 ht
      go_enter Try.func57, Try.ntmps57
      go_wp2_with (go_at_call 73; refine H0.out.mono ?_; rintro e w1 ⟨v1, rfl, r1, b1⟩; refine stopHere ?_)
      unfold Hid
      have H1 := hide (slot_no (HH.out.1.below b1) HH.out.2 h2 h3 (Nat.le_refl 1) HA.out.2.1)
      have B1 := hide (And.intro r1 b1)
      clear r1 b1
      go_wp2_with (go_at_call 73; refine H1.out.mono ?_; rintro e w2 ⟨rfl, b2⟩; have B2 := hide b2; clear b2)
      refine bodyPost_ret (results_thr rfl rfl rfl rfl) rfl ?_
      rw [← HR.out]
      unfold TheR
      rw [HA.out.2.2]
      exact ⟨0, v1, rfl, .inl ⟨rfl, rfl⟩, B1.out.1.below B2.out, B1.out.2.trans (B2.out.mono B1.out.2.size)⟩
  · have H0 := hide (slot_no HH.out.1 HH.out.2 h2 h3 (by omega : (0 : Nat) ≤ 1) a0)
    by_cases a1 : HoldsS d 1
    · have p1 := holds_pos a1
      rw [ht1] at p1
      have ht : theL d = ⟨1, t1, bytL d 1 (rN (readS d 1)).toNat⟩ := by
        have := the_new (d := d) (k := 1) (Nat.le_refl _) a1 (fun hh => absurd hh a0)
        rw [ht1] at this
        exact this
      have hz1 : ¬ (t1.toNat : Int) = 0 := by omega
      have hz1' : ((t1.toNat : Int) == 0) = false := by rw [beq_eq_false_iff_ne]; exact hz1
      have hlt' : (0 : Int) < t1.toNat := by omega
      have HA := hide (And.intro a0 (And.intro a1 ht))
      clear a0 a1 ht
      go_enter Try.func57, Try.ntmps57
      go_wp2_with (go_at_call 73; refine H0.out.mono ?_; rintro e w1 ⟨rfl, b1⟩; refine stopHere ?_)
      unfold Hid
      have hs1 := slot_yes (HH.out.1.below b1) HH.out.2 h2 h3 (Nat.le_refl 1) HA.out.2.1
      rw [ht1] at hs1
      have H1 := hide hs1
      have B1 := hide b1
      clear hs1 b1
      go_wp2_with (go_at_call 73; refine H1.out.mono ?_; rintro e w2 ⟨v2, rfl, r2, b2⟩; have B2 := hide (And.intro r2 b2); clear r2 b2)
      refine bodyPost_ret (results_thr rfl rfl rfl rfl) rfl ?_
      rw [← HR.out]
      unfold TheR
      rw [HA.out.2.2]
      exact ⟨1, v2, rfl, .inr ⟨by decide, rfl⟩, B2.out.1.lower B1.out.size, B1.out.trans (B2.out.2.mono B1.out.size)⟩
    · have ht : theL d = ⟨1, 0#64, []⟩ := the_none a0 a1
      have HA := hide (And.intro a0 (And.intro a1 ht))
      clear a0 a1 ht
      go_enter Try.func57, Try.ntmps57
      go_wp2_with (go_at_call 73; refine H0.out.mono ?_; rintro e w1 ⟨rfl, b1⟩; refine stopHere ?_)
      unfold Hid
      have H1 := hide (slot_no (HH.out.1.below b1) HH.out.2 h2 h3 (Nat.le_refl 1) HA.out.2.1)
      have B1 := hide b1
      clear b1
      go_wp2_with (go_at_call 73; refine H1.out.mono ?_; rintro e w2 ⟨rfl, b2⟩; have B2 := hide b2; clear b2)
      refine bodyPost_ret (results_thr rfl rfl rfl rfl) rfl ?_
      rw [← HR.out]
      unfold TheR
      rw [HA.out.2.2]
      exact ⟨-1, .slice none 0 0, rfl, .inr ⟨by decide, rfl⟩, row_nil _ _, B1.out.trans (B2.out.mono B1.out.size)⟩
set_option maxRecDepth 100000 in
theorem rLoad_any (base q p : Nat) (d : Dv) (vl vw : Value) (w : World) (h : IsT base q p d vl vw w) (hd : DvOk d) (h2 : 4 ≤ d.las.length) (h3 : d.las.length ≤ 4096) :
    Calls Try.prog 41 #[.pointer (some ⟨q, 0, none⟩)] w fun e w' => ∃ v, e = .returned v ∧ Row w' w.heap.size v (theL d).bytes ∧ Below w.heap.size w w' := by
  have H0 := hide (rthe_any base q p d vl vw w h hd h2 h3)
  unfold TheR at H0
  obtain ⟨tb, htb⟩ : ∃ x, theL d = x := ⟨_, rfl⟩
  rw [htb] at H0 ⊢
  clear h hd htb
  go_enter Try.func41, Try.ntmps41
  go_wp2_with (go_at_call 57; refine H0.out.mono ?_; rintro e w1 ⟨a, v, rfl, _, r1, b1⟩; have B1 := hide (And.intro r1 b1); clear r1 b1)
  go_ret
  exact ⟨v, rfl, B1.out.1, B1.out.2⟩
set_option maxRecDepth 100000 in
theorem rTurn_any (base q p : Nat) (d : Dv) (vl vw : Value) (w : World) (h : IsT base q p d vl vw w) (hd : DvOk d) (h2 : 4 ≤ d.las.length) (h3 : d.las.length ≤ 4096) :
    Calls Try.prog 42 #[.pointer (some ⟨q, 0, none⟩)] w fun e w' => e = .returned (.int .u64 (theL d).turn.toNat) ∧ Below w.heap.size w w' := by
  have H0 := hide (rthe_any base q p d vl vw w h hd h2 h3)
  unfold TheR at H0
  obtain ⟨tb, htb⟩ : ∃ x, theL d = x := ⟨_, rfl⟩
  rw [htb] at H0 ⊢
  clear h hd htb
  go_enter Try.func42, Try.ntmps42
  go_wp2_with (go_at_call 57; refine H0.out.mono ?_; rintro e w1 ⟨a, v, rfl, _, r1, b1⟩; have B1 := hide (And.intro r1 b1); clear r1 b1)
  go_ret
  exact ⟨rfl, B1.out.2⟩
end Go.Proofs.Ytfknjmfkkaoggaa
