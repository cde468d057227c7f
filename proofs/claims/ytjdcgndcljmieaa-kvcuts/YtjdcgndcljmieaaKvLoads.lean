/- KvLoads. -/
import Derived.Test.YtjdcgndcljmieaaKvBack
import Derived.Test.YtjdcgndcljmieaaL4
namespace Go.Proofs.Ytjdcgndcljmieaa
open Go.RowKit

/-- Bytes that are handed in. -/
def ByMem (n₀ : Nat) (w : World) (ao : Option Addr) (l : Str) : Prop := l = [] ∨ ∃ b off, ao = some ⟨b, off, none⟩ ∧ b < n₀ ∧ Bys w b off l
theorem ByMem.below {n₀ : Nat} {w w' : World} {ao : Option Addr} {l : Str} (h : ByMem n₀ w ao l) (hb : Below n₀ w w') : ByMem n₀ w' ao l :=
  h.imp id (fun ⟨b, off, e, hl, hB⟩ => ⟨b, off, e, hl, hB.below' hl hb⟩)
theorem ByMem.more {n₀ n₁ : Nat} {w : World} {ao : Option Addr} {l : Str} (h : ByMem n₀ w ao l) (hn : n₀ ≤ n₁) : ByMem n₁ w ao l :=
  h.imp id (fun ⟨b, off, e, hl, hB⟩ => ⟨b, off, e, Nat.lt_of_lt_of_le hl hn, hB⟩)
theorem load_any (ao : Option Addr) (cap len : Nat) (l : Str) (w : World) (h : ByMem w.heap.size w ao l) (hc : l.length ≤ cap) (hm : cap ≤ 9223372036854775807) (hlen : l.length = len) :
    Calls Try.prog 12 #[.slice ao len cap] w fun e w' => LoadR l w e w' ∧ Below w.heap.size w w' := by
  subst hlen
  rcases h with rfl | ⟨b, off, rfl, hb, hB⟩
  · exact load_nil ao cap w
  · exact load_some b off cap l w hB hb hc hm
theorem rload_any (ao : Option Addr) (cap len : Nat) (l : Str) (w : World) (h : ByMem w.heap.size w ao l) (hc : l.length ≤ cap) (hm : cap ≤ 9223372036854775807) (hl9 : l.length ≤ 9000) (hlen : l.length = len) :
    Calls Try.prog 13 #[.slice ao len cap] w fun e w' => RLoadR l w e w' ∧ Below w.heap.size w w' := by
  subst hlen
  rcases h with rfl | ⟨b, off, rfl, hb, hB⟩
  · exact rload_nil ao cap w
  · exact rload_some b off cap l w hB hb hc hm hl9
theorem ByMem.conv {n₀ : Nat} {w : World} {ao : Option Addr} {l : Str} {cap len : Nat} (h : ByMem n₀ w ao l) (hlen : l.length = len) : (convert 30 9 (.slice ao len cap)).run Try.prog w = .ok (.string (ofS l)) w := by
  subst hlen
  rcases h with rfl | ⟨b, off, rfl, hb, hB⟩
  · cases ao with
    | none => exact run_convert_bytes_nil (P := Try.prog) w 30 5 Try.underlying30 Try.underlying5 0 cap 9 Try.underlying9
    | some a => exact run_convert_bytes_back (P := Try.prog) w _ 9 5 a cap [] Try.underlying30 Try.underlying5 Try.underlying9 (fun j hj => absurd hj (by simp))
  · exact hB.conv
theorem load_same {l : Str} {L L' : List Pr} (h : GR L) (h' : GR L') (e : l = bytesM L) (e' : l = bytesM L') : L = L' := bytes_one h h' (by rw [← e, e'])
set_option maxRecDepth 100000 in
set_option maxHeartbeats 4000000 in
theorem kvLoads_ok (ao : Option Addr) (cap : Nat) (l : Str) (L : List Pr) (w : World) (hT : ByMem w.heap.size w ao l) (hcl : l.length ≤ cap) (hcm : cap ≤ 9223372036854775807) (h9 : l.length ≤ 9000) (hL : GR L) (hl : l = bytesM L) :
    Calls Try.prog 4 #[.slice ao l.length cap] w fun e w' => e = .returned (.bool true) ∧ Below w.heap.size w w' := by
  have HM := hide (And.intro hT (And.intro hcl (And.intro hcm h9)))
  have HL := hide (And.intro hL hl)
  have h9i : ¬ ((9000 : Int) < l.length) := by omega
  clear hT hL hl
  go_enter Try.func4, Try.ntmps4
  go_wp2_with (first
    | (go_at_call 12; refine (load_any ao cap l.length l w HM.out.1 HM.out.2.1 HM.out.2.2.1 rfl).mono ?_; rintro e w1 ⟨h1, b1⟩; have s1 := b1.size; rcases h1 with ⟨L', p, bm, g1, e1, rfl, m1⟩ | ⟨bad1, _⟩; rotate_left; exact absurd ⟨L, HL.out.1, HL.out.2⟩ bad1; obtain rfl := load_same HL.out.1 g1 HL.out.2 e1; have H1 := hide (And.intro m1 b1); clear m1 b1 g1 e1; refine stopHere ?_))
  unfold Hid
  go_wp2_with (first
    | (go_at_call 13; refine (rload_any ao cap l.length l w1 ((HM.out.1.below H1.out.2).more s1) HM.out.2.1 HM.out.2.2.1 HM.out.2.2.2 rfl).mono ?_; rintro e w2 ⟨h2, b2⟩; rcases h2 with ⟨L', q, u, g2, e2, rfl, m2⟩ | ⟨bad2, _⟩; rotate_left; exact absurd ⟨L, HL.out.1, HL.out.2⟩ bad2; obtain rfl := load_same HL.out.1 g2 HL.out.2 e2; have H2 := hide (And.intro m2 b2); clear m2 b2 g2 e2; refine stopHere ?_))
  unfold Hid
  have hT : Two w.heap.size p bm q L u w2 := ⟨H1.out.1.below H2.out.2, H2.out.1.less s1, fun j hj hk => by
    have h1 := (H1.out.1.lt hj).2
    have h2 := (H2.out.1.lt hk).1
    omega⟩
  have hB2 : Below w.heap.size w w2 := H1.out.2.trans (H2.out.2.mono s1)
  have HT := hide (And.intro (hT.below (Below.refl _ w2).drew) HL.out.1.good)
  have hCV := fun (W : World) (hW : Below w.heap.size w W) => (HM.out.1.below hW).conv (cap := cap) rfl
  obtain ⟨sl, hsl⟩ : ∃ sl, ofS l = sl := ⟨_, rfl⟩
  rw [hsl] at hCV
  rw [HL.out.2] at hsl
  rw [← hsl] at hCV
  have HCV := hide hCV
  have B0 : Below w.heap.size w w2.drew := hB2.trans (Below.refl _ w2).drew
  clear hT hB2 hCV hsl
  go_wp2_with fail
  obtain ⟨V0, hV0⟩ : ∃ V0, w2.drew = V0 := ⟨_, rfl⟩
  rw [hV0] at HT B0
  refine region_rel (S := fun V => Below V0.heap.size V0 V) (fun a W => ∃ x0 x1 x3 x4 x5 x6 x7 x8 x9 x10 x11 x12 x13 x14 x15 x16 x17 x18 x19 x20 x21 x22 x23 x24 x25 x26 x27 x28 x29 x30 x31 x32 x33 x34 x35 x36 x37 x38 x39 x40 x41 x42 x43 x44 x45 x46 x47 x48 x49 x50 x51 : Value, Below w.heap.size w W ∧ a = { tmps := #[x0, x1, .bool true, x3, x4, x5, x6, x7, x8, x9, x10, x11, x12, x13, x14, x15, x16, x17, x18, x19, x20, x21, x22, x23, x24, x25, x26, x27, x28, x29, x30, x31, x32, x33, x34, x35, x36, x37, x38, x39, x40, x41, x42, x43, x44, x45, x46, x47, x48, x49, x50, x51], defers := [] }) (by kernel_rfl) ?any ?fin
  case any =>
    rw [hV0]
    clear hV0
    have S0 : Below V0.heap.size V0 V0 := Below.refl _ _
    refine anyH_one (i := 0) (by kernel_rfl) ?_
    refine op_call rfl (some 38) rfl rfl #[] rfl (by simp) (fun _ _ => rfl) (live_any _) ?_
    rintro e V1 ⟨rfl, b1⟩
    have b1 : Below V0.heap.size V0 V1 := b1
    refine ⟨_, rfl, S0.trans (b1.mono S0.size), ?_⟩
    simp only [Act.put, List.setIfInBounds_toArray, List.set_cons_zero, List.set_cons_succ]
    refine anyH_more (fun V => Below V1.heap.size V1 V) (fun V hV => S0.trans ((b1.trans (hV.mono b1.size)).mono S0.size)) ?_
    have S1 : Below V1.heap.size V1 V1 := Below.refl _ _
    have B1 : Below w.heap.size w V1 := B0.trans (b1.mono B0.size)
    refine anyH_take (i := 1) (v := .bool true) rfl (some 39) rfl (by kernel_rfl) (by kernel_rfl) (by kernel_rfl) (fun _ _ _ h => by cases h.1) rfl (fun w0 hw0 => by first | rfl | kernel_rfl) S1 ?_
    simp only [Act.put, List.setIfInBounds_toArray, List.set_cons_zero, List.set_cons_succ]
    refine anyH_take (i := 2) (v := .pointer (some ⟨p, 0, none⟩)) rfl (some 40) rfl (by kernel_rfl) (by kernel_rfl) (by kernel_rfl) (fun _ _ _ h => by cases h.1) rfl (fun w0 hw0 => by first | rfl | kernel_rfl) S1 ?_
    simp only [Act.put, List.setIfInBounds_toArray, List.set_cons_zero, List.set_cons_succ]
    refine anyH_take (i := 3) (v := .pointer (some ⟨q, 0, none⟩)) rfl (some 41) rfl (by kernel_rfl) (by kernel_rfl) (by kernel_rfl) (fun _ _ _ h => by cases h.1) rfl (fun w0 hw0 => by first | rfl | kernel_rfl) S1 ?_
    simp only [Act.put, List.setIfInBounds_toArray, List.set_cons_zero, List.set_cons_succ]
    refine anyH_one (i := 4) (by kernel_rfl) ?_
    refine op_call rfl (some 42) rfl rfl #[.pointer (some ⟨p, 0, none⟩), .pointer (some ⟨q, 0, none⟩), .string ⟨#[]⟩] rfl (by simp [Act.eval]) (fun _ _ => rfl) (same_any w.heap.size p bm q L u ⟨#[]⟩ _ (HT.out.1.below b1) HT.out.2) ?_
    rintro e V2 ⟨rfl, b2⟩
    have b2 : Below V1.heap.size V1 V2 := b2
    refine ⟨_, rfl, S1.trans (b2.mono S1.size), ?_⟩
    simp only [Act.put, List.setIfInBounds_toArray, List.set_cons_zero, List.set_cons_succ]
    refine anyH_more (fun V => Below V2.heap.size V2 V) (fun V hV => S1.trans ((b2.trans (hV.mono b2.size)).mono S1.size)) ?_
    have S2 : Below V2.heap.size V2 V2 := Below.refl _ _
    have B2 : Below w.heap.size w V2 := B1.trans (b2.mono B1.size)
    refine anyH_take (i := 5) (v := .bool true) rfl (some 43) rfl (by kernel_rfl) (by kernel_rfl) (by kernel_rfl) (fun _ _ _ h => by cases h.1) rfl (fun w0 hw0 => ex_pick rfl rfl rfl) S2 ?_
    simp only [Act.put, List.setIfInBounds_toArray, List.set_cons_zero, List.set_cons_succ]
    refine anyH_take (i := 6) (v := .bool true) rfl (some 44) rfl (by kernel_rfl) (by kernel_rfl) (by kernel_rfl) (fun _ _ _ h => by cases h.1) rfl (fun w0 hw0 => by first | rfl | kernel_rfl) S2 ?_
    simp only [Act.put, List.setIfInBounds_toArray, List.set_cons_zero, List.set_cons_succ]
    refine anyH_take (i := 7) (v := .pointer (some ⟨p, 0, none⟩)) rfl (some 45) rfl (by kernel_rfl) (by kernel_rfl) (by kernel_rfl) (fun _ _ _ h => by cases h.1) rfl (fun w0 hw0 => by first | rfl | kernel_rfl) S2 ?_
    simp only [Act.put, List.setIfInBounds_toArray, List.set_cons_zero, List.set_cons_succ]
    refine anyH_take (i := 10) (v := .slice ao l.length cap) rfl (some 48) rfl (by kernel_rfl) (by kernel_rfl) (by kernel_rfl) (fun _ _ _ h => by cases h.1) rfl (fun w0 hw0 => by first | rfl | kernel_rfl) S2 ?_
    simp only [Act.put, List.setIfInBounds_toArray, List.set_cons_zero, List.set_cons_succ]
    refine anyH_take (i := 11) (v := .string (ofS (bytesM L))) rfl (some 49) rfl (by kernel_rfl) (by kernel_rfl) (by kernel_rfl) (fun _ _ _ h => by cases h.1) rfl (fun w0 hw0 => ex_conv rfl rfl (HCV.out w0 (B2.trans (hw0.mono B2.size)))) S2 ?_
    simp only [Act.put, List.setIfInBounds_toArray, List.set_cons_zero, List.set_cons_succ]
    refine anyH_one (i := 8) (by kernel_rfl) ?_
    refine op_call rfl (some 46) rfl rfl #[.pointer (some ⟨p, 0, none⟩)] rfl (by simp [Act.eval]) (fun _ _ => rfl) (bytes_any w.heap.size p bm L _ ((HT.out.1.below b1).below b2).dev HT.out.2) ?_
    rintro e V3 ⟨v3, rfl, r3, b3⟩
    have b3 : Below V2.heap.size V2 V3 := b3
    refine ⟨_, rfl, S2.trans (b3.mono S2.size), ?_⟩
    simp only [Act.put, List.setIfInBounds_toArray, List.set_cons_zero, List.set_cons_succ]
    refine anyH_more (fun V => Below V3.heap.size V3 V) (fun V hV => S2.trans ((b3.trans (hV.mono b3.size)).mono S2.size)) ?_
    have S3 : Below V3.heap.size V3 V3 := Below.refl _ _
    have B3 : Below w.heap.size w V3 := B2.trans (b3.mono B2.size)
    refine anyH_take (i := 9) (v := .string (ofS (bytesM L))) rfl (some 47) rfl (by kernel_rfl) (by kernel_rfl) (by kernel_rfl) (fun _ _ _ h => by cases h.1) rfl (fun w0 hw0 => ex_conv rfl rfl (conv_row (own_same r3 (fun g e => hw0.block g (own_lt r3 g e))))) S3 ?_
    simp only [Act.put, List.setIfInBounds_toArray, List.set_cons_zero, List.set_cons_succ]
    refine anyH_take (i := 12) (v := .bool true) rfl (some 50) rfl (by kernel_rfl) (by kernel_rfl) (by kernel_rfl) (fun _ _ _ h => by cases h.1) rfl (fun w0 hw0 => ex_eqs rfl rfl rfl) S3 ?_
    simp only [Act.put, List.setIfInBounds_toArray, List.set_cons_zero, List.set_cons_succ]
    refine anyH_take (i := 13) (v := .bool true) rfl (some 51) rfl (by kernel_rfl) (by kernel_rfl) (by kernel_rfl) (fun _ _ _ h => by cases h.1) rfl (fun w0 hw0 => ex_pick rfl rfl rfl) S3 ?_
    simp only [Act.put, List.setIfInBounds_toArray, List.set_cons_zero, List.set_cons_succ]
    refine anyH_val (i := 14) (by kernel_rfl) rfl (some 2) rfl rfl (ex_any rfl rfl) S3 ?_
    simp only [Act.put, List.setIfInBounds_toArray, List.set_cons_zero, List.set_cons_succ]
    exact wpAnyH_done (by kernel_rfl) ⟨rfl, _, _, _, _, _, _, _, _, _, _, _, _, _, _, _, _, _, _, _, _, _, _, _, _, _, _, _, _, _, _, _, _, _, _, _, _, _, _, _, _, _, _, _, _, _, _, _, _, _, _, _, B3, rfl⟩ _
  case fin =>
    rintro a W ⟨x0, x1, x3, x4, x5, x6, x7, x8, x9, x10, x11, x12, x13, x14, x15, x16, x17, x18, x19, x20, x21, x22, x23, x24, x25, x26, x27, x28, x29, x30, x31, x32, x33, x34, x35, x36, x37, x38, x39, x40, x41, x42, x43, x44, x45, x46, x47, x48, x49, x50, x51, hB, rfl⟩
    have HB := hide hB
    clear hB
    go_wp2_with fail
    go_ret
    exact ⟨rfl, HB.out⟩
set_option maxRecDepth 100000 in
set_option maxHeartbeats 4000000 in
theorem kvLoads_bad (ao : Option Addr) (cap : Nat) (l : Str) (w : World) (hT : ByMem w.heap.size w ao l) (hcl : l.length ≤ cap) (hcm : cap ≤ 9223372036854775807) (h9 : l.length ≤ 9000) (hL : Bad l) :
    Calls Try.prog 4 #[.slice ao l.length cap] w fun e w' => e = .returned (.bool true) ∧ Below w.heap.size w w' := by
  have HM := hide (And.intro hT (And.intro hcl (And.intro hcm h9)))
  have HL := hide hL
  have h9i : ¬ ((9000 : Int) < l.length) := by omega
  clear hT hL
  go_enter Try.func4, Try.ntmps4
  go_wp2_with (first
    | (go_at_call 12; refine (load_any ao cap l.length l w HM.out.1 HM.out.2.1 HM.out.2.2.1 rfl).mono ?_; rintro e w1 ⟨h1, b1⟩; have s1 := b1.size; rcases h1 with ⟨L', p, bm, g1, e1, _, _⟩ | ⟨_, rfl⟩; exact absurd ⟨L', g1, e1⟩ HL.out; have H1 := hide b1; clear b1; refine stopHere ?_))
  unfold Hid
  go_wp2_with (first
    | (go_at_call 13; refine (rload_any ao cap l.length l w1 ((HM.out.1.below H1.out).more s1) HM.out.2.1 HM.out.2.2.1 HM.out.2.2.2 rfl).mono ?_; rintro e w2 ⟨h2, b2⟩; rcases h2 with ⟨L', q, u, g2, e2, _, _⟩ | ⟨_, rfl⟩; exact absurd ⟨L', g2, e2⟩ HL.out; have H2 := hide b2; clear b2; refine stopHere ?_))
  unfold Hid
  go_wp2_with (first
    | (go_at_call 10; refine (live_any w2).mono ?_; rintro e w3 ⟨rfl, b3⟩; have H3 := hide b3; clear b3))
  go_ret
  have hz2 := H2.out.size
  exact ⟨rfl, H1.out.trans ((H2.out.trans (H3.out.mono hz2)).mono s1)⟩
set_option maxRecDepth 100000 in
set_option maxHeartbeats 4000000 in
theorem kvLoads_okb (b off n cap : Nat) (l : Str) (L : List Pr) (w : World) (hT : ByMem w.heap.size w (some ⟨b, off, none⟩) l) (hcl : l.length ≤ cap) (hcm : cap ≤ 9223372036854775807) (h9 : l.length = 9000) (hn : 9000 < n) (_hnc : n ≤ cap) (hL : GR L) (hl : l = bytesM L) :
    Calls Try.prog 4 #[.slice (some ⟨b, off, none⟩) n cap] w fun e w' => e = .returned (.bool true) ∧ Below w.heap.size w w' := by
  have HM := hide (And.intro hT (And.intro hcl (And.intro hcm (And.intro (Nat.le_of_eq h9) h9))))
  have HL := hide (And.intro hL hl)
  have h9i : (9000 : Int) < n := by omega
  clear hT hL hl
  go_enter Try.func4, Try.ntmps4
  go_wp2_with (first
    | (go_at_call 12; refine (load_any (some ⟨b, off, none⟩) cap 9000 l w HM.out.1 HM.out.2.1 HM.out.2.2.1 HM.out.2.2.2.2).mono ?_; rintro e w1 ⟨h1, b1⟩; have s1 := b1.size; rcases h1 with ⟨L', p, bm, g1, e1, rfl, m1⟩ | ⟨bad1, _⟩; rotate_left; exact absurd ⟨L, HL.out.1, HL.out.2⟩ bad1; obtain rfl := load_same HL.out.1 g1 HL.out.2 e1; have H1 := hide (And.intro m1 b1); clear m1 b1 g1 e1; refine stopHere ?_))
  unfold Hid
  go_wp2_with (first
    | (go_at_call 13; refine (rload_any (some ⟨b, off, none⟩) cap 9000 l w1 ((HM.out.1.below H1.out.2).more s1) HM.out.2.1 HM.out.2.2.1 HM.out.2.2.2.1 HM.out.2.2.2.2).mono ?_; rintro e w2 ⟨h2, b2⟩; rcases h2 with ⟨L', q, u, g2, e2, rfl, m2⟩ | ⟨bad2, _⟩; rotate_left; exact absurd ⟨L, HL.out.1, HL.out.2⟩ bad2; obtain rfl := load_same HL.out.1 g2 HL.out.2 e2; have H2 := hide (And.intro m2 b2); clear m2 b2 g2 e2; refine stopHere ?_))
  unfold Hid
  have hT : Two w.heap.size p bm q L u w2 := ⟨H1.out.1.below H2.out.2, H2.out.1.less s1, fun j hj hk => by
    have h1 := (H1.out.1.lt hj).2
    have h2 := (H2.out.1.lt hk).1
    omega⟩
  have hB2 : Below w.heap.size w w2 := H1.out.2.trans (H2.out.2.mono s1)
  have HT := hide (And.intro (hT.below (Below.refl _ w2).drew) HL.out.1.good)
  have hCV := fun (W : World) (hW : Below w.heap.size w W) => (HM.out.1.below hW).conv (cap := cap) HM.out.2.2.2.2
  obtain ⟨sl, hsl⟩ : ∃ sl, ofS l = sl := ⟨_, rfl⟩
  rw [hsl] at hCV
  rw [HL.out.2] at hsl
  rw [← hsl] at hCV
  have HCV := hide hCV
  have B0 : Below w.heap.size w w2.drew := hB2.trans (Below.refl _ w2).drew
  clear hT hB2 hCV hsl
  go_wp2_with fail
  obtain ⟨V0, hV0⟩ : ∃ V0, w2.drew = V0 := ⟨_, rfl⟩
  rw [hV0] at HT B0
  refine region_rel (S := fun V => Below V0.heap.size V0 V) (fun a W => ∃ x0 x1 x3 x4 x5 x6 x7 x8 x9 x10 x11 x12 x13 x14 x15 x16 x17 x18 x19 x20 x21 x22 x23 x24 x25 x26 x27 x28 x29 x30 x31 x32 x33 x34 x35 x36 x37 x38 x39 x40 x41 x42 x43 x44 x45 x46 x47 x48 x49 x50 x51 : Value, Below w.heap.size w W ∧ a = { tmps := #[x0, x1, .bool true, x3, x4, x5, x6, x7, x8, x9, x10, x11, x12, x13, x14, x15, x16, x17, x18, x19, x20, x21, x22, x23, x24, x25, x26, x27, x28, x29, x30, x31, x32, x33, x34, x35, x36, x37, x38, x39, x40, x41, x42, x43, x44, x45, x46, x47, x48, x49, x50, x51], defers := [] }) (by kernel_rfl) ?any ?fin
  case any =>
    rw [hV0]
    clear hV0
    have S0 : Below V0.heap.size V0 V0 := Below.refl _ _
    refine anyH_one (i := 0) (by kernel_rfl) ?_
    refine op_call rfl (some 38) rfl rfl #[] rfl (by simp) (fun _ _ => rfl) (live_any _) ?_
    rintro e V1 ⟨rfl, b1⟩
    have b1 : Below V0.heap.size V0 V1 := b1
    refine ⟨_, rfl, S0.trans (b1.mono S0.size), ?_⟩
    simp only [Act.put, List.setIfInBounds_toArray, List.set_cons_zero, List.set_cons_succ]
    refine anyH_more (fun V => Below V1.heap.size V1 V) (fun V hV => S0.trans ((b1.trans (hV.mono b1.size)).mono S0.size)) ?_
    have S1 : Below V1.heap.size V1 V1 := Below.refl _ _
    have B1 : Below w.heap.size w V1 := B0.trans (b1.mono B0.size)
    refine anyH_take (i := 1) (v := .bool true) rfl (some 39) rfl (by kernel_rfl) (by kernel_rfl) (by kernel_rfl) (fun _ _ _ h => by cases h.1) rfl (fun w0 hw0 => by first | rfl | kernel_rfl) S1 ?_
    simp only [Act.put, List.setIfInBounds_toArray, List.set_cons_zero, List.set_cons_succ]
    refine anyH_take (i := 2) (v := .pointer (some ⟨p, 0, none⟩)) rfl (some 40) rfl (by kernel_rfl) (by kernel_rfl) (by kernel_rfl) (fun _ _ _ h => by cases h.1) rfl (fun w0 hw0 => by first | rfl | kernel_rfl) S1 ?_
    simp only [Act.put, List.setIfInBounds_toArray, List.set_cons_zero, List.set_cons_succ]
    refine anyH_take (i := 3) (v := .pointer (some ⟨q, 0, none⟩)) rfl (some 41) rfl (by kernel_rfl) (by kernel_rfl) (by kernel_rfl) (fun _ _ _ h => by cases h.1) rfl (fun w0 hw0 => by first | rfl | kernel_rfl) S1 ?_
    simp only [Act.put, List.setIfInBounds_toArray, List.set_cons_zero, List.set_cons_succ]
    refine anyH_one (i := 4) (by kernel_rfl) ?_
    refine op_call rfl (some 42) rfl rfl #[.pointer (some ⟨p, 0, none⟩), .pointer (some ⟨q, 0, none⟩), .string ⟨#[]⟩] rfl (by simp [Act.eval]) (fun _ _ => rfl) (same_any w.heap.size p bm q L u ⟨#[]⟩ _ (HT.out.1.below b1) HT.out.2) ?_
    rintro e V2 ⟨rfl, b2⟩
    have b2 : Below V1.heap.size V1 V2 := b2
    refine ⟨_, rfl, S1.trans (b2.mono S1.size), ?_⟩
    simp only [Act.put, List.setIfInBounds_toArray, List.set_cons_zero, List.set_cons_succ]
    refine anyH_more (fun V => Below V2.heap.size V2 V) (fun V hV => S1.trans ((b2.trans (hV.mono b2.size)).mono S1.size)) ?_
    have S2 : Below V2.heap.size V2 V2 := Below.refl _ _
    have B2 : Below w.heap.size w V2 := B1.trans (b2.mono B1.size)
    refine anyH_take (i := 5) (v := .bool true) rfl (some 43) rfl (by kernel_rfl) (by kernel_rfl) (by kernel_rfl) (fun _ _ _ h => by cases h.1) rfl (fun w0 hw0 => ex_pick rfl rfl rfl) S2 ?_
    simp only [Act.put, List.setIfInBounds_toArray, List.set_cons_zero, List.set_cons_succ]
    refine anyH_take (i := 6) (v := .bool true) rfl (some 44) rfl (by kernel_rfl) (by kernel_rfl) (by kernel_rfl) (fun _ _ _ h => by cases h.1) rfl (fun w0 hw0 => by first | rfl | kernel_rfl) S2 ?_
    simp only [Act.put, List.setIfInBounds_toArray, List.set_cons_zero, List.set_cons_succ]
    refine anyH_take (i := 7) (v := .pointer (some ⟨p, 0, none⟩)) rfl (some 45) rfl (by kernel_rfl) (by kernel_rfl) (by kernel_rfl) (fun _ _ _ h => by cases h.1) rfl (fun w0 hw0 => by first | rfl | kernel_rfl) S2 ?_
    simp only [Act.put, List.setIfInBounds_toArray, List.set_cons_zero, List.set_cons_succ]
    refine anyH_take (i := 10) (v := .slice (some ⟨b, off, none⟩) 9000 cap) rfl (some 48) rfl (by kernel_rfl) (by kernel_rfl) (by kernel_rfl) (fun _ _ _ h => by cases h.1) rfl (fun w0 hw0 => by first | rfl | kernel_rfl) S2 ?_
    simp only [Act.put, List.setIfInBounds_toArray, List.set_cons_zero, List.set_cons_succ]
    refine anyH_take (i := 11) (v := .string (ofS (bytesM L))) rfl (some 49) rfl (by kernel_rfl) (by kernel_rfl) (by kernel_rfl) (fun _ _ _ h => by cases h.1) rfl (fun w0 hw0 => ex_conv rfl rfl (HCV.out w0 (B2.trans (hw0.mono B2.size)))) S2 ?_
    simp only [Act.put, List.setIfInBounds_toArray, List.set_cons_zero, List.set_cons_succ]
    refine anyH_one (i := 8) (by kernel_rfl) ?_
    refine op_call rfl (some 46) rfl rfl #[.pointer (some ⟨p, 0, none⟩)] rfl (by simp [Act.eval]) (fun _ _ => rfl) (bytes_any w.heap.size p bm L _ ((HT.out.1.below b1).below b2).dev HT.out.2) ?_
    rintro e V3 ⟨v3, rfl, r3, b3⟩
    have b3 : Below V2.heap.size V2 V3 := b3
    refine ⟨_, rfl, S2.trans (b3.mono S2.size), ?_⟩
    simp only [Act.put, List.setIfInBounds_toArray, List.set_cons_zero, List.set_cons_succ]
    refine anyH_more (fun V => Below V3.heap.size V3 V) (fun V hV => S2.trans ((b3.trans (hV.mono b3.size)).mono S2.size)) ?_
    have S3 : Below V3.heap.size V3 V3 := Below.refl _ _
    have B3 : Below w.heap.size w V3 := B2.trans (b3.mono B2.size)
    refine anyH_take (i := 9) (v := .string (ofS (bytesM L))) rfl (some 47) rfl (by kernel_rfl) (by kernel_rfl) (by kernel_rfl) (fun _ _ _ h => by cases h.1) rfl (fun w0 hw0 => ex_conv rfl rfl (conv_row (own_same r3 (fun g e => hw0.block g (own_lt r3 g e))))) S3 ?_
    simp only [Act.put, List.setIfInBounds_toArray, List.set_cons_zero, List.set_cons_succ]
    refine anyH_take (i := 12) (v := .bool true) rfl (some 50) rfl (by kernel_rfl) (by kernel_rfl) (by kernel_rfl) (fun _ _ _ h => by cases h.1) rfl (fun w0 hw0 => ex_eqs rfl rfl rfl) S3 ?_
    simp only [Act.put, List.setIfInBounds_toArray, List.set_cons_zero, List.set_cons_succ]
    refine anyH_take (i := 13) (v := .bool true) rfl (some 51) rfl (by kernel_rfl) (by kernel_rfl) (by kernel_rfl) (fun _ _ _ h => by cases h.1) rfl (fun w0 hw0 => ex_pick rfl rfl rfl) S3 ?_
    simp only [Act.put, List.setIfInBounds_toArray, List.set_cons_zero, List.set_cons_succ]
    refine anyH_val (i := 14) (by kernel_rfl) rfl (some 2) rfl rfl (ex_any rfl rfl) S3 ?_
    simp only [Act.put, List.setIfInBounds_toArray, List.set_cons_zero, List.set_cons_succ]
    exact wpAnyH_done (by kernel_rfl) ⟨rfl, _, _, _, _, _, _, _, _, _, _, _, _, _, _, _, _, _, _, _, _, _, _, _, _, _, _, _, _, _, _, _, _, _, _, _, _, _, _, _, _, _, _, _, _, _, _, _, _, _, _, _, B3, rfl⟩ _
  case fin =>
    rintro a W ⟨x0, x1, x3, x4, x5, x6, x7, x8, x9, x10, x11, x12, x13, x14, x15, x16, x17, x18, x19, x20, x21, x22, x23, x24, x25, x26, x27, x28, x29, x30, x31, x32, x33, x34, x35, x36, x37, x38, x39, x40, x41, x42, x43, x44, x45, x46, x47, x48, x49, x50, x51, hB, rfl⟩
    have HB := hide hB
    clear hB
    go_wp2_with fail
    go_ret
    exact ⟨rfl, HB.out⟩
set_option maxRecDepth 100000 in
set_option maxHeartbeats 4000000 in
theorem kvLoads_badb (b off n cap : Nat) (l : Str) (w : World) (hT : ByMem w.heap.size w (some ⟨b, off, none⟩) l) (hcl : l.length ≤ cap) (hcm : cap ≤ 9223372036854775807) (h9 : l.length = 9000) (hn : 9000 < n) (_hnc : n ≤ cap) (hL : Bad l) :
    Calls Try.prog 4 #[.slice (some ⟨b, off, none⟩) n cap] w fun e w' => e = .returned (.bool true) ∧ Below w.heap.size w w' := by
  have HM := hide (And.intro hT (And.intro hcl (And.intro hcm (And.intro (Nat.le_of_eq h9) h9))))
  have HL := hide hL
  have h9i : (9000 : Int) < n := by omega
  clear hT hL
  go_enter Try.func4, Try.ntmps4
  go_wp2_with (first
    | (go_at_call 12; refine (load_any (some ⟨b, off, none⟩) cap 9000 l w HM.out.1 HM.out.2.1 HM.out.2.2.1 HM.out.2.2.2.2).mono ?_; rintro e w1 ⟨h1, b1⟩; have s1 := b1.size; rcases h1 with ⟨L', p, bm, g1, e1, _, _⟩ | ⟨_, rfl⟩; exact absurd ⟨L', g1, e1⟩ HL.out; have H1 := hide b1; clear b1; refine stopHere ?_))
  unfold Hid
  go_wp2_with (first
    | (go_at_call 13; refine (rload_any (some ⟨b, off, none⟩) cap 9000 l w1 ((HM.out.1.below H1.out).more s1) HM.out.2.1 HM.out.2.2.1 HM.out.2.2.2.1 HM.out.2.2.2.2).mono ?_; rintro e w2 ⟨h2, b2⟩; rcases h2 with ⟨L', q, u, g2, e2, _, _⟩ | ⟨_, rfl⟩; exact absurd ⟨L', g2, e2⟩ HL.out; have H2 := hide b2; clear b2; refine stopHere ?_))
  unfold Hid
  go_wp2_with (first
    | (go_at_call 10; refine (live_any w2).mono ?_; rintro e w3 ⟨rfl, b3⟩; have H3 := hide b3; clear b3))
  go_ret
  have hz2 := H2.out.size
  exact ⟨rfl, H1.out.trans ((H2.out.trans (H3.out.mono hz2)).mono s1)⟩
theorem kvLoads_any (ao : Option Addr) (cap : Nat) (l : Str) (w : World) (hcl : l.length ≤ cap) (hcm : cap ≤ 9223372036854775807) (hT : ByMem w.heap.size w ao l) :
    Calls Try.prog 4 #[.slice ao l.length cap] w fun e w' => e = .returned (.bool true) ∧ Below w.heap.size w w' := by
  by_cases h9 : l.length ≤ 9000
  · by_cases hL : Bad l
    · exact kvLoads_bad ao cap l w hT hcl hcm h9 hL
    · obtain ⟨L, hG, hl⟩ := Classical.not_not.1 hL
      exact kvLoads_ok ao cap l L w hT hcl hcm h9 hG hl
  · rcases hT with rfl | ⟨b, off, rfl, hb, hB⟩
    · simp at h9
    · have hl : (l.take 9000).length = 9000 := by simp; omega
      have hM : ByMem w.heap.size w (some ⟨b, off, none⟩) (l.take 9000) := .inr ⟨b, off, rfl, hb, hB.take 9000⟩
      by_cases hL : Bad (l.take 9000)
      · exact kvLoads_badb b off l.length cap (l.take 9000) w hM (by omega) hcm hl (by omega) hcl hL
      · obtain ⟨L, hG, e⟩ := Classical.not_not.1 hL
        exact kvLoads_okb b off l.length cap (l.take 9000) L w hM (by omega) hcm hl (by omega) hcl hG e
end Go.Proofs.Ytjdcgndcljmieaa
