/- Add. -/
import Derived.Test.YtffjmkngdjbjlaaC9
namespace Go.Proofs.Ytffjmkngdjbjlaa
open Go.RowKit Go.Shelf

theorem one_ed {w : World} {g : Nat} {s t : ByteArray} (h0 : w.cell? ⟨g, 0, none⟩ = some (.string s)) (h1 : w.cell? ⟨g, 1, none⟩ = some (.string t)) (hg : g < w.heap.size) : EdMem w.heap.size w (some ⟨g, 0, none⟩) [(s, t)] := by
  refine ⟨by simp, fun k x hk => ?_⟩
  cases k with
  | zero =>
    simp at hk
    subst hk
    exact ⟨g, 0, rfl, hg, h0, h1⟩
  | succ k => simp at hk
/-- What cannot be added. -/
def AddBad (l : List Pr) (s t : ByteArray) : Prop := ¬ RightE l ∨ s.toList.isEmpty = true ∨ t.toList.isEmpty = true
def AddCyc (l : List Pr) (s t : ByteArray) : Prop := s = t ∨ s ∈ chain l l.length t
/-- What Add answers. -/
def AddR (l : List Pr) (s t : ByteArray) (n : Int) (ns : List Pr) : Prop :=
  (AddBad l s t ∧ n = 3 ∧ ns = []) ∨ (¬ AddBad l s t ∧ AddCyc l s t ∧ n = 9 ∧ ns = []) ∨ (¬ AddBad l s t ∧ ¬ AddCyc l s t ∧ pOf l s = none ∧ 64 ≤ l.length ∧ n = 4 ∧ ns = []) ∨
  (¬ AddBad l s t ∧ ¬ AddCyc l s t ∧ n = 0 ∧ ∃ k, At l s k ∧ ((∃ x, l[k]? = some x ∧ x.1 = s ∧ ns = l.take k ++ (s, t) :: l.drop (k + 1)) ∨ (pOf l s = none ∧ l.length < 64 ∧ ns = l.take k ++ (s, t) :: l.drop k)))
set_option maxRecDepth 100000 in
set_option maxHeartbeats 8000000 in
theorem add_any (ao : Option Addr) (cap : Nat) (l : List Pr) (s t : ByteArray) (w : World) (hm : EdMem w.heap.size w ao l) (hcap : l.length ≤ cap) (hc63 : cap ≤ maxLen) :
    Calls Try.prog 15 #[.slice ao l.length cap, .string s, .string t] w fun e w' => ∃ v n ns, e = .returned (.tuple #[v, .int .i64 n]) ∧ w'.ownsRow w.heap.size 71 2 v ns.length (edC ns) ∧ AddR l s t n ns ∧ Below w.heap.size w w' := by
  have HR := hide (right_any ao cap l w hm)
  have HM := hide hm
  obtain ⟨m, hml⟩ : ∃ m, l.length = m := ⟨_, rfl⟩
  have HL := hide hml
  have h1m := hm.1
  rw [hml] at HR hcap h1m ⊢
  clear hm hml
  have hcapi : (m : Int) ≤ cap := by omega
  have hc63i : (cap : Int) ≤ 9223372036854775807 := by unfold maxLen at hc63; omega
  cases hs : s.toList.isEmpty with
  | true =>
    go_enter Try.func15, Try.ntmps15
    go_wp2_with (go_at_call 17; refine HR.out.mono ?_; rintro e w1 ⟨h | h, b1⟩ <;> obtain ⟨hn, rfl⟩ := h)
    all_goals go_ret2
    all_goals exact ⟨_, _, [], rfl, World.ownsRow_nil _ _ _ _, .inl ⟨.inr (.inl hs), rfl, rfl⟩, b1⟩
  | false =>
    cases ht : t.toList.isEmpty with
    | true =>
      go_enter Try.func15, Try.ntmps15
      go_wp2_with (go_at_call 17; refine HR.out.mono ?_; rintro e w1 ⟨h | h, b1⟩ <;> obtain ⟨hn, rfl⟩ := h)
      all_goals go_ret2
      all_goals exact ⟨_, _, [], rfl, World.ownsRow_nil _ _ _ _, .inl ⟨.inr (.inr ht), rfl, rfl⟩, b1⟩
    | false =>
      have hbd : RightE l → ¬ AddBad l s t := fun hn h => by
        rcases h with h | h | h
        · exact h hn
        · rw [hs] at h
          cases h
        · rw [ht] at h
          cases h
      have HBD := hide hbd
      clear hbd
      by_cases hst : s = t
      · have hq := txt_eq hst
        have HST := hide hst
        clear hst
        go_enter Try.func15, Try.ntmps15
        go_wp2_with (go_at_call 17; refine HR.out.mono ?_; rintro e w1 ⟨h | h, b1⟩ <;> obtain ⟨hn, rfl⟩ := h)
        · go_ret2
          exact ⟨_, _, [], rfl, World.ownsRow_nil _ _ _ _, .inr (.inl ⟨HBD.out hn, .inl HST.out, rfl, rfl⟩), b1⟩
        · go_ret2
          exact ⟨_, _, [], rfl, World.ownsRow_nil _ _ _ _, .inl ⟨.inl hn, rfl, rfl⟩, b1⟩
      · have hq := txt_ne hst
        have HST := hide hst
        clear hst
        go_enter Try.func15, Try.ntmps15
        go_wp2_with (go_at_call 17; refine HR.out.mono ?_; rintro e w1 ⟨h | h, b1⟩ <;> obtain ⟨hn, rfl⟩ := h)
        · have HA := hide (isAbove_any ao cap l t s w1 ((HM.out.below b1).more b1.size) hn.2.2.1)
          rw [HL.out] at HA
          refine HA.out.mono ?_
          rintro e w2 ⟨h, b2⟩
          have hB2 : Below w.heap.size w w2 := b1.trans (b2.mono b1.size)
          rcases h with ⟨hc, rfl⟩ | ⟨hc, rfl⟩
          · have HX := hide (And.intro hn (And.intro hc hB2))
            clear hn hc hB2 b1 b2 HA HR
            go_wp2_with fail
            go_ret2
            exact ⟨_, _, [], rfl, World.ownsRow_nil _ _ _ _, .inr (.inl ⟨HBD.out HX.out.1, .inr (by rw [HL.out]; exact HX.out.2.1), rfl, rfl⟩), HX.out.2.2⟩
          · have hcy : ¬ AddCyc l s t := fun h => by
              rcases h with h | h
              · exact HST.out h
              · rw [HL.out] at h
                exact hc h
            have HF := hide (find_any ao cap l s w2 ((HM.out.below hB2).more hB2.size) hn.2.2.1)
            rw [HL.out] at HF
            have HN := hide (And.intro hn (And.intro hcy hB2))
            clear hn hc hcy hB2 b1 b2 HA HR
            go_wp2_with fail
            refine HF.out.mono ?_
            rintro e w3 ⟨⟨k, hk, h⟩, b3⟩
            have hB : Below w.heap.size w w3 := HN.out.2.2.trans (b3.mono HN.out.2.2.size)
            have hkm : k ≤ m := by have := hk.le; have := HL.out; omega
            rcases h with ⟨x, hx, he, rfl⟩ | ⟨hx, rfl⟩
            · have hkl : k < m := by have := (List.getElem?_eq_some_iff.1 hx).1; have := HL.out; omega
              have hw1 : IntKind.i64.wrap ((k : Int) + 1) = k + 1 := by rw [IntKind.wrap_i64]; omega
              have HX := hide (And.intro hk (And.intro hx he))
              have HB := hide hB
              clear hx he hk b3 hB HF
              go_wp2_with fail
              obtain ⟨V0, hV0⟩ : ∃ V0, w3.drew = V0 := ⟨_, rfl⟩
              have B0 : Below w.heap.size w V0 := by rw [← hV0]; exact HB.out.drew
              refine region_rel (S := fun W => Below V0.heap.size V0 W) (fun a W => ∃ v x0 x1 x2 x3 x4 x5 x8 x9 x10 x11 x12 x13 x14 x15 x16 x17 x18 x19 x20 x21 x22 x23 x24 x25 x26 x27 x28 x29 x30 x31 x32 x33 x34 x35 x36 x37 x38 x39 x40 x41 x42 x43 x44 x45 x46 x47 x48 x49 x50 x51 x52 x53 x54 x55 x56 x57 x58 x59 : Value, W.ownsRow w.heap.size 71 2 v (l.take k ++ (s, t) :: l.drop (k + 1)).length (edC (l.take k ++ (s, t) :: l.drop (k + 1))) ∧ Below w.heap.size w W ∧ a = { tmps := #[x0, x1, x2, x3, x4, x5, v, .int .i64 0, x8, x9, x10, x11, x12, x13, x14, x15, x16, x17, x18, x19, x20, x21, x22, x23, x24, x25, x26, x27, x28, x29, x30, x31, x32, x33, x34, x35, x36, x37, x38, x39, x40, x41, x42, x43, x44, x45, x46, x47, x48, x49, x50, x51, x52, x53, x54, x55, x56, x57, x58, x59], defers := [] }) (by kernel_rfl) ?reg ?beh
              case reg =>
                rw [hV0]
                have S0 : Below V0.heap.size V0 V0 := Below.refl _ _
                refine anyH_take (i := 0) (v := .slice ao m cap) rfl (some 48) rfl (by kernel_rfl) (by kernel_rfl) (by kernel_rfl) (fun _ _ _ h => by cases h.1) rfl (fun w0 hw0 => by first | rfl | kernel_rfl) S0 ?_
                simp only [Act.put, List.setIfInBounds_toArray, List.set_cons_zero, List.set_cons_succ]
                refine anyH_take (i := 1) (v := .int .i64 k) rfl (some 49) rfl (by kernel_rfl) (by kernel_rfl) (by kernel_rfl) (fun _ _ _ h => by cases h.1) rfl (fun w0 hw0 => by first | rfl | kernel_rfl) S0 ?_
                simp only [Act.put, List.setIfInBounds_toArray, List.set_cons_zero, List.set_cons_succ]
                refine anyH_take (i := 2) (v := .slice (offE ao 0 cap) k cap) rfl (some 50) rfl (by kernel_rfl) (by kernel_rfl) (by kernel_rfl) (fun _ _ _ h => by cases h.1) rfl (fun w0 hw0 => ex_lo rfl rfl rfl (by omega)) S0 ?_
                simp only [Act.put, List.setIfInBounds_toArray, List.set_cons_zero, List.set_cons_succ]
                refine anyH_take (i := 3) (v := .string s) rfl (some 51) rfl (by kernel_rfl) (by kernel_rfl) (by kernel_rfl) (fun _ _ _ h => by cases h.1) rfl (fun w0 hw0 => by first | rfl | kernel_rfl) S0 ?_
                simp only [Act.put, List.setIfInBounds_toArray, List.set_cons_zero, List.set_cons_succ]
                refine anyH_take (i := 4) (v := .string t) rfl (some 52) rfl (by kernel_rfl) (by kernel_rfl) (by kernel_rfl) (fun _ _ _ h => by cases h.1) rfl (fun w0 hw0 => by first | rfl | kernel_rfl) S0 ?_
                simp only [Act.put, List.setIfInBounds_toArray, List.set_cons_zero, List.set_cons_succ]
                refine anyH_take (i := 5) (v := .agg #[.string s, .string t]) rfl (some 53) rfl (by kernel_rfl) (by kernel_rfl) (by kernel_rfl) (fun _ _ _ h => by cases h.1) rfl (fun w0 hw0 => ex_build (us := #[(0, .string s), (1, .string t)]) rfl (by simp [Act.eval]) (run_edge s t w0)) S0 ?_
                simp only [Act.put, List.setIfInBounds_toArray, List.set_cons_zero, List.set_cons_succ]
                refine anyH_take (i := 7) (v := .slice ao m cap) rfl (some 55) rfl (by kernel_rfl) (by kernel_rfl) (by kernel_rfl) (fun _ _ _ h => by cases h.1) rfl (fun w0 hw0 => by first | rfl | kernel_rfl) S0 ?_
                simp only [Act.put, List.setIfInBounds_toArray, List.set_cons_zero, List.set_cons_succ]
                refine anyH_take (i := 8) (v := .int .i64 (k + 1 : Nat)) rfl (some 56) rfl (by kernel_rfl) (by kernel_rfl) (by kernel_rfl) (fun _ _ _ h => by cases h.1) rfl (fun w0 hw0 => by first | rfl | kernel_rfl) S0 ?_
                simp only [Act.put, List.setIfInBounds_toArray, List.set_cons_zero, List.set_cons_succ]
                refine anyH_take (i := 9) (v := .slice (offE ao (k + 1) cap) (m - (k + 1)) (cap - (k + 1))) rfl (some 57) rfl (by kernel_rfl) (by kernel_rfl) (by kernel_rfl) (fun _ _ _ h => by cases h.1) rfl (fun w0 hw0 => ex_hi rfl rfl rfl (by omega)) S0 ?_
                simp only [Act.put, List.setIfInBounds_toArray, List.set_cons_zero, List.set_cons_succ]
                refine anyH_one (i := 6) (by kernel_rfl) ?_
                refine op_run rfl (some 54) rfl rfl (ex_slice (us := #[(0, .agg #[.string s, .string t])]) rfl (by simp [Act.eval]) (run_one s t V0)) ?_
                refine ⟨(Below.refl _ V0).alloc (Nat.le_refl _) _, ?_⟩
                simp only [Act.put, List.setIfInBounds_toArray, List.set_cons_zero, List.set_cons_succ]
                obtain ⟨V1, hV1⟩ : ∃ V1, V0.alloc (.cells #[.string s, .string t] 71) = V1 := ⟨_, rfl⟩
                have b1 : Below V0.heap.size V0 V1 := by rw [← hV1]; exact (Below.refl _ V0).alloc (Nat.le_refl _) _
                have f1 : V1.heap[V0.heap.size]? = some (.cells #[.string s, .string t] 71) := by rw [← hV1]; exact heap_alloc_new V0 _
                rw [hV1]
                refine anyH_one (i := 10) (by kernel_rfl) ?_
                refine op_run rfl (some 58) rfl rfl (ex_slice (us := #[(0, .slice (offE ao 0 cap) k cap), (1, .slice (some ⟨V0.heap.size, 0, none⟩) 1 1), (2, .slice (offE ao (k + 1) cap) (m - (k + 1)) (cap - (k + 1)))]) rfl (by simp [Act.eval]) (run_three _ _ _ _ _ _ _ _ _ V1)) ?_
                refine ⟨b1.trans (((Below.refl _ V1).alloc (Nat.le_refl _) _).mono b1.size), ?_⟩
                simp only [Act.put, List.setIfInBounds_toArray, List.set_cons_zero, List.set_cons_succ]
                obtain ⟨V2, hV2⟩ : ∃ V2, V1.alloc (.cells #[.slice (offE ao 0 cap) k cap, .slice (some ⟨V0.heap.size, 0, none⟩) 1 1, .slice (offE ao (k + 1) cap) (m - (k + 1)) (cap - (k + 1))] 50) = V2 := ⟨_, rfl⟩
                have b2 : Below V1.heap.size V1 V2 := by rw [← hV2]; exact (Below.refl _ V1).alloc (Nat.le_refl _) _
                have f2 : V2.heap[V1.heap.size]? = some (.cells #[.slice (offE ao 0 cap) k cap, .slice (some ⟨V0.heap.size, 0, none⟩) 1 1, .slice (offE ao (k + 1) cap) (m - (k + 1)) (cap - (k + 1))] 50) := by rw [← hV2]; exact heap_alloc_new V1 _
                rw [hV2]
                have b02 : Below V0.heap.size V0 V2 := b1.trans (b2.mono b1.size)
                have f1b := (b2.block _ (hp_lt f1)).trans f1
                obtain ⟨g0, g1⟩ := two_at f1b
                have l1 := hp_lt f1b
                have B2 : Below w.heap.size w V2 := B0.trans (b02.mono B0.size)
                have hE := (HM.out.below B2).more B2.size
                have HC := hide (concat_any [(offE ao 0 cap, cap, l.take k), (some ⟨V0.heap.size, 0, none⟩, 1, [(s, t)]), (offE ao (k + 1) cap, cap - (k + 1), l.drop (k + 1))] V1.heap.size V2 (by rw [f2]; simp [partV, HL.out]; omega) (by
                    intro p hp
                    simp at hp
                    rcases hp with rfl | rfl | rfl
                    · have := (hE.drop 0 (cap := cap) (by have := HL.out; omega)).take k
                      rwa [List.drop_zero] at this
                    · exact one_ed g0 g1 l1
                    · exact hE.drop (k + 1) (by have := HL.out; omega)) (by simp [partsL, HL.out]; omega) (by simp))
                refine anyH_one (i := 11) (by kernel_rfl) ?_
                refine op_call rfl (some 59) rfl rfl #[.slice (some ⟨V1.heap.size, 0, none⟩) 3 3] rfl (by simp [Act.eval]) (fun _ _ => rfl) HC.out ?_
                rintro e V3 ⟨v, rfl, y1, b3⟩
                have B3 : Below w.heap.size w V3 := B2.trans (b3.mono B2.size)
                refine ⟨_, rfl, b02.trans (b3.mono b02.size), ?_⟩
                simp only [Act.put, List.setIfInBounds_toArray, List.set_cons_zero, List.set_cons_succ]
                refine anyH_more (fun V => Below V3.heap.size V3 V) (fun V hV => (b02.trans ((b3.trans (hV.mono b3.size)).mono b02.size))) ?_
                have S3 : Below V3.heap.size V3 V3 := Below.refl _ _
                refine anyH_val (i := 12) (by kernel_rfl) rfl (some 6) rfl rfl (ex_any rfl rfl) S3 ?_
                simp only [Act.put, List.setIfInBounds_toArray, List.set_cons_zero, List.set_cons_succ]
                refine anyH_val (i := 13) (by kernel_rfl) rfl (some 7) rfl rfl (ex_any rfl rfl) S3 ?_
                simp only [Act.put, List.setIfInBounds_toArray, List.set_cons_zero, List.set_cons_succ]
                exact wpAnyH_done (by kernel_rfl) ⟨rfl, v, _, _, _, _, _, _, _, _, _, _, _, _, _, _, _, _, _, _, _, _, _, _, _, _, _, _, _, _, _, _, _, _, _, _, _, _, _, _, _, _, _, _, _, _, _, _, _, _, _, _, _, _, _, _, _, _, _, _, by simpa [partsL] using own_less y1 B2.size, B3, rfl⟩ _
              case beh =>
                rintro a W ⟨v, x0, x1, x2, x3, x4, x5, x8, x9, x10, x11, x12, x13, x14, x15, x16, x17, x18, x19, x20, x21, x22, x23, x24, x25, x26, x27, x28, x29, x30, x31, x32, x33, x34, x35, x36, x37, x38, x39, x40, x41, x42, x43, x44, x45, x46, x47, x48, x49, x50, x51, x52, x53, x54, x55, x56, x57, x58, x59, y1, y2, rfl⟩
                obtain ⟨ga, gc, rfl⟩ := own_shape y1
                have HY := hide (And.intro y1 y2)
                clear y1 y2
                go_wp2_with fail
                go_ret2
                exact ⟨_, _, _, rfl, HY.out.1, .inr (.inr (.inr ⟨HBD.out HN.out.1, HN.out.2.1, rfl, k, HX.out.1, .inl ⟨x, HX.out.2.1, HX.out.2.2, rfl⟩⟩)), HY.out.2⟩
            · have hp : pOf l s = none := pOf_no HN.out.1.2.2.1 hk hx
              have HX := hide (And.intro hk hp)
              have HB := hide hB
              clear hx hk b3 hB HF hp
              by_cases h64 : 64 ≤ m
              · have h64i : (64 : Int) ≤ m := by omega
                go_wp2_with fail
                go_ret2
                exact ⟨_, _, [], rfl, World.ownsRow_nil _ _ _ _, .inr (.inr (.inl ⟨HBD.out HN.out.1, HN.out.2.1, HX.out.2, by rw [HL.out]; exact h64, rfl, rfl⟩)), HB.out⟩
              · have h64i : ¬ ((64 : Int) ≤ m) := by omega
                go_wp2_with fail
                obtain ⟨V0, hV0⟩ : ∃ V0, w3.drew = V0 := ⟨_, rfl⟩
                have B0 : Below w.heap.size w V0 := by rw [← hV0]; exact HB.out.drew
                refine region_rel (S := fun W => Below V0.heap.size V0 W) (fun a W => ∃ v x0 x1 x2 x3 x4 x5 x8 x9 x10 x11 x12 x13 x14 x15 x16 x17 x18 x19 x20 x21 x22 x23 x24 x25 x26 x27 x28 x29 x30 x31 x32 x33 x34 x35 x36 x37 x38 x39 x40 x41 x42 x43 x44 x45 x46 x47 x48 x49 x50 x51 x52 x53 x54 x55 x56 x57 x58 x59 : Value, W.ownsRow w.heap.size 71 2 v (l.take k ++ (s, t) :: l.drop (k)).length (edC (l.take k ++ (s, t) :: l.drop (k))) ∧ Below w.heap.size w W ∧ a = { tmps := #[x0, x1, x2, x3, x4, x5, v, .int .i64 0, x8, x9, x10, x11, x12, x13, x14, x15, x16, x17, x18, x19, x20, x21, x22, x23, x24, x25, x26, x27, x28, x29, x30, x31, x32, x33, x34, x35, x36, x37, x38, x39, x40, x41, x42, x43, x44, x45, x46, x47, x48, x49, x50, x51, x52, x53, x54, x55, x56, x57, x58, x59], defers := [] }) (by kernel_rfl) ?reg ?beh
                case reg =>
                  rw [hV0]
                  have S0 : Below V0.heap.size V0 V0 := Below.refl _ _
                  refine anyH_take (i := 0) (v := .slice ao m cap) rfl (some 48) rfl (by kernel_rfl) (by kernel_rfl) (by kernel_rfl) (fun _ _ _ h => by cases h.1) rfl (fun w0 hw0 => by first | rfl | kernel_rfl) S0 ?_
                  simp only [Act.put, List.setIfInBounds_toArray, List.set_cons_zero, List.set_cons_succ]
                  refine anyH_take (i := 1) (v := .int .i64 k) rfl (some 49) rfl (by kernel_rfl) (by kernel_rfl) (by kernel_rfl) (fun _ _ _ h => by cases h.1) rfl (fun w0 hw0 => by first | rfl | kernel_rfl) S0 ?_
                  simp only [Act.put, List.setIfInBounds_toArray, List.set_cons_zero, List.set_cons_succ]
                  refine anyH_take (i := 2) (v := .slice (offE ao 0 cap) k cap) rfl (some 50) rfl (by kernel_rfl) (by kernel_rfl) (by kernel_rfl) (fun _ _ _ h => by cases h.1) rfl (fun w0 hw0 => ex_lo rfl rfl rfl (by omega)) S0 ?_
                  simp only [Act.put, List.setIfInBounds_toArray, List.set_cons_zero, List.set_cons_succ]
                  refine anyH_take (i := 3) (v := .string s) rfl (some 51) rfl (by kernel_rfl) (by kernel_rfl) (by kernel_rfl) (fun _ _ _ h => by cases h.1) rfl (fun w0 hw0 => by first | rfl | kernel_rfl) S0 ?_
                  simp only [Act.put, List.setIfInBounds_toArray, List.set_cons_zero, List.set_cons_succ]
                  refine anyH_take (i := 4) (v := .string t) rfl (some 52) rfl (by kernel_rfl) (by kernel_rfl) (by kernel_rfl) (fun _ _ _ h => by cases h.1) rfl (fun w0 hw0 => by first | rfl | kernel_rfl) S0 ?_
                  simp only [Act.put, List.setIfInBounds_toArray, List.set_cons_zero, List.set_cons_succ]
                  refine anyH_take (i := 5) (v := .agg #[.string s, .string t]) rfl (some 53) rfl (by kernel_rfl) (by kernel_rfl) (by kernel_rfl) (fun _ _ _ h => by cases h.1) rfl (fun w0 hw0 => ex_build (us := #[(0, .string s), (1, .string t)]) rfl (by simp [Act.eval]) (run_edge s t w0)) S0 ?_
                  simp only [Act.put, List.setIfInBounds_toArray, List.set_cons_zero, List.set_cons_succ]
                  refine anyH_take (i := 7) (v := .slice ao m cap) rfl (some 55) rfl (by kernel_rfl) (by kernel_rfl) (by kernel_rfl) (fun _ _ _ h => by cases h.1) rfl (fun w0 hw0 => by first | rfl | kernel_rfl) S0 ?_
                  simp only [Act.put, List.setIfInBounds_toArray, List.set_cons_zero, List.set_cons_succ]
                  refine anyH_take (i := 8) (v := .int .i64 (k : Nat)) rfl (some 56) rfl (by kernel_rfl) (by kernel_rfl) (by kernel_rfl) (fun _ _ _ h => by cases h.1) rfl (fun w0 hw0 => by first | rfl | kernel_rfl) S0 ?_
                  simp only [Act.put, List.setIfInBounds_toArray, List.set_cons_zero, List.set_cons_succ]
                  refine anyH_take (i := 9) (v := .slice (offE ao (k) cap) (m - (k)) (cap - (k))) rfl (some 57) rfl (by kernel_rfl) (by kernel_rfl) (by kernel_rfl) (fun _ _ _ h => by cases h.1) rfl (fun w0 hw0 => ex_hi rfl rfl rfl (by omega)) S0 ?_
                  simp only [Act.put, List.setIfInBounds_toArray, List.set_cons_zero, List.set_cons_succ]
                  refine anyH_one (i := 6) (by kernel_rfl) ?_
                  refine op_run rfl (some 54) rfl rfl (ex_slice (us := #[(0, .agg #[.string s, .string t])]) rfl (by simp [Act.eval]) (run_one s t V0)) ?_
                  refine ⟨(Below.refl _ V0).alloc (Nat.le_refl _) _, ?_⟩
                  simp only [Act.put, List.setIfInBounds_toArray, List.set_cons_zero, List.set_cons_succ]
                  obtain ⟨V1, hV1⟩ : ∃ V1, V0.alloc (.cells #[.string s, .string t] 71) = V1 := ⟨_, rfl⟩
                  have b1 : Below V0.heap.size V0 V1 := by rw [← hV1]; exact (Below.refl _ V0).alloc (Nat.le_refl _) _
                  have f1 : V1.heap[V0.heap.size]? = some (.cells #[.string s, .string t] 71) := by rw [← hV1]; exact heap_alloc_new V0 _
                  rw [hV1]
                  refine anyH_one (i := 10) (by kernel_rfl) ?_
                  refine op_run rfl (some 58) rfl rfl (ex_slice (us := #[(0, .slice (offE ao 0 cap) k cap), (1, .slice (some ⟨V0.heap.size, 0, none⟩) 1 1), (2, .slice (offE ao (k) cap) (m - (k)) (cap - (k)))]) rfl (by simp [Act.eval]) (run_three _ _ _ _ _ _ _ _ _ V1)) ?_
                  refine ⟨b1.trans (((Below.refl _ V1).alloc (Nat.le_refl _) _).mono b1.size), ?_⟩
                  simp only [Act.put, List.setIfInBounds_toArray, List.set_cons_zero, List.set_cons_succ]
                  obtain ⟨V2, hV2⟩ : ∃ V2, V1.alloc (.cells #[.slice (offE ao 0 cap) k cap, .slice (some ⟨V0.heap.size, 0, none⟩) 1 1, .slice (offE ao (k) cap) (m - (k)) (cap - (k))] 50) = V2 := ⟨_, rfl⟩
                  have b2 : Below V1.heap.size V1 V2 := by rw [← hV2]; exact (Below.refl _ V1).alloc (Nat.le_refl _) _
                  have f2 : V2.heap[V1.heap.size]? = some (.cells #[.slice (offE ao 0 cap) k cap, .slice (some ⟨V0.heap.size, 0, none⟩) 1 1, .slice (offE ao (k) cap) (m - (k)) (cap - (k))] 50) := by rw [← hV2]; exact heap_alloc_new V1 _
                  rw [hV2]
                  have b02 : Below V0.heap.size V0 V2 := b1.trans (b2.mono b1.size)
                  have f1b := (b2.block _ (hp_lt f1)).trans f1
                  obtain ⟨g0, g1⟩ := two_at f1b
                  have l1 := hp_lt f1b
                  have B2 : Below w.heap.size w V2 := B0.trans (b02.mono B0.size)
                  have hE := (HM.out.below B2).more B2.size
                  have HC := hide (concat_any [(offE ao 0 cap, cap, l.take k), (some ⟨V0.heap.size, 0, none⟩, 1, [(s, t)]), (offE ao (k) cap, cap - (k), l.drop (k))] V1.heap.size V2 (by rw [f2]; simp [partV, HL.out]; omega) (by
                      intro p hp
                      simp at hp
                      rcases hp with rfl | rfl | rfl
                      · have := (hE.drop 0 (cap := cap) (by have := HL.out; omega)).take k
                        rwa [List.drop_zero] at this
                      · exact one_ed g0 g1 l1
                      · exact hE.drop (k) (by have := HL.out; omega)) (by simp [partsL, HL.out]; omega) (by simp))
                  refine anyH_one (i := 11) (by kernel_rfl) ?_
                  refine op_call rfl (some 59) rfl rfl #[.slice (some ⟨V1.heap.size, 0, none⟩) 3 3] rfl (by simp [Act.eval]) (fun _ _ => rfl) HC.out ?_
                  rintro e V3 ⟨v, rfl, y1, b3⟩
                  have B3 : Below w.heap.size w V3 := B2.trans (b3.mono B2.size)
                  refine ⟨_, rfl, b02.trans (b3.mono b02.size), ?_⟩
                  simp only [Act.put, List.setIfInBounds_toArray, List.set_cons_zero, List.set_cons_succ]
                  refine anyH_more (fun V => Below V3.heap.size V3 V) (fun V hV => (b02.trans ((b3.trans (hV.mono b3.size)).mono b02.size))) ?_
                  have S3 : Below V3.heap.size V3 V3 := Below.refl _ _
                  refine anyH_val (i := 12) (by kernel_rfl) rfl (some 6) rfl rfl (ex_any rfl rfl) S3 ?_
                  simp only [Act.put, List.setIfInBounds_toArray, List.set_cons_zero, List.set_cons_succ]
                  refine anyH_val (i := 13) (by kernel_rfl) rfl (some 7) rfl rfl (ex_any rfl rfl) S3 ?_
                  simp only [Act.put, List.setIfInBounds_toArray, List.set_cons_zero, List.set_cons_succ]
                  exact wpAnyH_done (by kernel_rfl) ⟨rfl, v, _, _, _, _, _, _, _, _, _, _, _, _, _, _, _, _, _, _, _, _, _, _, _, _, _, _, _, _, _, _, _, _, _, _, _, _, _, _, _, _, _, _, _, _, _, _, _, _, _, _, _, _, _, _, _, _, _, _, by simpa [partsL] using own_less y1 B2.size, B3, rfl⟩ _
                case beh =>
                  rintro a W ⟨v, x0, x1, x2, x3, x4, x5, x8, x9, x10, x11, x12, x13, x14, x15, x16, x17, x18, x19, x20, x21, x22, x23, x24, x25, x26, x27, x28, x29, x30, x31, x32, x33, x34, x35, x36, x37, x38, x39, x40, x41, x42, x43, x44, x45, x46, x47, x48, x49, x50, x51, x52, x53, x54, x55, x56, x57, x58, x59, y1, y2, rfl⟩
                  obtain ⟨ga, gc, rfl⟩ := own_shape y1
                  have HY := hide (And.intro y1 y2)
                  clear y1 y2
                  go_wp2_with fail
                  go_ret2
                  exact ⟨_, _, _, rfl, HY.out.1, .inr (.inr (.inr ⟨HBD.out HN.out.1, HN.out.2.1, rfl, k, HX.out.1, .inr ⟨HX.out.2, by rw [HL.out]; omega, rfl⟩⟩)), HY.out.2⟩
        · go_ret2
          exact ⟨_, _, [], rfl, World.ownsRow_nil _ _ _ _, .inl ⟨.inl hn, rfl, rfl⟩, b1⟩
end Go.Proofs.Ytffjmkngdjbjlaa
