/- CollectKids. -/
import Derived.Test.YtlafjddidlofcaaCE
import Derived.Test.YtlafjddidlofcaaC13
namespace Go.Proofs.Ytlafjddidlofcaa
open Go.RowKit Go.Shelf

theorem ex_indexS {o : Oper} {a : Act} {w : World} {x y : Operand} {b m cap k : Nat} (ho : o.op = .indexAddr 35 x y) (hx : a.eval x = .slice (some ⟨b, 0, none⟩) m cap) (hy : a.eval y = .int .i64 k) (hk : k < m) : (execOp a.eval o).run Try.prog w = .ok (.value (.pointer (some ⟨b, k, none⟩))) w := by
  have hk1 : (k : Int) < m := by omega
  unfold execOp
  simp only [ho, hx, hy]
  go_simp
theorem ex_pickT {o : Oper} {a : Act} {w : World} {x y z : Operand} {v : Value} (ho : o.op = .pick x y z) (hx : a.eval x = .bool true) (hy : a.eval y = v) : (execOp a.eval o).run Try.prog w = .ok (.value v) w := by
  unfold execOp
  simp only [ho, hx, hy]
  go_simp
theorem ex_pickF {o : Oper} {a : Act} {w : World} {x y z : Operand} {v : Value} (ho : o.op = .pick x y z) (hx : a.eval x = .bool false) (hy : a.eval z = v) : (execOp a.eval o).run Try.prog w = .ok (.value v) w := by
  unfold execOp
  simp only [ho, hx, hy]
  go_simp
theorem kid_mem {l : List Pr} {s c : ByteArray} (h : c ∈ kidL s l) : (c, s) ∈ l := by
  obtain ⟨x, hx, rfl⟩ := List.mem_map.1 h
  have := List.mem_filter.1 hx
  have he : x.2 = s := by simpa [isKid] using this.2
  rw [← he]
  exact this.1
theorem kid_of {l : List Pr} {s c : ByteArray} (h : (c, s) ∈ l) : c ∈ kidL s l := List.mem_map.2 ⟨(c, s), List.mem_filter.2 ⟨h, by simp [isKid]⟩, rfl⟩
theorem kid_pOf {l : List Pr} (hr : Rising l) {s c : ByteArray} (h : c ∈ kidL s l) : pOf l c = some s := getM_mem hr (kid_mem h)
theorem bel_it {l : List Pr} {s c : ByteArray} (h : c ∈ belL l s l) : ∃ n, 1 ≤ n ∧ it l n c = some s := by
  obtain ⟨x, hx, rfl⟩ := List.mem_map.1 h
  have := (List.mem_filter.1 hx).2
  exact above_it.1 (by simpa [isBel] using this)
theorem bel_of {l : List Pr} {s c p : ByteArray} (hp : pOf l c = some p) {n : Nat} (h1 : 1 ≤ n) (h : it l n c = some s) : c ∈ belL l s l := by
  exact List.mem_map.2 ⟨(c, p), List.mem_filter.2 ⟨getM_some hp, isBel_yes (above_it.2 ⟨n, h1, h⟩)⟩, rfl⟩
theorem kid_bel {l : List Pr} (hr : Rising l) {s c : ByteArray} (h : c ∈ kidL s l) : c ∈ belL l s l := bel_of (kid_pOf hr h) (Nat.le_refl 1) (by rw [it_one]; exact kid_pOf hr h)
/-- Who is below is right in it, or below one that is. -/
theorem bel_parts {l : List Pr} {s c : ByteArray} (h : c ∈ belL l s l) (hn : c ∉ kidL s l) : ∃ d ∈ kidL s l, c ∈ belL l d l := by
  obtain ⟨n, h1, h2⟩ := bel_it h
  obtain ⟨k, rfl⟩ : ∃ k, n = k + 1 := ⟨n - 1, by omega⟩
  obtain ⟨d, hd, hs⟩ := it_less h2 (Nat.le_succ k)
  rw [show k.succ - k = 1 by omega, it_one] at hs
  cases k with
  | zero =>
    cases hd
    exact absurd (kid_of (getM_some hs)) hn
  | succ k =>
    have hd2 := hd
    rw [it_succ] at hd2
    cases hp : pOf l c with
    | none => rw [hp] at hd2; cases hd2
    | some p => exact ⟨d, kid_of (getM_some hs), bel_of hp (by omega) hd⟩
theorem kid_few {l : List Pr} (hr : Rising l) (s : ByteArray) : (kidL s l).length ≤ (belL l s l).length := by
  unfold kidL belL
  rw [List.length_map, List.length_map, ← List.countP_eq_length_filter, ← List.countP_eq_length_filter]
  refine List.countP_mono_left (fun x hx h => ?_)
  have he : x.2 = s := by simpa [isKid] using h
  have hp : pOf l x.1 = some s := getM_mem hr (by rw [← he]; exact hx)
  exact isBel_yes (above_it.2 ⟨1, Nat.le_refl _, by rw [it_one]; exact hp⟩)
/-- Is one of the first kids above it? -/
def someB (l : List Pr) (ks : List ByteArray) (c : ByteArray) : Bool := ks.any fun d => anyB (belL l d l) c
theorem some_step {l : List Pr} {ks : List ByteArray} {c d : ByteArray} {k : Nat} (hx : ks[k]? = some d) : someB l (ks.take (k + 1)) c = (someB l (ks.take k) c || anyB (belL l d l) c) := by
  rw [List.take_add_one, hx]
  simp [someB]
set_option maxRecDepth 100000 in
set_option maxHeartbeats 8000000 in
theorem collectKids_any (ao : Option Addr) (cap : Nat) (l : List Pr) (s : ByteArray) (w : World) (hm : EdArg w.heap.size w ao l) (hcap : l.length ≤ cap) :
    Calls Try.prog 7 #[.slice ao l.length cap, .string s] w fun e w' => e = .returned (.bool true) ∧ Below w.heap.size w w' := by
  have HF := hide (few_any ao cap l w hm hcap)
  have HLV := hide fun V => live_any V
  clear hm
  obtain ⟨m0, hm0⟩ : ∃ m0, l.length = m0 := ⟨_, rfl⟩
  rw [hm0] at HF ⊢
  clear hm0 hcap
  go_enter Try.func7, Try.ntmps7
  go_wp2_with (go_at_call 8; refine HF.out.mono ?_; rintro e w0 ⟨⟨ao', l', rfl, hE, hc⟩, hw0⟩; rw [hw0]; clear hw0; refine stopHere ?_)
  unfold Hid
  clear HF hc
  obtain ⟨m, hml⟩ : ∃ m, l'.length = m := ⟨_, rfl⟩
  have HE := hide (And.intro hE hml)
  have hl6 := hE.1
  have HK := hide fun (V : World) (hV : EdMem V.heap.size V ao' l') => kids_any ao' cap l' s V hV
  have HB := hide fun (V : World) (hV : EdMem V.heap.size V ao' l') (t : ByteArray) => below_any ao' cap l' t V hV
  have HP := hide fun (V : World) (hV : EdMem V.heap.size V ao' l') (t : ByteArray) => parent_any ao' cap l' t V hV
  rw [hml] at HK HB HP hl6 ⊢
  clear hE hml
  go_wp2_with (first
    | (go_at_call 20; refine (HK.out w HE.out.1).mono ?_; rintro e w1 ⟨v1, n1, rfl, y1, h1, b1⟩; have H1 := hide (And.intro y1 (And.intro h1 b1)); clear y1 h1 b1)
    | (go_at_call 24; refine (HB.out w1 ((HE.out.1.below H1.out.2.2).more H1.out.2.2.size) s).mono ?_; rintro e w2 ⟨v2, n2, rfl, y2, h2, b2⟩; refine stopHere ?_))
  unfold Hid
  obtain ⟨y1, h1, b1⟩ := H1.out
  have z1 := own_same y1 (fun g e => b2.block g (own_lt y1 g e))
  have B2 : Below w.heap.size w w2 := b1.trans (b2.mono b1.size)
  -- what the lists are
  have hfact : n1.length ≤ n2.length ∧ n2.length ≤ m ∧ (∀ c ∈ n1, RightE l' ∧ pOf l' c = some s ∧ c ∈ n2) ∧ (∀ c ∈ n2, RightE l' ∧ (c ∉ n1 → someB l' n1 c = true)) := by
    rcases h1 with ⟨hr, rfl⟩ | ⟨hr, rfl⟩
    · rcases h2 with ⟨_, rfl⟩ | ⟨h, _⟩
      · refine ⟨kid_few hr.2.2.1 s, by rw [← HE.out.2]; exact bel_len _ _ _, fun c hc => ⟨hr, kid_pOf hr.2.2.1 hc, kid_bel hr.2.2.1 hc⟩, fun c hc => ⟨hr, fun hn => ?_⟩⟩
        obtain ⟨d, hd, hcd⟩ := bel_parts hc hn
        exact List.any_eq_true.2 ⟨d, hd, any_mem.2 hcd⟩
      · exact absurd hr h
    · rcases h2 with ⟨h, _⟩ | ⟨_, rfl⟩
      · exact absurd h hr
      · exact ⟨by simp, by simp, fun c hc => by simp at hc, fun c hc => by simp at hc⟩
  obtain ⟨k1, hk1⟩ : ∃ k1, n1.length = k1 := ⟨_, rfl⟩
  obtain ⟨k2, hk2⟩ : ∃ k2, n2.length = k2 := ⟨_, rfl⟩
  have hk12 : k1 ≤ k2 := by rw [← hk1, ← hk2]; exact hfact.1
  have hk2m : k2 ≤ m := by rw [← hk2]; exact hfact.2.1
  have IN1 := hide fun (V : World) (hV : ∀ j, j < w2.heap.size → V.heap[j]? = w2.heap[j]?) (c : ByteArray) => in_any w.heap.size v1 n1 c V (own_same z1 (fun g e => hV g (own_lt z1 g e))) (by omega)
  have IN2 := hide fun (V : World) (hV : ∀ j, j < w2.heap.size → V.heap[j]? = w2.heap[j]?) (c : ByteArray) => in_any w1.heap.size v2 n2 c V (own_same y2 (fun g e => hV g (own_lt y2 g e))) (by omega)
  rw [hk1] at z1
  rw [hk2] at y2
  obtain ⟨ga1, gc1, rfl⟩ := own_shape z1
  obtain ⟨ga2, gc2, rfl⟩ := own_shape y2
  have HS := hide (And.intro z1 (And.intro y2 (And.intro hk1 (And.intro hk2 (And.intro hfact B2)))))
  have hk12i : (k1 : Int) ≤ k2 := by omega
  clear y1 h1 b1 h2 b2 z1 y2 hk1 hk2 hfact B2 H1 HK
  go_wp2_with fail
  go_loopw [7] (fun i wr => ∃ k : Nat, k ≤ k1 ∧ i = .int .i64 k ∧ Below w2.heap.size w2 wr) (fun i _ => k1 - (intOf i).toNat)
  case atStart => exact ⟨0, Nat.zero_le _, rfl, Below.refl _ _⟩
  case round =>
    obtain ⟨k, hk, rfl, hbw⟩ := hrel
    have hw1 : IntKind.i64.wrap ((k : Int) + 1) = k + 1 := by rw [IntKind.wrap_i64]; omega
    by_cases hlt : k < k1
    · have hlti : (k : Int) < k1 := by omega
      obtain ⟨c, hx⟩ : ∃ c, n1[k]? = some c := ⟨n1[k]'(by have := HS.out.2.2.1; omega), by simp⟩
      obtain ⟨hr, hp, hin⟩ := HS.out.2.2.2.2.1.2.2.1 c (List.mem_of_getElem? hx)
      obtain ⟨g, gc, e1, c0⟩ := row_str (own_same HS.out.1 (fun g e => hbw.block g (own_lt HS.out.1 g e))) hx
      cases e1
      have hin2 : anyB n2 c = true := any_mem.2 hin
      have hz := txt_eq (rfl : s = s)
      have BW : Below w.heap.size w wr := HS.out.2.2.2.2.2.trans (hbw.mono HS.out.2.2.2.2.2.size)
      have HQ := hide ((HP.out wr ((HE.out.1.below BW).more BW.size) c).mono (R' := fun e w' => e = .returned (.tuple #[.string s, .bool true]) ∧ Below wr.heap.size wr w') (by
        rintro e w' ⟨⟨p, _, hp', rfl⟩ | ⟨h, _⟩, b⟩
        · rw [hp] at hp'
          cases hp'
          exact ⟨rfl, b⟩
        · exact absurd ⟨hr, s, hp⟩ h))
      have HI := hide (And.intro hbw (And.intro hx hin2))
      clear hbw hx hr hp hin hin2 BW
      go_wp2_with (go_at_call 17; refine HQ.out.mono ?_; rintro e w3 ⟨rfl, b3⟩; refine stopHere ?_)
      unfold Hid
      have hb3 : Below w2.heap.size w2 w3 := HI.out.1.trans (b3.mono HI.out.1.size)
      obtain ⟨g', gc', e1, c0⟩ := row_str (own_same HS.out.1 (fun g e => hb3.block g (own_lt HS.out.1 g e))) HI.out.2.1
      cases e1
      have HN := hide (IN2.out w3 (fun j hj => hb3.block j hj) c)
      rw [HI.out.2.2] at HN
      have H3 := hide hb3
      clear hb3 b3 HQ
      go_wp2_with (go_at_call 26; refine HN.out.mono ?_; rintro e w4 ⟨rfl, hww⟩; rw [hww]; clear hww)
      exact ⟨⟨k + 1, by omega, by simp, H3.out⟩, by simp [intOf]; omega⟩
    · obtain rfl : k = k1 := by omega
      have hlti : ¬ ((k : Int) < k) := by omega
      have HI := hide hbw
      clear hbw
      go_wp2_with fail
      go_loopw [10] (fun i wx => ∃ j : Nat, j ≤ k2 ∧ i = .int .i64 j ∧ Below w2.heap.size w2 wx) (fun i _ => k2 - (intOf i).toNat)
      case atStart => exact ⟨0, Nat.zero_le _, rfl, HI.out⟩
      case round =>
        obtain ⟨j, hj, rfl, hbw⟩ := hrel
        have hw2 : IntKind.i64.wrap ((j : Int) + 1) = j + 1 := by rw [IntKind.wrap_i64]; omega
        by_cases hlt2 : j < k2
        · have hlti2 : (j : Int) < k2 := by omega
          obtain ⟨c, hx⟩ : ∃ c, n2[j]? = some c := ⟨n2[j]'(by have := HS.out.2.2.2.1; omega), by simp⟩
          obtain ⟨hr, hso⟩ := HS.out.2.2.2.2.1.2.2.2 c (List.mem_of_getElem? hx)
          obtain ⟨g, gc, e1, c0⟩ := row_str (own_same HS.out.2.1 (fun g e => hbw.block g (own_lt HS.out.2.1 g e))) hx
          cases e1
          have HN := hide (IN1.out wr (fun j hj => hbw.block j hj) c)
          cases hq : anyB n1 c with
          | true =>
            rw [hq] at HN
            have HJ := hide hbw
            clear hbw hx hr hso
            go_wp2_with (go_at_call 26; refine HN.out.mono ?_; rintro e w4 ⟨rfl, hww⟩; rw [hww]; clear hww)
            exact ⟨⟨j + 1, by omega, by simp, HJ.out⟩, by simp [intOf]; omega⟩
          | false =>
            rw [hq] at HN
            have hsm : someB l' n1 c = true := hso (fun h => by rw [any_mem.2 h] at hq; cases hq)
            have HJ := hide (And.intro hbw (And.intro hx (And.intro hr hsm)))
            clear hbw hx hr hso hsm
            go_wp2_with (go_at_call 26; refine HN.out.mono ?_; rintro e w4 ⟨rfl, hww⟩; rw [hww]; clear hww)
            go_loopw [11, 12] (fun f i wy => ∃ i' : Nat, i' ≤ k ∧ i = .int .i64 i' ∧ f = .bool (someB l' (n1.take i') c) ∧ Below w2.heap.size w2 wy) (fun _ i _ => k - (intOf i).toNat)
            case atStart => exact ⟨0, Nat.zero_le _, rfl, rfl, HJ.out.1⟩
            case round =>
              obtain ⟨i, hi, rfl, rfl, hbw⟩ := hrel
              have hw3 : IntKind.i64.wrap ((i : Int) + 1) = i + 1 := by rw [IntKind.wrap_i64]; omega
              by_cases hlt3 : i < k
              · have hlti3 : (i : Int) < k := by omega
                obtain ⟨d, hd⟩ : ∃ d, n1[i]? = some d := ⟨n1[i]'(by have := HS.out.2.2.1; omega), by simp⟩
                have hst := some_step (l := l') (c := c) hd
                cases hu : someB l' (n1.take i) c with
                | true =>
                  rw [hu, Bool.true_or] at hst
                  have HI3 := hide (And.intro hst hbw)
                  clear hst hbw hd
                  go_wp2_with fail
                  obtain ⟨V0, hV0⟩ : ∃ V0, wr.drew = V0 := ⟨_, rfl⟩
                  have B0 : Below w2.heap.size w2 V0 := by rw [← hV0]; exact HI3.out.2.drew
                  refine region_rel (S := fun W => Below V0.heap.size V0 W) (fun a W => ∃ x70 x71 x72 x73 x74 x75 x76 x77 x78 x79 x80 x81 x82 x83 : Value, Below w2.heap.size w2 W ∧ a = { tmps := #[.slice ao' m cap, .string s, undef, undef, u4, .slice ga1 k gc1, .slice (some ⟨g, 0, none⟩) k2 gc2, .int .i64 k, u8, u9, .int .i64 j, .bool true, .int .i64 i, .slice ao m0 cap, .slice ao' m cap, .slice ao' m cap, .string s, .slice ga1 k gc1, .slice ao' m cap, .string s, .slice (some ⟨g, 0, none⟩) k2 gc2, .int .i64 k, .slice ga1 k gc1, .int .i64 k, .bool false, u25, u26, u27, u28, u29, u30, u31, u32, u33, u34, u35, u36, u37, u38, u39, u40, u41, u42, u43, u44, u45, u46, u47, u48, u49, u50, u51, .int .i64 j, .slice (some ⟨g, 0, none⟩) k2 gc2, .int .i64 k2, .bool true, u56, u57, .slice ga1 k gc1, .slice (some ⟨g, 0, none⟩) k2 gc2, .int .i64 j, .pointer (some ⟨g, j, none⟩), .string c, .bool false, .int .i64 i, .slice ga1 k gc1, .int .i64 k, .bool true, u68, u69, x70, x71, x72, x73, x74, x75, x76, x77, x78, x79, x80, x81, x82, x83, u84, u85, undef, undef, undef, undef, undef, undef, undef, undef], defers := [] }) (by kernel_rfl) ?reg ?beh
                  case reg =>
                    rw [hV0]
                    have S0 : Below V0.heap.size V0 V0 := Below.refl _ _
                    refine anyH_take (i := 0) (v := .bool true) rfl (some 70) rfl (by kernel_rfl) (by kernel_rfl) (by kernel_rfl) (fun _ _ _ h => by cases h.1) rfl (fun w0 hw0 => by first | rfl | kernel_rfl) S0 ?_
                    simp only [Act.put, List.setIfInBounds_toArray, List.set_cons_zero, List.set_cons_succ]
                    refine anyH_take (i := 1) (v := .bool true) rfl (some 71) rfl (by kernel_rfl) (by kernel_rfl) (by kernel_rfl) (fun _ _ _ h => by cases h.1) rfl (fun w0 hw0 => by first | rfl | kernel_rfl) S0 ?_
                    simp only [Act.put, List.setIfInBounds_toArray, List.set_cons_zero, List.set_cons_succ]
                    refine anyH_off (i := 2) rfl (some 72) rfl (by kernel_rfl) (by kernel_rfl) (by kernel_rfl) (fun _ _ _ h => by cases h.1) rfl S0 ?_
                    simp only [Act.put, List.setIfInBounds_toArray, List.set_cons_zero, List.set_cons_succ]
                    refine anyH_off (i := 3) rfl (some 73) rfl (by kernel_rfl) (by kernel_rfl) (by kernel_rfl) (fun _ _ _ h => by cases h.1) rfl S0 ?_
                    simp only [Act.put, List.setIfInBounds_toArray, List.set_cons_zero, List.set_cons_succ]
                    refine anyH_off (i := 4) rfl (some 74) rfl (by kernel_rfl) (by kernel_rfl) (by kernel_rfl) (fun _ _ _ h => by cases h.1) rfl S0 ?_
                    simp only [Act.put, List.setIfInBounds_toArray, List.set_cons_zero, List.set_cons_succ]
                    refine anyH_off (i := 5) rfl (some 75) rfl (by kernel_rfl) (by kernel_rfl) (by kernel_rfl) (fun _ _ _ h => by cases h.1) rfl S0 ?_
                    simp only [Act.put, List.setIfInBounds_toArray, List.set_cons_zero, List.set_cons_succ]
                    refine anyH_off (i := 6) rfl (some 76) rfl (by kernel_rfl) (by kernel_rfl) (by kernel_rfl) (fun _ _ _ h => by cases h.1) rfl S0 ?_
                    simp only [Act.put, List.setIfInBounds_toArray, List.set_cons_zero, List.set_cons_succ]
                    refine anyH_off (i := 7) rfl (some 77) rfl (by kernel_rfl) (by kernel_rfl) (by kernel_rfl) (fun _ _ _ h => by cases h.1) rfl S0 ?_
                    simp only [Act.put, List.setIfInBounds_toArray, List.set_cons_zero, List.set_cons_succ]
                    refine anyH_off (i := 8) rfl (some 78) rfl (by kernel_rfl) (by kernel_rfl) (by kernel_rfl) (fun _ _ _ h => by cases h.1) rfl S0 ?_
                    simp only [Act.put, List.setIfInBounds_toArray, List.set_cons_zero, List.set_cons_succ]
                    refine anyH_off (i := 9) rfl (some 79) rfl (by kernel_rfl) (by kernel_rfl) (by kernel_rfl) (fun _ _ _ h => by cases h.1) rfl S0 ?_
                    simp only [Act.put, List.setIfInBounds_toArray, List.set_cons_zero, List.set_cons_succ]
                    refine anyH_off (i := 10) rfl (some 80) rfl (by kernel_rfl) (by kernel_rfl) (by kernel_rfl) (fun _ _ _ h => by cases h.1) rfl S0 ?_
                    simp only [Act.put, List.setIfInBounds_toArray, List.set_cons_zero, List.set_cons_succ]
                    refine anyH_off (i := 11) rfl (some 81) rfl (by kernel_rfl) (by kernel_rfl) (by kernel_rfl) (fun _ _ _ h => by cases h.1) rfl S0 ?_
                    simp only [Act.put, List.setIfInBounds_toArray, List.set_cons_zero, List.set_cons_succ]
                    refine anyH_off (i := 12) rfl (some 82) rfl (by kernel_rfl) (by kernel_rfl) (by kernel_rfl) (fun _ _ _ h => by cases h.1) rfl S0 ?_
                    simp only [Act.put, List.setIfInBounds_toArray, List.set_cons_zero, List.set_cons_succ]
                    refine anyH_take (i := 13) (v := .bool true) rfl (some 83) rfl (by kernel_rfl) (by kernel_rfl) (by kernel_rfl) (fun _ _ _ h => by cases h.1) rfl (fun w0 hw0 => ex_pickT rfl rfl rfl) S0 ?_
                    simp only [Act.put, List.setIfInBounds_toArray, List.set_cons_zero, List.set_cons_succ]
                    refine anyH_val (i := 14) (by kernel_rfl) rfl (some 11) rfl rfl (ex_any rfl rfl) S0 ?_
                    simp only [Act.put, List.setIfInBounds_toArray, List.set_cons_zero, List.set_cons_succ]
                    exact wpAnyH_done (by kernel_rfl) ⟨rfl, _, _, _, _, _, _, _, _, _, _, _, _, _, _, B0, rfl⟩ _
                  case beh =>
                    rintro a W ⟨x70, x71, x72, x73, x74, x75, x76, x77, x78, x79, x80, x81, x82, x83, y2, rfl⟩
                    have HY := hide y2
                    clear y2
                    go_wp2_with fail
                    go_roundw
                    case rel => exact ⟨i + 1, by omega, by simp, by rw [HI3.out.1], HY.out⟩
                    case measure => simp [intOf]; omega
                | false =>
                  rw [hu, Bool.false_or] at hst
                  have HI3 := hide (And.intro hst (And.intro hbw hd))
                  clear hst hbw hd
                  go_wp2_with fail
                  obtain ⟨V0, hV0⟩ : ∃ V0, wr.drew = V0 := ⟨_, rfl⟩
                  have B0 : Below w2.heap.size w2 V0 := by rw [← hV0]; exact HI3.out.2.1.drew
                  have BW : Below w.heap.size w V0 := HS.out.2.2.2.2.2.trans (B0.mono HS.out.2.2.2.2.2.size)
                  obtain ⟨g1, d1, e1, c1⟩ := row_str (own_same HS.out.1 (fun g e => B0.block g (own_lt HS.out.1 g e))) HI3.out.2.2
                  cases e1
                  obtain ⟨g2, d2, e2, c2⟩ := row_str (own_same HS.out.2.1 (fun g e => B0.block g (own_lt HS.out.2.1 g e))) HJ.out.2.1
                  cases e2
                  have hg1 : g1 < V0.heap.size := Nat.lt_of_lt_of_le (own_lt HS.out.1 g1 rfl) B0.size
                  have hg2 : g < V0.heap.size := Nat.lt_of_lt_of_le (own_lt HS.out.2.1 g rfl) B0.size
                  have HBB := hide (HB.out V0 ((HE.out.1.below BW).more BW.size) d)
                  refine region_rel (S := fun W => Below V0.heap.size V0 W) (fun a W => ∃ x70 x71 x72 x73 x74 x75 x76 x77 x78 x79 x80 x81 x82 x83 : Value, Below w2.heap.size w2 W ∧ a = { tmps := #[.slice ao' m cap, .string s, undef, undef, u4, .slice (some ⟨g1, 0, none⟩) k gc1, .slice (some ⟨g, 0, none⟩) k2 gc2, .int .i64 k, u8, u9, .int .i64 j, (.bool (anyB (belL l' d l') c)), .int .i64 i, .slice ao m0 cap, .slice ao' m cap, .slice ao' m cap, .string s, .slice (some ⟨g1, 0, none⟩) k gc1, .slice ao' m cap, .string s, .slice (some ⟨g, 0, none⟩) k2 gc2, .int .i64 k, .slice (some ⟨g1, 0, none⟩) k gc1, .int .i64 k, .bool false, u25, u26, u27, u28, u29, u30, u31, u32, u33, u34, u35, u36, u37, u38, u39, u40, u41, u42, u43, u44, u45, u46, u47, u48, u49, u50, u51, .int .i64 j, .slice (some ⟨g, 0, none⟩) k2 gc2, .int .i64 k2, .bool true, u56, u57, .slice (some ⟨g1, 0, none⟩) k gc1, .slice (some ⟨g, 0, none⟩) k2 gc2, .int .i64 j, .pointer (some ⟨g, j, none⟩), .string c, .bool false, .int .i64 i, .slice (some ⟨g1, 0, none⟩) k gc1, .int .i64 k, .bool true, u68, u69, x70, x71, x72, x73, x74, x75, x76, x77, x78, x79, x80, x81, x82, x83, u84, u85, undef, undef, undef, undef, undef, undef, undef, undef], defers := [] }) (by kernel_rfl) ?reg ?beh
                  case reg =>
                    rw [hV0]
                    have S0 : Below V0.heap.size V0 V0 := Below.refl _ _
                    refine anyH_take (i := 0) (v := .bool false) rfl (some 70) rfl (by kernel_rfl) (by kernel_rfl) (by kernel_rfl) (fun _ _ _ h => by cases h.1) rfl (fun w0 hw0 => by first | rfl | kernel_rfl) S0 ?_
                    simp only [Act.put, List.setIfInBounds_toArray, List.set_cons_zero, List.set_cons_succ]
                    refine anyH_take (i := 1) (v := .bool false) rfl (some 71) rfl (by kernel_rfl) (by kernel_rfl) (by kernel_rfl) (fun _ _ _ h => by cases h.1) rfl (fun w0 hw0 => by first | rfl | kernel_rfl) S0 ?_
                    simp only [Act.put, List.setIfInBounds_toArray, List.set_cons_zero, List.set_cons_succ]
                    refine anyH_take (i := 2) (v := .slice ao' m cap) rfl (some 72) rfl (by kernel_rfl) (by kernel_rfl) (by kernel_rfl) (fun _ _ _ h => by cases h.1) rfl (fun w0 hw0 => by first | rfl | kernel_rfl) S0 ?_
                    simp only [Act.put, List.setIfInBounds_toArray, List.set_cons_zero, List.set_cons_succ]
                    refine anyH_take (i := 3) (v := .slice (some ⟨g1, 0, none⟩) k gc1) rfl (some 73) rfl (by kernel_rfl) (by kernel_rfl) (by kernel_rfl) (fun _ _ _ h => by cases h.1) rfl (fun w0 hw0 => by first | rfl | kernel_rfl) S0 ?_
                    simp only [Act.put, List.setIfInBounds_toArray, List.set_cons_zero, List.set_cons_succ]
                    refine anyH_take (i := 4) (v := .int .i64 i) rfl (some 74) rfl (by kernel_rfl) (by kernel_rfl) (by kernel_rfl) (fun _ _ _ h => by cases h.1) rfl (fun w0 hw0 => by first | rfl | kernel_rfl) S0 ?_
                    simp only [Act.put, List.setIfInBounds_toArray, List.set_cons_zero, List.set_cons_succ]
                    refine anyH_take (i := 5) (v := .pointer (some ⟨g1, i, none⟩)) rfl (some 75) rfl (by kernel_rfl) (by kernel_rfl) (by kernel_rfl) (fun _ _ _ h => by cases h.1) rfl (fun w0 hw0 => ex_indexS rfl rfl rfl hlt3) S0 ?_
                    simp only [Act.put, List.setIfInBounds_toArray, List.set_cons_zero, List.set_cons_succ]
                    refine anyH_take (i := 6) (v := .string d) rfl (some 76) rfl (by kernel_rfl) (by kernel_rfl) (by kernel_rfl) (fun _ _ _ h => by cases h.1) rfl (fun w0 hw0 => ex_load rfl rfl (run_load_cell Try.underlying9 rfl ((hw0.cell (p := ⟨g1, _, none⟩) hg1).trans c1))) S0 ?_
                    simp only [Act.put, List.setIfInBounds_toArray, List.set_cons_zero, List.set_cons_succ]
                    refine anyH_take (i := 8) (v := .slice (some ⟨g, 0, none⟩) k2 gc2) rfl (some 78) rfl (by kernel_rfl) (by kernel_rfl) (by kernel_rfl) (fun _ _ _ h => by cases h.1) rfl (fun w0 hw0 => by first | rfl | kernel_rfl) S0 ?_
                    simp only [Act.put, List.setIfInBounds_toArray, List.set_cons_zero, List.set_cons_succ]
                    refine anyH_take (i := 9) (v := .int .i64 j) rfl (some 79) rfl (by kernel_rfl) (by kernel_rfl) (by kernel_rfl) (fun _ _ _ h => by cases h.1) rfl (fun w0 hw0 => by first | rfl | kernel_rfl) S0 ?_
                    simp only [Act.put, List.setIfInBounds_toArray, List.set_cons_zero, List.set_cons_succ]
                    refine anyH_take (i := 10) (v := .pointer (some ⟨g, j, none⟩)) rfl (some 80) rfl (by kernel_rfl) (by kernel_rfl) (by kernel_rfl) (fun _ _ _ h => by cases h.1) rfl (fun w0 hw0 => ex_indexS rfl rfl rfl hlt2) S0 ?_
                    simp only [Act.put, List.setIfInBounds_toArray, List.set_cons_zero, List.set_cons_succ]
                    refine anyH_take (i := 11) (v := .string c) rfl (some 81) rfl (by kernel_rfl) (by kernel_rfl) (by kernel_rfl) (fun _ _ _ h => by cases h.1) rfl (fun w0 hw0 => ex_load rfl rfl (run_load_cell Try.underlying9 rfl ((hw0.cell (p := ⟨g, _, none⟩) hg2).trans c2))) S0 ?_
                    simp only [Act.put, List.setIfInBounds_toArray, List.set_cons_zero, List.set_cons_succ]
                    refine anyH_one (i := 7) (by kernel_rfl) ?_
                    refine op_call rfl (some 77) rfl rfl #[.slice ao' m cap, .string d] rfl (by simp [Act.eval]) (fun _ _ => rfl) HBB.out ?_
                    rintro e V1 ⟨v, ns, rfl, y1, h1, b1⟩
                    refine ⟨_, rfl, b1, ?_⟩
                    simp only [Act.put, List.setIfInBounds_toArray, List.set_cons_zero, List.set_cons_succ]
                    have hns : ns = belL l' d l' := by
                      rcases h1 with ⟨_, h⟩ | ⟨h, _⟩
                      · exact h
                      · exact absurd HJ.out.2.2.1 h
                    subst hns
                    refine anyH_one (i := 12) (by kernel_rfl) ?_
                    refine op_call rfl (some 82) rfl rfl #[v, .string c] rfl (by simp [Act.eval]) (fun _ _ => rfl) (in_any V0.heap.size v _ c V1 y1 (Nat.le_trans (bel_len _ _ _) HE.out.1.1)) ?_
                    rintro e V2 ⟨rfl, rfl⟩
                    refine ⟨_, rfl, b1, ?_⟩
                    simp only [Act.put, List.setIfInBounds_toArray, List.set_cons_zero, List.set_cons_succ]
                    refine anyH_val (i := 13) (by kernel_rfl) rfl (some 83) rfl rfl (ex_pickF rfl rfl rfl) b1 ?_
                    simp only [Act.put, List.setIfInBounds_toArray, List.set_cons_zero, List.set_cons_succ]
                    refine anyH_val (i := 14) (by kernel_rfl) rfl (some 11) rfl rfl (ex_any rfl rfl) b1 ?_
                    simp only [Act.put, List.setIfInBounds_toArray, List.set_cons_zero, List.set_cons_succ]
                    exact wpAnyH_done (by kernel_rfl) ⟨rfl, _, _, _, _, _, _, _, _, _, _, _, _, _, _, B0.trans (b1.mono B0.size), rfl⟩ _
                  case beh =>
                    rintro a W ⟨x70, x71, x72, x73, x74, x75, x76, x77, x78, x79, x80, x81, x82, x83, y2, rfl⟩
                    have HY := hide y2
                    clear y2
                    go_wp2_with fail
                    go_roundw
                    case rel => exact ⟨i + 1, by omega, by simp, by rw [HI3.out.1], HY.out⟩
                    case measure => simp [intOf]; omega
              · obtain rfl : i = k := by omega
                have hlti3 : ¬ ((i : Int) < i) := by omega
                rw [List.take_of_length_le (by have := HS.out.2.2.1; omega), HJ.out.2.2.2]
                have HI3 := hide hbw
                clear hbw
                go_wp2_with fail
                go_roundw
                case rel => exact ⟨j + 1, by omega, by simp, HI3.out⟩
                case measure => simp [intOf]; omega
        · obtain rfl : j = k2 := by omega
          have hlti2 : ¬ ((j : Int) < j) := by omega
          have HJ := hide hbw
          clear hbw
          go_wp2_with (go_at_call 13; refine (HLV.out _).mono ?_; rintro e w5 ⟨rfl, b5⟩)
          go_ret
          have B5 : Below w2.heap.size w2 w5 := HJ.out.trans (b5.mono HJ.out.size)
          exact ⟨rfl, HS.out.2.2.2.2.2.trans (B5.mono HS.out.2.2.2.2.2.size)⟩
end Go.Proofs.Ytlafjddidlofcaa
