/- Edges that were answered; few; live. -/
import Derived.Test.YtffjmkngdjbjlaaC10
namespace Go.Proofs.Ytffjmkngdjbjlaa
open Go.RowKit Go.Shelf

theorem edC_get : ∀ (l : List Pr) (k : Nat) (x : Pr), l[k]? = some x → (edC l)[k * 2]? = some (.string x.1) ∧ (edC l)[k * 2 + 1]? = some (.string x.2)
  | [], k, x, h => by simp at h
  | y :: l, 0, x, h => by
    simp at h
    subst h
    exact ⟨rfl, rfl⟩
  | y :: l, k + 1, x, h => by
    have ih := edC_get l k x (by simpa using h)
    have e : edC (y :: l) = .string y.1 :: .string y.2 :: edC l := rfl
    rw [e, show (k + 1) * 2 = k * 2 + 1 + 1 by omega]
    simpa using ih
theorem ed_own {W : World} {base : Nat} {v : Value} {ns : List Pr} (h : W.ownsRow base 71 2 v ns.length (edC ns)) (hl : ns.length ≤ 1000000) : ∃ ao cap, v = .slice ao ns.length cap ∧ EdMem W.heap.size W ao ns ∧ ns.length ≤ cap ∧ cap ≤ maxLen := by
  obtain ⟨h1, ⟨rfl, h2⟩ | ⟨g, cap, cur, rfl, x1, x2, x3, x4, x5, x6⟩⟩ := h
  · obtain rfl : ns = [] := List.length_eq_zero_iff.1 h2
    exact ⟨none, 0, rfl, ⟨by simp, fun k x hk => by simp at hk⟩, by simp, by simp⟩
  · refine ⟨_, cap, rfl, ⟨hl, fun k x hk => ?_⟩, x3, x4⟩
    have hlt := (List.getElem?_eq_some_iff.1 hk).1
    obtain ⟨e0, e1⟩ := edC_get ns k x hk
    rw [← x6, List.getElem?_take_of_lt (by omega)] at e0 e1
    refine ⟨g, 0, rfl, hp_lt x2, ?_, ?_⟩
    · rw [cell_of_row W g _ _ _ _ x2, Nat.zero_add]
      simpa using e0
    · rw [cell_of_row W g _ _ _ _ x2, Nat.zero_add]
      simpa using e1
/-- Edges that are handed in, however many. -/
def EdArg (n₀ : Nat) (w : World) (ao : Option Addr) (l : List Pr) : Prop := ∀ k x, l[k]? = some x → ∃ b off, ao = some ⟨b, off, none⟩ ∧ b < n₀ ∧ w.cell? ⟨b, off + k * 2, none⟩ = some (.string x.1) ∧ w.cell? ⟨b, off + k * 2 + 1, none⟩ = some (.string x.2)
def sA : ByteArray := ⟨#[97]⟩
def sB : ByteArray := ⟨#[98]⟩
theorem right_nil : RightE [] := ⟨by simp, fun x hx => by simp at hx, List.Pairwise.nil, fun ⟨x, hx, _⟩ => by simp at hx⟩
theorem ne_ab : sA ≠ sB := by decide
theorem pOf_one : pOf [(sA, sB)] sA = some sB := by simp [pOf]
theorem chain_one : chain [(sA, sB)] 1 sA = [sB] := by rw [chain_some pOf_one]; rfl
theorem right_one : RightE [(sA, sB)] := by
  refine ⟨by simp, fun x hx => ?_, List.pairwise_singleton _ _, fun ⟨x, hx, hc⟩ => ?_⟩
  · simp at hx
    subst hx
    exact ⟨by rw [Lib.toList_data]; rfl, by rw [Lib.toList_data]; rfl⟩
  · simp at hx
    subst hx
    rw [show ([(sA, sB)] : List Pr).length = 1 from rfl, chain_one] at hc
    simp at hc
    exact ne_ab hc
theorem isE_a : sA.toList.isEmpty = false := by rw [Lib.toList_data]; rfl
theorem isE_b : sB.toList.isEmpty = false := by rw [Lib.toList_data]; rfl
theorem add_first {n : Int} {ns : List Pr} (h : AddR [] sA sB n ns) : n = 0 ∧ ns = [(sA, sB)] := by
  have hb : ¬ AddBad [] sA sB := fun h => by
    rcases h with h | h | h
    · exact h right_nil
    · rw [isE_a] at h; cases h
    · rw [isE_b] at h; cases h
  have hc : ¬ AddCyc [] sA sB := fun h => by
    rcases h with h | h
    · exact ne_ab h
    · simp [chain] at h
  rcases h with ⟨h, _⟩ | ⟨_, h, _⟩ | ⟨_, _, _, h, _⟩ | ⟨_, _, hn, k, hk, h⟩
  · exact absurd h hb
  · exact absurd h hc
  · simp at h
  · have hk0 : k = 0 := by have := hk.le; simpa using this
    subst hk0
    rcases h with ⟨x, hx, _⟩ | ⟨_, _, h⟩
    · simp at hx
    · exact ⟨hn, by simpa using h⟩
theorem add_second {n : Int} {ns : List Pr} (h : AddR [(sA, sB)] sB sA n ns) : n = 9 := by
  have hb : ¬ AddBad [(sA, sB)] sB sA := fun h => by
    rcases h with h | h | h
    · exact h right_one
    · rw [isE_b] at h; cases h
    · rw [isE_a] at h; cases h
  have hc : AddCyc [(sA, sB)] sB sA := .inr (by rw [show ([(sA, sB)] : List Pr).length = 1 from rfl, chain_one]; simp)
  rcases h with ⟨h, _⟩ | ⟨_, _, h, _⟩ | ⟨_, h, _⟩ | ⟨_, h, _⟩
  · exact absurd h hb
  · exact h
  · exact absurd hc h
  · exact absurd hc h
set_option maxRecDepth 100000 in
set_option maxHeartbeats 4000000 in
theorem live_any (w : World) : Calls Try.prog 5 #[] w fun e w' => e = .returned (.bool true) ∧ Below w.heap.size w w' := by
  have HA := hide (add_any none 0 [] sA sB w ⟨by simp, fun k x h => by simp at h⟩ (by simp) (by simp))
  rw [show ([] : List Pr).length = 0 from rfl] at HA
  unfold sA sB at HA
  go_enter Try.func5, Try.ntmps5
  go_wp2_with fail
  refine HA.out.mono ?_
  rintro e w1 ⟨v, n, ns, rfl, y1, hr, b1⟩
  obtain ⟨rfl, rfl⟩ := add_first hr
  obtain ⟨ao, cap, rfl, hE, hc1, hc2⟩ := ed_own y1 (by simp)
  have h1 : ([(sA, sB)] : List Pr).length = 1 := rfl
  have HS := hide (add_any ao cap [(sA, sB)] sB sA w1 hE hc1 hc2)
  have HE := hide (And.intro hE b1)
  rw [h1] at HS ⊢
  unfold sA sB at HS
  clear y1 hr hE b1 HA
  go_wp2_with fail
  refine HS.out.mono ?_
  rintro e w2 ⟨v2, n2, ns2, rfl, y2, hr2, b2⟩
  obtain rfl := add_second hr2
  obtain ⟨ga2, gc2, rfl⟩ := own_shape y2
  have HP := hide (parent_any ao cap [(sA, sB)] sA w2 ((HE.out.1.below b2).more b2.size))
  have H2 := hide b2
  rw [h1] at HP
  unfold sA sB at HP
  clear y2 hr2 HS b2
  go_wp2_with fail
  refine HP.out.mono ?_
  rintro e w3 ⟨h, b3⟩
  have h3 : e = .returned (.tuple #[.string ⟨#[98]⟩, .bool true]) := by
    rcases h with ⟨p, _, hp, rfl⟩ | ⟨h, _⟩
    · have : pOf [(sA, sB)] sA = some p := hp
      rw [pOf_one] at this
      cases this
      rfl
    · exact absurd ⟨right_one, sB, pOf_one⟩ h
  subst h3
  clear h
  have B3 : Below w1.heap.size w1 w3 := H2.out.trans (b3.mono H2.out.size)
  have HR := hide (right_any ao cap [(sA, sB)] w3 ((HE.out.1.below B3).more B3.size))
  have H3 := hide B3
  rw [h1] at HR
  clear B3 b3 HP
  go_wp2_with fail
  refine HR.out.mono ?_
  rintro e w4 ⟨h, b4⟩
  have h4 : e = .returned (.bool true) := by
    rcases h with ⟨_, rfl⟩ | ⟨h, _⟩
    · rfl
    · exact absurd right_one h
  subst h4
  clear h
  have B4 : Below w1.heap.size w1 w4 := H3.out.trans (b4.mono H3.out.size)
  have HV := hide (above_any ao cap [(sA, sB)] sA w4 ((HE.out.1.below B4).more B4.size))
  have H4 := hide B4
  rw [h1] at HV
  unfold sA sB at HV
  clear B4 b4 HR
  go_wp2_with fail
  refine HV.out.mono ?_
  rintro e w5 ⟨v5, ns5, rfl, y5, h, b5⟩
  have h5 : ns5 = [sB] := by
    rcases h with ⟨_, rfl⟩ | ⟨h, _⟩
    · exact chain_one
    · exact absurd right_one h
  subst h5
  obtain ⟨ga5, gc5, rfl⟩ := own_shape y5
  rw [show ([sB] : List ByteArray).length = 1 from rfl]
  have H5 := hide (HE.out.2.trans ((H4.out.trans (b5.mono H4.out.size)).mono HE.out.2.size))
  clear h y5 b5 HV
  go_wp2_with fail
  go_ret
  exact ⟨rfl, H5.out⟩
end Go.Proofs.Ytffjmkngdjbjlaa
