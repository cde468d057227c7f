/- CollectLooks. -/
import Derived.Test.YtlafjddidlofcaaC16
import Derived.Test.YtlafjddidlofcaaCS
namespace Go.Proofs.Ytlafjddidlofcaa
open Go.RowKit Go.Shelf

/-- What Parent answers. -/
def parV (l : List Pr) (s : ByteArray) (p : ByteArray) (b : Bool) : Prop := (b = true ∧ RightE l ∧ pOf l s = some p) ∨ (b = false ∧ ¬ (RightE l ∧ ∃ p, pOf l s = some p) ∧ p = ⟨#[]⟩)
theorem parV_one {l : List Pr} {s p q : ByteArray} {b c : Bool} (h : parV l s p b) (k : parV l s q c) : p = q ∧ b = c := by
  rcases h with ⟨rfl, h1, h2⟩ | ⟨rfl, h1, rfl⟩
  · rcases k with ⟨rfl, k1, k2⟩ | ⟨rfl, k1, _⟩
    · rw [h2] at k2
      cases k2
      exact ⟨rfl, rfl⟩
    · exact absurd ⟨h1, p, h2⟩ k1
  · rcases k with ⟨rfl, k1, k2⟩ | ⟨rfl, k1, rfl⟩
    · exact absurd ⟨k1, q, k2⟩ h1
    · exact ⟨rfl, rfl⟩
theorem parent_v (ao : Option Addr) (cap : Nat) (l : List Pr) (s : ByteArray) (w : World) (hm : EdMem w.heap.size w ao l) : Calls Try.prog 17 #[.slice ao l.length cap, .string s] w fun e w' => (∃ p b, parV l s p b ∧ e = .returned (.tuple #[.string p, .bool b])) ∧ Below w.heap.size w w' := by
  refine (parent_any ao cap l s w hm).mono ?_
  rintro e w' ⟨⟨p, h1, h2, rfl⟩ | ⟨h1, rfl⟩, b⟩
  · exact ⟨⟨p, true, .inl ⟨rfl, h1, h2⟩, rfl⟩, b⟩
  · exact ⟨⟨_, false, .inr ⟨rfl, h1, rfl⟩, rfl⟩, b⟩
theorem rParent_v {l : List Pr} {s p : ByteArray} {b : Bool} (ao : Option Addr) (cap : Nat) (w : World) (hm : EdMem w.heap.size w ao l) (hp : parV l s p b) : Calls Try.prog 18 #[.slice ao l.length cap, .string s] w fun e w' => e = .returned (.tuple #[.string p, .bool b]) ∧ Below w.heap.size w w' := by
  refine (rParent_any ao cap l s w hm).mono ?_
  rintro e w' ⟨⟨q, h1, h2, rfl⟩ | ⟨h1, rfl⟩, bb⟩
  · obtain ⟨rfl, rfl⟩ := parV_one hp (.inl ⟨rfl, h1, h2⟩)
    exact ⟨rfl, bb⟩
  · obtain ⟨rfl, rfl⟩ := parV_one hp (.inr ⟨rfl, h1, rfl⟩)
    exact ⟨rfl, bb⟩
/-- What is answered of names: the same list each time. -/
def ListV (l : List Pr) (L ns : List ByteArray) : Prop := (RightE l ∧ ns = L) ∨ (¬ RightE l ∧ ns = [])
theorem listV_one {l : List Pr} {L a b : List ByteArray} (h : ListV l L a) (k : ListV l L b) : a = b := by
  rcases h with ⟨h1, rfl⟩ | ⟨h1, rfl⟩
  · rcases k with ⟨_, rfl⟩ | ⟨k1, _⟩
    · rfl
    · exact absurd h1 k1
  · rcases k with ⟨k1, _⟩ | ⟨_, rfl⟩
    · exact absurd k1 h1
    · rfl
theorem listV_len {l : List Pr} {L a : List ByteArray} (h : ListV l L a) (hl : L.length ≤ 1000000) : a.length ≤ 1000000 := by
  rcases h with ⟨_, rfl⟩ | ⟨_, rfl⟩
  · exact hl
  · simp
/-- A list by the program and by the document, held against each other. -/
theorem names_agree {w0 w1 w2 : World} {l : List Pr} {L n1 n2 : List ByteArray} {v1 v2 : Value} (y1 : w1.ownsRow w0.heap.size 9 1 v1 n1.length (strC n1)) (h1 : ListV l L n1) (y2 : w2.ownsRow w1.heap.size 9 1 v2 n2.length (strC n2)) (h2 : ListV l L n2) (b2 : Below w1.heap.size w1 w2) (hl : L.length ≤ 1000000) :
    Calls Try.prog 19 #[v1, v2] w2 fun e w' => e = .returned (.bool true) ∧ Below w2.heap.size w2 w' := by
  obtain rfl := listV_one h1 h2
  exact nsame_any w0.heap.size w1.heap.size v1 v2 n1 w2 (own_same y1 (fun g e => b2.block g (own_lt y1 g e))) y2 (listV_len h1 hl)
set_option maxRecDepth 100000 in
set_option maxHeartbeats 8000000 in
theorem collectLooks_any (ao : Option Addr) (cap : Nat) (l : List Pr) (s : ByteArray) (w : World) (hm : EdArg w.heap.size w ao l) (hcap : l.length ≤ cap) :
    Calls Try.prog 4 #[.slice ao l.length cap, .string s] w fun e w' => e = .returned (.bool true) ∧ Below w.heap.size w w' := by
  have HF := hide (few_any ao cap l w hm hcap)
  have HLV := hide fun V => live_any V
  clear hm
  obtain ⟨m0, hm0⟩ : ∃ m0, l.length = m0 := ⟨_, rfl⟩
  rw [hm0] at HF ⊢
  clear hm0 hcap
  go_enter Try.func4, Try.ntmps4
  go_wp2_with (go_at_call 8; refine HF.out.mono ?_; rintro e w0 ⟨⟨ao', l', rfl, hE, hc⟩, hw0⟩; rw [hw0]; clear hw0; refine stopHere ?_)
  unfold Hid
  clear HF hc
  obtain ⟨m, hml⟩ : ∃ m, l'.length = m := ⟨_, rfl⟩
  have HE := hide (And.intro hE hml)
  have hl6 := hE.1
  have HP := hide fun (V : World) (hV : EdMem V.heap.size V ao' l') => parent_v ao' cap l' s V hV
  have HQ := hide fun (V : World) (hV : EdMem V.heap.size V ao' l') (p : ByteArray) (b : Bool) (hp : parV l' s p b) => rParent_v ao' cap V hV hp
  have HK := hide fun (V : World) (hV : EdMem V.heap.size V ao' l') => kids_any ao' cap l' s V hV
  have HK2 := hide fun (V : World) (hV : EdMem V.heap.size V ao' l') => rKids_any ao' cap l' s V hV
  have HA := hide fun (V : World) (hV : EdMem V.heap.size V ao' l') => above_any ao' cap l' s V hV
  have HA2 := hide fun (V : World) (hV : EdMem V.heap.size V ao' l') => rAbove_any ao' cap l' s V hV
  have HB := hide fun (V : World) (hV : EdMem V.heap.size V ao' l') => below_any ao' cap l' s V hV
  have HB2 := hide fun (V : World) (hV : EdMem V.heap.size V ao' l') => rBelow_any ao' cap l' s V hV
  rw [hml] at HP HQ HK HK2 HA HA2 HB HB2 hl6 ⊢
  have hk6 : (kidL s l').length ≤ 1000000 := Nat.le_trans (kid_len _ _) (by omega)
  have ha6 : (aboveL l' s).length ≤ 1000000 := Nat.le_trans (chain_len _ _ _) (by omega)
  have hb6 : (belL l' s l').length ≤ 1000000 := Nat.le_trans (bel_len _ _ _) (by omega)
  have HL := hide (And.intro hk6 (And.intro ha6 hb6))
  clear hE hml hk6 ha6 hb6
  go_wp2_with (first
    | (go_at_call 17; refine (HP.out w HE.out.1).mono ?_; rintro e w1 ⟨⟨p, b, hp, rfl⟩, b1⟩; have HPB := hide hp; have H1 := hide b1; have hz := txt_eq (rfl : p = p); clear hp b1)
    | (go_at_call 18; refine (HQ.out w1 ((HE.out.1.below H1.out).more H1.out.size) p b HPB.out).mono ?_; rintro e w2 ⟨rfl, b2⟩; have H2 := hide (H1.out.trans (b2.mono H1.out.size)); clear b2 H1)
    | (go_at_call 13; refine (HLV.out _).mono ?_; rintro e w3 ⟨rfl, b3⟩; have H3 := hide (H2.out.trans (b3.mono H2.out.size)); clear b3 H2; have hbb : (b == b) = true := by simp)
    | (go_at_call 20; refine (HK.out w3 ((HE.out.1.below H3.out).more H3.out.size)).mono ?_; rintro e w4 ⟨v4, n4, rfl, y4, h4, b4⟩; have H4 := hide (H3.out.trans (b4.mono H3.out.size)); have HY4 := hide (And.intro y4 h4); clear b4 y4 h4)
    | (go_at_call 21; refine (HK2.out w4 ((HE.out.1.below H4.out).more H4.out.size)).mono ?_; rintro e w5 ⟨v5, n5, rfl, y5, h5, b5⟩; have H5 := hide (H4.out.trans (b5.mono H4.out.size)); have HS := hide (names_agree HY4.out.1 HY4.out.2 y5 h5 b5 HL.out.1); clear b5 y5 h5 H4 HY4 HK HK2)
    | (go_at_call 19; refine HS.out.mono ?_; rintro e w6 ⟨rfl, b6⟩; have H6 := hide (H5.out.trans (b6.mono H5.out.size)); clear b6 HS; refine stopHere ?_))
  unfold Hid
  clear H5 H3
  go_wp2_with (first
    | (go_at_call 22; refine (HA.out w6 ((HE.out.1.below H6.out).more H6.out.size)).mono ?_; rintro e w7 ⟨v7, n7, rfl, y7, h7, b7⟩; have H7 := hide (H6.out.trans (b7.mono H6.out.size)); have HY7 := hide (And.intro y7 h7); clear b7 y7 h7)
    | (go_at_call 23; refine (HA2.out w7 ((HE.out.1.below H7.out).more H7.out.size)).mono ?_; rintro e w8 ⟨v8, n8, rfl, y8, h8, b8⟩; have H8 := hide (H7.out.trans (b8.mono H7.out.size)); have HS := hide (names_agree HY7.out.1 HY7.out.2 y8 h8 b8 HL.out.2.1); clear b8 y8 h8 H7 HY7)
    | (go_at_call 19; refine HS.out.mono ?_; rintro e w9 ⟨rfl, b9⟩; have H9 := hide (H8.out.trans (b9.mono H8.out.size)); clear b9 HS; refine stopHere ?_))
  unfold Hid
  go_wp2_with (first
    | (go_at_call 24; refine (HB.out w9 ((HE.out.1.below H9.out).more H9.out.size)).mono ?_; rintro e w10 ⟨v10, n10, rfl, y10, h10, b10⟩; have H10 := hide (H9.out.trans (b10.mono H9.out.size)); have HY10 := hide (And.intro y10 h10); clear b10 y10 h10)
    | (go_at_call 25; refine (HB2.out w10 ((HE.out.1.below H10.out).more H10.out.size)).mono ?_; rintro e w11 ⟨v11, n11, rfl, y11, h11, b11⟩; have H11 := hide (H10.out.trans (b11.mono H10.out.size)); have HS := hide (names_agree HY10.out.1 HY10.out.2 y11 h11 b11 HL.out.2.2); clear b11 y11 h11 H10 HY10)
    | (go_at_call 19; refine HS.out.mono ?_; rintro e w12 ⟨rfl, b12⟩; have H12 := hide (H11.out.trans (b12.mono H11.out.size)); clear b12 HS))
  go_ret
  exact ⟨rfl, H12.out⟩
end Go.Proofs.Ytlafjddidlofcaa
