/- What every law of the layer write asks first: live. -/
import Derived.Test.YthmidlmknkbdaaaDoorPrint
import Derived.Test.YthmidlmknkbdaaaDoorElem
namespace Go.Proofs.YthmidlmknkbdaaaDoor
open Go.RowKit

abbrev sA : ByteArray := ⟨#[97]⟩
abbrev sB : ByteArray := ⟨#[98]⟩
abbrev sLt : ByteArray := ⟨#[60]⟩
abbrev sX : ByteArray := ⟨#[120]⟩
def live1 : List Tok := elemT sA [] []
def live2 : List Tok := elemT sA [(sB, sLt)] [⟨3, ⟨#[]⟩, [], sX⟩]
theorem print1 : printT live1 = [60, 97, 47, 62] := by rfl
theorem print2 : printT live2 = [60, 97, 32, 98, 61, 39, 38, 108, 116, 59, 39, 62, 120, 60, 47, 97, 62] := by rfl
theorem nameOk_one (b : UInt8) (h : IsB b.toNat) : NameOk ⟨#[b]⟩ := by
  refine ⟨Nat.le_refl 1, (by show 1 ≤ 32; decide), fun j hj => ?_⟩
  have : j = 0 := by have : (⟨#[b]⟩ : ByteArray).size = 1 := rfl; omega
  subst this
  exact .inl h
theorem small_one (b : UInt8) (h : CharsOk [b]) : SmallT ⟨#[b]⟩ := ⟨(by show 1 ≤ 512; decide), h⟩
theorem chars_one (b : UInt8) (hv : Lib.validD [b] = true) (hd : Lib.decodeL [b] = (b.toNat, 1)) (h32 : 32 ≤ b.toNat) (h : b.toNat < 128) : CharsOk [b] := by
  refine ⟨hv, (runes_step [b] (by simp)).2 ?_⟩
  rw [hd]
  exact ⟨.inr (.inr (.inr ⟨h32, (by show b.toNat ≠ _; omega), (by show b.toNat ≠ _; omega)⟩)), by simpa using runes_nil⟩
theorem chars_lt : CharsOk [60] := chars_one 60 rfl rfl (by decide) (by decide)
theorem chars_x : CharsOk [120] := chars_one 120 rfl rfl (by decide) (by decide)
theorem right1 : RightT live1 := by
  refine ⟨by decide, fun k t hk => ?_, by rfl⟩
  match k, hk with
  | 0, hk => cases hk; exact .inl ⟨rfl, by decide, nameOk_one 97 (by unfold IsB; decide), rfl, by decide, fun i a h => by simp at h⟩
  | 1, hk => cases hk; exact .inr (.inl ⟨rfl, by decide, rfl, rfl, rfl⟩)
  | k + 2, hk => simp [live1, elemT] at hk

theorem right2 : RightT live2 := by
  refine ⟨by decide, fun k t hk => ?_, by rfl⟩
  match k, hk with
  | 0, hk =>
    cases hk
    refine .inl ⟨rfl, by decide, nameOk_one 97 (by unfold IsB; decide), rfl, by decide, fun i a h => ?_⟩
    match i, h with
    | 0, h => cases h; exact ⟨rfl, nameOk_one 98 (by unfold IsB; decide), small_one 60 chars_lt⟩
    | i + 1, h => simp at h
  | 1, hk => cases hk; exact .inr (.inr ⟨rfl, by decide, by decide, by decide, small_one 120 chars_x, rfl, rfl⟩)
  | 2, hk => cases hk; exact .inr (.inl ⟨rfl, by decide, rfl, rfl, rfl⟩)
  | k + 3, hk => simp [live2, elemT] at hk

/-- An element's tokens, printed: where they are right. -/
theorem printed {base : Nat} {W : World} {v : Value} {l : List TokV} (ts : List Tok) (hl : l.map (·.1) = ts) (hE : ElRow base W v l) (hR : RightT ts) (hU : Tabs W) (hL : EntLaid W) :
    Calls Tryd.prog 6 #[v] W fun e w' => e = .returned (.tuple #[.string ⟨(printT ts).toArray⟩, .int .i64 0]) ∧ Below W.heap.size W w' := by
  have hlen : l.length = ts.length := by rw [← hl]; simp
  obtain ⟨ao, cap, rfl, hT⟩ := tokMem_own hE (by have := hR.1; omega)
  rw [hl] at hT
  rw [hlen]
  refine (print_any ao cap ts _ W hT hU hL).mono ?_
  rintro e w' ⟨⟨_, rfl⟩ | ⟨h, _⟩, hb⟩
  · exact ⟨rfl, hb⟩
  · exact absurd hR h

set_option maxRecDepth 100000 in
set_option maxHeartbeats 4000000 in
theorem live4_any (w : World) (hU : Tabs w) (hl : EntLaid w) : Calls Tryd.prog 8 #[] w fun e w' => e = .returned (.bool true) ∧ Below w.heap.size w w' := by
  have HU := hide hU
  have HL := hide hl
  clear hU hl
  go_enter Tryd.func8, Tryd.ntmps8
  go_wp2_with fail
  refine (element_row sA none 0 [] none 0 [] (fun _ => (none, 0)) w (by show 1 ≤ _; decide) ⟨by simp, by simp, by simp⟩ ⟨by simp, by simp⟩ (by simp)).mono ?_
  rintro e w1 ⟨v1, l1, rfl, hl1, hE1, hb1⟩
  have hp1 := printed live1 hl1 hE1 right1 (tabs_below HU.out hb1) (HL.out.below hb1 HL.out.size)
  rw [print1] at hp1
  have HP1 := hide hp1
  have HB1 := hide hb1
  clear hp1 hE1 hb1 hl1
  go_wp2_with fail
  refine HP1.out.mono ?_
  rintro e w2 ⟨rfl, hb2⟩
  have HB2 := hide (HB1.out.trans (hb2.mono HB1.out.size))
  clear hb2
  go_wp2_with fail
  obtain ⟨W3, hW3⟩ : ∃ W3, ((w2.alloc (.cells #[.string sB, .string sLt] 65)).alloc (.cells #[.int .u8 3, .string ⟨#[]⟩, .slice none 0 0, .string sX] 55)) = W3 := ⟨_, rfl⟩
  have z3 : W3.heap.size = w2.heap.size + 2 := by rw [← hW3]; simp
  have g0 : W3.heap[w2.heap.size]? = some (.cells #[.string sB, .string sLt] 65) := by rw [← hW3]; exact (Below.heap_alloc _ _ _ (by simp)).trans (World.alloc_heap_new w2 _)
  have g1 : W3.heap[w2.heap.size + 1]? = some (.cells #[.int .u8 3, .string ⟨#[]⟩, .slice none 0 0, .string sX] 55) := by
    rw [← hW3]
    have h := World.alloc_heap_new (w2.alloc (.cells #[.string sB, .string sLt] 65)) (.cells #[.int .u8 3, .string ⟨#[]⟩, .slice none 0 0, .string sX] 55)
    rwa [World.size_alloc] at h
  have hb3 : Below w.heap.size w W3 := by rw [← hW3]; exact (HB2.out.alloc HB2.out.size _).alloc (by have := HB2.out.size; simp; omega) _
  rw [hW3]
  have hA : AttrMem W3.heap.size W3 (some ⟨w2.heap.size, 0, none⟩) [(sB, sLt)] := by
    refine ⟨by simp, fun a ha => ?_, fun j a hj => ?_⟩
    · simp at ha
      subst ha
      exact ⟨by show 1 ≤ _; decide, by show 1 ≤ _; decide⟩
    · match j, hj with
      | 0, hj => cases hj; exact ⟨_, _, rfl, by omega, by simp [World.cell?, g0], by simp [World.cell?, g0]⟩
      | j + 1, hj => simp at hj
  have hT : TokMem W3.heap.size W3 (some ⟨w2.heap.size + 1, 0, none⟩) [⟨3, ⟨#[]⟩, [], sX⟩] (fun _ => (none, 0)) := by
    refine ⟨by simp, fun k t hk => ?_⟩
    match k, hk with
    | 0, hk => cases hk; exact ⟨by simp, Nat.zero_le _, by show 1 ≤ _; decide, ⟨by simp, by simp, by simp⟩, by simp, _, _, rfl, by omega, by simp [World.cell?, g1], by simp [World.cell?, g1], by simp [World.cell?, g1], by simp [World.cell?, g1]⟩
    | k + 1, hk => simp at hk
  refine (element_row sA (some ⟨w2.heap.size, 0, none⟩) 1 [(sB, sLt)] (some ⟨w2.heap.size + 1, 0, none⟩) 1 [⟨3, ⟨#[]⟩, [], sX⟩] (fun _ => (none, 0)) W3 (by show 1 ≤ _; decide) hA hT (by simp)).mono ?_
  rintro e w4 ⟨v4, l4, rfl, hl4, hE4, hb4⟩
  have hb04 : Below w.heap.size w w4 := hb3.trans (hb4.mono hb3.size)
  have hp4 := printed live2 hl4 hE4 right2 (tabs_below HU.out hb04) (HL.out.below hb04 HL.out.size)
  rw [print2] at hp4
  have HP4 := hide hp4
  have HB4 := hide hb04
  clear hp4 hE4 hb4 hl4 hA hT g0 g1 hW3 hb04
  go_wp2_with fail
  refine HP4.out.mono ?_
  rintro e w5 ⟨rfl, hb5⟩
  have HB5 := hide (HB4.out.trans (hb5.mono HB4.out.size))
  clear hb5
  go_wp2_with fail
  go_ret
  exact ⟨rfl, HB5.out⟩
end Go.Proofs.YthmidlmknkbdaaaDoor
