/- What every law of the layer write asks first: live. -/
import Derived.Test.YthflpcfpfdmaeaaDoorPrint
import Derived.Test.YthflpcfpfdmaeaaDoorElem
namespace Go.Proofs.YthflpcfpfdmaeaaDoor
open Go.RowKit

abbrev sA : ByteArray := ⟨#[97]⟩
abbrev sB : ByteArray := ⟨#[98]⟩
abbrev sLt : ByteArray := ⟨#[60]⟩
abbrev sX : ByteArray := ⟨#[120]⟩
def live1 : List Tok := elemT sA [] []
def live2 : List Tok := elemT sA [(sB, sLt)] [⟨3, ⟨#[]⟩, [], sX⟩]
theorem print1 : printT live1 = [60, 97, 47, 62] := by rfl
theorem print2 : printT live2 = [60, 97, 32, 98, 61, 39, 38, 108, 116, 59, 39, 62, 120, 60, 47, 97, 62] := by rfl
theorem nameOk_one (b : UInt8) (h : IsB b.toNat) : NameOk ⟨#[b]⟩ := by
  refine ⟨Nat.le_refl 1, (by show 1 ≤ 32; decide), fun j hj => ?_⟩
  have : j = 0 := by have : (⟨#[b]⟩ : ByteArray).size = 1 := rfl; omega
  subst this
  exact .inl h
theorem small_one (b : UInt8) (h : CharsOk [b]) : SmallT ⟨#[b]⟩ := ⟨(by show 1 ≤ 512; decide), h⟩
theorem chars_one (b : UInt8) (hv : Lib.validD [b] = true) (hd : Lib.decodeL [b] = (b.toNat, 1)) (h32 : 32 ≤ b.toNat) (h : b.toNat < 128) : CharsOk [b] := by
  refine ⟨hv, (runes_step [b] (by simp)).2 ?_⟩
  rw [hd]
  exact ⟨.inr (.inr (.inr ⟨h32, (by show b.toNat ≠ _; omega), (by show b.toNat ≠ _; omega)⟩)), by simpa using runes_nil⟩
theorem chars_lt : CharsOk [60] := chars_one 60 rfl rfl (by decide) (by decide)
theorem chars_x : CharsOk [120] := chars_one 120 rfl rfl (by decide) (by decide)
theorem right1 : RightT live1 := by
  refine ⟨by decide, fun k t hk => ?_, by rfl⟩
  match k, hk with
  | 0, hk => cases hk; exact .inl ⟨rfl, by decide, nameOk_one 97 (by unfold IsB; decide), rfl, by decide, fun i a h => by simp at h⟩
  | 1, hk => cases hk; exact .inr (.inl ⟨rfl, by decide, rfl, rfl, rfl⟩)
  | k + 2, hk => simp [live1, elemT] at hk

theorem right2 : RightT live2 := by
  refine ⟨by decide, fun k t hk => ?_, by rfl⟩
  match k, hk with
  | 0, hk =>
    cases hk
    refine .inl ⟨rfl, by decide, nameOk_one 97 (by unfold IsB; decide), rfl, by decide, fun i a h => ?_⟩
    match i, h with
    | 0, h => cases h; exact ⟨rfl, nameOk_one 98 (by unfold IsB; decide), small_one 60 chars_lt⟩
    | i + 1, h => simp at h
  | 1, hk => cases hk; exact .inr (.inr ⟨rfl, by decide, by decide, by decide, small_one 120 chars_x, rfl, rfl⟩)
  | 2, hk => cases hk; exact .inr (.inl ⟨rfl, by decide, rfl, rfl, rfl⟩)
  | k + 3, hk => simp [live2, elemT] at hk

/-- An element's tokens, printed: where they are right. -/
theorem printed {base : Nat} {W : World} {v : Value} {l : List TokV} (ts : List Tok) (hl : l.map (·.1) = ts) (hE : ElRow base W v l) (hR : RightT ts) (hU : Tabs W) (hL : EntLaid W) :
    Calls Tryd.prog 6 #[v] W fun e w' => e = .returned (.tuple #[.string ⟨(printT ts).toArray⟩, .int .i64 0]) ∧ Below W.heap.size W w' := by
  have hlen : l.length = ts.length := by rw [← hl]; simp
  obtain ⟨ao, cap, rfl, hT⟩ := tokMem_own hE (by have := hR.1; omega)
  rw [hl] at hT
  rw [hlen]
  refine (print_any ao cap ts _ W hT hU hL).mono ?_
  rintro e w' ⟨⟨_, rfl⟩ | ⟨h, _⟩, hb⟩
  · exact ⟨rfl, hb⟩
  · exact absurd hR h

end Go.Proofs.YthflpcfpfdmaeaaDoor
