/- A chain of nodes: who is told of its last. -/
import Derived.Test.YtffjmkngdjbjlaaNd8
namespace Go.Proofs.Ytffjmkngdjbjlaa
open Go.RowKit

def od : ByteArray := ⟨#[111, 64, 100]⟩
def sd : ByteArray := ⟨#[115, 64, 100]⟩
def ltN (i : Nat) : ByteArray := ⟨#[UInt8.ofNat (97 + i)]⟩
/-- The node number i of the chain. -/
def ndK (f d i : Nat) : Nd := ⟨ltN i, decide (0 < i), 0, 0, [(od, 5)], if i = f then [(sd, false, (d : Int))] else [], [], if i < f then ltN (i + 1) else ⟨#[]⟩⟩
def nsL (f d : Nat) : List Nd := (List.range (f + 1)).map (ndK f d)
theorem ns_len (f d : Nat) : (nsL f d).length = f + 1 := by simp [nsL]
theorem ns_at (f d i : Nat) (h : i < f + 1) : (nsL f d)[i]? = some (ndK f d i) := by simp [nsL, h]
def toldK (f d : Nat) : List ByteArray := if d = 0 ∨ f ≤ d ∨ f = 0 then [sd] else []
set_option maxRecDepth 100000 in
theorem told_all : ∀ (d : Fin 12) (f : Fin 10), toldTo (nsL f.val d.val) (ovL (nsL f.val d.val) (ndK f.val d.val 0).parent) (ndK f.val d.val 0) (ovL (nsL f.val d.val) (ndK f.val d.val 0).parent).length = toldK f.val d.val := by decide +kernel
theorem told_is {d f : Nat} (hd : d < 12) (hf : f < 10) : toldTo (nsL f d) (ovL (nsL f d) (ndK f d 0).parent) (ndK f d 0) (ovL (nsL f d) (ndK f d 0).parent).length = toldK f d := told_all ⟨d, hd⟩ ⟨f, hf⟩
theorem sort_told (f d : Nat) : sortS (toldK f d) = toldK f d := by
  unfold toldK
  split
  · simp [sortS, ofS_toList]
  · simp [sortS]
theorem role_sd (f d : Nat) : ∀ t ∈ sortS (toldK f d), roleL (ndK f d 0).affs t ≠ 1 := by
  intro t ht
  rw [sort_told] at ht
  unfold toldK at ht
  split at ht
  · simp at ht
    subst ht
    show roleL [(od, 5)] sd ≠ 1
    decide +kernel
  · simp at ht
theorem compact_told (f d : Nat) : Lib.compact ((sortS (toldK f d)).map ByteArray.toList) = (sortS (toldK f d)).map ByteArray.toList := by
  rw [sort_told]
  unfold toldK
  split
  · show Lib.compact [sd.toList] = [sd.toList]
    rfl
  · rfl
end Go.Proofs.Ytffjmkngdjbjlaa
