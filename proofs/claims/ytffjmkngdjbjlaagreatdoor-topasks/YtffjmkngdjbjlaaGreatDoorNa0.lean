/- TopAsks: what is asked, and what stands behind it. -/
import Derived.Test.YtffjmkngdjbjlaaGreatDoorQM
import Derived.Test.YtffjmkngdjbjlaaGreatDoorNe24
namespace Go.Proofs.YtffjmkngdjbjlaaGreatDoor
open Go.RowKit

def oD : ByteArray := ⟨#[111, 64, 100]⟩
def sD : ByteArray := ⟨#[115, 64, 100]⟩
/-- The node as it stands with these who own and these who subscribe. -/
def akN (A : List (ByteArray × Nat)) (S : List (ByteArray × Bool × Int)) : Nd := { name := ⟨#[110]⟩, coll := false, acc := 1, max := 3, affs := A, subs := S, items := [], parent := ⟨#[]⟩ }
def akO : List (ByteArray × Nat) := [(oD, 5)]
def akX : List (ByteArray × Nat) := [(oD, 5), (sD, 1)]
def akB (yes : Bool) : List (ByteArray × Bool × Int) := if yes = true then [(sD, false, 0)] else []
theorem ak_o : roleL akO oD = 5 := by unfold roleL; decide +kernel
theorem ak_s : roleL akO sD = 2 := by unfold roleL; decide +kernel
theorem ak_xo : roleL akX oD = 5 := by unfold roleL; decide +kernel
theorem ak_xs : roleL akX sD = 1 := by unfold roleL; decide +kernel
theorem ak_addr : addrOk sD = true := by decide +kernel
theorem ak_affs : AffsOk akO := by
  refine ⟨by decide, List.pairwise_singleton _ _, fun x hx => ?_, ⟨(oD, 5), by simp [akO], rfl⟩⟩
  simp [akO] at hx
  subst hx
  exact ⟨by decide +kernel, by decide, by decide, by decide⟩
theorem ak_affsX : AffsOk akX := by
  refine ⟨by decide, ?_, fun x hx => ?_, ⟨(oD, 5), by simp [akX], rfl⟩⟩
  · unfold akX
    refine List.pairwise_pair.2 ?_
    decide +kernel
  · simp [akX] at hx
    rcases hx with rfl | rfl
    · exact ⟨by decide +kernel, by decide, by decide, by decide⟩
    · exact ⟨by decide +kernel, by decide, by decide, by decide⟩
theorem ak_subs0 : SubsOk [] := ⟨by simp, List.Pairwise.nil, fun x hx => by simp at hx⟩
theorem ak_subs1 (p : Bool) : SubsOk [(sD, p, 0)] := by
  refine ⟨by simp, List.pairwise_singleton _ _, fun x hx => ?_⟩
  simp at hx
  subst hx
  exact ⟨ak_addr, show (0 : Int) ≤ 0 by decide, show (0 : Int) ≤ 255 by decide⟩
theorem ak_right {A : List (ByteArray × Nat)} {S : List (ByteArray × Bool × Int)} (hA : AffsOk A) (hS : SubsOk S) : RightN (akN A S) :=
  ⟨show nameOk ⟨#[110]⟩ = true by decide +kernel, show 1 ≤ 2 by decide, show maxOk 3 false = true by decide, .inl rfl, hA, hS, ⟨show (([] : List (ByteArray × ByteArray × ByteArray)).length : Int) ≤ 3 by decide, fun x hx => by simp [akN] at hx, List.Pairwise.nil⟩⟩
theorem ak_1 : ∀ m c, SbsC (akN akO []) sD 0 m c → c = 0 ∧ m = akN akO [(sD, true, 0)] := by
  have hr : RightN (akN akO []) := ak_right ak_affs ak_subs0
  have hn : newS (akN akO []) sD 0 = (sD, true, 0) := by
    unfold newS
    rw [show (akN akO []).affs = akO from rfl, ak_s]
    rfl
  have hc : codeS (akN akO []) sD = 0 := by
    unfold codeS
    rw [show (akN akO []).affs = akO from rfl, ak_s]
    rfl
  rintro m c (⟨h, _⟩ | ⟨_, h, _⟩ | ⟨_, _, h1, h2⟩)
  · exact absurd ⟨hr, ak_addr, by decide⟩ h
  · exact absurd hc h
  · refine ⟨h1, h2.trans ?_⟩
    rw [hn]
    rfl
theorem ak_2 : ∀ m c, SbsC (akN akO [(sD, true, 0)]) sD 0 m c → c = 7 ∧ m = noN := by
  have hr : RightN (akN akO [(sD, true, 0)]) := ak_right ak_affs (ak_subs1 true)
  have hc : codeS (akN akO [(sD, true, 0)]) sD = 7 := by
    unfold codeS
    rw [show (akN akO [(sD, true, 0)]).affs = akO from rfl, ak_s]
    decide +kernel
  rintro m c (⟨h, _⟩ | ⟨_, _, h1, h2⟩ | ⟨_, h, _⟩)
  · exact absurd ⟨hr, ak_addr, by decide⟩ h
  · exact ⟨h1.trans hc, h2⟩
  · rw [hc] at h
    exact absurd h (by decide)
theorem ak_old : oldS (akN akO [(sD, true, 0)]) sD = some (sD, true, 0) := by unfold oldS; decide +kernel
theorem ak_3 (yes : Bool) : ∀ m c, DecC (akN akO [(sD, true, 0)]) oD sD yes m c → c = 0 ∧ m = akN akO (akB yes) := by
  have hr : RightN (akN akO [(sD, true, 0)]) := ak_right ak_affs (ak_subs1 true)
  rintro m c (⟨⟨h, _⟩ | ⟨_, h, _⟩, _⟩ | ⟨_, _, ⟨h, _⟩ | ⟨d, hd, h1, h2⟩⟩)
  · exact absurd hr h
  · exact absurd ak_o h
  · exact absurd ⟨0, ak_old⟩ h
  · rw [ak_old] at hd
    cases hd
    refine ⟨h1, h2.trans ?_⟩
    cases yes
    · rw [if_neg (by decide)]
      have : woSub sD [(sD, true, (0 : Int))] = [] := by decide +kernel
      show ({ akN akO [(sD, true, 0)] with subs := woSub sD [(sD, true, 0)] } : Nd) = _
      rw [this]
      rfl
    · rw [if_pos rfl]
      have : inSub (sD, false, 0) [(sD, true, (0 : Int))] = [(sD, false, 0)] := by decide +kernel
      show ({ akN akO [(sD, true, 0)] with subs := inSub (sD, false, 0) [(sD, true, 0)] } : Nd) = _
      rw [this]
      rfl
theorem ak_4 : ∀ m c, DecC (akN akO [(sD, true, 0)]) sD sD true m c → c = 3 ∧ m = noN := by
  have hr : RightN (akN akO [(sD, true, 0)]) := ak_right ak_affs (ak_subs1 true)
  rintro m c (⟨⟨h, _⟩ | ⟨_, _, h1⟩, h2⟩ | ⟨_, h, _⟩)
  · exact absurd hr h
  · exact ⟨h1, h2⟩
  · rw [show (akN akO [(sD, true, 0)]).affs = akO from rfl, ak_s] at h
    exact absurd h (by decide)
theorem ak_r1 : readsB (akN akO [(sD, true, 0)]) sD = false := by
  unfold readsB
  rw [show (akN akO [(sD, true, 0)]).affs = akO from rfl, ak_s]
  decide +kernel
theorem ak_r2 (yes : Bool) : readsB (akN akO (akB yes)) sD = yes := by
  unfold readsB
  rw [show (akN akO (akB yes)).affs = akO from rfl, ak_s]
  cases yes <;> decide +kernel
theorem ak_r3 (yes : Bool) : readsB (akN akO (akB yes)) oD = true := by
  unfold readsB
  rw [show (akN akO (akB yes)).affs = akO from rfl, ak_o]
  rfl
theorem ak_subsB (yes : Bool) : SubsOk (akB yes) := by cases yes; exact ak_subs0; exact ak_subs1 false
theorem ak_5 (yes : Bool) : ∀ m c, AflC (akN akO (akB yes)) oD sD 1 m c → c = 0 ∧ m = akN akX [] := by
  have hr : RightN (akN akO (akB yes)) := ak_right ak_affs (ak_subsB yes)
  have ha : afL sD 1 akO = akX := by decide +kernel
  have hs : woSub sD (akB yes) = [] := by cases yes <;> decide +kernel
  rintro m c (⟨⟨h, _⟩ | ⟨_, h, _⟩, _⟩ | ⟨_, _, ⟨h, _⟩ | ⟨_, _, _, ⟨h, _⟩ | ⟨_, h, _⟩ | ⟨_, _, h1, h2⟩⟩⟩)
  · exact absurd hr h
  · exact absurd ak_o h
  · exact absurd ⟨ak_addr, by decide, by decide⟩ h
  · rw [show (akN akO (akB yes)).affs = akO from rfl, ha] at h
    exact absurd h (by decide)
  · rw [show (akN akO (akB yes)).affs = akO from rfl, ha] at h
    exact absurd h (by decide)
  · refine ⟨h1, h2.trans ?_⟩
    rw [show (akN akO (akB yes)).affs = akO from rfl, show (akN akO (akB yes)).subs = akB yes from rfl, ha, hs]
    rfl
theorem ak_6 : ∀ m c, SbsC (akN akX []) sD 0 m c → c = 3 ∧ m = noN := by
  have hr : RightN (akN akX []) := ak_right ak_affsX ak_subs0
  have hc : codeS (akN akX []) sD = 3 := by
    unfold codeS
    rw [show (akN akX []).affs = akX from rfl, ak_xs]
    rfl
  rintro m c (⟨h, _⟩ | ⟨_, _, h1, h2⟩ | ⟨_, h, _⟩)
  · exact absurd ⟨hr, ak_addr, by decide⟩ h
  · exact ⟨h1.trans hc, h2⟩
  · rw [hc] at h
    exact absurd h (by decide)
theorem ak_r4 : readsB (akN akX []) sD = false := by
  unfold readsB
  rw [show (akN akX []).affs = akX from rfl, ak_xs]
  rfl
end Go.Proofs.YtffjmkngdjbjlaaGreatDoor
