/- Tokens: what they are, how they lie in memory, which elements are open where. -/
import Derived.Test.YtimhkgpjfppkmaaDoorSmall
namespace Go.Proofs.YtimhkgpjfppkmaaDoor
open Go.RowKit

theorem str_ne {a b : ByteArray} (h : a ≠ b) : (a.toList == b.toList) = false := by
  rw [beq_eq_false_iff_ne]
  intro e
  rw [ByteArray.toList_eq, ByteArray.toList_eq] at e
  obtain ⟨⟨x⟩⟩ := a
  obtain ⟨⟨y⟩⟩ := b
  exact h (congrArg (fun l => (⟨⟨l⟩⟩ : ByteArray)) (by simpa using e))
/-- A call tells whether p holds. -/
def Tells (p : Prop) (e : Ending) : Prop := (p ∧ e = .returned (.bool true)) ∨ (¬ p ∧ e = .returned (.bool false))
/-- A token: its kind, its name, its attributes, its text. -/
structure Tok where
  kind : Nat
  name : ByteArray
  attrs : List (ByteArray × ByteArray)
  text : ByteArray
  deriving Inhabited

/-- The names that are open behind a token, by those that are open ahead of it. -/
def opens (op : List ByteArray) (t : Tok) : List ByteArray := if t.kind = 1 then op ++ [t.name] else if t.kind = 2 then op.dropLast else op
def openAt (ts : List Tok) (k : Nat) : List ByteArray := (ts.take k).foldl opens []
theorem openAt_zero (ts : List Tok) : openAt ts 0 = [] := rfl
theorem openAt_succ {ts : List Tok} {k : Nat} {t : Tok} (h : ts[k]? = some t) : openAt ts (k + 1) = opens (openAt ts k) t := by
  unfold openAt
  rw [List.take_add_one, h]
  simp
theorem opens_le (op : List ByteArray) (t : Tok) : (opens op t).length ≤ op.length + 1 := by
  unfold opens
  split
  · simp
  · split
    · simp; omega
    · omega
theorem openAt_le (ts : List Tok) : ∀ k, (openAt ts k).length ≤ k
  | 0 => by simp [openAt]
  | k + 1 => by
    cases h : ts[k]? with
    | none =>
      have h1 : ts.length ≤ k := by simpa using h
      have h2 : openAt ts (k + 1) = openAt ts k := by unfold openAt; rw [List.take_of_length_le h1, List.take_of_length_le (by omega)]
      rw [h2]
      exact Nat.le_succ_of_le (openAt_le ts k)
    | some t =>
      rw [openAt_succ h]
      have := opens_le (openAt ts k) t
      have := openAt_le ts k
      omega
/-- The kind at a place; 0, where there is none. -/
def kindOf (ts : List Tok) (i : Int) : Nat := if 0 ≤ i then (ts[i.toNat]?.map Tok.kind).getD 0 else 0

/-- Attributes in memory: two cells each. -/
def AttrMem (n₀ : Nat) (w : World) (ao : Option Addr) (al : List (ByteArray × ByteArray)) : Prop :=
  al.length ≤ 4398046510976 ∧ (∀ a ∈ al, a.1.size ≤ 9223372036854775807 ∧ a.2.size ≤ 9223372036854775807) ∧ ∀ j a, al[j]? = some a → ∃ b off, ao = some ⟨b, off, none⟩ ∧ b < n₀ ∧ w.cell? ⟨b, off + j * 2, none⟩ = some (.string a.1) ∧ w.cell? ⟨b, off + j * 2 + 1, none⟩ = some (.string a.2)
/-- The value of a token's attributes. -/
def attrV (av : Nat → Option Addr × Nat) (k : Nat) (t : Tok) : Value := .slice (av k).1 t.attrs.length (av k).2
/-- Tokens in memory: four cells each. -/
def TokMem (n₀ : Nat) (w : World) (ao : Option Addr) (ts : List Tok) (av : Nat → Option Addr × Nat) : Prop :=
  ts.length ≤ 2199023255488 ∧ ∀ k t, ts[k]? = some t → t.kind < 256 ∧ t.name.size ≤ 9223372036854775807 ∧ t.text.size ≤ 9223372036854775807 ∧ AttrMem n₀ w (av k).1 t.attrs ∧ t.attrs.length ≤ (av k).2 ∧
    ∃ b off, ao = some ⟨b, off, none⟩ ∧ b < n₀ ∧ w.cell? ⟨b, off + k * 4, none⟩ = some (.int .u8 t.kind) ∧ w.cell? ⟨b, off + k * 4 + 1, none⟩ = some (.string t.name) ∧ w.cell? ⟨b, off + k * 4 + 2, none⟩ = some (.slice (av k).1 t.attrs.length (av k).2) ∧ w.cell? ⟨b, off + k * 4 + 3, none⟩ = some (.string t.text)
theorem AttrMem.below {n₀ : Nat} {w w' : World} {ao : Option Addr} {al : List (ByteArray × ByteArray)} (h : AttrMem n₀ w ao al) (hb : Below n₀ w w') : AttrMem n₀ w' ao al := by
  obtain ⟨h2, h3, h4⟩ := h
  refine ⟨h2, h3, fun j a hj => ?_⟩
  obtain ⟨b, off, e1, e2, e3, e4⟩ := h4 j a hj
  exact ⟨b, off, e1, e2, (hb.cell (p := ⟨b, _, none⟩) e2).trans e3, (hb.cell (p := ⟨b, _, none⟩) e2).trans e4⟩
theorem AttrMem.mono {n₀ n₁ : Nat} {w : World} {ao : Option Addr} {al : List (ByteArray × ByteArray)} (h : AttrMem n₀ w ao al) (hn : n₀ ≤ n₁) : AttrMem n₁ w ao al := by
  obtain ⟨h2, h3, h4⟩ := h
  refine ⟨h2, h3, fun j a hj => ?_⟩
  obtain ⟨b, off, e1, e2, e3⟩ := h4 j a hj
  exact ⟨b, off, e1, by omega, e3⟩
theorem TokMem.below {n₀ : Nat} {w w' : World} {ao : Option Addr} {ts : List Tok} {av : Nat → Option Addr × Nat} (h : TokMem n₀ w ao ts av) (hb : Below n₀ w w') : TokMem n₀ w' ao ts av := by
  obtain ⟨h2, h3⟩ := h
  refine ⟨h2, fun k t hk => ?_⟩
  obtain ⟨x1, x2, x3, x4, x5, b, off, e1, e2, c1, c2, c3, c4⟩ := h3 k t hk
  exact ⟨x1, x2, x3, x4.below hb, x5, b, off, e1, e2, (hb.cell (p := ⟨b, _, none⟩) e2).trans c1, (hb.cell (p := ⟨b, _, none⟩) e2).trans c2, (hb.cell (p := ⟨b, _, none⟩) e2).trans c3, (hb.cell (p := ⟨b, _, none⟩) e2).trans c4⟩
theorem TokMem.mono {n₀ n₁ : Nat} {w : World} {ao : Option Addr} {ts : List Tok} {av : Nat → Option Addr × Nat} (h : TokMem n₀ w ao ts av) (hn : n₀ ≤ n₁) : TokMem n₁ w ao ts av := by
  obtain ⟨h2, h3⟩ := h
  refine ⟨h2, fun k t hk => ?_⟩
  obtain ⟨x1, x2, x3, x4, x5, b, off, e1, e2, c⟩ := h3 k t hk
  exact ⟨x1, x2, x3, x4.mono hn, x5, b, off, e1, by omega, c⟩
end Go.Proofs.YtimhkgpjfppkmaaDoor
