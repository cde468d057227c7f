/- Contracts of both Name: a text is a name just if NameOk holds of it. Whether a token is right where it stands: attributes, texts, one step. Right: whether tokens are right. -/
import Derived.Test.YtimhkgpjfppkmaaDoorSmall
import Derived.Lib.OthersKept
import Derived.Laws.RangeAny
import Derived.LoopTactic
import Derived.Test.YtimhkgpjfppkmaaDoorWalk
import Derived.Test.YtimhkgpjfppkmaaDoorChars
namespace Go.Proofs.YtimhkgpjfppkmaaDoor
open Go.RowKit

def NmAt (s : ByteArray) (j : Nat) (h : j < s.size) : Prop := IsB s[j].toNat ∨ (0 < j ∧ IsG s[j].toNat)
def NameOk (s : ByteArray) : Prop := 1 ≤ s.size ∧ s.size ≤ 32 ∧ ∀ (j : Nat) (h : j < s.size), NmAt s j h
def NameEnds (s : ByteArray) (e : Ending) : Prop := (NameOk s ∧ e = .returned (.bool true)) ∨ (¬ NameOk s ∧ e = .returned (.bool false))

theorem NameEnds.yes {s : ByteArray} {e : Ending} (h : NameEnds s e) (hn : NameOk s) : e = .returned (.bool true) := by
  rcases h with ⟨_, h⟩ | ⟨h, _⟩
  · exact h
  · exact absurd hn h
theorem NameEnds.no {s : ByteArray} {e : Ending} (h : NameEnds s e) (hn : ¬ NameOk s) : e = .returned (.bool false) := by
  rcases h with ⟨h, _⟩ | ⟨_, h⟩
  · exact absurd h hn
  · exact h
theorem empty_false {s : ByteArray} (h : 0 < s.size) : s.toList.isEmpty = false := by
  rw [ByteArray.toList_eq]
  cases hs : s.data.toList with
  | nil =>
    exfalso
    have h2 : s.data.toList.length = s.size := Array.length_toList
    rw [hs] at h2
    simp at h2
    omega
  | cons a r => rfl
theorem empty_true {s : ByteArray} (h : ¬ 0 < s.size) : s.toList.isEmpty = true := by
  rw [ByteArray.toList_eq]
  have h2 : s.data.toList.length = s.size := Array.length_toList
  rw [List.isEmpty_iff, ← List.length_eq_zero_iff]
  omega

end Go.Proofs.YtimhkgpjfppkmaaDoor
namespace Go.Proofs.YtimhkgpjfppkmaaDoor
open Go.RowKit

def attrVal (al : List (ByteArray × ByteArray)) (name : ByteArray) : Option ByteArray := (al.find? fun a => decide (a.1 = name)).map (·.2)

theorem attrVal_none {al : List (ByteArray × ByteArray)} {name : ByteArray} (h : ∀ (j : Nat) (a : ByteArray × ByteArray), al[j]? = some a → a.1 ≠ name) : attrVal al name = none := by
  have : al.find? (fun a => decide (a.1 = name)) = none := by
    rw [List.find?_eq_none]
    intro a ha
    obtain ⟨j, hj⟩ := List.mem_iff_getElem?.1 ha
    simpa using h j a hj
  simp [attrVal, this]
theorem attrVal_some : ∀ {al : List (ByteArray × ByteArray)} {name : ByteArray} {k : Nat} {a : ByteArray × ByteArray}, al[k]? = some a → a.1 = name → (∀ (j : Nat) (b : ByteArray × ByteArray), j < k → al[j]? = some b → b.1 ≠ name) → attrVal al name = some a.2
  | [], _, _, _, h, _, _ => by simp at h
  | x :: al, name, 0, a, h, he, _ => by
    simp at h
    subst h
    simp [attrVal, List.find?_cons_of_pos, he]
  | x :: al, name, k + 1, a, h, he, hl => by
    have h0 := hl 0 x (by omega) (by simp)
    have h1 : attrVal al name = some a.2 := attrVal_some (k := k) (by simpa using h) he (fun j b hj hb => hl (j + 1) b (by omega) (by simpa using hb))
    simp only [attrVal] at h1 ⊢
    rw [List.find?_cons_of_neg (by simpa using h0)]
    exact h1

abbrev Tabs (w : World) : Prop := Lib.Utf8Tabs 0 1 w
def SmallT (s : ByteArray) : Prop := s.size ≤ 512 ∧ CharsOk s.data.toList
def AttrsOk (al : List (ByteArray × ByteArray)) : Prop := al.length ≤ 8 ∧ ∀ i a, al[i]? = some a → attrVal (al.take i) a.1 = none ∧ NameOk a.1 ∧ SmallT a.2
theorem AttrMem.take {n₀ : Nat} {w : World} {ao : Option Addr} {al : List (ByteArray × ByteArray)} (h : AttrMem n₀ w ao al) (k : Nat) : AttrMem n₀ w ao (al.take k) := by
  obtain ⟨h1, h2, h3⟩ := h
  refine ⟨by simp; omega, fun a ha => h2 a (List.mem_of_mem_take ha), fun j a hj => h3 j a ?_⟩
  by_cases hjk : j < k
  · rwa [List.getElem?_take_of_lt hjk] at hj
  · rw [List.getElem?_eq_none (by simp; omega)] at hj
    cases hj

/-- Is a token right where it stands? op: the names that are open ahead of it; last: the kind of the token ahead. -/
def Fit (op : List ByteArray) (last : Nat) (t : Tok) : Prop :=
  (t.kind = 1 ∧ op.length + 1 ≤ 8 ∧ NameOk t.name ∧ t.text.size = 0 ∧ AttrsOk t.attrs) ∨
  (t.kind = 2 ∧ 0 < op.length ∧ op.getLast?.getD ⟨#[]⟩ = t.name ∧ t.text.size = 0 ∧ t.attrs.length = 0) ∨
  (t.kind = 3 ∧ 0 < op.length ∧ last ≠ 3 ∧ t.text.size ≠ 0 ∧ SmallT t.text ∧ t.name.size = 0 ∧ t.attrs.length = 0)

theorem fit_one {op : List ByteArray} {la : Nat} {t : Tok} (h : t.kind = 1) : Fit op la t ↔ (op.length + 1 ≤ 8 ∧ NameOk t.name ∧ t.text.size = 0 ∧ AttrsOk t.attrs) := by simp [Fit, h]
theorem fit_two {op : List ByteArray} {la : Nat} {t : Tok} (h : t.kind = 2) : Fit op la t ↔ (0 < op.length ∧ op.getLast?.getD ⟨#[]⟩ = t.name ∧ t.text.size = 0 ∧ t.attrs.length = 0) := by simp [Fit, h]
theorem fit_three {op : List ByteArray} {la : Nat} {t : Tok} (h : t.kind = 3) : Fit op la t ↔ (0 < op.length ∧ la ≠ 3 ∧ t.text.size ≠ 0 ∧ SmallT t.text ∧ t.name.size = 0 ∧ t.attrs.length = 0) := by simp [Fit, h]
theorem fit_none {op : List ByteArray} {la : Nat} {t : Tok} (h1 : t.kind ≠ 1) (h2 : t.kind ≠ 2) (h3 : t.kind ≠ 3) : ¬ Fit op la t := by simp [Fit, h1, h2, h3]
end Go.Proofs.YtimhkgpjfppkmaaDoor
namespace Go.Proofs.YtimhkgpjfppkmaaDoor
open Go.RowKit Go.Shelf
attribute [local go_sem] Oper.semAt_some

def RightT (ts : List Tok) : Prop := ts.length ≤ 64 ∧ (∀ k t, ts[k]? = some t → Fit (openAt ts k) (kindOf ts (k - 1 : Int)) t) ∧ (openAt ts ts.length).length = 0

theorem results_cell {fn : Func} {tmps : Array Value} {w : World} {a : Addr} {v : Bool} (h : fn.results = #[.cell 2 4]) (hp : tmps[2]?.getD undef = .pointer (some a)) (hc : w.cell? a = some (.bool v)) : (results fn tmps).run Tryd.prog w = .ok (.bool v) w := by
  simp [results, h, hp, hc, go_sem, Tryd.isAgg4]
theorem cell1 {w : World} {b : Nat} {v : Value} {ty : TypeId} (h : w.heap[b]? = some (.cells #[v] ty)) : w.cell? ⟨b, 0, none⟩ = some v ∧ w.frozen? ⟨b, 0, none⟩ = false := by
  simp [World.cell?, World.frozen?, h]
theorem keepsFrom_below {B : Nat} {A C : World} (h : Below A.heap.size A C) : KeepsFrom B A C := ⟨h.size, fun k _ _ hk _ => (h.block k (Array.getElem?_eq_some_iff.1 hk).1).trans hk⟩
theorem kept_below {M : Blk} {A C : World} (hM : ∀ b, M b → b < A.heap.size) (h : Below A.heap.size A C) : Kept M A C := fun j hj => h.block j (hM j hj)
theorem kept_set {M : Blk} {A C : World} (h : Kept M A C) {b i : Nat} (hb : ¬ M b) (v : Value) : Kept M A (C.setCell ⟨b, i, none⟩ v) := fun j hj => (Below.heap_setCell _ _ _ _ (fun e => hb (by have e' : j = b := e; exact e' ▸ hj))).trans (h j hj)
end Go.Proofs.YtimhkgpjfppkmaaDoor
