/- Contracts of the small functions of package text; no loop. Tokens: what they are, how they lie in memory, which elements are open where. Stanzas: their kinds and types. -/
import Derived.Test.YthmidlmknkbdaaaDoorChecked
import Derived.WalkKit
import Derived.WalkLawsBesides
import Derived.LaidEql
import Derived.Outline
import Derived.LoopTactic
namespace Go.Proofs.YthmidlmknkbdaaaDoor
open Go.RowKit

theorem hide {p : Prop} (h : p) : Hid p := h
theorem lt_of_cell {w : World} {a : Addr} {v : Value} (h : w.cell? a = some v) : a.block < w.heap.size := by
  rcases Nat.lt_or_ge a.block w.heap.size with h1 | h1
  · exact h1
  · simp [World.cell?, Array.getElem?_eq_none h1] at h

/-- A letter or a low line. -/
def IsB (r : Int) : Prop := (65 ≤ r ∧ r ≤ 90) ∨ (97 ≤ r ∧ r ≤ 122) ∨ r = 95
/-- What else may stand in a name behind its first sign. -/
def IsG (r : Int) : Prop := (48 ≤ r ∧ r ≤ 57) ∨ r = 45 ∨ r = 46 ∨ r = 58

theorem begins_yes (r : Int) (w : World) (h : IsB r) : Calls Tryd.prog 63 #[.int .i32 r] w fun e w' => e = .returned (.bool true) ∧ w' = w := by
  rcases h with ⟨h1, h2⟩ | ⟨h1, h2⟩ | h
  · have h3 : decide (r ≤ 90) = true := by simp; omega
    go_enter Tryd.func63, Tryd.ntmps63
    go_wp2
    go_ret
    exact ⟨rfl, rfl⟩
  · have h4 : 65 ≤ r := by omega
    have h5 : decide (r ≤ 90) = false := by simp; omega
    have h3 : decide (r ≤ 122) = true := by simp; omega
    go_enter Tryd.func63, Tryd.ntmps63
    go_wp2
    go_ret
    exact ⟨rfl, rfl⟩
  · subst h
    go_enter Tryd.func63, Tryd.ntmps63
    go_wp2
    go_ret
    exact ⟨rfl, rfl⟩
theorem begins_no (r : Int) (w : World) (h : ¬ IsB r) : Calls Tryd.prog 63 #[.int .i32 r] w fun e w' => e = .returned (.bool false) ∧ w' = w := by
  have hc : r < 65 ∨ (90 < r ∧ r < 97) ∨ 122 < r := by unfold IsB at h; omega
  have h95 : (r == 95) = false := by rw [beq_eq_false_iff_ne]; unfold IsB at h; omega
  clear h
  rcases hc with h | ⟨h1, h2⟩ | h
  · have h1 : ¬ 65 ≤ r := by omega
    have h2 : ¬ 97 ≤ r := by omega
    go_enter Tryd.func63, Tryd.ntmps63
    go_wp2
    go_ret
    exact ⟨rfl, rfl⟩
  · have h3 : 65 ≤ r := by omega
    have h4 : decide (r ≤ 90) = false := by simp; omega
    have h5 : ¬ 97 ≤ r := by omega
    go_enter Tryd.func63, Tryd.ntmps63
    go_wp2
    go_ret
    exact ⟨rfl, rfl⟩
  · have h3 : 65 ≤ r := by omega
    have h4 : decide (r ≤ 90) = false := by simp; omega
    have h5 : 97 ≤ r := by omega
    have h6 : decide (r ≤ 122) = false := by simp; omega
    go_enter Tryd.func63, Tryd.ntmps63
    go_wp2
    go_ret
    exact ⟨rfl, rfl⟩
theorem goesOn_yes (r : Int) (w : World) (h : IsG r) : Calls Tryd.prog 64 #[.int .i32 r] w fun e w' => e = .returned (.bool true) ∧ w' = w := by
  rcases h with ⟨h1, h2⟩ | h | h | h
  · have h3 : decide (r ≤ 57) = true := by simp; omega
    go_enter Tryd.func64, Tryd.ntmps64
    go_wp2
    go_ret
    exact ⟨rfl, rfl⟩
  all_goals
    subst h
    go_enter Tryd.func64, Tryd.ntmps64
    go_wp2
    go_ret
    exact ⟨rfl, rfl⟩
theorem goesOn_no (r : Int) (w : World) (h : ¬ IsG r) : Calls Tryd.prog 64 #[.int .i32 r] w fun e w' => e = .returned (.bool false) ∧ w' = w := by
  have hc : r < 48 ∨ 57 < r := by unfold IsG at h; omega
  have h1 : (r == 45) = false := by rw [beq_eq_false_iff_ne]; unfold IsG at h; omega
  have h2 : (r == 46) = false := by rw [beq_eq_false_iff_ne]; unfold IsG at h; omega
  have h3 : (r == 58) = false := by rw [beq_eq_false_iff_ne]; unfold IsG at h; omega
  clear h
  rcases hc with h | h
  · have h4 : ¬ 48 ≤ r := by omega
    go_enter Tryd.func64, Tryd.ntmps64
    go_wp2
    go_ret
    exact ⟨rfl, rfl⟩
  · have h4 : 48 ≤ r := by omega
    have h5 : decide (r ≤ 57) = false := by simp; omega
    go_enter Tryd.func64, Tryd.ntmps64
    go_wp2
    go_ret
    exact ⟨rfl, rfl⟩
end Go.Proofs.YthmidlmknkbdaaaDoor
namespace Go.Proofs.YthmidlmknkbdaaaDoor
open Go.RowKit

theorem str_ne {a b : ByteArray} (h : a ≠ b) : (a.toList == b.toList) = false := by
  rw [beq_eq_false_iff_ne]
  intro e
  rw [ByteArray.toList_eq, ByteArray.toList_eq] at e
  obtain ⟨⟨x⟩⟩ := a
  obtain ⟨⟨y⟩⟩ := b
  exact h (congrArg (fun l => (⟨⟨l⟩⟩ : ByteArray)) (by simpa using e))
/-- A call tells whether p holds. -/
def Tells (p : Prop) (e : Ending) : Prop := (p ∧ e = .returned (.bool true)) ∨ (¬ p ∧ e = .returned (.bool false))
/-- A token: its kind, its name, its attributes, its text. -/
structure Tok where
  kind : Nat
  name : ByteArray
  attrs : List (ByteArray × ByteArray)
  text : ByteArray
  deriving Inhabited

/-- The names that are open behind a token, by those that are open ahead of it. -/
def opens (op : List ByteArray) (t : Tok) : List ByteArray := if t.kind = 1 then op ++ [t.name] else if t.kind = 2 then op.dropLast else op
def openAt (ts : List Tok) (k : Nat) : List ByteArray := (ts.take k).foldl opens []
theorem openAt_zero (ts : List Tok) : openAt ts 0 = [] := rfl
theorem openAt_succ {ts : List Tok} {k : Nat} {t : Tok} (h : ts[k]? = some t) : openAt ts (k + 1) = opens (openAt ts k) t := by
  unfold openAt
  rw [List.take_add_one, h]
  simp
theorem opens_le (op : List ByteArray) (t : Tok) : (opens op t).length ≤ op.length + 1 := by
  unfold opens
  split
  · simp
  · split
    · simp; omega
    · omega
theorem openAt_le (ts : List Tok) : ∀ k, (openAt ts k).length ≤ k
  | 0 => by simp [openAt]
  | k + 1 => by
    cases h : ts[k]? with
    | none =>
      have h1 : ts.length ≤ k := by simpa using h
      have h2 : openAt ts (k + 1) = openAt ts k := by unfold openAt; rw [List.take_of_length_le h1, List.take_of_length_le (by omega)]
      rw [h2]
      exact Nat.le_succ_of_le (openAt_le ts k)
    | some t =>
      rw [openAt_succ h]
      have := opens_le (openAt ts k) t
      have := openAt_le ts k
      omega
/-- The kind at a place; 0, where there is none. -/
def kindOf (ts : List Tok) (i : Int) : Nat := if 0 ≤ i then (ts[i.toNat]?.map Tok.kind).getD 0 else 0

/-- Attributes in memory: two cells each. -/
def AttrMem (n₀ : Nat) (w : World) (ao : Option Addr) (al : List (ByteArray × ByteArray)) : Prop :=
  al.length ≤ 4398046510976 ∧ (∀ a ∈ al, a.1.size ≤ 9223372036854775807 ∧ a.2.size ≤ 9223372036854775807) ∧ ∀ j a, al[j]? = some a → ∃ b off, ao = some ⟨b, off, none⟩ ∧ b < n₀ ∧ w.cell? ⟨b, off + j * 2, none⟩ = some (.string a.1) ∧ w.cell? ⟨b, off + j * 2 + 1, none⟩ = some (.string a.2)
/-- The value of a token's attributes. -/
def attrV (av : Nat → Option Addr × Nat) (k : Nat) (t : Tok) : Value := .slice (av k).1 t.attrs.length (av k).2
/-- Tokens in memory: four cells each. -/
def TokMem (n₀ : Nat) (w : World) (ao : Option Addr) (ts : List Tok) (av : Nat → Option Addr × Nat) : Prop :=
  ts.length ≤ 2199023255488 ∧ ∀ k t, ts[k]? = some t → t.kind < 256 ∧ t.name.size ≤ 9223372036854775807 ∧ t.text.size ≤ 9223372036854775807 ∧ AttrMem n₀ w (av k).1 t.attrs ∧ t.attrs.length ≤ (av k).2 ∧
    ∃ b off, ao = some ⟨b, off, none⟩ ∧ b < n₀ ∧ w.cell? ⟨b, off + k * 4, none⟩ = some (.int .u8 t.kind) ∧ w.cell? ⟨b, off + k * 4 + 1, none⟩ = some (.string t.name) ∧ w.cell? ⟨b, off + k * 4 + 2, none⟩ = some (.slice (av k).1 t.attrs.length (av k).2) ∧ w.cell? ⟨b, off + k * 4 + 3, none⟩ = some (.string t.text)
theorem AttrMem.below {n₀ : Nat} {w w' : World} {ao : Option Addr} {al : List (ByteArray × ByteArray)} (h : AttrMem n₀ w ao al) (hb : Below n₀ w w') : AttrMem n₀ w' ao al := by
  obtain ⟨h2, h3, h4⟩ := h
  refine ⟨h2, h3, fun j a hj => ?_⟩
  obtain ⟨b, off, e1, e2, e3, e4⟩ := h4 j a hj
  exact ⟨b, off, e1, e2, (hb.cell (p := ⟨b, _, none⟩) e2).trans e3, (hb.cell (p := ⟨b, _, none⟩) e2).trans e4⟩
theorem AttrMem.mono {n₀ n₁ : Nat} {w : World} {ao : Option Addr} {al : List (ByteArray × ByteArray)} (h : AttrMem n₀ w ao al) (hn : n₀ ≤ n₁) : AttrMem n₁ w ao al := by
  obtain ⟨h2, h3, h4⟩ := h
  refine ⟨h2, h3, fun j a hj => ?_⟩
  obtain ⟨b, off, e1, e2, e3⟩ := h4 j a hj
  exact ⟨b, off, e1, by omega, e3⟩
theorem TokMem.below {n₀ : Nat} {w w' : World} {ao : Option Addr} {ts : List Tok} {av : Nat → Option Addr × Nat} (h : TokMem n₀ w ao ts av) (hb : Below n₀ w w') : TokMem n₀ w' ao ts av := by
  obtain ⟨h2, h3⟩ := h
  refine ⟨h2, fun k t hk => ?_⟩
  obtain ⟨x1, x2, x3, x4, x5, b, off, e1, e2, c1, c2, c3, c4⟩ := h3 k t hk
  exact ⟨x1, x2, x3, x4.below hb, x5, b, off, e1, e2, (hb.cell (p := ⟨b, _, none⟩) e2).trans c1, (hb.cell (p := ⟨b, _, none⟩) e2).trans c2, (hb.cell (p := ⟨b, _, none⟩) e2).trans c3, (hb.cell (p := ⟨b, _, none⟩) e2).trans c4⟩
theorem TokMem.mono {n₀ n₁ : Nat} {w : World} {ao : Option Addr} {ts : List Tok} {av : Nat → Option Addr × Nat} (h : TokMem n₀ w ao ts av) (hn : n₀ ≤ n₁) : TokMem n₁ w ao ts av := by
  obtain ⟨h2, h3⟩ := h
  refine ⟨h2, fun k t hk => ?_⟩
  obtain ⟨x1, x2, x3, x4, x5, b, off, e1, e2, c⟩ := h3 k t hk
  exact ⟨x1, x2, x3, x4.mono hn, x5, b, off, e1, by omega, c⟩
end Go.Proofs.YthmidlmknkbdaaaDoor
namespace Go.Proofs.YthmidlmknkbdaaaDoor
open Go.RowKit

def ty_get : ByteArray := ⟨#[103, 101, 116]⟩
def ty_set : ByteArray := ⟨#[115, 101, 116]⟩
def ty_result : ByteArray := ⟨#[114, 101, 115, 117, 108, 116]⟩
def ty_chat : ByteArray := ⟨#[99, 104, 97, 116]⟩
def ty_headline : ByteArray := ⟨#[104, 101, 97, 100, 108, 105, 110, 101]⟩
def ty_unavailable : ByteArray := ⟨#[117, 110, 97, 118, 97, 105, 108, 97, 98, 108, 101]⟩
def ty_error : ByteArray := ⟨#[101, 114, 114, 111, 114]⟩
def ty_none : ByteArray := ⟨#[]⟩
theorem ty_ne {t : ByteArray} (h : t ≠ ty_none) : t.toList.isEmpty = false := by
  rw [ByteArray.toList_eq]
  obtain ⟨⟨l⟩⟩ := t
  cases l with
  | nil => exact absurd rfl h
  | cons a l => rfl
/-- Is a type one of a kind? -/
def tyB (k : Int) (t : ByteArray) : Bool :=
  if t = ty_get ∨ t = ty_set ∨ t = ty_result then k == 1
  else if t = ty_chat ∨ t = ty_headline then k == 2
  else if t = ty_unavailable then k == 3
  else if t = ty_error then (k == 1 || (k == 2 || k == 3))
  else if t = ty_none then (k == 2 || k == 3)
  else false
/-- An element's name of a kind. -/
def kindB (k : Int) : ByteArray := if k = 1 then ⟨#[105, 113]⟩ else if k = 2 then ⟨#[109, 101, 115, 115, 97, 103, 101]⟩ else if k = 3 then ⟨#[112, 114, 101, 115, 101, 110, 99, 101]⟩ else ⟨#[]⟩
set_option maxRecDepth 100000 in
theorem kindName_any (k : Int) (w : World) : Calls Tryd.prog 49 #[.int .u8 k] w fun e w' => e = .returned (.string (kindB k)) ∧ w' = w := by
  unfold kindB
  by_cases h1 : k = 1
  · subst h1
    go_enter Tryd.func49, Tryd.ntmps49
    go_wp2
    go_ret
    exact ⟨rfl, rfl⟩
  · by_cases h2 : k = 2
    · subst h2
      go_enter Tryd.func49, Tryd.ntmps49
      go_wp2
      go_ret
      exact ⟨rfl, rfl⟩
    · by_cases h3 : k = 3
      · subst h3
        go_enter Tryd.func49, Tryd.ntmps49
        go_wp2
        go_ret
        exact ⟨rfl, rfl⟩
      · rw [if_neg h1, if_neg h2, if_neg h3]
        have e1 : (k == 1) = false := by rw [beq_eq_false_iff_ne]; exact h1
        have e2 : (k == 2) = false := by rw [beq_eq_false_iff_ne]; exact h2
        have e3 : (k == 3) = false := by rw [beq_eq_false_iff_ne]; exact h3
        clear h1 h2 h3
        go_enter Tryd.func49, Tryd.ntmps49
        go_wp2
        go_ret
        exact ⟨rfl, rfl⟩
set_option maxRecDepth 100000 in
set_option maxHeartbeats 1000000 in
theorem typeOf_any (k : Int) (t : ByteArray) (w : World) : Calls Tryd.prog 47 #[.int .u8 k, .string t] w fun e w' => e = .returned (.bool (tyB k t)) ∧ w' = w := by
  by_cases h_get : t = ty_get
  · subst h_get
    have hv : tyB k ty_get = (k == 1) := rfl
    rw [hv]
    unfold ty_get
    go_enter Tryd.func47, Tryd.ntmps47
    go_wp2
    go_ret
    exact ⟨rfl, rfl⟩
  · have n_get : (t.toList == [103, 101, 116]) = false := (by rw [show ([103, 101, 116] : List UInt8) = ty_get.toList by rw [ByteArray.toList_eq]; rfl]; exact str_ne h_get)
    by_cases h_set : t = ty_set
    · subst h_set
      have hv : tyB k ty_set = (k == 1) := rfl
      rw [hv]
      unfold ty_set
      go_enter Tryd.func47, Tryd.ntmps47
      go_wp2
      go_ret
      exact ⟨rfl, rfl⟩
    · have n_set : (t.toList == [115, 101, 116]) = false := (by rw [show ([115, 101, 116] : List UInt8) = ty_set.toList by rw [ByteArray.toList_eq]; rfl]; exact str_ne h_set)
      by_cases h_result : t = ty_result
      · subst h_result
        have hv : tyB k ty_result = (k == 1) := rfl
        rw [hv]
        unfold ty_result
        go_enter Tryd.func47, Tryd.ntmps47
        go_wp2
        go_ret
        exact ⟨rfl, rfl⟩
      · have n_result : (t.toList == [114, 101, 115, 117, 108, 116]) = false := (by rw [show ([114, 101, 115, 117, 108, 116] : List UInt8) = ty_result.toList by rw [ByteArray.toList_eq]; rfl]; exact str_ne h_result)
        by_cases h_chat : t = ty_chat
        · subst h_chat
          have hv : tyB k ty_chat = (k == 2) := rfl
          rw [hv]
          unfold ty_chat
          go_enter Tryd.func47, Tryd.ntmps47
          go_wp2
          go_ret
          exact ⟨rfl, rfl⟩
        · have n_chat : (t.toList == [99, 104, 97, 116]) = false := (by rw [show ([99, 104, 97, 116] : List UInt8) = ty_chat.toList by rw [ByteArray.toList_eq]; rfl]; exact str_ne h_chat)
          by_cases h_headline : t = ty_headline
          · subst h_headline
            have hv : tyB k ty_headline = (k == 2) := rfl
            rw [hv]
            unfold ty_headline
            go_enter Tryd.func47, Tryd.ntmps47
            go_wp2
            go_ret
            exact ⟨rfl, rfl⟩
          · have n_headline : (t.toList == [104, 101, 97, 100, 108, 105, 110, 101]) = false := (by rw [show ([104, 101, 97, 100, 108, 105, 110, 101] : List UInt8) = ty_headline.toList by rw [ByteArray.toList_eq]; rfl]; exact str_ne h_headline)
            by_cases h_unavailable : t = ty_unavailable
            · subst h_unavailable
              have hv : tyB k ty_unavailable = (k == 3) := rfl
              rw [hv]
              unfold ty_unavailable
              go_enter Tryd.func47, Tryd.ntmps47
              go_wp2
              go_ret
              exact ⟨rfl, rfl⟩
            · have n_unavailable : (t.toList == [117, 110, 97, 118, 97, 105, 108, 97, 98, 108, 101]) = false := (by rw [show ([117, 110, 97, 118, 97, 105, 108, 97, 98, 108, 101] : List UInt8) = ty_unavailable.toList by rw [ByteArray.toList_eq]; rfl]; exact str_ne h_unavailable)
              by_cases h_error : t = ty_error
              · subst h_error
                by_cases k1 : k = 1
                · subst k1
                  unfold ty_error
                  go_enter Tryd.func47, Tryd.ntmps47
                  go_wp2
                  go_ret
                  exact ⟨rfl, rfl⟩
                · have c1 : (k == 1) = false := by rw [beq_eq_false_iff_ne]; exact k1
                  by_cases k2 : k = 2
                  · subst k2
                    unfold ty_error
                    go_enter Tryd.func47, Tryd.ntmps47
                    go_wp2
                    go_ret
                    exact ⟨rfl, rfl⟩
                  · have c2 : (k == 2) = false := by rw [beq_eq_false_iff_ne]; exact k2
                    by_cases k3 : k = 3
                    · subst k3
                      unfold ty_error
                      go_enter Tryd.func47, Tryd.ntmps47
                      go_wp2
                      go_ret
                      exact ⟨rfl, rfl⟩
                    · have c3 : (k == 3) = false := by rw [beq_eq_false_iff_ne]; exact k3
                      have hv : tyB k ty_error = false := by
                        show (k == 1 || (k == 2 || k == 3)) = false
                        rw [c1, c2, c3]
                        rfl
                      rw [hv]
                      unfold ty_error
                      go_enter Tryd.func47, Tryd.ntmps47
                      go_wp2
                      go_ret
                      exact ⟨rfl, rfl⟩
              · have n_error : (t.toList == [101, 114, 114, 111, 114]) = false := (by rw [show ([101, 114, 114, 111, 114] : List UInt8) = ty_error.toList by rw [ByteArray.toList_eq]; rfl]; exact str_ne h_error)
                by_cases h_none : t = ty_none
                · subst h_none
                  by_cases k2 : k = 2
                  · subst k2
                    unfold ty_none
                    go_enter Tryd.func47, Tryd.ntmps47
                    go_wp2
                    go_ret
                    exact ⟨rfl, rfl⟩
                  · have c2 : (k == 2) = false := by rw [beq_eq_false_iff_ne]; exact k2
                    by_cases k3 : k = 3
                    · subst k3
                      unfold ty_none
                      go_enter Tryd.func47, Tryd.ntmps47
                      go_wp2
                      go_ret
                      exact ⟨rfl, rfl⟩
                    · have c3 : (k == 3) = false := by rw [beq_eq_false_iff_ne]; exact k3
                      have hv : tyB k ty_none = false := by
                        show (k == 2 || k == 3) = false
                        rw [c2, c3]
                        rfl
                      rw [hv]
                      unfold ty_none
                      go_enter Tryd.func47, Tryd.ntmps47
                      go_wp2
                      go_ret
                      exact ⟨rfl, rfl⟩
                · have n_none : t.toList.isEmpty = false := ty_ne h_none
                  have hv : tyB k t = false := by
                    unfold tyB
                    rw [if_neg (by simp [h_get, h_set, h_result]), if_neg (by simp [h_chat, h_headline]), if_neg h_unavailable, if_neg h_error, if_neg h_none]
                  rw [hv]
                  clear h_get h_set h_result h_chat h_headline h_unavailable h_error h_none
                  clear hv
                  go_enter Tryd.func47, Tryd.ntmps47
                  go_wp2
                  go_ret
                  exact ⟨rfl, rfl⟩
end Go.Proofs.YthmidlmknkbdaaaDoor
