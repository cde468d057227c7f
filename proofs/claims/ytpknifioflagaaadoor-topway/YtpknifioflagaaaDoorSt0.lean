/- Stanzas: their kinds and types. -/
import Derived.Test.YtpknifioflagaaaDoorToks
import Derived.LoopTactic
namespace Go.Proofs.YtpknifioflagaaaDoor
open Go.RowKit

def ty_get : ByteArray := ⟨#[103, 101, 116]⟩
def ty_set : ByteArray := ⟨#[115, 101, 116]⟩
def ty_result : ByteArray := ⟨#[114, 101, 115, 117, 108, 116]⟩
def ty_chat : ByteArray := ⟨#[99, 104, 97, 116]⟩
def ty_headline : ByteArray := ⟨#[104, 101, 97, 100, 108, 105, 110, 101]⟩
def ty_unavailable : ByteArray := ⟨#[117, 110, 97, 118, 97, 105, 108, 97, 98, 108, 101]⟩
def ty_error : ByteArray := ⟨#[101, 114, 114, 111, 114]⟩
def ty_none : ByteArray := ⟨#[]⟩
theorem ty_ne {t : ByteArray} (h : t ≠ ty_none) : t.toList.isEmpty = false := by
  rw [ByteArray.toList_eq]
  obtain ⟨⟨l⟩⟩ := t
  cases l with
  | nil => exact absurd rfl h
  | cons a l => rfl
/-- Is a type one of a kind? -/
def tyB (k : Int) (t : ByteArray) : Bool :=
  if t = ty_get ∨ t = ty_set ∨ t = ty_result then k == 1
  else if t = ty_chat ∨ t = ty_headline then k == 2
  else if t = ty_unavailable then k == 3
  else if t = ty_error then (k == 1 || (k == 2 || k == 3))
  else if t = ty_none then (k == 2 || k == 3)
  else false
/-- An element's name of a kind. -/
def kindB (k : Int) : ByteArray := if k = 1 then ⟨#[105, 113]⟩ else if k = 2 then ⟨#[109, 101, 115, 115, 97, 103, 101]⟩ else if k = 3 then ⟨#[112, 114, 101, 115, 101, 110, 99, 101]⟩ else ⟨#[]⟩
set_option maxRecDepth 100000 in
theorem kindName_any (k : Int) (w : World) : Calls Tryd.prog 52 #[.int .u8 k] w fun e w' => e = .returned (.string (kindB k)) ∧ w' = w := by
  unfold kindB
  by_cases h1 : k = 1
  · subst h1
    go_enter Tryd.func52, Tryd.ntmps52
    go_wp2
    go_ret
    exact ⟨rfl, rfl⟩
  · by_cases h2 : k = 2
    · subst h2
      go_enter Tryd.func52, Tryd.ntmps52
      go_wp2
      go_ret
      exact ⟨rfl, rfl⟩
    · by_cases h3 : k = 3
      · subst h3
        go_enter Tryd.func52, Tryd.ntmps52
        go_wp2
        go_ret
        exact ⟨rfl, rfl⟩
      · rw [if_neg h1, if_neg h2, if_neg h3]
        have e1 : (k == 1) = false := by rw [beq_eq_false_iff_ne]; exact h1
        have e2 : (k == 2) = false := by rw [beq_eq_false_iff_ne]; exact h2
        have e3 : (k == 3) = false := by rw [beq_eq_false_iff_ne]; exact h3
        clear h1 h2 h3
        go_enter Tryd.func52, Tryd.ntmps52
        go_wp2
        go_ret
        exact ⟨rfl, rfl⟩
set_option maxRecDepth 100000 in
set_option maxHeartbeats 1000000 in
theorem typeOf_any (k : Int) (t : ByteArray) (w : World) : Calls Tryd.prog 50 #[.int .u8 k, .string t] w fun e w' => e = .returned (.bool (tyB k t)) ∧ w' = w := by
  by_cases h_get : t = ty_get
  · subst h_get
    have hv : tyB k ty_get = (k == 1) := rfl
    rw [hv]
    unfold ty_get
    go_enter Tryd.func50, Tryd.ntmps50
    go_wp2
    go_ret
    exact ⟨rfl, rfl⟩
  · have n_get : (t.toList == [103, 101, 116]) = false := (by rw [show ([103, 101, 116] : List UInt8) = ty_get.toList by rw [ByteArray.toList_eq]; rfl]; exact str_ne h_get)
    by_cases h_set : t = ty_set
    · subst h_set
      have hv : tyB k ty_set = (k == 1) := rfl
      rw [hv]
      unfold ty_set
      go_enter Tryd.func50, Tryd.ntmps50
      go_wp2
      go_ret
      exact ⟨rfl, rfl⟩
    · have n_set : (t.toList == [115, 101, 116]) = false := (by rw [show ([115, 101, 116] : List UInt8) = ty_set.toList by rw [ByteArray.toList_eq]; rfl]; exact str_ne h_set)
      by_cases h_result : t = ty_result
      · subst h_result
        have hv : tyB k ty_result = (k == 1) := rfl
        rw [hv]
        unfold ty_result
        go_enter Tryd.func50, Tryd.ntmps50
        go_wp2
        go_ret
        exact ⟨rfl, rfl⟩
      · have n_result : (t.toList == [114, 101, 115, 117, 108, 116]) = false := (by rw [show ([114, 101, 115, 117, 108, 116] : List UInt8) = ty_result.toList by rw [ByteArray.toList_eq]; rfl]; exact str_ne h_result)
        by_cases h_chat : t = ty_chat
        · subst h_chat
          have hv : tyB k ty_chat = (k == 2) := rfl
          rw [hv]
          unfold ty_chat
          go_enter Tryd.func50, Tryd.ntmps50
          go_wp2
          go_ret
          exact ⟨rfl, rfl⟩
        · have n_chat : (t.toList == [99, 104, 97, 116]) = false := (by rw [show ([99, 104, 97, 116] : List UInt8) = ty_chat.toList by rw [ByteArray.toList_eq]; rfl]; exact str_ne h_chat)
          by_cases h_headline : t = ty_headline
          · subst h_headline
            have hv : tyB k ty_headline = (k == 2) := rfl
            rw [hv]
            unfold ty_headline
            go_enter Tryd.func50, Tryd.ntmps50
            go_wp2
            go_ret
            exact ⟨rfl, rfl⟩
          · have n_headline : (t.toList == [104, 101, 97, 100, 108, 105, 110, 101]) = false := (by rw [show ([104, 101, 97, 100, 108, 105, 110, 101] : List UInt8) = ty_headline.toList by rw [ByteArray.toList_eq]; rfl]; exact str_ne h_headline)
            by_cases h_unavailable : t = ty_unavailable
            · subst h_unavailable
              have hv : tyB k ty_unavailable = (k == 3) := rfl
              rw [hv]
              unfold ty_unavailable
              go_enter Tryd.func50, Tryd.ntmps50
              go_wp2
              go_ret
              exact ⟨rfl, rfl⟩
            · have n_unavailable : (t.toList == [117, 110, 97, 118, 97, 105, 108, 97, 98, 108, 101]) = false := (by rw [show ([117, 110, 97, 118, 97, 105, 108, 97, 98, 108, 101] : List UInt8) = ty_unavailable.toList by rw [ByteArray.toList_eq]; rfl]; exact str_ne h_unavailable)
              by_cases h_error : t = ty_error
              · subst h_error
                by_cases k1 : k = 1
                · subst k1
                  unfold ty_error
                  go_enter Tryd.func50, Tryd.ntmps50
                  go_wp2
                  go_ret
                  exact ⟨rfl, rfl⟩
                · have c1 : (k == 1) = false := by rw [beq_eq_false_iff_ne]; exact k1
                  by_cases k2 : k = 2
                  · subst k2
                    unfold ty_error
                    go_enter Tryd.func50, Tryd.ntmps50
                    go_wp2
                    go_ret
                    exact ⟨rfl, rfl⟩
                  · have c2 : (k == 2) = false := by rw [beq_eq_false_iff_ne]; exact k2
                    by_cases k3 : k = 3
                    · subst k3
                      unfold ty_error
                      go_enter Tryd.func50, Tryd.ntmps50
                      go_wp2
                      go_ret
                      exact ⟨rfl, rfl⟩
                    · have c3 : (k == 3) = false := by rw [beq_eq_false_iff_ne]; exact k3
                      have hv : tyB k ty_error = false := by
                        show (k == 1 || (k == 2 || k == 3)) = false
                        rw [c1, c2, c3]
                        rfl
                      rw [hv]
                      unfold ty_error
                      go_enter Tryd.func50, Tryd.ntmps50
                      go_wp2
                      go_ret
                      exact ⟨rfl, rfl⟩
              · have n_error : (t.toList == [101, 114, 114, 111, 114]) = false := (by rw [show ([101, 114, 114, 111, 114] : List UInt8) = ty_error.toList by rw [ByteArray.toList_eq]; rfl]; exact str_ne h_error)
                by_cases h_none : t = ty_none
                · subst h_none
                  by_cases k2 : k = 2
                  · subst k2
                    unfold ty_none
                    go_enter Tryd.func50, Tryd.ntmps50
                    go_wp2
                    go_ret
                    exact ⟨rfl, rfl⟩
                  · have c2 : (k == 2) = false := by rw [beq_eq_false_iff_ne]; exact k2
                    by_cases k3 : k = 3
                    · subst k3
                      unfold ty_none
                      go_enter Tryd.func50, Tryd.ntmps50
                      go_wp2
                      go_ret
                      exact ⟨rfl, rfl⟩
                    · have c3 : (k == 3) = false := by rw [beq_eq_false_iff_ne]; exact k3
                      have hv : tyB k ty_none = false := by
                        show (k == 2 || k == 3) = false
                        rw [c2, c3]
                        rfl
                      rw [hv]
                      unfold ty_none
                      go_enter Tryd.func50, Tryd.ntmps50
                      go_wp2
                      go_ret
                      exact ⟨rfl, rfl⟩
                · have n_none : t.toList.isEmpty = false := ty_ne h_none
                  have hv : tyB k t = false := by
                    unfold tyB
                    rw [if_neg (by simp [h_get, h_set, h_result]), if_neg (by simp [h_chat, h_headline]), if_neg h_unavailable, if_neg h_error, if_neg h_none]
                  rw [hv]
                  clear h_get h_set h_result h_chat h_headline h_unavailable h_error h_none
                  clear hv
                  go_enter Tryd.func50, Tryd.ntmps50
                  go_wp2
                  go_ret
                  exact ⟨rfl, rfl⟩
end Go.Proofs.YtpknifioflagaaaDoor
