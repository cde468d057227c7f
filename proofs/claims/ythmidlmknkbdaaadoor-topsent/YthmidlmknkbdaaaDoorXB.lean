/- Addresses, by hand. What all lean on. Addresses: which bytes are parts. Addresses: parts. Addresses: their texts. -/
import Derived.Below
import Derived.Lib.IndexMore
import Derived.Test.YthmidlmknkbdaaaDoorXA
import Derived.Test.YthmidlmknkbdaaaDoorChecked
import Derived.WalkKit
import Derived.WalkLawsBesides
import Derived.LaidEql
import Derived.Outline
import Derived.Lib.OthersKept
import Derived.Laws.RangeAny
import Derived.LoopTactic
import Derived.RangeFuncRecord
namespace Go.Proofs.YthmidlmknkbdaaaDoor.Jd
open Go.RowKit

/-- An address, by its parts. -/
structure JL where
  lo : List UInt8
  dom : List UInt8
  res : List UInt8
  deriving DecidableEq
def capB (b : UInt8) : Bool := decide (65 ≤ b.toNat) && decide (b.toNat ≤ 90)
def ptB (b : UInt8) : Bool := capB b || (decide (97 ≤ b.toNat) && decide (b.toNat ≤ 122)) || (decide (48 ≤ b.toNat) && decide (b.toNat ≤ 57)) || (b == 45 || b == 95 || b == 46)
def partL (l : List UInt8) : Bool := l.all ptB && !l.isEmpty
def textJ (j : JL) : List UInt8 := (if j.lo = [] then [] else j.lo ++ [64]) ++ (j.dom ++ (if j.res = [] then [] else 47 :: j.res))
def RightJ (j : JL) : Prop := (j.lo = [] ∨ partL j.lo = true) ∧ partL j.dom = true ∧ (j.res = [] ∨ partL j.res = true) ∧ (textJ j).length ≤ 64
instance (j : JL) : Decidable (RightJ j) := by unfold RightJ; infer_instance
/-- What is ahead of a mark and behind it. -/
def locL (d : List UInt8) : List UInt8 × List UInt8 × Bool := if (Lib.cut d [64]).2.2 = true then ((Lib.cut d [64]).1, (Lib.cut d [64]).2.1, true) else ([], d, false)
def parseL (s : List UInt8) : Option JL :=
  if 64 < s.length then none
  else if (Lib.cut s [47]).2.2 = true ∧ partL (Lib.cut s [47]).2.1 = false then none
  else if (locL (Lib.cut s [47]).1).2.2 = true ∧ partL (locL (Lib.cut s [47]).1).1 = false then none
  else if partL (locL (Lib.cut s [47]).1).2.1 = false then none
  else some ⟨(locL (Lib.cut s [47]).1).1, (locL (Lib.cut s [47]).1).2.1, (Lib.cut s [47]).2.1⟩

theorem cut_q (q : UInt8) : ∀ l : List UInt8, ((Lib.cut l [q]).2.2 = true ∧ l = (Lib.cut l [q]).1 ++ q :: (Lib.cut l [q]).2.1 ∧ q ∉ (Lib.cut l [q]).1) ∨ (Lib.cut l [q] = (l, [], false) ∧ q ∉ l)
  | [] => by right; exact ⟨rfl, by simp⟩
  | b :: r => by
    by_cases hb : b = q
    · subst hb
      left
      have e : Lib.index (b :: r) [b] = 0 := by simp [Lib.index]
      simp [Lib.cut, e]
    · have e : Lib.index (b :: r) [q] = if Lib.index r [q] == -1 then -1 else Lib.index r [q] + 1 := by
        simp [Lib.index, Ne.symm hb]
      have hge := Lib.index_ge r [q]
      have ih := cut_q q r
      unfold Lib.cut at ih ⊢
      by_cases h1 : Lib.index r [q] = -1
      · rw [e, h1]
        rw [h1] at ih
        simp at ih
        right
        simp
        exact ⟨fun h => hb h.symm, ih⟩
      · have h2 : 0 ≤ Lib.index r [q] := by omega
        rw [if_pos h2] at ih
        have e2 : Lib.index (b :: r) [q] = Lib.index r [q] + 1 := by rw [e]; simp [h1]
        rw [e2, if_pos (by omega)]
        have e3 : (Lib.index r [q] + 1).toNat = (Lib.index r [q]).toNat + 1 := by omega
        rw [e3]
        rcases ih with ⟨_, h3, h4⟩ | ⟨h3, _⟩
        · left
          refine ⟨rfl, ?_, ?_⟩
          · simp only [List.take_succ_cons, List.cons_append]
            exact congrArg (b :: ·) h3
          · simp only [List.take_succ_cons, List.mem_cons, not_or]
            exact ⟨fun h => hb h.symm, h4⟩
        · exact absurd (congrArg (fun x => x.2.2) h3) (by simp)
theorem head_q {q : UInt8} {a a' b b' : List UInt8} (h : a ++ q :: b = a' ++ q :: b') (h1 : q ∉ a) (h2 : q ∉ a') : a = a' ∧ b = b' := by
  induction a generalizing a' with
  | nil =>
    cases a' with
    | nil => simpa using h
    | cons x r => simp at h; exact absurd h.1 (fun e => h2 (by simp [e]))
  | cons x r ih =>
    cases a' with
    | nil => simp at h; exact absurd h.1 (fun e => h1 (by simp [e]))
    | cons y r' =>
      simp only [List.cons_append, List.cons.injEq] at h
      simp only [List.mem_cons, not_or] at h1 h2
      have := ih h.2 h1.2 h2.2
      exact ⟨by rw [h.1, this.1], this.2⟩
theorem cut_has {q : UInt8} {a : List UInt8} (b : List UInt8) (h : q ∉ a) : Lib.cut (a ++ q :: b) [q] = (a, b, true) := by
  rcases cut_q q (a ++ q :: b) with ⟨h1, h2, h3⟩ | ⟨_, h1⟩
  · have := head_q h2.symm h3 h
    rw [Prod.ext_iff, Prod.ext_iff]
    exact ⟨this.1, this.2, h1⟩
  · exact absurd (by simp) h1
theorem cut_none {q : UInt8} {a : List UInt8} (h : q ∉ a) : Lib.cut a [q] = (a, [], false) := by
  rcases cut_q q a with ⟨_, h2, _⟩ | ⟨h1, _⟩
  · exact absurd (by rw [h2]; simp) h
  · exact h1
theorem part_not {q : UInt8} (hq : ptB q = false) {l : List UInt8} (h : partL l = true) : q ∉ l := by
  intro hm
  unfold partL at h
  rw [Bool.and_eq_true, List.all_eq_true] at h
  rw [h.1 q hm] at hq
  cases hq
theorem part_ne {l : List UInt8} (h : partL l = true) : l ≠ [] := by
  intro e
  subst e
  cases h
theorem loc_has {a : List UInt8} (b : List UInt8) (h : (64 : UInt8) ∉ a) : locL (a ++ 64 :: b) = (a, b, true) := by
  unfold locL
  rw [cut_has b h]
  rfl
theorem loc_none {a : List UInt8} (h : (64 : UInt8) ∉ a) : locL a = ([], a, false) := by
  unfold locL
  rw [cut_none h]
  rfl
/-- The text of a right address is read as it. -/
theorem parse_text {j : JL} (h : RightJ j) : parseL (textJ j) = some j := by
  obtain ⟨lo, dom, res⟩ := j
  obtain ⟨h1, h2, h3, h4⟩ := h
  have d47 := part_not (q := 47) (by decide) h2
  have d64 := part_not (q := 64) (by decide) h2
  have hlo : ∀ f : List UInt8, f = (if lo = [] then [] else lo ++ [64]) ++ dom → locL f = (lo, dom, !lo.isEmpty) ∧ (47 : UInt8) ∉ f := by
    rintro f rfl
    rcases h1 with h1 | h1
    · have h1' : lo = [] := h1
      subst h1'
      exact ⟨loc_none (by simpa using d64), by simpa using d47⟩
    · have h1' : partL lo = true := h1
      have hne := part_ne h1'
      rw [if_neg hne, List.append_assoc]
      refine ⟨?_, ?_⟩
      · have := loc_has dom (part_not (q := 64) (by decide) h1')
        refine (show locL (lo ++ 64 :: dom) = _ from this).trans ?_
        cases lo with
        | nil => exact absurd rfl hne
        | cons a r => rfl
      · simp only [List.mem_append, List.mem_cons, List.not_mem_nil, or_false, not_or]
        exact ⟨part_not (q := 47) (by decide) h1', by decide, d47⟩
  obtain ⟨f, hf⟩ : ∃ f, f = (if lo = [] then [] else lo ++ [64]) ++ dom := ⟨_, rfl⟩
  obtain ⟨hl, hn⟩ := hlo f hf
  have hc : Lib.cut (textJ ⟨lo, dom, res⟩) [47] = (f, res, !res.isEmpty) := by
    unfold textJ
    show Lib.cut ((if lo = [] then [] else lo ++ [64]) ++ (dom ++ (if res = [] then [] else 47 :: res))) [47] = _
    rw [← List.append_assoc, ← hf]
    by_cases hr : res = []
    · subst hr
      rw [if_pos rfl, List.append_nil]
      exact cut_none hn
    · rw [if_neg hr, cut_has res hn]
      cases res with
      | nil => exact absurd rfl hr
      | cons a r => rfl
  unfold parseL
  rw [if_neg (by omega), hc]
  show (if (!res.isEmpty) = true ∧ partL res = false then none else if (locL f).2.2 = true ∧ partL (locL f).1 = false then none else if partL (locL f).2.1 = false then none else some (⟨(locL f).1, (locL f).2.1, res⟩ : JL)) = _
  rw [hl]
  have e1 : ¬ ((!res.isEmpty) = true ∧ partL res = false) := by
    rintro ⟨g1, g2⟩
    rcases h3 with h3 | h3
    · have h3' : res = [] := h3
      subst h3'
      cases g1
    · have h3' : partL res = true := h3
      rw [h3'] at g2
      cases g2
  have e2 : ¬ ((!lo.isEmpty) = true ∧ partL lo = false) := by
    rintro ⟨g1, g2⟩
    rcases h1 with h3 | h3
    · have h3' : lo = [] := h3
      subst h3'
      cases g1
    · have h3' : partL lo = true := h3
      rw [h3'] at g2
      cases g2
  rw [if_neg e1, if_neg e2, if_neg (by intro e; rw [show partL dom = true from h2] at e; cases e)]
theorem parse_right {s : List UInt8} {j : JL} (h : parseL s = some j) : RightJ j ∧ textJ j = s := by
  unfold parseL at h
  split at h
  · cases h
  · rename_i hl
    split at h
    · cases h
    · rename_i h1
      split at h
      · cases h
      · rename_i h2
        split at h
        · cases h
        · rename_i h3
          cases h
          rw [Bool.not_eq_false] at h3
          have hloc : ∀ d : List UInt8, (¬ ((locL d).2.2 = true ∧ partL (locL d).1 = false)) → ((locL d).1 = [] ∨ partL (locL d).1 = true) ∧ (if (locL d).1 = [] then [] else (locL d).1 ++ [64]) ++ (locL d).2.1 = d := by
            intro d hd
            rcases cut_q 64 d with ⟨c1, c2, c3⟩ | ⟨c1, c2⟩
            · have e : locL d = ((Lib.cut d [64]).1, (Lib.cut d [64]).2.1, true) := by unfold locL; rw [if_pos c1]
              rw [e] at hd ⊢
              have hp : partL (Lib.cut d [64]).1 = true := by
                cases hh : partL (Lib.cut d [64]).1 with
                | true => rfl
                | false => exact absurd ⟨rfl, hh⟩ hd
              refine ⟨.inr hp, ?_⟩
              show (if (Lib.cut d [64]).1 = [] then [] else (Lib.cut d [64]).1 ++ [64]) ++ (Lib.cut d [64]).2.1 = d
              rw [if_neg (part_ne hp)]
              exact (List.append_assoc _ _ _).trans c2.symm
            · rw [loc_none c2]
              exact ⟨.inl rfl, rfl⟩
          obtain ⟨k1, k2⟩ := hloc _ h2
          have hr : ((Lib.cut s [47]).2.1 = [] ∨ partL (Lib.cut s [47]).2.1 = true) ∧ (Lib.cut s [47]).1 ++ (if (Lib.cut s [47]).2.1 = [] then [] else 47 :: (Lib.cut s [47]).2.1) = s := by
            rcases cut_q 47 s with ⟨c1, c2, c3⟩ | ⟨c1, c2⟩
            · have hp : partL (Lib.cut s [47]).2.1 = true := by
                cases hh : partL (Lib.cut s [47]).2.1 with
                | true => rfl
                | false => exact absurd ⟨c1, hh⟩ h1
              refine ⟨.inr hp, ?_⟩
              rw [if_neg (part_ne hp)]
              exact c2.symm
            · rw [c1]
              exact ⟨.inl rfl, by simp⟩
          have ht : textJ ⟨(locL (Lib.cut s [47]).1).1, (locL (Lib.cut s [47]).1).2.1, (Lib.cut s [47]).2.1⟩ = s := by
            unfold textJ
            rw [← List.append_assoc]
            show (if (locL (Lib.cut s [47]).1).1 = [] then [] else (locL (Lib.cut s [47]).1).1 ++ [64]) ++ (locL (Lib.cut s [47]).1).2.1 ++ _ = s
            rw [k2]
            exact hr.2
          exact ⟨⟨k1, h3, hr.1, by rw [ht]; omega⟩, ht⟩
theorem parse_iff (s : List UInt8) (j : JL) : parseL s = some j ↔ RightJ j ∧ textJ j = s :=
  ⟨parse_right, fun ⟨h, e⟩ => by rw [← e]; exact parse_text h⟩
theorem right_iff (j : JL) : parseL (textJ j) = some j ↔ RightJ j := ⟨fun h => (parse_right h).1, parse_text⟩

/-- Small letters. -/
def lowB (b : UInt8) : UInt8 := if capB b = true then b + 32 else b
def upB (b : UInt8) : UInt8 := if 97 ≤ b.toNat ∧ b.toNat ≤ 122 then b - 32 else b
def bareJ (j : JL) : JL := ⟨j.lo, j.dom, []⟩
def normJ (j : JL) : JL := ⟨j.lo.map lowB, j.dom.map lowB, j.res⟩
theorem byte_all {p : UInt8 → Prop} (h : ∀ n : Fin 256, p (UInt8.ofNat n.val)) (b : UInt8) : p b := by
  have := h ⟨b.toNat, b.toNat_lt⟩
  simpa using this
set_option maxRecDepth 100000 in
theorem lowB_lowB (b : UInt8) : lowB (lowB b) = lowB b := byte_all (p := fun b => lowB (lowB b) = lowB b) (by decide) b
set_option maxRecDepth 100000 in
theorem ptB_low (b : UInt8) : ptB (lowB b) = ptB b := byte_all (p := fun b => ptB (lowB b) = ptB b) (by decide) b
set_option maxRecDepth 100000 in
theorem lowB_up (b : UInt8) : lowB (upB b) = lowB b := byte_all (p := fun b => lowB (upB b) = lowB b) (by decide) b
set_option maxRecDepth 100000 in
theorem ptB_up (b : UInt8) : ptB (upB b) = ptB b := byte_all (p := fun b => ptB (upB b) = ptB b) (by decide) b
theorem part_map {f : UInt8 → UInt8} (hf : ∀ b, ptB (f b) = ptB b) (l : List UInt8) : partL (l.map f) = partL l := by
  unfold partL
  rw [List.all_map, List.isEmpty_map]
  congr 2
  exact funext hf
theorem right_map {f : UInt8 → UInt8} (hf : ∀ b, ptB (f b) = ptB b) (j : JL) : RightJ ⟨j.lo.map f, j.dom.map f, j.res⟩ ↔ RightJ j := by
  have hl : (textJ ⟨j.lo.map f, j.dom.map f, j.res⟩).length = (textJ j).length := by
    unfold textJ
    by_cases h : j.lo = [] <;> by_cases h2 : j.res = [] <;> simp [h, h2]
  unfold RightJ
  rw [hl]
  show (j.lo.map f = [] ∨ partL (j.lo.map f) = true) ∧ partL (j.dom.map f) = true ∧ _ ↔ _
  rw [part_map hf, part_map hf, List.map_eq_nil_iff]
theorem right_bare {j : JL} (h : RightJ j) : RightJ (bareJ j) := by
  obtain ⟨h1, h2, h3, h4⟩ := h
  refine ⟨h1, h2, .inl rfl, ?_⟩
  have e : (textJ (bareJ j)).length = (if j.lo = [] then [] else j.lo ++ [64]).length + j.dom.length := by
    unfold textJ
    show ((if j.lo = [] then [] else j.lo ++ [64]) ++ (j.dom ++ [])).length = _
    rw [List.append_nil, List.length_append]
  unfold textJ at h4
  rw [List.length_append, List.length_append] at h4
  rw [e]
  omega
end Go.Proofs.YthmidlmknkbdaaaDoor.Jd

namespace Go.Proofs.YthmidlmknkbdaaaDoor.Jd
open Go.RowKit

set_option maxRecDepth 100000 in
theorem capital_any (c : UInt8) (w : World) : Calls Tryd.prog 108 #[.int .u8 c.toNat] w fun e w' => e = .returned (.bool (capB c)) ∧ w' = w := by
  unfold capB
  obtain ⟨n, hn⟩ : ∃ n : Nat, c.toNat = n := ⟨_, rfl⟩
  rw [hn]
  clear hn
  by_cases h1 : (65 : Int) ≤ n
  · by_cases h2 : (n : Int) ≤ 90
    · rw [decide_eq_true (show 65 ≤ n by omega), decide_eq_true (show n ≤ 90 by omega)]
      go_enter Tryd.func108, Tryd.ntmps108
      go_wp2
      go_ret
      simp
    · rw [decide_eq_true (show 65 ≤ n by omega), decide_eq_false (show ¬ n ≤ 90 by omega)]
      go_enter Tryd.func108, Tryd.ntmps108
      go_wp2
      go_ret
      simp
  · rw [decide_eq_false (show ¬ 65 ≤ n by omega)]
    go_enter Tryd.func108, Tryd.ntmps108
    go_wp2
    go_ret
    simp

theorem ptB_of (c : UInt8) {n : Nat} (hn : c.toNat = n) : ptB c = (decide (65 ≤ n) && decide (n ≤ 90) || (decide (97 ≤ n) && decide (n ≤ 122)) || (decide (48 ≤ n) && decide (n ≤ 57)) || (decide (n = 45) || decide (n = 95) || decide (n = 46))) := by
  subst hn
  unfold ptB capB
  have e : ∀ k : UInt8, (c == k) = decide (c.toNat = k.toNat) := fun k => by
    rw [Bool.eq_iff_iff, beq_iff_eq, decide_eq_true_eq]
    exact ⟨fun h => by rw [h], fun h => UInt8.toNat_inj.1 h⟩
  rw [e, e, e]
  rfl
set_option maxRecDepth 100000 in
theorem partByte_any (c : UInt8) (w : World) : Calls Tryd.prog 94 #[.int .u8 c.toNat] w fun e w' => e = .returned (.bool (ptB c)) ∧ w' = w := by
  have hcap := hide (capital_any c w)
  obtain ⟨n, hn⟩ : ∃ n : Nat, c.toNat = n := ⟨_, rfl⟩
  rw [ptB_of c hn]
  have hc : capB c = (decide (65 ≤ n) && decide (n ≤ 90)) := by unfold capB; rw [hn]
  have hcap2 := hide (hc ▸ hn ▸ hcap.out)
  rw [hn]
  clear hn hc hcap
  rcases (show (65 ≤ n ∧ n ≤ 90) ∨ (97 ≤ n ∧ n ≤ 122) ∨ (48 ≤ n ∧ n ≤ 57) ∨ (¬ (65 ≤ n ∧ n ≤ 90) ∧ ¬ (97 ≤ n ∧ n ≤ 122) ∧ ¬ (48 ≤ n ∧ n ≤ 57)) by omega) with h | h | h | h
  · have h1 : (decide (65 ≤ n) && decide (n ≤ 90)) = true := by simp [h]
    rw [h1] at hcap2 ⊢
    clear h1
    go_enter Tryd.func94, Tryd.ntmps94
    go_wp2_with fail
    refine hcap2.out.mono ?_
    rintro e w2 ⟨rfl, hw⟩
    subst hw
    go_wp2_with fail
    go_ret
    simp
  · have h1 : (decide (65 ≤ n) && decide (n ≤ 90)) = false := by simp; omega
    rw [h1] at hcap2 ⊢
    have h2 : (97 : Int) ≤ n := by omega
    have h3 : (n : Int) ≤ 122 := by omega
    have h4 : decide ((n : Int) ≤ 122) = true := by simp; omega
    go_enter Tryd.func94, Tryd.ntmps94
    go_wp2_with fail
    refine hcap2.out.mono ?_
    rintro e w2 ⟨rfl, hw⟩
    subst hw
    go_wp2_with fail
    go_ret
    simp [h.1, h.2]
  · have h1 : (decide (65 ≤ n) && decide (n ≤ 90)) = false := by simp; omega
    rw [h1] at hcap2 ⊢
    have h2 : ¬ (97 : Int) ≤ n := by omega
    have h3 : (48 : Int) ≤ n := by omega
    have h4 : decide ((n : Int) ≤ 57) = true := by simp; omega
    go_enter Tryd.func94, Tryd.ntmps94
    go_wp2_with fail
    refine hcap2.out.mono ?_
    rintro e w2 ⟨rfl, hw⟩
    subst hw
    go_wp2_with fail
    go_ret
    simp
  · have h1 : (decide (65 ≤ n) && decide (n ≤ 90)) = false := by simp; omega
    have h2 : (decide (97 ≤ n) && decide (n ≤ 122)) = false := by simp; omega
    have h3 : (decide (48 ≤ n) && decide (n ≤ 57)) = false := by simp; omega
    rw [h1] at hcap2 ⊢
    rw [h2, h3]
    have h4 : (97 : Int) ≤ n → decide ((n : Int) ≤ 122) = false := fun _ => by simp; omega
    have h5 : (48 : Int) ≤ n → decide ((n : Int) ≤ 57) = false := fun _ => by simp; omega
    have e45 : decide (n = 45) = decide ((n : Int) = 45) := decide_eq_decide.2 (by omega)
    have e95 : decide (n = 95) = decide ((n : Int) = 95) := decide_eq_decide.2 (by omega)
    have e46 : decide (n = 46) = decide ((n : Int) = 46) := decide_eq_decide.2 (by omega)
    rw [e45, e95, e46]
    clear h1 h2 h3 e45 e95 e46
    by_cases g1 : (n : Int) = 45
    · rw [g1] at hcap2 ⊢
      go_enter Tryd.func94, Tryd.ntmps94
      go_wp2_with fail
      refine hcap2.out.mono ?_
      rintro e w2 ⟨rfl, hw⟩
      subst hw
      go_wp2_with fail
      go_ret
      simp
    · by_cases g2 : (n : Int) = 95
      · rw [g2] at hcap2 ⊢
        go_enter Tryd.func94, Tryd.ntmps94
        go_wp2_with fail
        refine hcap2.out.mono ?_
        rintro e w2 ⟨rfl, hw⟩
        subst hw
        go_wp2_with fail
        go_ret
        simp
      · by_cases g3 : (n : Int) = 46
        · rw [g3] at hcap2 ⊢
          go_enter Tryd.func94, Tryd.ntmps94
          go_wp2_with fail
          refine hcap2.out.mono ?_
          rintro e w2 ⟨rfl, hw⟩
          subst hw
          go_wp2_with fail
          go_ret
          simp
        · rw [decide_eq_false g1, decide_eq_false g2, decide_eq_false g3]
          clear h
          by_cases k1 : (97 : Int) ≤ n
          · have k4 := h4 k1
            have k2 : (48 : Int) ≤ n := by omega
            have k5 := h5 k2
            clear h4 h5
            go_enter Tryd.func94, Tryd.ntmps94
            go_wp2_with fail
            refine hcap2.out.mono ?_
            rintro e w2 ⟨rfl, hw⟩
            subst hw
            go_wp2_with fail
            go_ret
            simp [g1, g2, g3]
          · by_cases k2 : (48 : Int) ≤ n
            · have k5 := h5 k2
              clear h4 h5
              go_enter Tryd.func94, Tryd.ntmps94
              go_wp2_with fail
              refine hcap2.out.mono ?_
              rintro e w2 ⟨rfl, hw⟩
              subst hw
              go_wp2_with fail
              go_ret
              simp [g1, g2, g3]
            · clear h4 h5
              go_enter Tryd.func94, Tryd.ntmps94
              go_wp2_with fail
              refine hcap2.out.mono ?_
              rintro e w2 ⟨rfl, hw⟩
              subst hw
              go_wp2_with fail
              go_ret
              simp [g1, g2, g3]
end Go.Proofs.YthmidlmknkbdaaaDoor.Jd
namespace Go.Proofs.YthmidlmknkbdaaaDoor.Jd
open Go.RowKit

theorem bget (s : ByteArray) (k : Nat) (h : k < s.size) : s.data.toList[k]? = some s[k] := by
  rw [List.getElem?_eq_getElem (by rw [Array.length_toList]; exact h), Array.getElem_toList]
  rfl
theorem part_false {s : ByteArray} {k : Nat} (hp : k < s.size) (h : ptB s[k] = false) : partL s.data.toList = false := by
  unfold partL
  rw [Bool.and_eq_false_iff]
  left
  rw [List.all_eq_false]
  exact ⟨s[k], List.mem_of_getElem? (bget s k hp), by rw [h]; decide⟩
theorem part_full {s : ByteArray} (h0 : 0 < s.size) (h : ∀ (j : Nat) (hj : j < s.size), ptB s[j] = true) : partL s.data.toList = true := by
  unfold partL
  rw [Bool.and_eq_true, List.all_eq_true]
  refine ⟨fun b hb => ?_, ?_⟩
  · obtain ⟨j, hj⟩ := List.getElem?_of_mem hb
    have hlt : j < s.size := by
      have := (List.getElem?_eq_some_iff.1 hj).1
      rw [Array.length_toList] at this
      exact this
    rw [bget s j hlt] at hj
    cases hj
    exact h j hlt
  · cases hd : s.data.toList with
    | nil =>
      have := congrArg List.length hd
      rw [Array.length_toList] at this
      exact absurd this (by show s.size ≠ 0; omega)
    | cons a l => rfl
set_option maxRecDepth 100000 in
theorem part_any (s : ByteArray) (w : World) (hs : s.size ≤ 9223372036854775807) : Calls Tryd.prog 82 #[.string s] w fun e w' => e = .returned (.bool (partL s.data.toList)) ∧ w' = w := by
  obtain ⟨pb, hpb⟩ : ∃ pb, partL s.data.toList = pb := ⟨_, rfl⟩
  rw [hpb]
  have HPB := hide hpb
  clear hpb
  go_enter Tryd.func82, Tryd.ntmps82
  go_wp2_with fail
  go_loop [6] (fun i => ∃ k : Nat, k ≤ s.size ∧ i = .int .i64 k ∧ ∀ (j : Nat) (h : j < s.size), j < k → ptB s[j] = true) (fun i => s.size - (intOf i).toNat)
  case atStart => exact ⟨0, Nat.zero_le _, rfl, fun j h h' => by omega⟩
  case round =>
    obtain ⟨k, hk, rfl, hpre⟩ := hrel
    have Hpre := hide hpre
    clear hpre
    by_cases hp : k < s.size
    · have hpb := hide (partByte_any s[k] w)
      go_wp2_with fail
      refine hpb.out.mono ?_
      rintro e w2 ⟨rfl, hw⟩
      subst hw
      cases hq : ptB s[k] with
      | true =>
        have Hq := hide hq
        clear hq
        go_wp2_with fail
        refine ⟨⟨k + 1, by omega, by go_num, fun j h hj => ?_⟩, by simp [intOf]; omega⟩
        rcases Nat.lt_or_ge j k with h1 | h1
        · exact Hpre.out j h h1
        · obtain rfl : j = k := by omega
          exact Hq.out
      | false =>
        have Hq := hide (part_false hp hq)
        clear hq
        go_wp2_with fail
        go_ret
        rw [← HPB.out, Hq.out]
        exact ⟨rfl, rfl⟩
    · have hks : k = s.size := by omega
      by_cases h0 : s.size = 0
      · have hse : s = ⟨#[]⟩ := by
          obtain ⟨⟨l⟩⟩ := s
          cases l with
          | nil => rfl
          | cons a l => simp [ByteArray.size] at h0
        subst hse
        go_wp2_with fail
        go_ret
        rw [← HPB.out]
        exact ⟨rfl, rfl⟩
      · have hne : (s.toList == (⟨#[]⟩ : ByteArray).toList) = false := str_ne (fun e => h0 (by rw [e]; rfl))
        have Hq := hide (part_full (s := s) (by omega) (fun j hj => Hpre.out j hj (by omega)))
        go_wp2_with fail
        go_ret
        rw [← HPB.out, Hq.out]
        simpa using hne

end Go.Proofs.YthmidlmknkbdaaaDoor.Jd
namespace Go.Proofs.YthmidlmknkbdaaaDoor.Jd
open Go.RowKit

def emp : ByteArray := ⟨#[]⟩
def joinB (lo dom res : ByteArray) : ByteArray :=
  let s := if lo = emp then dom else lo ++ ⟨#[64]⟩ ++ dom
  if res = emp then s else s ++ (⟨#[47]⟩ ++ res)
def jl (lo dom res : ByteArray) : JL := ⟨lo.data.toList, dom.data.toList, res.data.toList⟩
theorem emp_iff (s : ByteArray) : s = emp ↔ s.data.toList = [] := by
  obtain ⟨⟨l⟩⟩ := s
  constructor
  · intro h
    cases h
    rfl
  · intro h
    have h' : l = [] := h
    subst h'
    rfl
theorem ne_empty {s : ByteArray} (h : s ≠ emp) : s.toList.isEmpty = false := by
  rw [ByteArray.toList_eq]
  cases hl : s.data.toList with
  | nil => exact absurd ((emp_iff s).2 hl) h
  | cons a l => rfl
theorem app_list (a b : ByteArray) : (a ++ b).data.toList = a.data.toList ++ b.data.toList := by simp
theorem joinB_list (lo dom res : ByteArray) : (joinB lo dom res).data.toList = textJ (jl lo dom res) := by
  unfold joinB textJ jl
  by_cases h1 : lo = emp <;> by_cases h2 : res = emp
  · rw [if_pos h1, if_pos h2, if_pos ((emp_iff _).1 h1), if_pos ((emp_iff _).1 h2)]
    simp
  · rw [if_pos h1, if_neg h2, if_pos ((emp_iff _).1 h1), if_neg (fun h => h2 ((emp_iff _).2 h)), app_list, app_list]
    rfl
  · rw [if_neg h1, if_pos h2, if_neg (fun h => h1 ((emp_iff _).2 h)), if_pos ((emp_iff _).1 h2), app_list, app_list]
    simp
  · rw [if_neg h1, if_neg h2, if_neg (fun h => h1 ((emp_iff _).2 h)), if_neg (fun h => h2 ((emp_iff _).2 h)), app_list, app_list, app_list, app_list]
    simp
theorem size_list (s : ByteArray) : s.data.toList.length = s.size := Array.length_toList
theorem size_app (a b : ByteArray) : (a ++ b).size = a.size + b.size := by
  rw [← size_list, app_list, List.length_append, size_list, size_list]

theorem results_jid {fn : Func} {tmps : Array Value} {w : World} {b : Nat} {x y z : Value} (h : fn.results = #[.cell 2 104]) (hp : tmps[2]?.getD undef = .pointer (some ⟨b, 0, none⟩)) (h0 : w.cell? ⟨b, 0, none⟩ = some x) (h1 : w.cell? ⟨b, 1, none⟩ = some y) (h2 : w.cell? ⟨b, 2, none⟩ = some z) : (results fn tmps).run Tryd.prog w = .ok (.agg #[x, y, z]) w := by
  simp [results, h, hp, h0, h1, h2, go_sem, Tryd.isAgg104, Tryd.sizeOf104]
theorem results_jid2 {fn : Func} {tmps : Array Value} {w : World} {b : Nat} {x y z r : Value} (h : fn.results = #[.cell 2 104, .tmp 3]) (hp : tmps[2]?.getD undef = .pointer (some ⟨b, 0, none⟩)) (hr : tmps[3]?.getD undef = r) (h0 : w.cell? ⟨b, 0, none⟩ = some x) (h1 : w.cell? ⟨b, 1, none⟩ = some y) (h2 : w.cell? ⟨b, 2, none⟩ = some z) : (results fn tmps).run Tryd.prog w = .ok (.tuple #[.agg #[x, y, z], r]) w := by
  simp [results, h, hp, hr, h0, h1, h2, go_sem, Tryd.isAgg104, Tryd.sizeOf104]
/-- An address that lies in a block. -/
theorem cells3 {w : World} {b : Nat} {x y z : Value} {T : TypeId} (h : w.heap[b]? = some (.cells #[x, y, z] T)) : w.cell? ⟨b, 0, none⟩ = some x ∧ w.cell? ⟨b, 1, none⟩ = some y ∧ w.cell? ⟨b, 2, none⟩ = some z ∧ w.frozen? ⟨b, 0, none⟩ = false ∧ w.frozen? ⟨b, 1, none⟩ = false ∧ w.frozen? ⟨b, 2, none⟩ = false := by
  refine ⟨by simp [World.cell?, h], by simp [World.cell?, h], by simp [World.cell?, h], by simp [World.frozen?, h], by simp [World.frozen?, h], by simp [World.frozen?, h]⟩
theorem set3 {w : World} {b : Nat} {x y z : Value} {T : TypeId} (h : w.heap[b]? = some (.cells #[x, y, z] T)) (x' y' z' : Value) : (((w.setCell ⟨b, 0, none⟩ x').setCell ⟨b, 1, none⟩ y').setCell ⟨b, 2, none⟩ z').heap[b]? = some (.cells #[x', y', z'] T) := by
  have k1 := heap_setCell_same _ _ 0 _ _ x' h
  have k2 := heap_setCell_same _ _ 1 _ _ y' k1
  have k3 := heap_setCell_same _ _ 2 _ _ z' k2
  exact k3

theorem new2 (w : World) (A B : Obj) : ((w.alloc A).alloc B).heap[w.heap.size + 1]? = some B := by
  have h := World.alloc_heap_new (w.alloc A) B
  rw [show (w.alloc A).heap.size = w.heap.size + 1 by simp] at h
  exact h
end Go.Proofs.YthmidlmknkbdaaaDoor.Jd
