/- Addresses, by hand. -/
import Derived.Below
import Derived.Lib.IndexMore
namespace Go.Proofs.YtimhkgpjfppkmaaDoor.Jd
open Go.RowKit

/-- An address, by its parts. -/
structure JL where
  lo : List UInt8
  dom : List UInt8
  res : List UInt8
  deriving DecidableEq
def capB (b : UInt8) : Bool := decide (65 ≤ b.toNat) && decide (b.toNat ≤ 90)
def ptB (b : UInt8) : Bool := capB b || (decide (97 ≤ b.toNat) && decide (b.toNat ≤ 122)) || (decide (48 ≤ b.toNat) && decide (b.toNat ≤ 57)) || (b == 45 || b == 95 || b == 46)
def partL (l : List UInt8) : Bool := l.all ptB && !l.isEmpty
def textJ (j : JL) : List UInt8 := (if j.lo = [] then [] else j.lo ++ [64]) ++ (j.dom ++ (if j.res = [] then [] else 47 :: j.res))
def RightJ (j : JL) : Prop := (j.lo = [] ∨ partL j.lo = true) ∧ partL j.dom = true ∧ (j.res = [] ∨ partL j.res = true) ∧ (textJ j).length ≤ 64
instance (j : JL) : Decidable (RightJ j) := by unfold RightJ; infer_instance
/-- What is ahead of a mark and behind it. -/
def locL (d : List UInt8) : List UInt8 × List UInt8 × Bool := if (Lib.cut d [64]).2.2 = true then ((Lib.cut d [64]).1, (Lib.cut d [64]).2.1, true) else ([], d, false)
def parseL (s : List UInt8) : Option JL :=
  if 64 < s.length then none
  else if (Lib.cut s [47]).2.2 = true ∧ partL (Lib.cut s [47]).2.1 = false then none
  else if (locL (Lib.cut s [47]).1).2.2 = true ∧ partL (locL (Lib.cut s [47]).1).1 = false then none
  else if partL (locL (Lib.cut s [47]).1).2.1 = false then none
  else some ⟨(locL (Lib.cut s [47]).1).1, (locL (Lib.cut s [47]).1).2.1, (Lib.cut s [47]).2.1⟩

theorem cut_q (q : UInt8) : ∀ l : List UInt8, ((Lib.cut l [q]).2.2 = true ∧ l = (Lib.cut l [q]).1 ++ q :: (Lib.cut l [q]).2.1 ∧ q ∉ (Lib.cut l [q]).1) ∨ (Lib.cut l [q] = (l, [], false) ∧ q ∉ l)
  | [] => by right; exact ⟨rfl, by simp⟩
  | b :: r => by
    by_cases hb : b = q
    · subst hb
      left
      have e : Lib.index (b :: r) [b] = 0 := by simp [Lib.index]
      simp [Lib.cut, e]
    · have e : Lib.index (b :: r) [q] = if Lib.index r [q] == -1 then -1 else Lib.index r [q] + 1 := by
        simp [Lib.index, Ne.symm hb]
      have hge := Lib.index_ge r [q]
      have ih := cut_q q r
      unfold Lib.cut at ih ⊢
      by_cases h1 : Lib.index r [q] = -1
      · rw [e, h1]
        rw [h1] at ih
        simp at ih
        right
        simp
        exact ⟨fun h => hb h.symm, ih⟩
      · have h2 : 0 ≤ Lib.index r [q] := by omega
        rw [if_pos h2] at ih
        have e2 : Lib.index (b :: r) [q] = Lib.index r [q] + 1 := by rw [e]; simp [h1]
        rw [e2, if_pos (by omega)]
        have e3 : (Lib.index r [q] + 1).toNat = (Lib.index r [q]).toNat + 1 := by omega
        rw [e3]
        rcases ih with ⟨_, h3, h4⟩ | ⟨h3, _⟩
        · left
          refine ⟨rfl, ?_, ?_⟩
          · simp only [List.take_succ_cons, List.cons_append]
            exact congrArg (b :: ·) h3
          · simp only [List.take_succ_cons, List.mem_cons, not_or]
            exact ⟨fun h => hb h.symm, h4⟩
        · exact absurd (congrArg (fun x => x.2.2) h3) (by simp)
theorem head_q {q : UInt8} {a a' b b' : List UInt8} (h : a ++ q :: b = a' ++ q :: b') (h1 : q ∉ a) (h2 : q ∉ a') : a = a' ∧ b = b' := by
  induction a generalizing a' with
  | nil =>
    cases a' with
    | nil => simpa using h
    | cons x r => simp at h; exact absurd h.1 (fun e => h2 (by simp [e]))
  | cons x r ih =>
    cases a' with
    | nil => simp at h; exact absurd h.1 (fun e => h1 (by simp [e]))
    | cons y r' =>
      simp only [List.cons_append, List.cons.injEq] at h
      simp only [List.mem_cons, not_or] at h1 h2
      have := ih h.2 h1.2 h2.2
      exact ⟨by rw [h.1, this.1], this.2⟩
theorem cut_has {q : UInt8} {a : List UInt8} (b : List UInt8) (h : q ∉ a) : Lib.cut (a ++ q :: b) [q] = (a, b, true) := by
  rcases cut_q q (a ++ q :: b) with ⟨h1, h2, h3⟩ | ⟨_, h1⟩
  · have := head_q h2.symm h3 h
    rw [Prod.ext_iff, Prod.ext_iff]
    exact ⟨this.1, this.2, h1⟩
  · exact absurd (by simp) h1
theorem cut_none {q : UInt8} {a : List UInt8} (h : q ∉ a) : Lib.cut a [q] = (a, [], false) := by
  rcases cut_q q a with ⟨_, h2, _⟩ | ⟨h1, _⟩
  · exact absurd (by rw [h2]; simp) h
  · exact h1
theorem part_not {q : UInt8} (hq : ptB q = false) {l : List UInt8} (h : partL l = true) : q ∉ l := by
  intro hm
  unfold partL at h
  rw [Bool.and_eq_true, List.all_eq_true] at h
  rw [h.1 q hm] at hq
  cases hq
theorem part_ne {l : List UInt8} (h : partL l = true) : l ≠ [] := by
  intro e
  subst e
  cases h
theorem loc_has {a : List UInt8} (b : List UInt8) (h : (64 : UInt8) ∉ a) : locL (a ++ 64 :: b) = (a, b, true) := by
  unfold locL
  rw [cut_has b h]
  rfl
theorem loc_none {a : List UInt8} (h : (64 : UInt8) ∉ a) : locL a = ([], a, false) := by
  unfold locL
  rw [cut_none h]
  rfl
/-- The text of a right address is read as it. -/
theorem parse_text {j : JL} (h : RightJ j) : parseL (textJ j) = some j := by
  obtain ⟨lo, dom, res⟩ := j
  obtain ⟨h1, h2, h3, h4⟩ := h
  have d47 := part_not (q := 47) (by decide) h2
  have d64 := part_not (q := 64) (by decide) h2
  have hlo : ∀ f : List UInt8, f = (if lo = [] then [] else lo ++ [64]) ++ dom → locL f = (lo, dom, !lo.isEmpty) ∧ (47 : UInt8) ∉ f := by
    rintro f rfl
    rcases h1 with h1 | h1
    · have h1' : lo = [] := h1
      subst h1'
      exact ⟨loc_none (by simpa using d64), by simpa using d47⟩
    · have h1' : partL lo = true := h1
      have hne := part_ne h1'
      rw [if_neg hne, List.append_assoc]
      refine ⟨?_, ?_⟩
      · have := loc_has dom (part_not (q := 64) (by decide) h1')
        refine (show locL (lo ++ 64 :: dom) = _ from this).trans ?_
        cases lo with
        | nil => exact absurd rfl hne
        | cons a r => rfl
      · simp only [List.mem_append, List.mem_cons, List.not_mem_nil, or_false, not_or]
        exact ⟨part_not (q := 47) (by decide) h1', by decide, d47⟩
  obtain ⟨f, hf⟩ : ∃ f, f = (if lo = [] then [] else lo ++ [64]) ++ dom := ⟨_, rfl⟩
  obtain ⟨hl, hn⟩ := hlo f hf
  have hc : Lib.cut (textJ ⟨lo, dom, res⟩) [47] = (f, res, !res.isEmpty) := by
    unfold textJ
    show Lib.cut ((if lo = [] then [] else lo ++ [64]) ++ (dom ++ (if res = [] then [] else 47 :: res))) [47] = _
    rw [← List.append_assoc, ← hf]
    by_cases hr : res = []
    · subst hr
      rw [if_pos rfl, List.append_nil]
      exact cut_none hn
    · rw [if_neg hr, cut_has res hn]
      cases res with
      | nil => exact absurd rfl hr
      | cons a r => rfl
  unfold parseL
  rw [if_neg (by omega), hc]
  show (if (!res.isEmpty) = true ∧ partL res = false then none else if (locL f).2.2 = true ∧ partL (locL f).1 = false then none else if partL (locL f).2.1 = false then none else some (⟨(locL f).1, (locL f).2.1, res⟩ : JL)) = _
  rw [hl]
  have e1 : ¬ ((!res.isEmpty) = true ∧ partL res = false) := by
    rintro ⟨g1, g2⟩
    rcases h3 with h3 | h3
    · have h3' : res = [] := h3
      subst h3'
      cases g1
    · have h3' : partL res = true := h3
      rw [h3'] at g2
      cases g2
  have e2 : ¬ ((!lo.isEmpty) = true ∧ partL lo = false) := by
    rintro ⟨g1, g2⟩
    rcases h1 with h3 | h3
    · have h3' : lo = [] := h3
      subst h3'
      cases g1
    · have h3' : partL lo = true := h3
      rw [h3'] at g2
      cases g2
  rw [if_neg e1, if_neg e2, if_neg (by intro e; rw [show partL dom = true from h2] at e; cases e)]
theorem parse_right {s : List UInt8} {j : JL} (h : parseL s = some j) : RightJ j ∧ textJ j = s := by
  unfold parseL at h
  split at h
  · cases h
  · rename_i hl
    split at h
    · cases h
    · rename_i h1
      split at h
      · cases h
      · rename_i h2
        split at h
        · cases h
        · rename_i h3
          cases h
          rw [Bool.not_eq_false] at h3
          have hloc : ∀ d : List UInt8, (¬ ((locL d).2.2 = true ∧ partL (locL d).1 = false)) → ((locL d).1 = [] ∨ partL (locL d).1 = true) ∧ (if (locL d).1 = [] then [] else (locL d).1 ++ [64]) ++ (locL d).2.1 = d := by
            intro d hd
            rcases cut_q 64 d with ⟨c1, c2, c3⟩ | ⟨c1, c2⟩
            · have e : locL d = ((Lib.cut d [64]).1, (Lib.cut d [64]).2.1, true) := by unfold locL; rw [if_pos c1]
              rw [e] at hd ⊢
              have hp : partL (Lib.cut d [64]).1 = true := by
                cases hh : partL (Lib.cut d [64]).1 with
                | true => rfl
                | false => exact absurd ⟨rfl, hh⟩ hd
              refine ⟨.inr hp, ?_⟩
              show (if (Lib.cut d [64]).1 = [] then [] else (Lib.cut d [64]).1 ++ [64]) ++ (Lib.cut d [64]).2.1 = d
              rw [if_neg (part_ne hp)]
              exact (List.append_assoc _ _ _).trans c2.symm
            · rw [loc_none c2]
              exact ⟨.inl rfl, rfl⟩
          obtain ⟨k1, k2⟩ := hloc _ h2
          have hr : ((Lib.cut s [47]).2.1 = [] ∨ partL (Lib.cut s [47]).2.1 = true) ∧ (Lib.cut s [47]).1 ++ (if (Lib.cut s [47]).2.1 = [] then [] else 47 :: (Lib.cut s [47]).2.1) = s := by
            rcases cut_q 47 s with ⟨c1, c2, c3⟩ | ⟨c1, c2⟩
            · have hp : partL (Lib.cut s [47]).2.1 = true := by
                cases hh : partL (Lib.cut s [47]).2.1 with
                | true => rfl
                | false => exact absurd ⟨c1, hh⟩ h1
              refine ⟨.inr hp, ?_⟩
              rw [if_neg (part_ne hp)]
              exact c2.symm
            · rw [c1]
              exact ⟨.inl rfl, by simp⟩
          have ht : textJ ⟨(locL (Lib.cut s [47]).1).1, (locL (Lib.cut s [47]).1).2.1, (Lib.cut s [47]).2.1⟩ = s := by
            unfold textJ
            rw [← List.append_assoc]
            show (if (locL (Lib.cut s [47]).1).1 = [] then [] else (locL (Lib.cut s [47]).1).1 ++ [64]) ++ (locL (Lib.cut s [47]).1).2.1 ++ _ = s
            rw [k2]
            exact hr.2
          exact ⟨⟨k1, h3, hr.1, by rw [ht]; omega⟩, ht⟩
theorem parse_iff (s : List UInt8) (j : JL) : parseL s = some j ↔ RightJ j ∧ textJ j = s :=
  ⟨parse_right, fun ⟨h, e⟩ => by rw [← e]; exact parse_text h⟩
theorem right_iff (j : JL) : parseL (textJ j) = some j ↔ RightJ j := ⟨fun h => (parse_right h).1, parse_text⟩

/-- Small letters. -/
def lowB (b : UInt8) : UInt8 := if capB b = true then b + 32 else b
def upB (b : UInt8) : UInt8 := if 97 ≤ b.toNat ∧ b.toNat ≤ 122 then b - 32 else b
def bareJ (j : JL) : JL := ⟨j.lo, j.dom, []⟩
def normJ (j : JL) : JL := ⟨j.lo.map lowB, j.dom.map lowB, j.res⟩
theorem byte_all {p : UInt8 → Prop} (h : ∀ n : Fin 256, p (UInt8.ofNat n.val)) (b : UInt8) : p b := by
  have := h ⟨b.toNat, b.toNat_lt⟩
  simpa using this
set_option maxRecDepth 100000 in
theorem lowB_lowB (b : UInt8) : lowB (lowB b) = lowB b := byte_all (p := fun b => lowB (lowB b) = lowB b) (by decide) b
set_option maxRecDepth 100000 in
theorem ptB_low (b : UInt8) : ptB (lowB b) = ptB b := byte_all (p := fun b => ptB (lowB b) = ptB b) (by decide) b
set_option maxRecDepth 100000 in
theorem lowB_up (b : UInt8) : lowB (upB b) = lowB b := byte_all (p := fun b => lowB (upB b) = lowB b) (by decide) b
set_option maxRecDepth 100000 in
theorem ptB_up (b : UInt8) : ptB (upB b) = ptB b := byte_all (p := fun b => ptB (upB b) = ptB b) (by decide) b
theorem part_map {f : UInt8 → UInt8} (hf : ∀ b, ptB (f b) = ptB b) (l : List UInt8) : partL (l.map f) = partL l := by
  unfold partL
  rw [List.all_map, List.isEmpty_map]
  congr 2
  exact funext hf
theorem right_map {f : UInt8 → UInt8} (hf : ∀ b, ptB (f b) = ptB b) (j : JL) : RightJ ⟨j.lo.map f, j.dom.map f, j.res⟩ ↔ RightJ j := by
  have hl : (textJ ⟨j.lo.map f, j.dom.map f, j.res⟩).length = (textJ j).length := by
    unfold textJ
    by_cases h : j.lo = [] <;> by_cases h2 : j.res = [] <;> simp [h, h2]
  unfold RightJ
  rw [hl]
  show (j.lo.map f = [] ∨ partL (j.lo.map f) = true) ∧ partL (j.dom.map f) = true ∧ _ ↔ _
  rw [part_map hf, part_map hf, List.map_eq_nil_iff]
theorem right_bare {j : JL} (h : RightJ j) : RightJ (bareJ j) := by
  obtain ⟨h1, h2, h3, h4⟩ := h
  refine ⟨h1, h2, .inl rfl, ?_⟩
  have e : (textJ (bareJ j)).length = (if j.lo = [] then [] else j.lo ++ [64]).length + j.dom.length := by
    unfold textJ
    show ((if j.lo = [] then [] else j.lo ++ [64]) ++ (j.dom ++ [])).length = _
    rw [List.append_nil, List.length_append]
  unfold textJ at h4
  rw [List.length_append, List.length_append] at h4
  rw [e]
  omega
end Go.Proofs.YtimhkgpjfppkmaaDoor.Jd
