/- Pairs, rising by their keys: what a map holds, and what is done to it. A map in memory: its entries, in the order in which they came. -/
import Derived.Test.YtnbemfddcjhcaaaJBase
import Derived.Sort.Walk0
import Derived.Maps.RangeRun
import Derived.MapKept
import Derived.ChangeMaps4
namespace Go.Proofs.Ytnbemfddcjhcaaa.Kv
open Go.RowKit

abbrev Str := List UInt8
/-- A pair: its key and its value. -/
abbrev Pr := ByteArray × ByteArray
def kb (x : Pr) : Str := x.1.toList
theorem ba_ext {a b : ByteArray} (h : a.toList = b.toList) : a = b := by
  rw [ByteArray.toList_eq, ByteArray.toList_eq] at h
  obtain ⟨⟨x⟩⟩ := a
  obtain ⟨⟨y⟩⟩ := b
  exact congrArg (fun l => (⟨⟨l⟩⟩ : ByteArray)) (by simpa using h)
def Rising (L : List Pr) : Prop := L.Pairwise fun x y => kb x < kb y
theorem str_irrefl (a : Str) : ¬ a < a := List.lt_irrefl a
theorem str_trans {a b c : Str} (h : a < b) (k : b < c) : a < c := List.lt_trans h k
theorem str_asymm {a b : Str} (h : a < b) : ¬ b < a := fun k => str_irrefl a (str_trans h k)
theorem str_total {a b : Str} (h : ¬ a < b) (h2 : a ≠ b) : b < a := by
  by_cases h3 : b < a
  · exact h3
  · exact absurd (List.le_antisymm (List.not_lt.1 h3) (List.not_lt.1 h)) h2
/-- Two rising lists of the same pairs are one. -/
theorem rising_unique : ∀ {A B : List Pr}, Rising A → Rising B → (∀ x, x ∈ A ↔ x ∈ B) → A = B
  | [], B, _, _, h => by
    cases B with
    | nil => rfl
    | cons y B => exact absurd ((h y).2 List.mem_cons_self) (by simp)
  | x :: A, [], _, _, h => absurd ((h x).1 List.mem_cons_self) (by simp)
  | x :: A, y :: B, hA, hB, h => by
    have hA' := List.pairwise_cons.1 hA
    have hB' := List.pairwise_cons.1 hB
    have hxy : x = y := by
      rcases List.mem_cons.1 ((h x).1 List.mem_cons_self) with e | e
      · exact e
      · rcases List.mem_cons.1 ((h y).2 List.mem_cons_self) with e2 | e2
        · exact e2.symm
        · exact absurd (hA'.1 y e2) (str_asymm (hB'.1 x e))
    subst hxy
    congr 1
    refine rising_unique hA'.2 hB'.2 (fun z => ⟨fun hz => ?_, fun hz => ?_⟩)
    · rcases List.mem_cons.1 ((h z).1 (List.mem_cons_of_mem _ hz)) with e | e
      · subst e
        exact absurd (hA'.1 z hz) (str_irrefl _)
      · exact e
    · rcases List.mem_cons.1 ((h z).2 (List.mem_cons_of_mem _ hz)) with e | e
      · subst e
        exact absurd (hB'.1 z hz) (str_irrefl _)
      · exact e
theorem rising_filter {L : List Pr} (h : Rising L) (p : Pr → Bool) : Rising (L.filter p) := List.Pairwise.filter p h
theorem rising_key {L : List Pr} (h : Rising L) {x y : Pr} (hx : x ∈ L) (hy : y ∈ L) (e : x.1 = y.1) : x = y := by
  induction L with
  | nil => cases hx
  | cons z L ih =>
    have h' := List.pairwise_cons.1 h
    rcases List.mem_cons.1 hx with e1 | hx'
    · rcases List.mem_cons.1 hy with e2 | hy'
      · exact e1.trans e2.symm
      · have := h'.1 y hy'
        unfold kb at this
        rw [← e1, e] at this
        exact absurd this (str_irrefl _)
    · rcases List.mem_cons.1 hy with e2 | hy'
      · have := h'.1 x hx'
        unfold kb at this
        rw [← e2, e] at this
        exact absurd this (str_irrefl _)
      · exact ih h'.2 hx' hy'
/-- Without a key. -/
def delM (L : List Pr) (k : ByteArray) : List Pr := L.filter fun x => !decide (x.1 = k)
theorem mem_delM {L : List Pr} {k : ByteArray} {x : Pr} : x ∈ delM L k ↔ x ∈ L ∧ x.1 ≠ k := by simp [delM]
theorem delM_rising {L : List Pr} (h : Rising L) (k : ByteArray) : Rising (delM L k) := rising_filter h _
/-- A pair put among others, at its place. -/
def insM (k v : ByteArray) : List Pr → List Pr
  | [] => [(k, v)]
  | x :: L => if k.toList < kb x then (k, v) :: x :: L else x :: insM k v L
def putM (L : List Pr) (k v : ByteArray) : List Pr := insM k v (delM L k)
theorem mem_insM {k v : ByteArray} {x : Pr} : ∀ {L : List Pr}, x ∈ insM k v L ↔ x = (k, v) ∨ x ∈ L
  | [] => by simp [insM]
  | y :: L => by
    unfold insM
    split
    · simp
    · simp [mem_insM]
      constructor
      · rintro (h | h | h)
        · exact .inr (.inl h)
        · exact .inl h
        · exact .inr (.inr h)
      · rintro (h | h | h)
        · exact .inr (.inl h)
        · exact .inl h
        · exact .inr (.inr h)
theorem insM_len (k v : ByteArray) : ∀ (L : List Pr), (insM k v L).length = L.length + 1
  | [] => rfl
  | x :: L => by
    unfold insM
    split
    · simp
    · simp [insM_len k v L]
theorem insM_rising {k v : ByteArray} : ∀ {L : List Pr}, Rising L → (∀ x ∈ L, x.1 ≠ k) → Rising (insM k v L)
  | [], _, _ => List.pairwise_singleton _ _
  | x :: L, h, hn => by
    have h' := List.pairwise_cons.1 h
    unfold insM
    split
    · rename_i hlt
      refine List.pairwise_cons.2 ⟨fun y hy => ?_, h⟩
      rcases List.mem_cons.1 hy with rfl | hy
      · exact hlt
      · exact str_trans hlt (h'.1 y hy)
    · rename_i hlt
      refine List.pairwise_cons.2 ⟨fun y hy => ?_, insM_rising h'.2 (fun z hz => hn z (List.mem_cons_of_mem _ hz))⟩
      rcases mem_insM.1 hy with rfl | hy
      · exact str_total hlt (fun e => hn x List.mem_cons_self (ba_ext e.symm))
      · exact h'.1 y hy
theorem mem_putM {L : List Pr} {k v : ByteArray} {x : Pr} : x ∈ putM L k v ↔ x = (k, v) ∨ (x ∈ L ∧ x.1 ≠ k) := by
  unfold putM
  rw [mem_insM, mem_delM]
theorem putM_rising {L : List Pr} (h : Rising L) (k v : ByteArray) : Rising (putM L k v) := insM_rising (delM_rising h k) (fun _ hx => (mem_delM.1 hx).2)
/-- A key's value. -/
def getM (L : List Pr) (k : ByteArray) : Option ByteArray := (L.find? fun x => decide (x.1 = k)).map (·.2)
theorem getM_some {L : List Pr} {k v : ByteArray} (h : getM L k = some v) : (k, v) ∈ L := by
  unfold getM at h
  cases hf : L.find? (fun x => decide (x.1 = k)) with
  | none => simp [hf] at h
  | some x =>
    have h1 := List.find?_some hf
    have h2 := List.mem_of_find?_eq_some hf
    simp [hf] at h
    simp at h1
    rw [← h1, ← h]
    exact h2
theorem getM_none {L : List Pr} {k : ByteArray} (h : getM L k = none) : ∀ x ∈ L, x.1 ≠ k := by
  unfold getM at h
  simp at h
  intro x hx e
  exact h x.1 x.2 hx e
theorem getM_mem {L : List Pr} (h : Rising L) {k v : ByteArray} (hm : (k, v) ∈ L) : getM L k = some v := by
  cases hg : getM L k with
  | none => exact absurd rfl (getM_none hg _ hm)
  | some u =>
    have := rising_key h hm (getM_some hg) rfl
    cases this
    rfl
theorem delM_none {L : List Pr} {k : ByteArray} (h : getM L k = none) : delM L k = L := by
  unfold delM
  rw [List.filter_eq_self]
  intro x hx
  simp [getM_none h x hx]
theorem putM_len {L : List Pr} (h : Rising L) (k v : ByteArray) : (putM L k v).length = if getM L k = none then L.length + 1 else L.length := by
  unfold putM
  rw [insM_len]
  split
  · rename_i hn
    rw [delM_none hn]
  · rename_i hn
    induction L with
    | nil => exact absurd rfl hn
    | cons x L ih =>
      have h' := List.pairwise_cons.1 h
      by_cases hx : x.1 = k
      · have : delM L k = L := by
          unfold delM
          rw [List.filter_eq_self]
          intro y hy
          have := h'.1 y hy
          simp
          intro e
          unfold kb at this
          rw [e, hx] at this
          exact str_irrefl _ this
        show ((x :: L).filter _).length + 1 = _
        rw [List.filter_cons_of_neg (by simp [hx])]
        show (delM L k).length + 1 = _
        rw [this]
        rfl
      · have hg : getM (x :: L) k = getM L k := by
          unfold getM
          rw [List.find?_cons_of_neg (by simpa using hx)]
        rw [hg] at hn
        show ((x :: L).filter _).length + 1 = _
        rw [List.filter_cons_of_pos (by simp [hx])]
        have := ih h'.2 hn
        show (delM L k).length + 1 + 1 = L.length + 1
        omega
end Go.Proofs.Ytnbemfddcjhcaaa.Kv
namespace Go.Proofs.Ytnbemfddcjhcaaa.Kv
open Go.RowKit Go.MapKept
open Go.ChangeMaps (setBlock)

/-- An entry: its key, its value, its number. -/
structure En where
  k : ByteArray
  v : ByteArray
  b : Nat
def en (x : En) : MapEntry := ⟨.string x.k, .agg #[.string x.v], x.b⟩
def enA (l : List En) : Array MapEntry := (l.map en).toArray
def prs (l : List En) : List Pr := l.map fun x => (x.k, x.v)
structure MOk (l : List En) (c : Nat) : Prop where
  keys : (l.map (·.k)).Nodup
  born : (l.map (·.b)).Nodup
  lt : ∀ x ∈ l, x.b < c
/-- Where a key is found. -/
theorem find_at (k : ByteArray) : ∀ (l : List En) (i : Nat), (∃ j x, l[j]? = some x ∧ x.k = k ∧ Instr.findNow .string (.string k) (l.map en) i = some (some (i + j, .agg #[.string x.v]))) ∨ ((∀ x ∈ l, x.k ≠ k) ∧ Instr.findNow .string (.string k) (l.map en) i = some none)
  | [], i => .inr ⟨by simp, by simp [Instr.findNow]⟩
  | x :: l, i => by
    by_cases h : x.k = k
    · refine .inl ⟨0, x, rfl, h, ?_⟩
      have : (k == x.k) = true := (bytes_beq _ _).2 h.symm
      simp [Instr.findNow, en, Instr.sameNow, this]
    · have hf : (k == x.k) = false := by
        cases hb : (k == x.k) with
        | false => rfl
        | true => exact absurd ((bytes_beq _ _).1 hb).symm h
      rcases find_at k l (i + 1) with ⟨j, y, h1, h2, h3⟩ | ⟨h1, h2⟩
      · refine .inl ⟨j + 1, y, by simpa using h1, h2, ?_⟩
        simp only [List.map_cons, Instr.findNow, en, Instr.sameNow, hf]
        rw [show i + (j + 1) = i + 1 + j by omega]
        exact h3
      · refine .inr ⟨fun y hy => ?_, ?_⟩
        · rcases List.mem_cons.1 hy with rfl | hy
          · exact h
          · exact h1 y hy
        · simp only [List.map_cons, Instr.findNow, en, Instr.sameNow, hf]
          exact h2
abbrev tM : TypeId := 41
abbrev tE : TypeId := 46
theorem undM : Try.prog.underlying 41 = some (.map 9 46) := by kernel_rfl
theorem zeroE (w : World) : (zeroValue 46).run Try.prog w = .ok (.agg #[.string ⟨#[]⟩]) w := by kernel_rfl
theorem prs_get {l : List En} {k v : ByteArray} {j : Nat} {x : En} (h : l[j]? = some x) (hk : x.k = k) (hv : x.v = v) : (k, v) ∈ prs l := by
  unfold prs
  rw [List.mem_map]
  exact ⟨x, List.mem_of_getElem? h, by rw [hk, hv]⟩
theorem findKey_run (k : ByteArray) (l : List En) (w : World) : (Instr.findKey 9 (.string k) (enA l).toList).run Try.prog w = .ok ((Instr.findNow .string (.string k) (l.map en) 0).getD none) w := by
  unfold Instr.findKey enA
  simp only [Sem.run_bind, run_underlying Try.underlying9, Result.andThen_ok]
  rcases find_at k l 0 with ⟨j, x, h1, h2, h3⟩ | ⟨h1, h2⟩
  · simp [h3]
  · simp [h2]
theorem enA_empty (l : List En) : (enA l).isEmpty = l.isEmpty := by
  unfold enA
  cases l <;> simp
/-- 'v, ok := m[k]'. -/
theorem run_lookup {L : List Pr} {l : List En} {c b : Nat} {w : World} (k : ByteArray) (hb : w.heap[b]? = some (.map (enA l) c)) (hR : Rising L) (hp : ∀ x, x ∈ prs l ↔ x ∈ L) : (Instr.lookup 41 (.map (some b)) (.string k) true).run Try.prog w = .ok (.tuple #[.agg #[.string ((getM L k).getD ⟨#[]⟩)], .bool (getM L k).isSome]) w := by
  have hck := run_checkKey (P := Try.prog) (w := w) (k := .string k) Try.underlying9 trivial l.isEmpty 9999
  unfold Instr.lookup
  simp only [Sem.run_bind, run_underlying undM, MapKept.run_getObj_map hb, Result.andThen_ok, Sem.run_pure, enA_empty, findKey_run]
  rw [show (10000 : Nat) = 9999 + 1 from rfl, hck]
  rcases find_at k l 0 with ⟨j, x, h1, h2, h3⟩ | ⟨h1, h2⟩
  · have hg : getM L k = some x.v := getM_mem hR ((hp _).1 (prs_get h1 h2 rfl))
    simp [h3, hg]
  · have hg : getM L k = none := by
      cases hg : getM L k with
      | none => rfl
      | some v =>
        have := (hp _).2 (getM_some hg)
        unfold prs at this
        rw [List.mem_map] at this
        obtain ⟨x, hx, e⟩ := this
        exact absurd (congrArg Prod.fst e) (h1 x hx)
    simp [h2, hg]
/-- 'm[k]'. -/
theorem run_lookup1 {L : List Pr} {l : List En} {c b : Nat} {w : World} (k : ByteArray) (hb : w.heap[b]? = some (.map (enA l) c)) (hR : Rising L) (hp : ∀ x, x ∈ prs l ↔ x ∈ L) : (Instr.lookup 41 (.map (some b)) (.string k) false).run Try.prog w = .ok (.agg #[.string ((getM L k).getD ⟨#[]⟩)]) w := by
  have h := run_lookup k hb hR hp
  unfold Instr.lookup at h ⊢
  simp only [Sem.run_bind, run_underlying undM, MapKept.run_getObj_map hb, Result.andThen_ok, Sem.run_pure, enA_empty, findKey_run] at h ⊢
  have hck := run_checkKey (P := Try.prog) (w := w) (k := .string k) Try.underlying9 trivial l.isEmpty 9999
  rw [show (10000 : Nat) = 9999 + 1 from rfl, hck] at h ⊢
  rcases find_at k l 0 with ⟨j, x, h1, h2, h3⟩ | ⟨h1, h2⟩
  · simp [h3] at h ⊢
    exact h.1
  · simp [h2] at h ⊢
    exact h.1
/-- The entries behind an update. -/
def updL (l : List En) (k v : ByteArray) (c : Nat) : List En := if (l.map (·.k)).contains k then l.map (fun x => if x.k = k then ⟨k, v, x.b⟩ else x) else l ++ [⟨k, v, c⟩]
def updC (l : List En) (k : ByteArray) (c : Nat) : Nat := if (l.map (·.k)).contains k then c else c + 1
theorem modify_one {l : List En} {j : Nat} {x : En} {k v : ByteArray} (hn : (l.map (·.k)).Nodup) (hj : l[j]? = some x) (hk : x.k = k) : ((enA l).modify j fun e => { e with key := .string k, val := .agg #[.string v] }) = enA (l.map fun x => if x.k = k then ⟨k, v, x.b⟩ else x) := by
  apply Array.ext'
  unfold enA
  rw [Array.toList_modify]
  apply List.ext_getElem?
  intro i
  simp only [List.getElem?_modify, List.getElem?_map, List.map_map]
  by_cases hij : j = i
  · subst hij
    simp [hj, hk, en]
  · simp only [hij, if_false]
    cases hy : l[i]? with
    | none => simp
    | some y =>
      have : y.k ≠ k := fun e => by
        have h1 : (l.map (·.k))[j]? = some k := by simp [hj, hk]
        have h2 : (l.map (·.k))[i]? = some k := by simp [hy, e]
        have hlt := (List.getElem?_eq_some_iff.1 h1).1
        exact hij ((List.getElem?_inj hlt hn).1 (h1.trans h2.symm))
      simp [this]
theorem mem_keys {l : List En} {k : ByteArray} : (l.map (·.k)).contains k = true ↔ ∃ x ∈ l, x.k = k := by
  simp only [List.contains_map, List.any_eq_true, bytes_beq]
  constructor
  · rintro ⟨x, hx, e⟩
    exact ⟨x, hx, e.symm⟩
  · rintro ⟨x, hx, e⟩
    exact ⟨x, hx, e.symm⟩
theorem updL_ok {l : List En} {c : Nat} (h : MOk l c) (k v : ByteArray) : MOk (updL l k v c) (updC l k c) := by
  unfold updL updC
  by_cases hk : (l.map (·.k)).contains k = true
  · rw [if_pos hk, if_pos hk]
    have e1 : (l.map fun x => if x.k = k then (⟨k, v, x.b⟩ : En) else x).map (·.k) = l.map (·.k) := by
      rw [List.map_map]
      apply List.map_congr_left
      intro x _
      by_cases hx : x.k = k <;> simp [hx]
    have e2 : (l.map fun x => if x.k = k then (⟨k, v, x.b⟩ : En) else x).map (·.b) = l.map (·.b) := by
      rw [List.map_map]
      apply List.map_congr_left
      intro x _
      by_cases hx : x.k = k <;> simp [hx]
    refine ⟨by rw [e1]; exact h.keys, by rw [e2]; exact h.born, fun x hx => ?_⟩
    rw [List.mem_map] at hx
    obtain ⟨y, hy, rfl⟩ := hx
    by_cases hyk : y.k = k
    · simpa [hyk] using h.lt y hy
    · simpa [hyk] using h.lt y hy
  · rw [if_neg hk, if_neg hk]
    refine ⟨?_, ?_, fun x hx => ?_⟩
    · rw [List.map_append, List.nodup_append]
      refine ⟨h.keys, by simp, fun a ha b hb e => ?_⟩
      simp at hb
      subst hb e
      rw [List.mem_map] at ha
      obtain ⟨x, hx, hxk⟩ := ha
      exact hk (mem_keys.2 ⟨x, hx, hxk⟩)
    · rw [List.map_append, List.nodup_append]
      refine ⟨h.born, by simp, fun a ha b hb e => ?_⟩
      simp at hb
      subst hb e
      rw [List.mem_map] at ha
      obtain ⟨x, hx, hxb⟩ := ha
      have := h.lt x hx
      omega
    · rcases List.mem_append.1 hx with hx | hx
      · have := h.lt x hx
        omega
      · simp at hx
        subst hx
        exact Nat.lt_succ_self c
theorem prs_upd {l : List En} {c : Nat} {L : List Pr} {k v : ByteArray} (hp : ∀ x, x ∈ prs l ↔ x ∈ L) : ∀ x, x ∈ prs (updL l k v c) ↔ x ∈ putM L k v := by
  intro x
  rw [mem_putM, ← hp]
  unfold updL prs
  by_cases hk : (l.map (·.k)).contains k = true
  · rw [if_pos hk]
    obtain ⟨y, hy, hyk⟩ := mem_keys.1 hk
    simp only [List.map_map, List.mem_map, Function.comp]
    constructor
    · rintro ⟨z, hz, rfl⟩
      by_cases hzk : z.k = k
      · simp [hzk]
      · refine .inr ⟨⟨z, hz, by simp [hzk]⟩, by simp [hzk]⟩
    · rintro (rfl | ⟨⟨z, hz, rfl⟩, hne⟩)
      · exact ⟨y, hy, by simp [hyk]⟩
      · exact ⟨z, hz, by simp [show ¬ z.k = k from hne]⟩
  · rw [if_neg hk]
    have hno : ∀ z ∈ l, z.k ≠ k := fun z hz e => hk (mem_keys.2 ⟨z, hz, e⟩)
    simp only [List.map_append, List.mem_append, List.mem_map, List.map_cons, List.map_nil, List.mem_singleton]
    constructor
    · rintro (⟨z, hz, rfl⟩ | rfl)
      · exact .inr ⟨⟨z, hz, rfl⟩, hno z hz⟩
      · exact .inl rfl
    · rintro (rfl | ⟨⟨z, hz, rfl⟩, _⟩)
      · exact .inr rfl
      · exact .inl ⟨z, hz, rfl⟩
set_option maxRecDepth 100000 in
theorem run_update {l : List En} {c b : Nat} {w : World} (k v : ByteArray) (hb : w.heap[b]? = some (.map (enA l) c)) (ho : MOk l c) : (Instr.mapUpdate 41 (.map (some b)) (.string k) (.agg #[.string v])).run Try.prog w = .ok () (setBlock w b (.map (enA (updL l k v c)) (updC l k c))) := by
  have hck := run_checkKey (P := Try.prog) (w := w) (k := .string k) Try.underlying9 trivial false 9999
  unfold Instr.mapUpdate
  simp only [Sem.run_bind, run_underlying undM, MapKept.run_getObj_map hb, Result.andThen_ok, findKey_run]
  rw [show (10000 : Nat) = 9999 + 1 from rfl, hck]
  rcases find_at k l 0 with ⟨j, x, h1, h2, h3⟩ | ⟨h1, h2⟩
  · have hc : (l.map (·.k)).contains k = true := mem_keys.2 ⟨x, List.mem_of_getElem? h1, h2⟩
    have hat : (enA l)[j]? = some (en x) := by unfold enA; simp [h1]
    have hsame : Instr.sameBits 10000 (.string k) (.string k) = true := by simp [Instr.sameBits, (bytes_beq k k).2 rfl]
    simp only [h3, Option.getD_some, Result.andThen_ok, Nat.zero_add, Sem.run_bind, hat, Option.map_some]
    simp only [en, h2, Instr.keyThatStays, hsame, if_true, Sem.run_pure, Result.andThen_ok]
    rw [modify_one ho.keys h1 h2, MapKept.run_setObj_map _ hb]
    unfold updL updC setBlock
    rw [if_pos hc, if_pos hc]
  · have hc : ¬ (l.map (·.k)).contains k = true := fun h => by
      obtain ⟨x, hx, e⟩ := mem_keys.1 h
      exact h1 x hx e
    simp only [h2, Option.getD_some, Result.andThen_ok]
    rw [MapKept.run_setObj_map _ hb]
    unfold updL updC setBlock
    rw [if_neg hc, if_neg hc]
    congr 4
    unfold enA
    simp [en]
/-- The entries behind a delete. -/
def delL (l : List En) (k : ByteArray) : List En := l.filter fun x => !decide (x.k = k)
theorem delL_ok {l : List En} {c : Nat} (h : MOk l c) (k : ByteArray) : MOk (delL l k) c :=
  ⟨h.keys.sublist (List.Sublist.map _ List.filter_sublist), h.born.sublist (List.Sublist.map _ List.filter_sublist), fun x hx => h.lt x (List.mem_filter.1 hx).1⟩
theorem prs_del {l : List En} {L : List Pr} {k : ByteArray} (hp : ∀ x, x ∈ prs l ↔ x ∈ L) : ∀ x, x ∈ prs (delL l k) ↔ x ∈ delM L k := by
  intro x
  rw [mem_delM, ← hp]
  unfold delL prs
  simp only [List.mem_map, List.mem_filter]
  constructor
  · rintro ⟨z, ⟨hz, hk⟩, rfl⟩
    exact ⟨⟨z, hz, rfl⟩, by simpa using hk⟩
  · rintro ⟨⟨z, hz, rfl⟩, hk⟩
    exact ⟨z, ⟨hz, by simpa using hk⟩, rfl⟩
theorem erase_one {k : ByteArray} : ∀ {l : List En} {j : Nat} {x : En}, (l.map (·.k)).Nodup → l[j]? = some x → x.k = k → l.eraseIdx j = delL l k
  | [], j, x, _, h, _ => by simp at h
  | y :: l, 0, x, hn, h, hk => by
    simp at h
    subst h
    have hn' := List.nodup_cons.1 hn
    have : delL l k = l := by
      unfold delL
      rw [List.filter_eq_self]
      intro z hz
      simp
      intro e
      exact hn'.1 (by show y.k ∈ _; rw [hk, ← e]; exact List.mem_map.2 ⟨z, hz, rfl⟩)
    unfold delL at this ⊢
    rw [List.filter_cons_of_neg (by simp [hk]), this]
    rfl
  | y :: l, j + 1, x, hn, h, hk => by
    have hn' := List.nodup_cons.1 hn
    have hne : y.k ≠ k := fun e => hn'.1 (by
      show y.k ∈ _
      rw [e, ← hk]
      exact List.mem_map.2 ⟨x, List.mem_of_getElem? (by simpa using h), rfl⟩)
    have ih := erase_one hn'.2 (by simpa using h : l[j]? = some x) hk
    unfold delL at ih ⊢
    rw [List.filter_cons_of_pos (by simp [hne]), List.eraseIdx_cons_succ, ih]
set_option maxRecDepth 100000 in
theorem run_delete {l : List En} {c b : Nat} {w : World} {T : TypeId} (k : ByteArray) (hb : w.heap[b]? = some (.map (enA l) c)) (ho : MOk l c) : (Builtin.delete_ #[41, 9] T #[.map (some b), .string k]).run Try.prog w = .ok (.tuple #[]) (setBlock w b (.map (enA (delL l k)) c)) := by
  have hck := run_checkKey (P := Try.prog) (w := w) (k := .string k) Try.underlying9 trivial l.isEmpty 9999
  unfold Builtin.delete_
  simp only [List.getElem?_toArray, List.getElem?_cons_zero, List.getElem?_cons_succ, Sem.run_bind, run_underlying undM, MapKept.run_getObj_map hb, Result.andThen_ok, enA_empty, findKey_run]
  rw [show (10000 : Nat) = 9999 + 1 from rfl, hck]
  rcases find_at k l 0 with ⟨j, x, h1, h2, h3⟩ | ⟨h1, h2⟩
  · simp only [h3, Option.getD_some, Result.andThen_ok, Nat.zero_add]
    rw [Sem.run_bind, MapKept.run_setObj_map _ hb]
    simp only [Result.andThen_ok, Sem.run_pure]
    unfold setBlock
    congr 5
    apply Array.ext'
    have hlt := (List.getElem?_eq_some_iff.1 h1).1
    unfold enA
    rw [← erase_one ho.keys h1 h2]
    simp [Array.eraseIdxIfInBounds, hlt]
    exact (Go.ChangeMaps.map_eraseIdx en l j).symm
  · have : delL l k = l := by
      unfold delL
      rw [List.filter_eq_self]
      intro z hz
      simp [h1 z hz]
    simp only [h2, Option.getD_some, Result.andThen_ok]
    rw [Sem.run_bind, MapKept.run_setObj_map _ hb, this]
    rfl
end Go.Proofs.Ytnbemfddcjhcaaa.Kv
