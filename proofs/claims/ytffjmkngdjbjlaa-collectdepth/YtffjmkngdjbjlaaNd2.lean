/- A map of numbers in memory: its entries, in the order in which they came. -/
import Derived.Test.YtffjmkngdjbjlaaNd1
import Derived.Maps.RangeRun
import Derived.MapKept
import Derived.ChangeMaps4
namespace Go.Proofs.Ytffjmkngdjbjlaa
open Go.RowKit Go.MapKept
open Go.ChangeMaps (setBlock)

/-- An entry: its key, its value, its number. -/
structure En where
  k : ByteArray
  v : Nat
  b : Nat
def en (x : En) : MapEntry := ⟨.string x.k, .int .i64 (x.v : Nat), x.b⟩
def enA (l : List En) : Array MapEntry := (l.map en).toArray
structure MOk (l : List En) (c : Nat) : Prop where
  keys : (l.map (·.k)).Nodup
  born : (l.map (·.b)).Nodup
  lt : ∀ x ∈ l, x.b < c
/-- Where a key is found. -/
theorem find_at (k : ByteArray) : ∀ (l : List En) (i : Nat), (∃ j x, l[j]? = some x ∧ x.k = k ∧ Instr.findNow .string (.string k) (l.map en) i = some (some (i + j, .int .i64 (x.v : Nat)))) ∨ ((∀ x ∈ l, x.k ≠ k) ∧ Instr.findNow .string (.string k) (l.map en) i = some none)
  | [], i => .inr ⟨by simp, by simp [Instr.findNow]⟩
  | x :: l, i => by
    by_cases h : x.k = k
    · refine .inl ⟨0, x, rfl, h, ?_⟩
      have : (k == x.k) = true := (bytes_beq _ _).2 h.symm
      simp [Instr.findNow, en, Instr.sameNow, this]
    · have hf : (k == x.k) = false := by
        cases hb : (k == x.k) with
        | false => rfl
        | true => exact absurd ((bytes_beq _ _).1 hb).symm h
      rcases find_at k l (i + 1) with ⟨j, y, h1, h2, h3⟩ | ⟨h1, h2⟩
      · refine .inl ⟨j + 1, y, by simpa using h1, h2, ?_⟩
        simp only [List.map_cons, Instr.findNow, en, Instr.sameNow, hf]
        rw [show i + (j + 1) = i + 1 + j by omega]
        exact h3
      · refine .inr ⟨fun y hy => ?_, ?_⟩
        · rcases List.mem_cons.1 hy with rfl | hy
          · exact h
          · exact h1 y hy
        · simp only [List.map_cons, Instr.findNow, en, Instr.sameNow, hf]
          exact h2
theorem undM : Try.prog.underlying 59 = some (.map 9 3) := by kernel_rfl
theorem zeroE (w : World) : (zeroValue 3).run Try.prog w = .ok (.int .i64 0) w := by kernel_rfl
theorem findKey_run (k : ByteArray) (l : List En) (w : World) : (Instr.findKey 9 (.string k) (enA l).toList).run Try.prog w = .ok ((Instr.findNow .string (.string k) (l.map en) 0).getD none) w := by
  unfold Instr.findKey enA
  simp only [Sem.run_bind, run_underlying Try.underlying9, Result.andThen_ok]
  rcases find_at k l 0 with ⟨j, x, h1, h2, h3⟩ | ⟨h1, h2⟩
  · simp [h3]
  · simp [h2]
theorem enA_empty (l : List En) : (enA l).isEmpty = l.isEmpty := by
  unfold enA
  cases l <;> simp
/-- What a key stands for. -/
def getE (l : List En) (k : ByteArray) : Option Nat := (l.find? fun x => decide (x.k = k)).map (·.v)
theorem getE_yes {l : List En} {j : Nat} {x : En} {k : ByteArray} (hn : (l.map (·.k)).Nodup) (hj : l[j]? = some x) (hk : x.k = k) : getE l k = some x.v := by
  unfold getE
  cases hf : l.find? (fun y => decide (y.k = k)) with
  | none => exact absurd (List.find?_eq_none.1 hf x (List.mem_of_getElem? hj)) (by simp [hk])
  | some y =>
    have h1 : y.k = k := by simpa using List.find?_some hf
    obtain ⟨i, hi⟩ := List.mem_iff_getElem?.1 (List.mem_of_find?_eq_some hf)
    have h2 : (l.map (·.k))[j]? = some k := by simp [hj, hk]
    have h3 : (l.map (·.k))[i]? = some k := by simp [hi, h1]
    have hlt := (List.getElem?_eq_some_iff.1 h2).1
    have e := (List.getElem?_inj hlt hn).1 (h2.trans h3.symm)
    subst e
    rw [hj] at hi
    cases hi
    rfl
theorem getE_no {l : List En} {k : ByteArray} (h : ∀ x ∈ l, x.k ≠ k) : getE l k = none := by
  unfold getE
  rw [Option.map_eq_none_iff, List.find?_eq_none]
  intro x hx
  simp [h x hx]
/-- 'v, ok := m[k]'. -/
theorem run_lookup {l : List En} {c b : Nat} {w : World} (k : ByteArray) (hb : w.heap[b]? = some (.map (enA l) c)) (ho : MOk l c) : (Instr.lookup 59 (.map (some b)) (.string k) true).run Try.prog w = .ok (.tuple #[.int .i64 ((getE l k).getD 0 : Nat), .bool (getE l k).isSome]) w := by
  have hck := run_checkKey (P := Try.prog) (w := w) (k := .string k) Try.underlying9 trivial l.isEmpty 9999
  unfold Instr.lookup
  simp only [Sem.run_bind, run_underlying undM, MapKept.run_getObj_map hb, Result.andThen_ok, Sem.run_pure, enA_empty, findKey_run]
  rw [show (10000 : Nat) = 9999 + 1 from rfl, hck]
  rcases find_at k l 0 with ⟨j, x, h1, h2, h3⟩ | ⟨h1, h2⟩
  · simp [h3, getE_yes ho.keys h1 h2]
  · simp [h2, getE_no h1]
theorem mem_keys {l : List En} {k : ByteArray} : (l.map (·.k)).contains k = true ↔ ∃ x ∈ l, x.k = k := by
  simp only [List.contains_map, List.any_eq_true, bytes_beq]
  constructor
  · rintro ⟨x, hx, e⟩
    exact ⟨x, hx, e.symm⟩
  · rintro ⟨x, hx, e⟩
    exact ⟨x, hx, e.symm⟩
theorem more_ok {l : List En} {c : Nat} (h : MOk l c) (k : ByteArray) (v : Nat) (hk : ∀ x ∈ l, x.k ≠ k) : MOk (l ++ [⟨k, v, c⟩]) (c + 1) := by
  refine ⟨?_, ?_, fun x hx => ?_⟩
  · rw [List.map_append, List.nodup_append]
    refine ⟨h.keys, by simp, fun a ha b hb e => ?_⟩
    simp at hb
    subst hb e
    rw [List.mem_map] at ha
    obtain ⟨x, hx, hxk⟩ := ha
    exact hk x hx hxk
  · rw [List.map_append, List.nodup_append]
    refine ⟨h.born, by simp, fun a ha b hb e => ?_⟩
    simp at hb
    subst hb e
    rw [List.mem_map] at ha
    obtain ⟨x, hx, hxb⟩ := ha
    have := h.lt x hx
    omega
  · rcases List.mem_append.1 hx with hx | hx
    · have := h.lt x hx
      omega
    · simp at hx
      subst hx
      exact Nat.lt_succ_self c
set_option maxRecDepth 100000 in
/-- 'm[k] = v', where the key is new. -/
theorem run_update {l : List En} {c b : Nat} {w : World} (k : ByteArray) (v : Nat) (hb : w.heap[b]? = some (.map (enA l) c)) (hk : ∀ x ∈ l, x.k ≠ k) : (Instr.mapUpdate 59 (.map (some b)) (.string k) (.int .i64 v)).run Try.prog w = .ok () (setBlock w b (.map (enA (l ++ [⟨k, v, c⟩])) (c + 1))) := by
  have hck := run_checkKey (P := Try.prog) (w := w) (k := .string k) Try.underlying9 trivial false 9999
  unfold Instr.mapUpdate
  simp only [Sem.run_bind, run_underlying undM, MapKept.run_getObj_map hb, Result.andThen_ok, findKey_run]
  rw [show (10000 : Nat) = 9999 + 1 from rfl, hck]
  rcases find_at k l 0 with ⟨j, x, h1, h2, h3⟩ | ⟨h1, h2⟩
  · exact absurd h2 (hk x (List.mem_of_getElem? h1))
  · simp only [h2, Option.getD_some, Result.andThen_ok]
    rw [MapKept.run_setObj_map _ hb]
    unfold setBlock
    congr 4
    unfold enA
    simp [en]
/-- The entries behind a delete. -/
def delL (l : List En) (k : ByteArray) : List En := l.filter fun x => !decide (x.k = k)
theorem delL_ok {l : List En} {c : Nat} (h : MOk l c) (k : ByteArray) : MOk (delL l k) c :=
  ⟨h.keys.sublist (List.Sublist.map _ List.filter_sublist), h.born.sublist (List.Sublist.map _ List.filter_sublist), fun x hx => h.lt x (List.mem_filter.1 hx).1⟩
theorem erase_one {k : ByteArray} : ∀ {l : List En} {j : Nat} {x : En}, (l.map (·.k)).Nodup → l[j]? = some x → x.k = k → l.eraseIdx j = delL l k
  | [], j, x, _, h, _ => by simp at h
  | y :: l, 0, x, hn, h, hk => by
    simp at h
    subst h
    have hn' := List.nodup_cons.1 hn
    have : delL l k = l := by
      unfold delL
      rw [List.filter_eq_self]
      intro z hz
      simp
      intro e
      exact hn'.1 (by show y.k ∈ _; rw [hk, ← e]; exact List.mem_map.2 ⟨z, hz, rfl⟩)
    unfold delL at this ⊢
    rw [List.filter_cons_of_neg (by simp [hk]), this]
    rfl
  | y :: l, j + 1, x, hn, h, hk => by
    have hn' := List.nodup_cons.1 hn
    have hne : y.k ≠ k := fun e => hn'.1 (by
      show y.k ∈ _
      rw [e, ← hk]
      exact List.mem_map.2 ⟨x, List.mem_of_getElem? (by simpa using h), rfl⟩)
    have ih := erase_one hn'.2 (by simpa using h : l[j]? = some x) hk
    unfold delL at ih ⊢
    rw [List.filter_cons_of_pos (by simp [hne]), List.eraseIdx_cons_succ, ih]
set_option maxRecDepth 100000 in
theorem run_delete {l : List En} {c b : Nat} {w : World} {T : TypeId} (k : ByteArray) (hb : w.heap[b]? = some (.map (enA l) c)) (ho : MOk l c) : (Builtin.delete_ #[59, 9] T #[.map (some b), .string k]).run Try.prog w = .ok (.tuple #[]) (setBlock w b (.map (enA (delL l k)) c)) := by
  have hck := run_checkKey (P := Try.prog) (w := w) (k := .string k) Try.underlying9 trivial l.isEmpty 9999
  unfold Builtin.delete_
  simp only [List.getElem?_toArray, List.getElem?_cons_zero, List.getElem?_cons_succ, Sem.run_bind, run_underlying undM, MapKept.run_getObj_map hb, Result.andThen_ok, enA_empty, findKey_run]
  rw [show (10000 : Nat) = 9999 + 1 from rfl, hck]
  rcases find_at k l 0 with ⟨j, x, h1, h2, h3⟩ | ⟨h1, h2⟩
  · simp only [h3, Option.getD_some, Result.andThen_ok, Nat.zero_add]
    rw [Sem.run_bind, MapKept.run_setObj_map _ hb]
    simp only [Result.andThen_ok, Sem.run_pure]
    unfold setBlock
    congr 5
    apply Array.ext'
    have hlt := (List.getElem?_eq_some_iff.1 h1).1
    unfold enA
    rw [← erase_one ho.keys h1 h2]
    simp [Array.eraseIdxIfInBounds, hlt]
    exact (Go.ChangeMaps.map_eraseIdx en l j).symm
  · have : delL l k = l := by
      unfold delL
      rw [List.filter_eq_self]
      intro z hz
      simp [h1 z hz]
    simp only [h2, Option.getD_some, Result.andThen_ok]
    rw [Sem.run_bind, MapKept.run_setObj_map _ hb, this]
    rfl
end Go.Proofs.Ytffjmkngdjbjlaa
