/- Edges: steps up, circles, and what one edge more does. -/
import Derived.Test.YtlafjddidlofcaaC10
namespace Go.Proofs.Ytlafjddidlofcaa

/-- So many steps up. -/
def it (l : List Pr) : Nat → ByteArray → Option ByteArray
  | 0, s => some s
  | n + 1, s => (it l n s).bind (pOf l)
theorem it_add (l : List Pr) (m : Nat) (s : ByteArray) : ∀ n, it l (m + n) s = (it l m s).bind (it l n)
  | 0 => by
    cases h : it l m s <;> simp [it]
  | n + 1 => by
    rw [← Nat.add_assoc, it, it_add l m s n]
    cases h : it l m s <;> simp [it]
theorem it_one (l : List Pr) (s : ByteArray) : it l 1 s = pOf l s := by simp [it]
theorem it_succ (l : List Pr) (n : Nat) (s : ByteArray) : it l (n + 1) s = (pOf l s).bind (it l n) := by
  rw [Nat.add_comm, it_add, it_one]
theorem it_less {l : List Pr} {s b : ByteArray} {m n : Nat} (h : it l n s = some b) (hm : m ≤ n) : ∃ c, it l m s = some c ∧ it l (n - m) c = some b := by
  rw [show n = m + (n - m) by omega, it_add] at h
  cases hc : it l m s with
  | none => rw [hc] at h; cases h
  | some c => rw [hc] at h; exact ⟨c, rfl, h⟩
theorem chain_it (l : List Pr) : ∀ (f : Nat) (s b : ByteArray), b ∈ chain l f s ↔ ∃ n, 1 ≤ n ∧ n ≤ f ∧ it l n s = some b
  | 0, s, b => by
    simp only [chain, List.not_mem_nil, false_iff]
    rintro ⟨n, h1, h2, _⟩
    omega
  | f + 1, s, b => by
    cases hp : pOf l s with
    | none =>
      rw [chain_none hp]
      simp only [List.not_mem_nil, false_iff]
      rintro ⟨n, h1, h2, h3⟩
      obtain ⟨k, rfl⟩ : ∃ k, n = k + 1 := ⟨n - 1, by omega⟩
      rw [it_succ, hp] at h3
      cases h3
    | some p =>
      rw [chain_some hp, List.mem_cons, chain_it l f p b]
      constructor
      · rintro (rfl | ⟨n, h1, h2, h3⟩)
        · exact ⟨1, by omega, by omega, by rw [it_one, hp]⟩
        · exact ⟨n + 1, by omega, by omega, by rw [it_succ, hp]; exact h3⟩
      · rintro ⟨n, h1, h2, h3⟩
        obtain ⟨k, rfl⟩ : ∃ k, n = k + 1 := ⟨n - 1, by omega⟩
        rw [it_succ, hp] at h3
        cases k with
        | zero =>
          cases h3
          exact .inl rfl
        | succ k => exact .inr ⟨k + 1, by omega, by omega, h3⟩
/-- As many unlike things as fit. -/
theorem nodup_le : ∀ {A B : List ByteArray}, A.Nodup → (∀ x ∈ A, x ∈ B) → A.length ≤ B.length
  | [], _, _, _ => Nat.zero_le _
  | x :: A, B, hn, hs => by
    obtain ⟨h1, h2⟩ := List.nodup_cons.1 hn
    have hx := hs x List.mem_cons_self
    have := nodup_le (A := A) (B := B.filter fun y => !decide (y = x)) h2 (fun y hy => List.mem_filter.2 ⟨hs y (List.mem_cons_of_mem _ hy), by simpa using fun e => h1 (by rw [← e]; exact hy)⟩)
    have hlt : (B.filter fun y => !decide (y = x)).length < B.length := List.length_filter_lt_length_iff_exists.2 ⟨x, hx, by simp⟩
    simp only [List.length_cons]
    omega
theorem pOf_key {l : List Pr} {s p : ByteArray} (h : pOf l s = some p) : s ∈ l.map (·.1) := by
  have := getM_some (L := l) (k := s) (v := p) h
  exact List.mem_map.2 ⟨_, this, rfl⟩
/-- Those on the way, the last one not among them. -/
def way (l : List Pr) (s : ByteArray) (n : Nat) : List ByteArray := (List.range n).map fun i => (it l i s).getD s
theorem way_key {l : List Pr} {s b : ByteArray} {n : Nat} (h : it l n s = some b) : ∀ x ∈ way l s n, x ∈ l.map (·.1) := by
  intro x hx
  obtain ⟨i, hi, rfl⟩ := List.mem_map.1 hx
  rw [List.mem_range] at hi
  obtain ⟨c, h1, h2⟩ := it_less h (Nat.le_of_lt hi)
  rw [h1]
  obtain ⟨k, hk⟩ : ∃ k, n - i = k + 1 := ⟨n - i - 1, by omega⟩
  rw [hk, it_succ] at h2
  cases hp : pOf l c with
  | none => rw [hp] at h2; cases h2
  | some p => exact pOf_key hp
/-- A name that is above another one is so in as many steps as there are edges. -/
theorem it_short {l : List Pr} {s b : ByteArray} : ∀ n, 1 ≤ n → it l n s = some b → ∃ m, 1 ≤ m ∧ m ≤ l.length ∧ it l m s = some b := by
  intro n
  induction n using Nat.strongRecOn with
  | _ n ih =>
    intro h1 h
    by_cases hle : n ≤ l.length
    · exact ⟨n, h1, hle, h⟩
    · have hnd : ¬ (way l s n).Nodup := fun hn => by
        have := nodup_le hn (way_key h)
        simp [way] at this
        omega
      have : ∃ i j, i < j ∧ j < n ∧ it l i s = it l j s := by
        apply Classical.byContradiction
        intro hno
        apply hnd
        unfold way
        rw [List.Nodup, List.pairwise_map]
        refine List.Pairwise.imp_of_mem (R := fun i j => i < j) ?_ List.pairwise_lt_range
        intro i j hi hj hij e
        rw [List.mem_range] at hi hj
        obtain ⟨c, hc, _⟩ := it_less h (Nat.le_of_lt hi)
        obtain ⟨d, hd, _⟩ := it_less h (Nat.le_of_lt hj)
        rw [hc, hd] at e
        exact hno ⟨i, j, hij, hj, by rw [hc, hd]; exact congrArg some e⟩
      obtain ⟨i, j, hij, hj, he⟩ := this
      obtain ⟨c, hc, hr⟩ := it_less h (Nat.le_of_lt hj)
      refine ih (i + (n - j)) (by omega) (by omega) ?_
      rw [it_add, he, hc]
      exact hr
theorem above_it {l : List Pr} {s b : ByteArray} : b ∈ chain l l.length s ↔ ∃ n, 1 ≤ n ∧ it l n s = some b := by
  rw [chain_it]
  constructor
  · rintro ⟨n, h1, _, h⟩
    exact ⟨n, h1, h⟩
  · rintro ⟨n, h1, h⟩
    obtain ⟨m, a, b, c⟩ := it_short n h1 h
    exact ⟨m, a, b, c⟩
theorem circ_it {l : List Pr} : Circ l ↔ ∃ s n, 1 ≤ n ∧ it l n s = some s := by
  constructor
  · rintro ⟨x, _, h⟩
    obtain ⟨n, h1, h2⟩ := above_it.1 h
    exact ⟨x.1, n, h1, h2⟩
  · rintro ⟨s, n, h1, h2⟩
    obtain ⟨k, rfl⟩ : ∃ k, n = k + 1 := ⟨n - 1, by omega⟩
    have h3 := h2
    rw [it_succ] at h3
    cases hp : pOf l s with
    | none => rw [hp] at h3; cases h3
    | some p =>
      refine ⟨(s, p), getM_some hp, ?_⟩
      exact above_it.2 ⟨k + 1, h1, h2⟩
/-- The collection of each behind an edge more. -/
theorem pOf_put {l : List Pr} (hr : Rising l) (s t y : ByteArray) : pOf (putM l s t) y = if y = s then some t else pOf l y := by
  split
  · rename_i h
    subst h
    exact getM_mem (putM_rising hr _ _) (mem_putM.2 (.inl rfl))
  · rename_i h
    cases hp : pOf l y with
    | none =>
      cases hq : pOf (putM l s t) y with
      | none => rfl
      | some p =>
        rcases mem_putM.1 (getM_some (L := putM l s t) hq) with e | ⟨e, _⟩
        · cases e
          exact absurd rfl h
        · exact absurd rfl (getM_none (L := l) hp _ e)
    | some p => exact getM_mem (putM_rising hr _ _) (mem_putM.2 (.inr ⟨getM_some (L := l) hp, h⟩))
theorem it_avoid {l : List Pr} (hr : Rising l) (s t : ByteArray) : ∀ n a, (∀ m, m < n → it (putM l s t) m a ≠ some s) → it (putM l s t) n a = it l n a
  | 0, a, _ => rfl
  | n + 1, a, h => by
    have ih := it_avoid hr s t n a (fun m hm => h m (by omega))
    rw [it, it, ← ih]
    cases hc : it (putM l s t) n a with
    | none => rfl
    | some c =>
      simp only [Option.bind_some]
      rw [pOf_put hr, if_neg]
      intro e
      exact h n (by omega) (by rw [hc, e])
/-- No circle closes, unless one is above oneself then. -/
theorem circ_put {l : List Pr} (hr : Rising l) {s t : ByteArray} (hc : ¬ Circ l) (hne : s ≠ t) (ha : s ∉ chain l l.length t) : ¬ Circ (putM l s t) := by
  intro h
  obtain ⟨y, n, h1, h2⟩ := circ_it.1 h
  by_cases hs : ∃ m, m < n ∧ it (putM l s t) m y = some s
  · obtain ⟨m, hm, hms⟩ := hs
    have hss : it (putM l s t) n s = some s := by
      have e1 := it_add (putM l s t) m y n
      rw [hms] at e1
      have e2 := it_add (putM l s t) n y m
      rw [h2] at e2
      simp only [Option.bind_some] at e1 e2
      rw [← e1, Nat.add_comm, e2, hms]
    clear h2 hm hms h
    revert h1 hss
    induction n using Nat.strongRecOn with
    | _ n ih =>
      intro h1 hss
      by_cases hmin : ∃ m, 1 ≤ m ∧ m < n ∧ it (putM l s t) m s = some s
      · obtain ⟨m, a, b, c⟩ := hmin
        exact ih m b a c
      · obtain ⟨k, rfl⟩ : ∃ k, n = k + 1 := ⟨n - 1, by omega⟩
        have h3 := hss
        rw [it_succ, pOf_put hr, if_pos rfl] at h3
        simp only [Option.bind_some] at h3
        have hav := it_avoid hr s t k t (fun m hm e => hmin ⟨m + 1, by omega, by omega, by rw [it_succ, pOf_put hr, if_pos rfl]; exact e⟩)
        rw [hav] at h3
        cases k with
        | zero =>
          cases h3
          exact hne rfl
        | succ k => exact ha (above_it.2 ⟨k + 1, by omega, h3⟩)
  · rw [it_avoid hr s t n y (fun m hm e => hs ⟨m, hm, e⟩)] at h2
    exact hc (circ_it.2 ⟨y, n, h1, h2⟩)
theorem putM_is {L out : List Pr} {s t : ByteArray} (hL : Rising L) (ho : Rising out) (h : ∀ x, x ∈ out ↔ x = (s, t) ∨ (x ∈ L ∧ x.1 ≠ s)) : out = putM L s t :=
  rising_unique ho (putM_rising hL s t) (fun x => by rw [h, mem_putM])
theorem add_put {l : List Pr} {s t : ByteArray} {ns : List Pr} (hr : Rising l) {k : Nat} (ha : At l s k) (h : (∃ x, l[k]? = some x ∧ x.1 = s ∧ ns = l.take k ++ (s, t) :: l.drop (k + 1)) ∨ (pOf l s = none ∧ l.length < 64 ∧ ns = l.take k ++ (s, t) :: l.drop k)) : ns = putM l s t := by
  have hlo : ∀ y ∈ l.take k, kb y < s.toList := fun y hy => by
    obtain ⟨i, hi⟩ := List.mem_iff_getElem?.1 hy
    rw [List.getElem?_take] at hi
    split at hi
    · rename_i hik
      exact ha.lo i y hik hi
    · cases hi
  rcases h with ⟨x, hx, rfl, rfl⟩ | ⟨hn, _, rfl⟩
  · have hl : l = l.take k ++ x :: l.drop (k + 1) := by
      have hk := (List.getElem?_eq_some_iff.1 hx).1
      rw [← (List.getElem?_eq_some_iff.1 hx).2, ← List.drop_eq_getElem_cons hk, List.take_append_drop]
    have hr' := hr
    rw [hl] at hr'
    obtain ⟨h1, h2, h3⟩ := List.pairwise_append.1 hr'
    obtain ⟨h4, h5⟩ := List.pairwise_cons.1 h2
    refine putM_is hr (List.pairwise_append.2 ⟨h1, List.pairwise_cons.2 ⟨fun y hy => h4 y hy, h5⟩, fun a ha b hb => ?_⟩) (fun y => ?_)
    · rcases List.mem_cons.1 hb with rfl | hb
      · exact hlo a ha
      · exact h3 a ha b (List.mem_cons_of_mem _ hb)
    · rw [List.mem_append, List.mem_cons]
      constructor
      · rintro (h | h | h)
        · exact .inr ⟨List.mem_of_mem_take h, fun e => str_irrefl _ (by have := hlo y h; rw [show kb y = y.1.toList from rfl, e] at this; exact this)⟩
        · exact .inl h
        · exact .inr ⟨List.mem_of_mem_drop h, fun e => str_irrefl _ (by have := h4 y h; rw [show kb y = y.1.toList from rfl, e] at this; exact this)⟩
      · rintro (h | ⟨h, he⟩)
        · exact .inr (.inl h)
        · rw [hl, List.mem_append, List.mem_cons] at h
          rcases h with h | rfl | h
          · exact .inl h
          · exact absurd rfl he
          · exact .inr (.inr h)
  · have hl : l = l.take k ++ l.drop k := (List.take_append_drop k l).symm
    have hno := getM_none (L := l) hn
    have hhi : ∀ y ∈ l.drop k, s.toList < kb y := fun y hy => by
      obtain ⟨i, hi⟩ := List.mem_iff_getElem?.1 hy
      rw [List.getElem?_drop] at hi
      exact str_total (ha.hi (k + i) y (by omega) hi) (fun e => hno y (List.mem_of_mem_drop hy) (ba_ext e))
    have hr' := hr
    rw [hl] at hr'
    obtain ⟨h1, h2, h3⟩ := List.pairwise_append.1 hr'
    refine putM_is hr (List.pairwise_append.2 ⟨h1, List.pairwise_cons.2 ⟨fun y hy => hhi y hy, h2⟩, fun a ha b hb => ?_⟩) (fun y => ?_)
    · rcases List.mem_cons.1 hb with rfl | hb
      · exact hlo a ha
      · exact h3 a ha b hb
    · rw [List.mem_append, List.mem_cons]
      constructor
      · rintro (h | h | h)
        · exact .inr ⟨List.mem_of_mem_take h, hno y (List.mem_of_mem_take h)⟩
        · exact .inl h
        · exact .inr ⟨List.mem_of_mem_drop h, hno y (List.mem_of_mem_drop h)⟩
      · rintro (h | ⟨h, he⟩)
        · exact .inr (.inl h)
        · rw [hl, List.mem_append] at h
          rcases h with h | h
          · exact .inl h
          · exact .inr (.inr h)
/-- What Add answers, in one place. -/
theorem addR_cases {l : List Pr} {s t : ByteArray} {n : Int} {ns : List Pr} (h : AddR l s t n ns) : (AddBad l s t ∧ n = 3 ∧ ns = []) ∨ (¬ AddBad l s t ∧ AddCyc l s t ∧ n = 9 ∧ ns = []) ∨ (¬ AddBad l s t ∧ ¬ AddCyc l s t ∧ pOf l s = none ∧ 64 ≤ l.length ∧ n = 4 ∧ ns = []) ∨ (¬ AddBad l s t ∧ ¬ AddCyc l s t ∧ ¬ (pOf l s = none ∧ 64 ≤ l.length) ∧ n = 0 ∧ ns = putM l s t) := by
  rcases h with h | h | h | ⟨h1, h2, h3, k, hk, h4⟩
  · exact .inl h
  · exact .inr (.inl h)
  · exact .inr (.inr (.inl h))
  · have hR : RightE l := Classical.byContradiction fun h => h1 (.inl h)
    refine .inr (.inr (.inr ⟨h1, h2, fun ⟨a, b⟩ => ?_, h3, add_put hR.2.2.1 hk h4⟩))
    rcases h4 with ⟨x, hx, rfl, _⟩ | ⟨_, h, _⟩
    · rw [pOf_yes hR.2.2.1 hx] at a
      cases a
    · omega
theorem not_empty {s : ByteArray} (h : ¬ s.toList.isEmpty = true) : s.toList.isEmpty = false := by simpa using h
/-- Edges that are right stay so. -/
theorem right_put {l : List Pr} {s t : ByteArray} (hb : ¬ AddBad l s t) (hc : ¬ AddCyc l s t) (hf : ¬ (pOf l s = none ∧ 64 ≤ l.length)) : RightE (putM l s t) := by
  have hR : RightE l := Classical.byContradiction fun h => hb (.inl h)
  obtain ⟨h1, h2, h3, h4⟩ := hR
  refine ⟨?_, fun x hx => ?_, putM_rising h3 s t, circ_put h3 h4 (fun e => hc (.inl e)) (fun e => hc (.inr e))⟩
  · rw [putM_len h3]
    split
    · rename_i hn
      have : ¬ 64 ≤ l.length := fun h => hf ⟨hn, h⟩
      omega
    · exact h1
  · rcases mem_putM.1 hx with rfl | ⟨hx, _⟩
    · exact ⟨not_empty fun h => hb (.inr (.inl h)), not_empty fun h => hb (.inr (.inr h))⟩
    · exact h2 x hx
theorem remove_del {l : List Pr} {s : ByteArray} (hr : Rising l) {k : Nat} {x : Pr} (hx : l[k]? = some x) (he : x.1 = s) : l.take k ++ l.drop (k + 1) = delM l s := by
  have hl : l = l.take k ++ x :: l.drop (k + 1) := by
    have hk := (List.getElem?_eq_some_iff.1 hx).1
    rw [← (List.getElem?_eq_some_iff.1 hx).2, ← List.drop_eq_getElem_cons hk, List.take_append_drop]
  have hr' := hr
  rw [hl] at hr'
  obtain ⟨h1, h2, h3⟩ := List.pairwise_append.1 hr'
  obtain ⟨h4, h5⟩ := List.pairwise_cons.1 h2
  refine rising_unique (List.pairwise_append.2 ⟨h1, h5, fun a ha b hb => h3 a ha b (List.mem_cons_of_mem _ hb)⟩) (delM_rising hr s) (fun y => ?_)
  rw [List.mem_append, mem_delM]
  subst he
  constructor
  · rintro (h | h)
    · exact ⟨List.mem_of_mem_take h, fun e => str_irrefl _ (by have := h3 y h x List.mem_cons_self; rw [show kb y = y.1.toList from rfl, e] at this; exact this)⟩
    · exact ⟨List.mem_of_mem_drop h, fun e => str_irrefl _ (by have := h4 y h; rw [show kb y = y.1.toList from rfl, e] at this; exact this)⟩
  · rintro ⟨h, he⟩
    rw [hl, List.mem_append, List.mem_cons] at h
    rcases h with h | rfl | h
    · exact .inl h
    · exact absurd rfl he
    · exact .inr h
/-- What is put and taken away again. -/
theorem del_put {l : List Pr} {s t : ByteArray} (hr : Rising l) (hn : pOf l s = none) : delM (putM l s t) s = l := by
  refine rising_unique (delM_rising (putM_rising hr s t) s) hr (fun x => ?_)
  rw [mem_delM, mem_putM]
  constructor
  · rintro ⟨rfl | ⟨h, _⟩, he⟩
    · exact absurd rfl he
    · exact h
  · intro h
    exact ⟨.inr ⟨h, getM_none (L := l) hn x h⟩, getM_none (L := l) hn x h⟩
end Go.Proofs.Ytlafjddidlofcaa
