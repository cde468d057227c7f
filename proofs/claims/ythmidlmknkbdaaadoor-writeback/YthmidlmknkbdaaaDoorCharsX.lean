/- Plain facts: characters of what is escaped, and of two texts behind one another. -/
import Derived.Test.YthmidlmknkbdaaaDoorChars
import Derived.Test.YthmidlmknkbdaaaDoorGC
namespace Go.Proofs.YthmidlmknkbdaaaDoor
open Go.RowKit

/-- One step of both tests. -/
theorem charsOk_step (l : List UInt8) (hne : l ≠ []) : CharsOk l ↔ ¬ ((Lib.decodeL l).1 = 65533 ∧ (Lib.decodeL l).2 = 1) ∧ CharR (Lib.decodeL l).1 ∧ CharsOk (l.drop (Lib.decodeL l).2) := by
  unfold CharsOk
  rw [Lib.validD_step l hne, runes_step l hne]
  by_cases h : (Lib.decodeL l).1 = 65533 ∧ (Lib.decodeL l).2 = 1
  · rw [if_pos h]
    constructor
    · rintro ⟨h1, _⟩; cases h1
    · rintro ⟨h1, _⟩; exact absurd h h1
  · rw [if_neg h]
    constructor
    · rintro ⟨h1, h2, h3⟩; exact ⟨h, h2, h1, h3⟩
    · rintro ⟨_, h2, h1, h3⟩; exact ⟨h1, h2, h3⟩
theorem charsOk_nil : CharsOk [] := ⟨rfl, runes_nil⟩
theorem charsOk_cons (b : UInt8) (t : List UInt8) (h : b.toNat < 128) : CharsOk (b :: t) ↔ CharR b.toNat ∧ CharsOk t := by
  rw [charsOk_step _ (by simp), Lib.decodeL_ascii b t h]
  constructor
  · rintro ⟨_, h1, h2⟩; exact ⟨h1, h2⟩
  · rintro ⟨h1, h2⟩; exact ⟨by simp; omega, h1, h2⟩
theorem charsOk_asc : ∀ (p t : List UInt8), (∀ b ∈ p, b.toNat < 128 ∧ 32 ≤ b.toNat) → (CharsOk (p ++ t) ↔ CharsOk t)
  | [], t, _ => by simp
  | b :: p, t, h => by
    have hb := h b (by simp)
    rw [List.cons_append, charsOk_cons b _ hb.1, charsOk_asc p t (fun c hc => h c (by simp [hc]))]
    constructor
    · exact fun h => h.2
    · exact fun h => ⟨Or.inr (Or.inr (Or.inr ⟨hb.2, by omega, by omega⟩)), h⟩

/-- Where a rune is right, it does not matter what stands behind it. -/
theorem decodeN_more (n m b0 b1 b2 b3 c1 c2 c3 : Nat) (hnm : n ≤ m) (h1 : 1 < n → b1 = c1) (h2 : 2 < n → b2 = c2) (h3 : 3 < n → b3 = c3)
    (hok : ¬ ((Lib.decodeN n b0 b1 b2 b3).1 = 65533 ∧ (Lib.decodeN n b0 b1 b2 b3).2 = 1)) : Lib.decodeN m b0 c1 c2 c3 = Lib.decodeN n b0 b1 b2 b3 := by
  unfold Lib.decodeN at hok ⊢
  by_cases ha : b0 < 128
  · rw [if_pos ha, if_pos ha]
  · rw [if_neg ha] at hok ⊢
    rw [if_neg ha]
    by_cases c2' : b0 / 32 = 6 ∧ (1 < n ∧ b1 / 64 = 2)
    · obtain rfl := h1 c2'.2.1
      rw [if_pos c2', if_pos ⟨c2'.1, by omega, c2'.2.2⟩]
    · rw [if_neg c2'] at hok ⊢
      by_cases c3' : b0 / 16 = 14 ∧ (1 < n ∧ b1 / 64 = 2) ∧ (2 < n ∧ b2 / 64 = 2)
      · obtain rfl := h1 c3'.2.1.1
        obtain rfl := h2 c3'.2.2.1
        rw [if_pos c3', if_neg (by omega), if_pos ⟨c3'.1, ⟨by omega, c3'.2.1.2⟩, by omega, c3'.2.2.2⟩]
      · rw [if_neg c3'] at hok ⊢
        by_cases c4' : b0 / 8 = 30 ∧ (1 < n ∧ b1 / 64 = 2) ∧ (2 < n ∧ b2 / 64 = 2) ∧ (3 < n ∧ b3 / 64 = 2)
        · obtain rfl := h1 c4'.2.1.1
          obtain rfl := h2 c4'.2.2.1.1
          obtain rfl := h3 c4'.2.2.2.1
          rw [if_pos c4', if_neg (by omega), if_neg (by omega), if_pos ⟨c4'.1, ⟨by omega, c4'.2.1.2⟩, ⟨by omega, c4'.2.2.1.2⟩, by omega, c4'.2.2.2.2⟩]
        · rw [if_neg c4'] at hok
          exact absurd ⟨rfl, rfl⟩ hok
theorem getD_append {a b : List UInt8} (k : Nat) (h : k < a.length) : (a ++ b).getD k 0 = a.getD k 0 := by
  simp [List.getD, List.getElem?_append_left h]
theorem decodeL_append (a b : List UInt8) (hne : a ≠ []) (hok : ¬ ((Lib.decodeL a).1 = 65533 ∧ (Lib.decodeL a).2 = 1)) : Lib.decodeL (a ++ b) = Lib.decodeL a := by
  have hl : 0 < a.length := List.length_pos_iff.2 hne
  rw [Lib.decodeL_N] at hok
  rw [Lib.decodeL_N, Lib.decodeL_N, getD_append 0 hl]
  refine decodeN_more _ _ _ _ _ _ _ _ _ (by rw [List.length_append]; omega) (fun h => ?_) (fun h => ?_) (fun h => ?_) hok
  · rw [getD_append 1 h]
  · rw [getD_append 2 h]
  · rw [getD_append 3 h]
theorem charsOk_append : ∀ (n : Nat) (a b : List UInt8), a.length ≤ n → CharsOk a → CharsOk b → CharsOk (a ++ b)
  | 0, a, b, hn, _, hb => by
    obtain rfl : a = [] := List.eq_nil_of_length_eq_zero (by omega)
    exact hb
  | n + 1, a, b, hn, ha, hb => by
    by_cases hne : a = []
    · subst hne; exact hb
    · have hs := (charsOk_step a hne).1 ha
      have hd := decodeL_append a b hne hs.1
      have hle := Lib.decodeL_le a hne
      have hw := Lib.decodeL_width a
      refine (charsOk_step _ (by simp [hne])).2 ?_
      rw [hd, List.drop_append_of_le_length hle]
      exact ⟨hs.1, hs.2.1, charsOk_append n _ b (by rw [List.length_drop]; omega) hs.2.2 hb⟩

/-- A high first byte: what is below 128 ends a rune, whichever it is. -/
theorem decodeN_same (n m b0 b1 b2 b3 c1 c2 c3 : Nat) (h1 : (1 < n ∧ 1 < m ∧ b1 = c1) ∨ ((n ≤ 1 ∨ b1 < 128) ∧ (m ≤ 1 ∨ c1 < 128)))
    (h2 : (1 < n ∧ 128 ≤ b1) → (2 < n ∧ 2 < m ∧ b2 = c2) ∨ ((n ≤ 2 ∨ b2 < 128) ∧ (m ≤ 2 ∨ c2 < 128)))
    (h3 : (1 < n ∧ 128 ≤ b1) → (2 < n ∧ 128 ≤ b2) → (3 < n ∧ 3 < m ∧ b3 = c3) ∨ ((n ≤ 3 ∨ b3 < 128) ∧ (m ≤ 3 ∨ c3 < 128))) (h0 : 128 ≤ b0) :
    Lib.decodeN n b0 b1 b2 b3 = Lib.decodeN m b0 c1 c2 c3 := by
  have e1 : (1 < n ∧ b1 / 64 = 2) ↔ (1 < m ∧ c1 / 64 = 2) := by omega
  unfold Lib.decodeN
  simp only [if_neg (show ¬ b0 < 128 by omega)]
  by_cases k1 : 1 < n ∧ b1 / 64 = 2
  · have k1' := e1.1 k1
    have q1 : b1 = c1 := by omega
    subst q1
    have e2 : (2 < n ∧ b2 / 64 = 2) ↔ (2 < m ∧ c2 / 64 = 2) := by
      have := h2 ⟨k1.1, by omega⟩
      omega
    by_cases k2 : 2 < n ∧ b2 / 64 = 2
    · have k2' := e2.1 k2
      have q2 : b2 = c2 := by
        have := h2 ⟨k1.1, by omega⟩
        omega
      subst q2
      have e3 : (3 < n ∧ b3 / 64 = 2) ↔ (3 < m ∧ c3 / 64 = 2) := by
        have := h3 ⟨k1.1, by omega⟩ ⟨k2.1, by omega⟩
        omega
      by_cases k3 : 3 < n ∧ b3 / 64 = 2
      · have k3' := e3.1 k3
        have q3 : b3 = c3 := by
          have := h3 ⟨k1.1, by omega⟩ ⟨k2.1, by omega⟩
          omega
        subst q3
        simp only [k1, k1', k2, k2', k3, k3', and_true]
      · have k3' := mt e3.2 k3
        simp only [k1, k1', k2, k2', k3, k3', and_true, and_false, if_false]
    · have k2' := mt e2.2 k2
      simp only [k1, k1', k2, k2', and_true, and_false, false_and, if_false]
  · have k1' := mt e1.2 k1
    simp only [k1, k1', and_false, false_and, if_false]

theorem esc_shape (t : List UInt8) : t = [] ∨ (∃ c r, t = c :: r ∧ Plain c ∧ esc t = c :: esc r) ∨ (∃ c r q, t = c :: r ∧ c.toNat < 128 ∧ esc t = 38 :: q) := by
  match t with
  | [] => exact Or.inl rfl
  | c :: r =>
    by_cases hp : Plain c
    · refine Or.inr (Or.inl ⟨c, r, rfl, hp, ?_⟩)
      simp only [esc, List.flatMap_cons]
      rw [escB_plain hp]
      rfl
    · refine Or.inr (Or.inr ?_)
      have hlt : c.toNat < 128 := by
        rcases Nat.lt_or_ge c.toNat 128 with h | h
        · exact h
        · exact absurd (plain_high h) hp
      have : ∃ q, escB c = 38 :: q := by
        unfold Plain at hp
        unfold escB
        repeat' split
        all_goals first | exact ⟨_, rfl⟩ | (exfalso; exact hp ⟨by assumption, by assumption, by assumption, by assumption, by assumption⟩)
      obtain ⟨q, hq⟩ := this
      exact ⟨c, r, q ++ esc r, rfl, hlt, by simp only [esc, List.flatMap_cons]; rw [hq]; rfl⟩
theorem special_cases {b : UInt8} (hp : ¬ Plain b) : b = 38 ∨ b = 60 ∨ b = 62 ∨ b = 39 ∨ b = 34 := by
  by_cases h1 : b = 38
  · exact Or.inl h1
  · by_cases h2 : b = 60
    · exact Or.inr (Or.inl h2)
    · by_cases h3 : b = 62
      · exact Or.inr (Or.inr (Or.inl h3))
      · by_cases h4 : b = 39
        · exact Or.inr (Or.inr (Or.inr (Or.inl h4)))
        · by_cases h5 : b = 34
          · exact Or.inr (Or.inr (Or.inr (Or.inr h5)))
          · exact absurd ⟨h1, h2, h3, h4, h5⟩ hp
theorem special_bytes {b : UInt8} (hp : ¬ Plain b) : ∀ c ∈ escB b, (c.toNat < 128 ∧ 32 ≤ c.toNat) ∧ c ≠ 60 ∧ c ≠ 62 ∧ c ≠ 39 ∧ c ≠ 34 := by
  rcases special_cases hp with rfl | rfl | rfl | rfl | rfl <;> decide
theorem escB_bytes {b : UInt8} (hp : ¬ Plain b) : ∀ c ∈ escB b, c.toNat < 128 ∧ 32 ≤ c.toNat := fun c hc => (special_bytes hp c hc).1
theorem special_char {b : UInt8} (hp : ¬ Plain b) : CharR b.toNat := by
  unfold CharR
  rcases special_cases hp with rfl | rfl | rfl | rfl | rfl <;> decide
theorem decode_esc (b0 : UInt8) (t : List UInt8) (h0 : 128 ≤ b0.toNat) : Lib.decodeL (b0 :: esc t) = Lib.decodeL (b0 :: t) := by
  rw [Lib.decodeL_N, Lib.decodeL_N]
  have e0 : ∀ l : List UInt8, ((b0 :: l).getD 0 0) = b0 := fun _ => rfl
  rw [e0, e0]
  rcases esc_shape t with rfl | ⟨c1, t1, rfl, p1, e1⟩ | ⟨c1, t1, q, rfl, p1, e1⟩
  · rfl
  · rw [e1]
    rcases esc_shape t1 with rfl | ⟨c2, t2, rfl, p2, e2⟩ | ⟨c2, t2, q, rfl, p2, e2⟩
    · rfl
    · rw [e2]
      rcases esc_shape t2 with rfl | ⟨c3, t3, rfl, p3, e3⟩ | ⟨c3, t3, q, rfl, p3, e3⟩
      · rfl
      · rw [e3]
        refine decodeN_same _ _ _ _ _ _ _ _ _ (Or.inl ⟨by simp, by simp, rfl⟩) (fun _ => Or.inl ⟨by simp, by simp, rfl⟩) (fun _ _ => Or.inl ⟨by simp, by simp, rfl⟩) h0
      · rw [e3]
        refine decodeN_same _ _ _ _ _ _ _ _ _ (Or.inl ⟨by simp, by simp, rfl⟩) (fun _ => Or.inl ⟨by simp, by simp, rfl⟩) (fun _ _ => Or.inr ⟨Or.inr (show (38 : UInt8).toNat < 128 by decide), Or.inr p3⟩) h0
    · rw [e2]
      refine decodeN_same _ _ _ _ _ _ _ _ _ (Or.inl ⟨by simp, by simp, rfl⟩) (fun _ => Or.inr ⟨Or.inr (show (38 : UInt8).toNat < 128 by decide), Or.inr p2⟩) (fun _ h => absurd (show 128 ≤ (38 : UInt8).toNat from h.2) (by decide)) h0
  · rw [e1]
    refine decodeN_same _ _ _ _ _ _ _ _ _ (Or.inr ⟨Or.inr (show (38 : UInt8).toNat < 128 by decide), Or.inr p1⟩) (fun h => absurd (show 128 ≤ (38 : UInt8).toNat from h.2) (by decide)) (fun h => absurd (show 128 ≤ (38 : UInt8).toNat from h.2) (by decide)) h0
theorem tail_high (l : List UInt8) : ∀ b ∈ (l.take (Lib.decodeL l).2).drop 1, Plain b := by
  intro b hb
  obtain ⟨i, hi, rfl⟩ := List.mem_iff_getElem.1 hb
  rw [List.length_drop, List.length_take] at hi
  obtain ⟨hj, h2⟩ := decode_cont ⟨l.toArray⟩ 0 (i + 1) (by omega) (by
    have : (Utf8.decode ⟨l.toArray⟩ 0).2 = (Lib.decodeL l).2 := rfl
    omega)
  have : ((l.take (Lib.decodeL l).2).drop 1)[i]'(by rw [List.length_drop, List.length_take]; exact hi) = (⟨l.toArray⟩ : ByteArray)[i + 1]'hj := by
    rw [List.getElem_drop, List.getElem_take]
    have e : 1 + i = i + 1 := by omega
    simp only [e]
    rfl
  rw [this]
  exact plain_high h2
theorem charsOk_esc : ∀ (n : Nat) (l : List UInt8), l.length ≤ n → (CharsOk (esc l) ↔ CharsOk l)
  | 0, l, hn => by
    obtain rfl : l = [] := List.eq_nil_of_length_eq_zero (by omega)
    exact Iff.rfl
  | n + 1, [], _ => Iff.rfl
  | n + 1, b :: t, hn => by
    rw [List.length_cons] at hn
    by_cases ha : b.toNat < 128
    · rw [charsOk_cons b t ha]
      by_cases hp : Plain b
      · rw [show esc (b :: t) = b :: esc t by simp only [esc, List.flatMap_cons]; rw [escB_plain hp]; rfl, charsOk_cons b _ ha, charsOk_esc n t (by omega)]
      · rw [show esc (b :: t) = escB b ++ esc t by simp only [esc, List.flatMap_cons], charsOk_asc _ _ (escB_bytes hp), charsOk_esc n t (by omega)]
        constructor
        · exact fun h => ⟨special_char hp, h⟩
        · exact fun h => h.2
    · have hh : 128 ≤ b.toNat := by omega
      rw [show esc (b :: t) = b :: esc t by simp only [esc, List.flatMap_cons]; rw [escB_plain (plain_high hh)]; rfl, charsOk_step _ (by simp), charsOk_step (b :: t) (by simp), decode_esc b t hh]
      have hw := Lib.decodeL_width (b :: t)
      have hle := Lib.decodeL_le (b :: t) (by simp)
      have htl := tail_high (b :: t)
      obtain ⟨k, hk⟩ : ∃ k, (Lib.decodeL (b :: t)).2 = k + 1 := ⟨(Lib.decodeL (b :: t)).2 - 1, by omega⟩
      rw [hk] at htl hle ⊢
      rw [List.take_succ_cons, List.drop_succ_cons, List.drop_zero] at htl
      rw [List.drop_succ_cons, List.drop_succ_cons]
      have hkl : k ≤ t.length := by rw [List.length_cons] at hle; omega
      have hd : (esc t).drop k = esc (t.drop k) := by
        have : esc t = t.take k ++ esc (t.drop k) := by
          have h1 : esc (t.take k ++ t.drop k) = esc (t.take k) ++ esc (t.drop k) := esc_append _ _
          rw [List.take_append_drop, esc_plain _ htl] at h1
          exact h1
        rw [this, List.drop_append_of_le_length (by rw [List.length_take]; omega), List.drop_eq_nil_of_le (by rw [List.length_take]; omega)]
        rfl
      rw [hd, charsOk_esc n (t.drop k) (by rw [List.length_drop]; omega)]
/-- No sign of an entity's own in what is escaped. -/
theorem esc_safe (l : List UInt8) : ∀ b ∈ esc l, b ≠ 60 ∧ b ≠ 62 ∧ b ≠ 39 ∧ b ≠ 34 := by
  intro b hb
  simp only [esc, List.mem_flatMap] at hb
  obtain ⟨c, _, hc⟩ := hb
  by_cases hp : Plain c
  · rw [escB_plain hp, List.mem_singleton] at hc
    subst hc
    exact hp.2
  · exact (special_bytes hp b hc).2
theorem esc_longer (l : List UInt8) : l.length ≤ (esc l).length := by
  induction l with
  | nil => simp [esc]
  | cons a r ih =>
    have : 1 ≤ (escB a).length := by
      unfold escB
      repeat' split
      all_goals simp
    simp only [esc, List.flatMap_cons, List.length_append, List.length_cons] at ih ⊢
    omega
end Go.Proofs.YthmidlmknkbdaaaDoor
