/- An element that is empty, by hand. -/
import Derived.Test.YthflpcfpfdmaeaaDoorStrM
namespace Go.Proofs.YthflpcfpfdmaeaaDoor.Xm
open Go.RowKit

/-- Blanks. -/
def Blk (l : List UInt8) : Prop := ∀ b ∈ l, isBl b = true
def plainB (b : UInt8) : Prop := b.toNat < 128 ∧ (32 ≤ b.toNat ∨ isBl b = true)
theorem chars_plain2 : ∀ l : List UInt8, (∀ b ∈ l, plainB b) → CharsOk l
  | [], _ => ⟨rfl, runes_nil⟩
  | b :: t, h => by
    have hb := h b (by simp)
    have ih := chars_plain2 t (fun c hc => h c (by simp [hc]))
    refine ⟨by rw [Lib.validD_cons b t hb.1]; exact ih.1, ?_⟩
    rw [runes_step _ (by simp), Lib.decodeL_ascii b t hb.1]
    refine ⟨?_, ih.2⟩
    by_cases h32 : 32 ≤ b.toNat
    · exact Or.inr (Or.inr (Or.inr ⟨h32, by have := hb.1; omega, by have := hb.1; omega⟩))
    · rcases hb.2 with h1 | h1
      · exact absurd h1 h32
      · simp only [isBl, Bool.or_eq_true, beq_iff_eq] at h1
        rcases h1 with ((rfl | rfl) | rfl) | rfl
        · exact absurd (by decide) h32
        · exact Or.inl rfl
        · exact Or.inr (Or.inl rfl)
        · exact Or.inr (Or.inr (Or.inl rfl))
theorem small_plain {b : UInt8} (h : 97 ≤ b.toNat ∧ b.toNat ≤ 122) : plainB b := ⟨by omega, .inl (by omega)⟩
theorem blank_lt {b : UInt8} (h : isBl b = true) : b.toNat ≤ 32 ∧ b ≠ 60 ∧ b ≠ 62 ∧ b ≠ 39 ∧ b ≠ 34 ∧ b.toNat ≠ 0 := by
  simp only [isBl, Bool.or_eq_true, beq_iff_eq] at h
  rcases h with ((rfl | rfl) | rfl) | rfl <;> decide
theorem blank_plain {b : UInt8} (h : isBl b = true) : plainB b := ⟨by have := blank_lt h; omega, .inr h⟩
/-- What neither quotes nor ends. -/
def quietB (b : UInt8) : Prop := b.toNat ≠ 0 ∧ b ≠ 39 ∧ b ≠ 34 ∧ b ≠ 62
theorem runQ_quiet : ∀ l : List UInt8, (∀ b ∈ l, quietB b) → runQ 0 l = some 0
  | [], _ => rfl
  | b :: l, h => by
    have hb := h b (by simp)
    have hq : quoteL 0 b = (0, false) := by
      unfold quoteL
      rw [if_neg hb.1, if_neg (by decide), if_neg (by rintro (e | e); exact hb.2.1 e; exact hb.2.2.1 e), decide_eq_false hb.2.2.2]
    unfold runQ
    rw [hq]
    exact runQ_quiet l (fun c hc => h c (by simp [hc]))
theorem small_quiet {b : UInt8} (h : 97 ≤ b.toNat ∧ b.toNat ≤ 122) : quietB b := ⟨by omega, by rintro rfl; simp at h, by rintro rfl; simp at h, by rintro rfl; simp at h⟩
theorem blank_quiet {b : UInt8} (h : isBl b = true) : quietB b := by
  have := blank_lt h
  exact ⟨this.2.2.2.2.2, this.2.2.2.1, this.2.2.2.2.1, this.2.2.1⟩

theorem nameGo_eq (l : List UInt8) (N : Nat) : ∀ (f n : Nat), n ≤ N → N ≤ n + f → (∀ k, n ≤ k → k < N → k < l.length ∧ nmB (l.take (k + 1)) = true) → ¬ (N < l.length ∧ nmB (l.take (N + 1)) = true) → nameGo l f n = N
  | 0, n, h1, h2, _, _ => by
    show n = N
    omega
  | f + 1, n, h1, h2, h3, h4 => by
    unfold nameGo
    by_cases he : n = N
    · subst he
      rw [if_neg h4]
    · rw [if_pos (h3 n (Nat.le_refl _) (by omega))]
      exact nameGo_eq l N f (n + 1) (by omega) (by omega) (fun k hk hk' => h3 k (by omega) hk') h4
theorem small_nmB {l : List UInt8} (h : Small l) (h1 : 1 ≤ l.length) (h2 : l.length ≤ 32) : nmB l = true := by
  unfold nmB
  rw [decide_eq_true h1, decide_eq_true h2, Bool.true_and, Bool.true_and, List.all_eq_true]
  rintro ⟨b, j⟩ hx
  have hb := h b (List.mem_of_getElem? (List.mem_zipIdx_iff_getElem?.1 hx))
  have : isBb b = true := by
    unfold isBb
    rw [decide_eq_true hb.1, decide_eq_true hb.2]
    simp
  simp [this]
theorem nmB_bad {l : List UInt8} {r : UInt8} (hr : isBb r = false ∧ isGb r = false) : nmB (l ++ [r]) = false := by
  unfold nmB
  rw [Bool.and_eq_false_iff]
  right
  rw [List.all_eq_false]
  refine ⟨(r, l.length), List.mem_zipIdx_iff_getElem?.2 (by simp), ?_⟩
  simp [hr.1, hr.2]
/-- The name that letters make, ahead of what is no letter. -/
theorem nameL_small {nm rest : List UInt8} {r : UInt8} (h : Small nm) (h1 : 1 ≤ nm.length) (h2 : nm.length ≤ 31) (hr : isBb r = false ∧ isGb r = false) : nameL (nm ++ r :: rest) = some (nm, r :: rest) := by
  have hlen : nameLen (nm ++ r :: rest) = nm.length := by
    unfold nameLen
    refine nameGo_eq _ nm.length _ 0 (Nat.zero_le _) (by simp) (fun k _ hk => ⟨by simp; omega, ?_⟩) (fun hh => ?_)
    · rw [List.take_append_of_le_length (by omega)]
      refine small_nmB (fun b hb => h b (List.mem_of_mem_take hb)) ?_ ?_ <;> rw [List.length_take] <;> omega
    · have h3 := hh.2
      rw [List.take_append, List.take_of_length_le (by omega), show nm.length + 1 - nm.length = 1 by omega] at h3
      have h4 : nmB (nm ++ [r]) = true := h3
      rw [nmB_bad hr] at h4
      cases h4
  unfold nameL
  rw [hlen, if_neg (by omega)]
  simp
theorem drop_blanks {g rest : List UInt8} {r : UInt8} (h : Blk g) (hr : isBl r = false) : (g ++ r :: rest).dropWhile isBl = r :: rest := by
  rw [List.dropWhile_append_of_pos h]
  simp [hr]
theorem end_bytes : (isBb 47 = false ∧ isGb 47 = false) ∧ (isBb 62 = false ∧ isGb 62 = false) ∧ isBl 47 = false ∧ isBl 62 = false := by decide
theorem blank_no {b : UInt8} (h : isBl b = true) : isBb b = false ∧ isGb b = false := by
  simp only [isBl, Bool.or_eq_true, beq_iff_eq] at h
  rcases h with ((rfl | rfl) | rfl) | rfl <;> decide
/-- A name, blanks, and what is behind them. -/
theorem name_gap {nm g rest : List UInt8} {r : UInt8} (h : Small nm) (h1 : 1 ≤ nm.length) (h2 : nm.length ≤ 31) (hg : Blk g) (hr : isBb r = false ∧ isGb r = false) : nameL (nm ++ (g ++ r :: rest)) = some (nm, g ++ r :: rest) := by
  cases g with
  | nil => exact nameL_small h h1 h2 hr
  | cons b g => exact nameL_small h h1 h2 (blank_no (hg b (by simp)))
theorem beginL_gap {nm g : List UInt8} (h : Small nm) (h1 : 1 ≤ nm.length) (h2 : nm.length ≤ 31) (hg : Blk g) : beginL (60 :: (nm ++ (g ++ [47, 62]))) = some (nm, [], true) ∧ beginL (60 :: (nm ++ (g ++ [62]))) = some (nm, [], false) := by
  have m1 : ∀ t, mustL [60] (60 :: t) = some t := fun t => by simp [mustL, mayL, List.isPrefixOf]
  have key : ∀ (r : UInt8) (t : List UInt8), isBl r = false → atEndL (r :: t) = true → ∀ f, attrsGo (f + 1) (g ++ r :: t) [] = some ([], r :: t) := fun r t hr ha f => by
    unfold attrsGo
    rw [drop_blanks hg hr, ha, if_neg (fun hh => by cases hh.2)]
  constructor
  · unfold beginL
    rw [m1]
    show (nameL (nm ++ (g ++ 47 :: [62]))).bind _ = _
    rw [name_gap h h1 h2 hg end_bytes.1]
    show (attrsGo ((g ++ [47, 62]).length + 1) (g ++ 47 :: [62]) []).bind _ = _
    rw [key 47 [62] end_bytes.2.2.1 rfl]
    rfl
  · unfold beginL
    rw [m1]
    show (nameL (nm ++ (g ++ 62 :: []))).bind _ = _
    rw [name_gap h h1 h2 hg end_bytes.2.1]
    show (attrsGo ((g ++ [62]).length + 1) (g ++ 62 :: []) []).bind _ = _
    rw [key 62 [] end_bytes.2.2.2 rfl]
    rfl
theorem endL_gap {nm g : List UInt8} (h : Small nm) (h1 : 1 ≤ nm.length) (h2 : nm.length ≤ 31) (hg : Blk g) : endL (60 :: 47 :: (nm ++ (g ++ [62]))) = some nm := by
  unfold endL
  have m1 : mustL [60, 47] (60 :: 47 :: (nm ++ (g ++ [62]))) = some (nm ++ (g ++ [62])) := by simp [mustL, mayL, List.isPrefixOf]
  rw [m1]
  show (nameL (nm ++ (g ++ 62 :: []))).bind _ = _
  rw [name_gap h h1 h2 hg end_bytes.2.1]
  show (mustL [62] ((g ++ 62 :: []).dropWhile isBl)).map _ = _
  rw [drop_blanks hg end_bytes.2.2.2]
  rfl
theorem begin_both {st : PS} {nm : ByteArray} (h1 : ¬ (st.op.length = 0 ∧ st.rooted = true)) (h4 : st.op.length < 8) : beginP st nm [] true = .ok ({ st with rooted := true }, [⟨1, nm, [], ⟨#[]⟩⟩, ⟨2, nm, [], ⟨#[]⟩⟩]) := by
  unfold beginP
  rw [if_neg h1, if_neg (by simp), if_neg (fun h => (repB_iff _).2 h noRep_nil), if_neg (by omega), if_pos rfl]
def empTok (nm : List UInt8) : List Tok := [⟨1, ⟨nm.toArray⟩, [], ⟨#[]⟩⟩, ⟨2, ⟨nm.toArray⟩, [], ⟨#[]⟩⟩]
theorem small_head {nm t : List UInt8} (h : Small nm) (h1 : 1 ≤ nm.length) : [60, 33].isPrefixOf (60 :: (nm ++ t)) = false ∧ [60, 63].isPrefixOf (60 :: (nm ++ t)) = false ∧ [60, 47].isPrefixOf (60 :: (nm ++ t)) = false ∧ isDecl (60 :: (nm ++ t)) = false := by
  cases nm with
  | nil => simp at h1
  | cons b nm =>
    have hb := h b (by simp)
    have e : ∀ c : UInt8, c.toNat < 97 → (c == b) = false := fun c hc => by rw [beq_eq_false_iff_ne]; rintro rfl; omega
    refine ⟨?_, ?_, ?_, ?_⟩
    · simp [List.isPrefixOf, e 33 (by decide)]
    · simp [List.isPrefixOf, e 63 (by decide)]
    · simp [List.isPrefixOf, e 47 (by decide)]
    · simp [isDecl, mayL, List.isPrefixOf, e 63 (by decide)]
theorem bytes_plain {nm g t : List UInt8} (h : Small nm) (hg : Blk g) (ht : ∀ b ∈ t, plainB b) : ∀ b ∈ 60 :: (nm ++ (g ++ t)), plainB b := by
  intro b hb
  simp only [List.mem_cons, List.mem_append] at hb
  rcases hb with rfl | hb | hb | hb
  · exact ⟨by decide, .inl (by decide)⟩
  · exact small_plain (h b hb)
  · exact blank_plain (hg b hb)
  · exact ht b hb
/-- A tag that begins an element and ends it. -/
theorem feed_one {nm g r : List UInt8} (h : Small nm) (h1 : 1 ≤ nm.length) (h2 : nm.length ≤ 31) (hg : Blk g) (hgl : g.length ≤ 10) : feedF st0 (60 :: ((nm ++ (g ++ [47])) ++ 62 :: r)) = ((feedF ⟨[], 0, [], true, true, 0⟩ r).1, empTok nm ++ (feedF ⟨[], 0, [], true, true, 0⟩ r).2) := by
  have hs : (60 :: (nm ++ (g ++ [47])) ++ [62]) = 60 :: (nm ++ (g ++ [47, 62])) := by simp
  have htag : tagL { st0 with wait := [], quote := 0 } (60 :: (nm ++ (g ++ [47])) ++ [62]) = .ok (⟨[], 0, [], true, true, 0⟩, empTok nm) := by
    rw [hs]
    have hh := small_head (t := g ++ [47, 62]) h h1
    rw [tag_begin (nm := nm) (al := []) (ends := true) ((charsB_iff _).2 (chars_plain2 _ (bytes_plain h hg (fun b hb => by simp at hb; rcases hb with rfl | rfl <;> exact ⟨by decide, .inl (by decide)⟩)))) (by rw [hh.2.2.2, Bool.and_false]) hh.1 hh.2.1 hh.2.2.1 (beginL_gap h h1 h2 hg).1]
    exact begin_both (by intro hh; cases hh.2) (by decide)
  have hf := feed_tag (st := st0) (nm ++ (g ++ [47])) r rfl rfl (text_none _) (by simp; omega) (runQ_quiet _ (fun b hb => by
    simp only [List.mem_append, List.mem_singleton] at hb
    rcases hb with hb | hb | rfl
    · exact small_quiet (h b hb)
    · exact blank_quiet (hg b hb)
    · exact ⟨by decide, by decide, by decide, by decide⟩)) htag
  rw [hf]
  rfl
theorem feed_blanks : ∀ (g : List UInt8) (st : PS), Blk g → inTagL st.wait = false → st.wait.length + g.length ≤ 100 → (feedF st g).2 = [] ∧ (feedF st g).1.broken = st.broken
  | [], st, _, _, _ => ⟨rfl, rfl⟩
  | b :: g, st, h, hi, hl => by
    have hb := blank_lt (h b (by simp))
    rw [feedF_ok g (put_text hb.2.1 hi (by simp at hl; omega))]
    have hi2 : inTagL (st.wait ++ [b]) = false := by
      cases hw : st.wait with
      | nil =>
        show (b == 60) = false
        rw [beq_eq_false_iff_ne]
        exact hb.2.1
      | cons a l =>
        rw [hw] at hi
        exact hi
    have ih := feed_blanks g { st with wait := st.wait ++ [b] } (fun c hc => h c (by simp [hc])) hi2 (by simp at hl ⊢; omega)
    exact ⟨ih.1, ih.2⟩
/-- The same in two tags. -/
theorem feed_two {nm g : List UInt8} (h : Small nm) (h1 : 1 ≤ nm.length) (h2 : nm.length ≤ 31) (hg : Blk g) (hgl : g.length ≤ 10) : (feedF st0 (60 :: ((nm ++ g) ++ 62 :: (60 :: ((47 :: (nm ++ g)) ++ 62 :: []))))).2 = empTok nm ∧ (feedF st0 (60 :: ((nm ++ g) ++ 62 :: (60 :: ((47 :: (nm ++ g)) ++ 62 :: []))))).1.broken = 0 := by
  have hs : (60 :: (nm ++ g) ++ [62]) = 60 :: (nm ++ (g ++ [62])) := by simp
  have hq : ∀ b ∈ nm ++ g, quietB b := fun b hb => by
    rcases List.mem_append.1 hb with hb | hb
    · exact small_quiet (h b hb)
    · exact blank_quiet (hg b hb)
  have hpl : ∀ b ∈ [62], plainB (b : UInt8) := fun b hb => by rw [List.mem_singleton.1 hb]; exact ⟨by decide, .inl (by decide)⟩
  have htag : tagL { st0 with wait := [], quote := 0 } (60 :: (nm ++ g) ++ [62]) = .ok (⟨[], 0, [⟨nm.toArray⟩], true, true, 0⟩, [⟨1, ⟨nm.toArray⟩, [], ⟨#[]⟩⟩]) := by
    rw [hs]
    have hh := small_head (t := g ++ [62]) h h1
    rw [tag_begin (nm := nm) (al := []) (ends := false) ((charsB_iff _).2 (chars_plain2 _ (bytes_plain h hg hpl))) (by rw [hh.2.2.2, Bool.and_false]) hh.1 hh.2.1 hh.2.2.1 (beginL_gap h h1 h2 hg).2]
    exact begin_ok (by intro hh; cases hh.2) (by simp [toB]) noRep_nil (by decide)
  have hs2 : (60 :: (47 :: (nm ++ g)) ++ [62]) = 60 :: 47 :: (nm ++ (g ++ [62])) := by simp
  have htag2 : tagL { (⟨[], 0, [⟨nm.toArray⟩], true, true, 0⟩ : PS) with wait := [], quote := 0 } (60 :: (47 :: (nm ++ g)) ++ [62]) = .ok (⟨[], 0, [], true, true, 0⟩, [⟨2, ⟨nm.toArray⟩, [], ⟨#[]⟩⟩]) := by
    rw [hs2]
    have hpl2 : ∀ b ∈ 60 :: 47 :: (nm ++ (g ++ [62])), plainB b := by
      intro b hb
      rcases List.mem_cons.1 hb with rfl | hb
      · exact ⟨by decide, .inl (by decide)⟩
      · rcases List.mem_cons.1 hb with rfl | hb
        · exact ⟨by decide, .inl (by decide)⟩
        · exact bytes_plain h hg hpl b (List.mem_cons_of_mem _ hb)
    rw [tag_end (nm := nm) ((charsB_iff _).2 (chars_plain2 _ hpl2)) rfl (by simp [List.isPrefixOf]) (by simp [List.isPrefixOf]) (by simp [List.isPrefixOf]) (endL_gap h h1 h2 hg)]
    exact end_ok rfl
  have hf2 := feed_tag (st := ⟨[], 0, [⟨nm.toArray⟩], true, true, 0⟩) (47 :: (nm ++ g)) [] rfl rfl (text_none _) (by simp; omega) (runQ_quiet _ (fun b hb => by
    rcases List.mem_cons.1 hb with rfl | hb
    · exact ⟨by decide, by decide, by decide, by decide⟩
    · exact hq b hb)) htag2
  have hf := feed_tag (st := st0) (nm ++ g) (60 :: ((47 :: (nm ++ g)) ++ 62 :: [])) rfl rfl (text_none _) (by simp; omega) (runQ_quiet _ hq) htag
  rw [hf, hf2]
  exact ⟨rfl, rfl⟩
end Go.Proofs.YthflpcfpfdmaeaaDoor.Xm
