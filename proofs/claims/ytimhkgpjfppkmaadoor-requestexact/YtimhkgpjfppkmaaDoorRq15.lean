/- A right request's payload is whole: no program in it. -/
import Derived.Test.YtimhkgpjfppkmaaDoorGE
import Derived.Test.YtimhkgpjfppkmaaDoorGK
namespace Go.Proofs.YtimhkgpjfppkmaaDoor
open Go.RowKit Go.Shelf

theorem chars_asc : ∀ l : List UInt8, (∀ b ∈ l, 32 ≤ b.toNat ∧ b.toNat < 128) → CharsOk l
  | [], _ => ⟨rfl, runes_nil⟩
  | b :: t, h => by
    have hb := h b (by simp)
    have ih := chars_asc t (fun c hc => h c (by simp [hc]))
    refine ⟨by rw [Lib.validD_cons b t hb.2]; exact ih.1, ?_⟩
    rw [runes_step _ (by simp), Lib.decodeL_ascii b t hb.2]
    exact ⟨Or.inr (Or.inr (Or.inr ⟨hb.1, by have := hb.2; omega, by have := hb.2; omega⟩)), ih.2⟩
theorem name_lower (s : ByteArray) (h1 : 1 ≤ s.size) (h2 : s.size ≤ 32) (h : ∀ b ∈ s.data.toList, 97 ≤ b.toNat ∧ b.toNat ≤ 122) : NameOk s := by
  refine ⟨h1, h2, fun j hj => ?_⟩
  have hm : s[j] ∈ s.data.toList := by
    rw [Array.mem_toList_iff]
    exact Array.getElem_mem hj
  have := h _ hm
  exact .inl (.inr (.inl ⟨by omega, by omega⟩))
def lowW (s : ByteArray) : Bool := decide (1 ≤ s.size) && (decide (s.size ≤ 32) && s.data.toList.all fun b => decide (97 ≤ b.toNat) && decide (b.toNat ≤ 122))
theorem lowW_name {s : ByteArray} (h : lowW s = true) : NameOk s := by
  unfold lowW at h
  simp only [Bool.and_eq_true, List.all_eq_true, decide_eq_true_eq] at h
  exact name_lower s h.1 h.2.1 h.2.2
def ascW (s : ByteArray) : Bool := decide (s.size ≤ 512) && s.data.toList.all fun b => decide (32 ≤ b.toNat) && decide (b.toNat < 128)
theorem ascW_small {s : ByteArray} (h : ascW s = true) : SmallT s := by
  unfold ascW at h
  simp only [Bool.and_eq_true, List.all_eq_true, decide_eq_true_eq] at h
  exact ⟨h.1, chars_asc _ h.2⟩
theorem small_word (L : List ByteArray) (k : Nat) (h : L.all ascW = true) : SmallT (L.getD k ⟨#[]⟩) := by
  rw [List.getD_eq_getElem?_getD]
  cases hk : L[k]? with
  | none => exact ascW_small (s := ⟨#[]⟩) (by decide)
  | some s => exact ascW_small (List.all_eq_true.1 h s (List.mem_of_getElem? hk))
theorem small_name {s : ByteArray} (h : Jd.nameOk s = true) : SmallT s := by
  have hs := name_size h
  unfold Jd.nameOk at h
  simp only [Bool.and_eq_true, List.all_eq_true] at h
  refine ⟨by omega, chars_asc _ fun b hb => ?_⟩
  have := h.1 b hb
  unfold Jd.nmB at this
  simp only [Bool.or_eq_true, Bool.and_eq_true, decide_eq_true_eq] at this
  omega
theorem pt_asc {b : UInt8} (h : Jd.ptB b = true) : 32 ≤ b.toNat ∧ b.toNat < 128 := by
  unfold Jd.ptB Jd.capB at h
  simp only [Bool.or_eq_true, Bool.and_eq_true, decide_eq_true_eq, beq_iff_eq] at h
  rcases h with ((h | h) | h) | (rfl | rfl) | rfl
  · omega
  · omega
  · omega
  · decide
  · decide
  · decide
theorem part_asc {l : List UInt8} (h : Jd.partL l = true) : ∀ b ∈ l, 32 ≤ b.toNat ∧ b.toNat < 128 := by
  unfold Jd.partL at h
  simp only [Bool.and_eq_true, List.all_eq_true] at h
  exact fun b hb => pt_asc (h.1 b hb)
theorem part_asc' {l : List UInt8} (h : l = [] ∨ Jd.partL l = true) : ∀ b ∈ l, 32 ≤ b.toNat ∧ b.toNat < 128 := by
  rcases h with rfl | h
  · intro b hb
    simp at hb
  · exact part_asc h
theorem small_addr {s : ByteArray} (h : Jd.addrOk s = true) : SmallT s := by
  have hs := addr_size h
  unfold Jd.addrOk at h
  refine ⟨by omega, chars_asc _ fun b hb => ?_⟩
  cases hp : Jd.parseL s.data.toList with
  | none => rw [hp] at h; cases h
  | some j =>
    obtain ⟨⟨h1, h2, h3, _⟩, he⟩ := (Jd.parse_iff _ j).1 hp
    rw [← he] at hb
    unfold Jd.textJ at hb
    rcases List.mem_append.1 hb with hb | hb
    · split at hb
      · simp at hb
      · rcases List.mem_append.1 hb with hb | hb
        · exact part_asc' h1 b hb
        · simp at hb
          subst hb
          decide
    · rcases List.mem_append.1 hb with hb | hb
      · exact part_asc h2 b hb
      · split at hb
        · simp at hb
        · rcases List.mem_cons.1 hb with rfl | hb
          · decide
          · exact part_asc' h3 b hb
set_option maxRecDepth 100000 in
theorem dec_asc : ∀ n : Fin 256, ascW (itW (n.val : Int)) = true := by decide +kernel
theorem small_num {b none : Bool} {v m : Int} (h : fitB b (decide (0 ≤ v) && decide (v ≤ m)) none = true) (hb : b = true) (hm : m ≤ 255) : SmallT (itW v) := by
  rw [hb] at h
  have hh := (Bool.and_eq_true _ _).mp (fit_yes h)
  have h0 := of_decide_eq_true hh.1
  have h1 := of_decide_eq_true hh.2
  have := dec_asc ⟨v.toNat, by omega⟩
  rw [show ((⟨v.toNat, by omega⟩ : Fin 256).val : Int) = v by show (v.toNat : Int) = v; omega] at this
  exact ascW_small this
/-- Attributes that are right, of any number. -/
def GoodA (al : List (ByteArray × ByteArray)) : Prop := ∀ i a, al[i]? = some a → attrVal (al.take i) a.1 = none ∧ NameOk a.1 ∧ SmallT a.2
theorem good_add {b : Bool} {nm s : ByteArray} {al : List (ByteArray × ByteArray)} (h : GoodA al) (hf : ∀ a ∈ al, a.1 ≠ nm) (hn : lowW nm = true) (hs : b = true → SmallT s) : GoodA (addL b nm s al) := by
  cases b with
  | false =>
    unfold addL
    simpa using h
  | true =>
    unfold addL
    simp only [if_true]
    intro i a hi
    by_cases hl : i < al.length
    · rw [List.getElem?_append_left hl] at hi
      have := h i a hi
      rw [List.take_append_of_le_length (Nat.le_of_lt hl)]
      exact this
    · have hi2 : i = al.length := by
        have := (List.getElem?_eq_some_iff.1 hi).1
        simp at this
        omega
      subst hi2
      rw [List.getElem?_append_right (Nat.le_refl _)] at hi
      simp at hi
      subst hi
      refine ⟨?_, lowW_name hn, hs rfl⟩
      rw [List.take_append_of_le_length (Nat.le_refl _), List.take_length]
      exact attrVal_none fun j x hj => hf x (List.mem_of_getElem? hj)
theorem names_add {b : Bool} {nm s : ByteArray} {al : List (ByteArray × ByteArray)} {L : List ByteArray} (h : ∀ a ∈ al, a.1 ∈ L) : ∀ a ∈ addL b nm s al, a.1 ∈ L ++ [nm] := by
  intro a ha
  unfold addL at ha
  rcases List.mem_append.1 ha with ha | ha
  · exact List.mem_append_left _ (h a ha)
  · cases b with
    | true =>
      simp at ha
      subst ha
      simp
    | false => simp at ha
theorem not_in {al : List (ByteArray × ByteArray)} {L : List ByteArray} {nm : ByteArray} (h : ∀ a ∈ al, a.1 ∈ L) (hn : L.all (fun x => decide (x ≠ nm)) = true) : ∀ a ∈ al, a.1 ≠ nm := fun a ha => of_decide_eq_true (List.all_eq_true.1 hn a.1 (h a ha))
theorem attrs_good {r : Rq} (h : RightRq r) : GoodA (attrsR r) := by
  obtain ⟨c0, c1, c2, c3, c4, c5, c6, c7, c8, c9, c10⟩ := h
  have hn : SmallT r.node := by
    unfold rnB at c1
    rcases Bool.or_eq_true _ _ ▸ c1 with c | c
    · exact small_name c
    · have hc := (Bool.and_eq_true _ _).mp c
      rw [of_decide_eq_true hc.2]
      exact ascW_small (by decide)
  have g0 : GoodA (at0 r) := fun i a hi => by simp [at0] at hi
  have n0 : ∀ a ∈ at0 r, a.1 ∈ ([] : List ByteArray) := fun a ha => by simp [at0] at ha
  have g1 : GoodA (at1 r) := good_add g0 (not_in n0 (by decide)) (by decide) (fun hb => hn)
  have n1 : ∀ a ∈ at1 r, a.1 ∈ _ := names_add (b := nodeB r.verb) (nm := ⟨#[110, 111, 100, 101]⟩) (s := r.node) n0
  have g2 : GoodA (at2 r) := good_add g1 (not_in n1 (by decide)) (by decide) (fun hb => small_name (fit_yes (hb ▸ c2)))
  have n2 : ∀ a ∈ at2 r, a.1 ∈ _ := names_add (b := itemB r.verb) (nm := ⟨#[105, 116, 101, 109]⟩) (s := r.item) n1
  have g3 : GoodA (at3 r) := good_add g2 (not_in n2 (by decide)) (by decide) (fun hb => small_addr (fit_yes (hb ▸ c3)))
  have n3 : ∀ a ∈ at3 r, a.1 ∈ _ := names_add (b := jidB r.verb) (nm := ⟨#[106, 105, 100]⟩) (s := r.jid) n2
  have g4 : GoodA (at4 r) := good_add g3 (not_in n3 (by decide)) (by decide) (fun hb => small_word rolesL r.role (by decide))
  have n4 : ∀ a ∈ at4 r, a.1 ∈ _ := names_add (b := roleB r.verb) (nm := ⟨#[114, 111, 108, 101]⟩) (s := (rolesL.getD r.role ⟨#[]⟩)) n3
  have g5 : GoodA (at5 r) := good_add g4 (not_in n4 (by decide)) (by decide) (fun hb => small_word accsL r.acc (by decide))
  have n5 : ∀ a ∈ at5 r, a.1 ∈ _ := names_add (b := accB r.verb) (nm := ⟨#[97, 99, 99, 101, 115, 115]⟩) (s := (accsL.getD r.acc ⟨#[]⟩)) n4
  have g6 : GoodA (at6 r) := good_add g5 (not_in n5 (by decide)) (by decide) (fun hb => small_num c6 hb (by decide))
  have n6 : ∀ a ∈ at6 r, a.1 ∈ _ := names_add (b := maxB r.verb) (nm := ⟨#[109, 97, 120]⟩) (s := (itW r.max)) n5
  have g7 : GoodA (at7 r) := good_add g6 (not_in n6 (by decide)) (by decide) (fun hb => small_num c7 hb (by decide))
  have n7 : ∀ a ∈ at7 r, a.1 ∈ _ := names_add (b := depthB r.verb) (nm := ⟨#[100, 101, 112, 116, 104]⟩) (s := (itW r.depth)) n6
  have g8 : GoodA (at8 r) := good_add g7 (not_in n7 (by decide)) (by decide) (fun hb => small_name (fit_yes (hb ▸ c8)))
  have n8 : ∀ a ∈ at8 r, a.1 ∈ _ := names_add (b := parB r.verb) (nm := ⟨#[112, 97, 114, 101, 110, 116]⟩) (s := r.parent) n7
  have g9 : GoodA (at9 r) := good_add g8 (not_in n8 (by decide)) (by decide) (fun hb => small_word typesL _ (by decide))
  exact g9
def cntA (v : Nat) : Nat := (nodeB v).toNat + (itemB v).toNat + (jidB v).toNat + (roleB v).toNat + (accB v).toNat + (maxB v).toNat + (depthB v).toNat + (parB v).toNat + (kindB v).toNat
theorem addL_length (b : Bool) (nm s : ByteArray) (al : List (ByteArray × ByteArray)) : (addL b nm s al).length = al.length + b.toNat := by
  unfold addL
  cases b <;> simp
theorem attrs_len (r : Rq) : (attrsR r).length = cntA r.verb := by
  unfold attrsR at9 at8 at7 at6 at5 at4 at3 at2 at1 at0 cntA
  simp only [addL_length, List.length_nil, Nat.zero_add]
theorem cnt_all : ∀ v : Fin 16, cntA v.val ≤ 8 := by decide
theorem verb_range {r : Rq} (h : RightRq r) : 1 ≤ r.verb ∧ r.verb ≤ 15 := of_decide_eq_true h.1
theorem attrs_ok {r : Rq} (h : RightRq r) : AttrsOk (attrsR r) := by
  refine ⟨?_, attrs_good h⟩
  have hv := verb_range h
  rw [attrs_len]
  exact cnt_all ⟨r.verb, by omega⟩
theorem verb_all : ∀ v : Fin 16, v.val = 0 ∨ lowW (verbB v.val) = true := by decide
theorem verb_name {r : Rq} (h : RightRq r) : NameOk (verbB r.verb) := by
  have hv := verb_range h
  rcases verb_all ⟨r.verb, by omega⟩ with e | e
  · have : r.verb = 0 := e
    omega
  · exact lowW_name e
theorem text_small {r : Rq} (h : RightRq r) : SmallT r.text := by
  have h10 := h.2.2.2.2.2.2.2.2.2.2
  cases hb : textB r.verb with
  | true =>
    rw [hb] at h10
    have hc := (Bool.and_eq_true _ _).mp (fit_yes h10)
    have h2 : charsD r.text = true := hc.2
    unfold charsD at h2
    exact ⟨of_decide_eq_true hc.1, @of_decide_eq_true _ (Classical.propDecidable _) h2⟩
  | false =>
    rw [hb] at h10
    have := of_decide_eq_true (fit_no h10)
    rw [this]
    exact ascW_small (by decide)
/-- An element about a text is right, and of no depth. -/
theorem right_text {nm : ByteArray} {al : List (ByteArray × ByteArray)} {s : ByteArray} (hn : NameOk nm) (ha : AttrsOk al) (hs : SmallT s) : RightT (elemT nm al (charsT s)) ∧ ∀ k, k ≤ (elemT nm al (charsT s)).length → (openAt (elemT nm al (charsT s)) k).length ≤ 7 := by
  unfold charsT
  by_cases he : s = ⟨#[]⟩
  · rw [if_pos he]
    refine ⟨⟨by simp [elemT], fun k t hk => ?_, by rfl⟩, fun k hk => ?_⟩
    · match k, hk with
      | 0, hk => cases hk; exact .inl ⟨rfl, by show ([] : List ByteArray).length + 1 ≤ 8; simp, hn, rfl, ha⟩
      | 1, hk => cases hk; exact .inr (.inl ⟨rfl, by show 0 < ([nm] : List ByteArray).length; simp, rfl, rfl, rfl⟩)
      | k + 2, hk => simp [elemT] at hk
    · match k, hk with
      | 0, _ => show ([] : List ByteArray).length ≤ 7; simp
      | 1, _ => show ([nm] : List ByteArray).length ≤ 7; simp
      | 2, _ => show ([] : List ByteArray).length ≤ 7; simp
      | k + 3, hk => simp [elemT] at hk
  · rw [if_neg he]
    have hz : s.size ≠ 0 := fun e => he (by
      apply ByteArray.ext
      exact Array.eq_empty_of_size_eq_zero e)
    refine ⟨⟨by simp [elemT], fun k t hk => ?_, by rfl⟩, fun k hk => ?_⟩
    · match k, hk with
      | 0, hk => cases hk; exact .inl ⟨rfl, by show ([] : List ByteArray).length + 1 ≤ 8; simp, hn, rfl, ha⟩
      | 1, hk => cases hk; exact .inr (.inr ⟨rfl, by show 0 < ([nm] : List ByteArray).length; simp, by show (1 : Nat) ≠ 3; decide, hz, hs, rfl, rfl⟩)
      | 2, hk => cases hk; exact .inr (.inl ⟨rfl, by show 0 < ([nm] : List ByteArray).length; simp, rfl, rfl, rfl⟩)
      | k + 3, hk => simp [elemT] at hk
    · match k, hk with
      | 0, _ => show ([] : List ByteArray).length ≤ 7; simp
      | 1, _ => show ([nm] : List ByteArray).length ≤ 7; simp
      | 2, _ => show ([nm] : List ByteArray).length ≤ 7; simp
      | 3, _ => show ([] : List ByteArray).length ≤ 7; simp
      | k + 4, hk => simp [elemT] at hk
theorem enc_whole {r : Rq} (h : RightRq r) : WholeT (encT r) := by
  obtain ⟨h1, h2⟩ := right_text (verb_name h) (attrs_ok h) (text_small h)
  have hl := enc_len (r := r)
  unfold encT at hl ⊢
  rw [elemT_length] at hl
  exact (whole_elem h1 h2 (by omega)).2 (lowW_name (by decide))
end Go.Proofs.YtimhkgpjfppkmaaDoor
