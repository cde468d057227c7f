/- What a text with entities says: plain facts. entityChars: the map of the five entities. -/
import Derived.Test.YthmidlmknkbdaaaDoorMath
import Derived.Test.YthmidlmknkbdaaaDoorEnt
import Derived.Lib.IndexMore
import Derived.Maps.Own
import Derived.Maps.OwnSet
namespace Go.Proofs.YthmidlmknkbdaaaDoor
open Go.RowKit

def un : Nat → List UInt8 → Option (List UInt8)
  | 0, _ => some []
  | _ + 1, [] => some []
  | f + 1, b :: r =>
    if b = 60 then none
    else if b = 38 then
      if [97, 109, 112, 59].isPrefixOf r then (un f (r.drop 4)).map (38 :: ·)
      else if [108, 116, 59].isPrefixOf r then (un f (r.drop 3)).map (60 :: ·)
      else if [103, 116, 59].isPrefixOf r then (un f (r.drop 3)).map (62 :: ·)
      else if [97, 112, 111, 115, 59].isPrefixOf r then (un f (r.drop 5)).map (39 :: ·)
      else if [113, 117, 111, 116, 59].isPrefixOf r then (un f (r.drop 5)).map (34 :: ·)
      else none
    else (un f r).map (b :: ·)
theorem un_fuel : ∀ (f g : Nat) (l : List UInt8), l.length ≤ f → l.length ≤ g → un f l = un g l
  | 0, g, l, hf, hg => by
    have : l = [] := List.eq_nil_of_length_eq_zero (by omega)
    subst this
    cases g <;> rfl
  | f + 1, 0, l, hf, hg => by
    have : l = [] := List.eq_nil_of_length_eq_zero (by omega)
    subst this
    rfl
  | f + 1, g + 1, [], hf, hg => rfl
  | f + 1, g + 1, b :: r, hf, hg => by
    simp only [List.length_cons] at hf hg
    have e : ∀ k, un f (r.drop k) = un g (r.drop k) := fun k => un_fuel f g (r.drop k) (by rw [List.length_drop]; omega) (by rw [List.length_drop]; omega)
    have e0 : un f r = un g r := un_fuel f g r (by omega) (by omega)
    simp only [un]
    rw [e 4, e 3, e 5, e0]
/-- What a text with entities says; none, if it is of a wrong form. -/
def unesc (l : List UInt8) : Option (List UInt8) := un l.length l
theorem un_unesc (f : Nat) (l : List UInt8) (h : l.length ≤ f) : un f l = unesc l := un_fuel f l.length l h (Nat.le_refl _)
theorem unesc_nil : unesc [] = some [] := rfl
theorem unesc_lt (r : List UInt8) : unesc (60 :: r) = none := by simp [unesc, un]
theorem unesc_plain (b : UInt8) (r : List UInt8) (h1 : b ≠ 60) (h2 : b ≠ 38) : unesc (b :: r) = (unesc r).map (b :: ·) := by
  simp [unesc, un, h1, h2]
/-- The byte of an entity. -/
def entB (k : Nat) : UInt8 := UInt8.ofNat (entC k).toNat
theorem unesc_ent (k : Nat) (h : k < 5) (r : List UInt8) : unesc (38 :: ((entN k).data.toList ++ 59 :: r)) = (unesc r).map (entB k :: ·) := by
  have hd : ∀ n, un (n + r.length) r = unesc r := fun n => un_unesc _ r (by omega)
  match k, h with
  | 0, _ => simp [unesc, un, entN, entB, entC]; rw [show r.length + 1 + 1 + 1 + 1 = 4 + r.length by omega, hd 4]; rfl
  | 1, _ => simp [unesc, un, entN, entB, entC]; rw [show r.length + 1 + 1 + 1 = 3 + r.length by omega, hd 3]; rfl
  | 2, _ => simp [unesc, un, entN, entB, entC]; rw [show r.length + 1 + 1 + 1 = 3 + r.length by omega, hd 3]; rfl
  | 3, _ => simp [unesc, un, entN, entB, entC]; rw [show r.length + 1 + 1 + 1 + 1 + 1 = 5 + r.length by omega, hd 5]; rfl
  | 4, _ => simp [unesc, un, entN, entB, entC]; rw [show r.length + 1 + 1 + 1 + 1 + 1 = 5 + r.length by omega, hd 5]; rfl
theorem unesc_bad (r : List UInt8) (h : ∀ k, k < 5 → ((entN k).data.toList ++ [59]).isPrefixOf r = false) : unesc (38 :: r) = none := by
  have h0 := h 0 (by omega); have h1 := h 1 (by omega); have h2 := h 2 (by omega); have h3 := h 3 (by omega); have h4 := h 4 (by omega)
  simp only [entN, List.cons_append, List.nil_append] at h0 h1 h2 h3 h4
  simp [unesc, un, h0, h1, h2, h3, h4]

theorem cut_form : ∀ l : List UInt8, ((Lib.cut l [59]).2.2 = true ∧ l = (Lib.cut l [59]).1 ++ 59 :: (Lib.cut l [59]).2.1 ∧ 59 ∉ (Lib.cut l [59]).1) ∨ ((Lib.cut l [59]).2.2 = false ∧ 59 ∉ l)
  | [] => by right; exact ⟨rfl, by simp⟩
  | b :: r => by
    by_cases hb : b = 59
    · subst hb
      left
      have e : Lib.index (59 :: r) [59] = 0 := by simp [Lib.index]
      simp [Lib.cut, e]
    · have e : Lib.index (b :: r) [59] = if Lib.index r [59] == -1 then -1 else Lib.index r [59] + 1 := by
        simp [Lib.index, Ne.symm hb]
      have hge := Lib.index_ge r [59]
      have ih := cut_form r
      unfold Lib.cut at ih ⊢
      by_cases h1 : Lib.index r [59] = -1
      · rw [e, h1]
        rw [h1] at ih
        simp at ih
        right
        simp
        exact ⟨fun h => hb h.symm, ih⟩
      · have h2 : 0 ≤ Lib.index r [59] := by omega
        rw [if_pos h2] at ih
        have e2 : Lib.index (b :: r) [59] = Lib.index r [59] + 1 := by rw [e]; simp [h1]
        rw [e2, if_pos (by omega)]
        have e3 : (Lib.index r [59] + 1).toNat = (Lib.index r [59]).toNat + 1 := by omega
        rw [e3]
        rcases ih with ⟨_, h3, h4⟩ | ⟨h3, _⟩
        · left
          refine ⟨rfl, ?_, ?_⟩
          · simp only [List.take_succ_cons, List.cons_append]
            exact congrArg (b :: ·) h3
          · simp only [List.take_succ_cons, List.mem_cons, not_or]
            exact ⟨fun h => hb h.symm, h4⟩
        · cases h3
theorem ent_no59 (k : Nat) (h : k < 5) : 59 ∉ (entN k).data.toList := by
  match k, h with
  | 0, _ => decide
  | 1, _ => decide
  | 2, _ => decide
  | 3, _ => decide
  | 4, _ => decide
theorem head59 {a a' b b' : List UInt8} (h : a ++ 59 :: b = a' ++ 59 :: b') (h1 : 59 ∉ a) (h2 : 59 ∉ a') : a = a' := by
  induction a generalizing a' with
  | nil =>
    cases a' with
    | nil => rfl
    | cons x r => simp at h; exact absurd h.1 (fun e => h2 (by simp [e]))
  | cons x r ih =>
    cases a' with
    | nil => simp at h; exact absurd h.1 (fun e => h1 (by simp [e]))
    | cons y r' =>
      simp only [List.cons_append, List.cons.injEq] at h
      simp only [List.mem_cons, not_or] at h1 h2
      rw [h.1, ih h.2 h1.2 h2.2]
/-- At an & what is cut off up to a semicolon is one of the five, or the text is of a wrong form. -/
theorem amp_bad (r : List UInt8) (h : (Lib.cut r [59]).2.2 = false ∨ ∀ k, k < 5 → (Lib.cut r [59]).1 ≠ (entN k).data.toList) : unesc (38 :: r) = none := by
  refine unesc_bad r fun k hk => ?_
  rw [Bool.eq_false_iff]
  intro hp
  rw [List.isPrefixOf_iff_prefix] at hp
  obtain ⟨q, hq⟩ := hp
  rw [List.append_assoc] at hq
  rcases cut_form r with ⟨h1, h2, h3⟩ | ⟨h1, h2⟩
  · rcases h with h | h
    · rw [h] at h1; cases h1
    · refine h k hk ?_
      exact head59 (h2.symm.trans hq.symm) h3 (ent_no59 k hk)
  · rw [← hq] at h2
    simp at h2
theorem unesc_esc : ∀ l : List UInt8, unesc (esc l) = some l
  | [] => rfl
  | b :: r => by
    have ih := unesc_esc r
    have e : esc (b :: r) = escB b ++ esc r := by simp [esc]
    rw [e]
    by_cases h : Plain b
    · rw [escB_plain h]
      show unesc (b :: esc r) = _
      rw [unesc_plain b _ h.2.1 h.1, ih]
      rfl
    · have hc : b = 38 ∨ b = 60 ∨ b = 62 ∨ b = 39 ∨ b = 34 := by
        unfold Plain at h
        by_cases h1 : b = 38
        · exact Or.inl h1
        · by_cases h2 : b = 60
          · exact Or.inr (Or.inl h2)
          · by_cases h3 : b = 62
            · exact Or.inr (Or.inr (Or.inl h3))
            · by_cases h4 : b = 39
              · exact Or.inr (Or.inr (Or.inr (Or.inl h4)))
              · by_cases h5 : b = 34
                · exact Or.inr (Or.inr (Or.inr (Or.inr h5)))
                · exact absurd ⟨h1, h2, h3, h4, h5⟩ h
      rcases hc with rfl | rfl | rfl | rfl | rfl
      · exact (unesc_ent 0 (by omega) (esc r)).trans (by rw [ih]; rfl)
      · exact (unesc_ent 1 (by omega) (esc r)).trans (by rw [ih]; rfl)
      · exact (unesc_ent 2 (by omega) (esc r)).trans (by rw [ih]; rfl)
      · exact (unesc_ent 3 (by omega) (esc r)).trans (by rw [ih]; rfl)
      · exact (unesc_ent 4 (by omega) (esc r)).trans (by rw [ih]; rfl)
end Go.Proofs.YthmidlmknkbdaaaDoor
namespace Go.Proofs.YthmidlmknkbdaaaDoor
open Go.RowKit Go.Maps

theorem law : Keyed Tryd.prog 9 := string_keyed Tryd.underlying9
theorem zeroRune (w : World) : (zeroValue 21).run Tryd.prog w = .ok (.int .i32 0) w := by kernel_rfl
/-- The map behind k rounds. -/
def mapC : Nat → DataW Unit
  | 0 => .map []
  | k + 1 => (mapC k).put (.string (entN k).data.toList) (.lit (.int .i32 (entC k)))

theorem ent_small (n : Nat) : (entN n).size ≤ maxLen := by
  match n with
  | 0 => decide
  | 1 => decide
  | 2 => decide
  | 3 => decide
  | 4 => decide
  | n + 5 => exact Nat.zero_le _
theorem ent_wf (n : Nat) (h : n < 5) : (Lit.int .i32 (entC n)).wf = true := by
  match n, h with
  | 0, _ => decide
  | 1, _ => decide
  | 2, _ => decide
  | 3, _ => decide
  | 4, _ => decide
theorem map_below {w w' : World} {b n : Nat} {D : DataW Unit} (h : w.ownsMap Tryd.prog 9 (plainElem Tryd.prog 21) b n D) (hb : Below w.heap.size w w') : w'.ownsMap Tryd.prog 9 (plainElem Tryd.prog 21) b n D := by
  obtain ⟨es, clock, hm, r⟩ := h
  exact ⟨es, clock, by rw [hb.block b (Array.getElem?_eq_some_iff.1 hm).1]; exact hm, r⟩
theorem map_alloc {w : World} {b n : Nat} {D : DataW Unit} (h : w.ownsMap Tryd.prog 9 (plainElem Tryd.prog 21) b n D) (o : Obj) : (w.alloc o).ownsMap Tryd.prog 9 (plainElem Tryd.prog 21) b n D :=
  map_below h ((Below.refl _ _).alloc (Nat.le_refl _) _)

theorem entityChars_any (w : World) (hl : EntLaid w) : Calls Tryd.prog 95 #[] w fun e w' => e = .returned (.map (some w.heap.size)) ∧ w'.ownsMap Tryd.prog 9 (plainElem Tryd.prog 21) w.heap.size 5 (mapC 5) ∧ Below w.heap.size w w' := by
  obtain ⟨t, fr, hg⟩ := hl
  have hlt : 0 < w.heap.size := (Array.getElem?_eq_some_iff.1 hg).1
  have Hg := hide (show (w.alloc (.map #[] 0)).heap[0]? = some (.cells entCs t fr) by rw [Below.heap_alloc _ _ _ hlt]; exact hg)
  have hmm := @run_makeMap Tryd.prog
  clear hg
  go_enter Tryd.func95, Tryd.ntmps95
  go_wp2_with (refine wpList_load_row rfl 112 _ rfl 0 rfl t entCs fr _ Hg.out Tryd.underlying112 rfl entSize ?_)
  clear Hg
  go_loopw [6] (fun i wr => ∃ n : Nat, n ≤ 5 ∧ i = .int .i64 n ∧ wr.ownsMap Tryd.prog 9 (plainElem Tryd.prog 21) w.heap.size n (mapC n) ∧ Below w.heap.size w wr) (fun i _ => 5 - (intOf i).toNat)
  case atStart => exact ⟨0, by omega, rfl, World.ownsMap_made _ _ _ _, (Below.refl _ _).alloc (Nat.le_refl _) _⟩
  case round =>
    obtain ⟨n, h2, rfl, hown, hb⟩ := hrel
    by_cases hlt : n < 5
    · have hix := entIndex n hlt
      have hb' := hb.size
      have hown1 := map_alloc hown (.cells #[.int .i32 (entC n), .string (entN n)] 111)
      have hkey : keyOf Tryd.prog 9 (.string (entN n)) = some (.string (entN n).data.toList) := WideMaps.keyOf_string_mk Tryd.underlying9 (ent_small n)
      have hwf : (Lit.int .i32 (entC n)).wf = true := ent_wf n hlt
      have HH := hide (show _ ∧ _ from ⟨hown1, hkey⟩)
      clear hown hown1 hkey
      go_wp2_with (at_mapUpdate; refine wpList_mapUpdate_own _ rfl _ _ _ 132 rfl 9 21 law Tryd.underlying132 _ w.heap.size n _ rfl HH.out.1 ?c1 _ _ _ rfl rfl HH.out.2 _ [] (plainElem_int Tryd.underlying21 hwf) ?_)
      case c1 => unfold maxLen; omega
      intro w1 hown2 hgr
      have hb3 := (hb.alloc hb' (.cells #[.int .i32 (entC n), .string (entN n)] 111)).grown hgr (by simp; omega) (fun k hk => by cases hk; exact Nat.le_refl _)
      clear HH hgr
      go_wp2_with fail
      exact ⟨⟨n + 1, by omega, by go_num, hown2, hb3⟩, by simp [intOf]; omega⟩
    · obtain rfl : n = 5 := by omega
      go_wp2_with fail
      go_ret
      exact ⟨rfl, hown, hb⟩
theorem mapC_list : mapC 5 = .map [(.string [97, 109, 112], .lit (.int .i32 38)), (.string [97, 112, 111, 115], .lit (.int .i32 39)), (.string [103, 116], .lit (.int .i32 62)), (.string [108, 116], .lit (.int .i32 60)), (.string [113, 117, 111, 116], .lit (.int .i32 34))] := by kernel_rfl
theorem map_no (l : List UInt8) (h : ∀ k, k < 5 → l ≠ (entN k).data.toList) : has (mapC 5) (.string l) = false := by
  have h0 := h 0 (by omega); have h1 := h 1 (by omega); have h2 := h 2 (by omega); have h3 := h 3 (by omega); have h4 := h 4 (by omega)
  rw [mapC_list]
  simp only [entN] at h0 h1 h2 h3 h4
  simp [has, Lit.sameKey, Ne.symm h0, Ne.symm h1, Ne.symm h2, Ne.symm h3, Ne.symm h4]
theorem map_yes (k : Nat) (h : k < 5) : has (mapC 5) (.string (entN k).data.toList) = true ∧ (mapC 5).atKey (.string (entN k).data.toList) (.lit (.int .i32 0)) = .lit (.int .i32 (entC k)) := by
  rw [mapC_list]
  match k, h with
  | 0, _ => exact ⟨by decide, rfl⟩
  | 1, _ => exact ⟨by decide, rfl⟩
  | 2, _ => exact ⟨by decide, rfl⟩
  | 3, _ => exact ⟨by decide, rfl⟩
  | 4, _ => exact ⟨by decide, rfl⟩
end Go.Proofs.YthmidlmknkbdaaaDoor
