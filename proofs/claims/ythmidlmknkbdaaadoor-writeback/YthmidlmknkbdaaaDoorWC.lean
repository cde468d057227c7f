/- What is printed of whole tokens, byte by byte: each tag that ends is one that is printed. The document's parser in memory; a text, how deep it is, what is left. -/
import Derived.Test.YthmidlmknkbdaaaDoorXMB
import Derived.Test.YthmidlmknkbdaaaDoorWB
namespace Go.Proofs.YthmidlmknkbdaaaDoor.Xm
open Go.RowKit

/-- A tag that is printed. -/
def PrTag (l : List UInt8) : Prop :=
  (∃ nm al ends, nmB nm = true ∧ (∀ a ∈ al, nmB a.1 = true ∧ CharsOk a.2) ∧ l = 60 :: (nm ++ (atsB al ++ endsB ends)) ++ [62]) ∨ ∃ nm, nmB nm = true ∧ l = 60 :: (47 :: nm) ++ [62]
/-- A byte that ends no text and no tag that is wrong. -/
def Fine (st : PS) (c : UInt8) : Prop :=
  (c = 60 → inTagL st.wait = false → st.quote = 0 ∧ ∃ r, textL { st with wait := [] } st.wait = .ok r) ∧
  (inTagL st.wait = true → st.wait.length < 2048 → (quoteL st.quote c).2 = true → PrTag (st.wait ++ [c]) ∧ ∃ r, tagL { st with wait := [], quote := (quoteL st.quote c).1 } (st.wait ++ [c]) = .ok r)
def Along : PS → List UInt8 → Prop
  | _, [] => True
  | st, c :: l => Fine st c ∧ ∀ x, putF st c = .ok x → Along x.1 l
theorem along_run (r : List UInt8) : ∀ (t : List UInt8) (st : PS), inTagL st.wait = false → (∀ b ∈ t, b ≠ 60) → (st.wait.length + t.length ≤ 512 → Along { st with wait := st.wait ++ t } r) → st.wait.length ≤ 512 → Along st (t ++ r)
  | [], st, _, _, h3, h4 => by
    have := h3 (by simpa using h4)
    simpa using this
  | c :: t, st, h1, h2, h3, h4 => by
    have hc := h2 c List.mem_cons_self
    have hl : (c :: t).length = t.length + 1 := rfl
    rw [hl] at h3
    refine ⟨⟨fun e => absurd e hc, fun e => by rw [h1] at e; cases e⟩, fun x hx => ?_⟩
    have hi2 : inTagL (st.wait ++ [c]) = false := by
      cases hw : st.wait with
      | nil =>
        show (c == 60) = false
        rw [beq_eq_false_iff_ne]
        exact hc
      | cons a l =>
        rw [hw] at h1
        exact h1
    rcases Nat.lt_or_ge st.wait.length 512 with h | h
    · rw [put_text hc h1 h] at hx
      cases hx
      refine along_run r t _ hi2 (fun b hb => h2 b (List.mem_cons_of_mem _ hb)) (fun h5 => ?_) (by rw [List.length_append]; simp; omega)
      have h6 := h3 (by simp at h5; omega)
      have e : st.wait ++ [c] ++ t = st.wait ++ c :: t := by simp
      show Along { st with wait := st.wait ++ [c] ++ t } r
      rw [e]
      exact h6
    · rw [put_full hc h1 (by omega)] at hx
      cases hx
theorem along_in (r : List UInt8) : ∀ (t : List UInt8) (st : PS) (q' : Nat), inTagL st.wait = true → runQ st.quote t = some q' → (st.wait.length + t.length ≤ 2048 → Along { st with wait := st.wait ++ t, quote := q' } r) → st.wait.length ≤ 2048 → Along st (t ++ r)
  | [], st, q', _, h, h3, h4 => by
    cases h
    have := h3 (by simpa using h4)
    simpa using this
  | c :: t, st, q', h1, h, h3, h4 => by
    unfold runQ at h
    split at h
    · cases h
    · rename_i hq
      have hl : (c :: t).length = t.length + 1 := rfl
      rw [hl] at h3
      refine ⟨⟨fun _ e => (by rw [h1] at e; cases e), fun _ _ e => absurd e hq⟩, fun x hx => ?_⟩
      rcases Nat.lt_or_ge st.wait.length 2048 with h5 | h5
      · rw [put_in h1 h5 (by rw [Bool.not_eq_true] at hq; exact hq)] at hx
        cases hx
        refine along_in r t _ q' (inTagL_app h1 _) h (fun h6 => ?_) (by rw [List.length_append]; simp; omega)
        have h7 := h3 (by simp at h6; omega)
        have e : st.wait ++ [c] ++ t = st.wait ++ c :: t := by simp
        show Along { st with wait := st.wait ++ [c] ++ t, quote := q' } r
        rw [e]
        exact h7
      · rw [put_over h1 (by omega)] at hx
        cases hx
theorem along_tag {st st' : PS} {ts : List Tok} (t r : List UInt8) (h1 : inTagL st.wait = false) (hq : st.quote = 0) (h2 : textL { st with wait := [] } st.wait = .ok (st', ts)) (hr : runQ 0 t = some 0)
    (h3 : t.length ≤ 2046 → PrTag (60 :: t ++ [62]) ∧ ∃ st2 t2, tagL { st' with wait := [], quote := 0 } (60 :: t ++ [62]) = .ok (st2, t2) ∧ Along st2 r) : Along st (60 :: (t ++ 62 :: r)) := by
  refine ⟨⟨fun _ _ => ⟨hq, _, h2⟩, fun e => by rw [h1] at e; cases e⟩, fun x hx => ?_⟩
  rw [put_lt h1 hq h2] at hx
  cases hx
  refine along_in (62 :: r) t _ 0 rfl hr (fun h5 => ?_) (by simp)
  have h5' : 1 + t.length ≤ 2048 := h5
  have hw : ([60] ++ t).length = t.length + 1 := by simp
  refine ⟨⟨fun e => absurd e (by decide), fun _ h7 _ => ?_⟩, fun x hx => ?_⟩
  · obtain ⟨h8, st2, t2, h9, _⟩ := h3 (by have h7' : ([60] ++ t).length < 2048 := h7; omega)
    exact ⟨h8, _, h9⟩
  · rcases Nat.lt_or_ge t.length 2047 with h6 | h6
    · obtain ⟨_, st2, t2, h9, h10⟩ := h3 (by omega)
      have hp := put_end (st := { st' with wait := [60] ++ t, quote := 0 }) (c := 62) rfl (by show ([60] ++ t).length < 2048; omega) rfl
      have hp2 : putF { st' with wait := [60] ++ t, quote := 0 } 62 = .ok (st2, t2) := hp.trans h9
      have hx2 : putF { st' with wait := [60] ++ t, quote := 0 } 62 = .ok x := hx
      rw [hp2] at hx2
      cases hx2
      exact h10
    · have hp := put_over (st := { st' with wait := [60] ++ t, quote := 0 }) (c := 62) rfl (by show ([60] ++ t).length = 2048; omega)
      have hx2 : putF { st' with wait := [60] ++ t, quote := 0 } 62 = .ok x := hx
      rw [hp] at hx2
      cases hx2
theorem along_from {ts : List Tok} (hW : WholeT ts) : ∀ (n k : Nat) (st : PS) (pend : List Tok), k + n = ts.length → At ts k st pend → Along st (printFrom ts k n)
  | 0, k, st, pend, hk, hA => trivial
  | n + 1, k, st, pend, hk, hA => by
    obtain ⟨t, ht⟩ : ∃ t, ts[k]? = some t := ⟨_, List.getElem?_eq_getElem (by omega)⟩
    have hfit := hW.1.2.1 k t ht
    obtain ⟨b, htx⟩ := hA.text
    rw [from_some ht]
    have hkt := kind_at ht
    have hroot : ¬ (st.op.length = 0 ∧ st.rooted = true) := fun ⟨h1, h2⟩ => by
      rcases Nat.eq_zero_or_pos k with h | h
      · rw [hA.first h] at h2
        cases h2
      · have := tops_open hW h (by omega)
        rw [hA.op] at h1
        omega
    have hlast : ∀ (m : Nat), kindOf ts (((k + 1 : Nat) : Int) - 1) = t.kind := fun _ => kind_last ht
    have hos := openAt_succ ht
    rcases hfit with ⟨h1, h2, h3, h4, h5⟩ | ⟨h1, h2, h3, h4, h5⟩ | ⟨h1, h2, h3, h4, h5, h6, h7⟩
    · -- a beginning
      have hnm := (nmB_iff t.name).1 h3
      have hal := al_ok h5
      have hop8 : st.op.length < 8 := by rw [hA.op]; omega
      have hal8 : t.attrs.length ≤ 8 := h5.1
      have hop1 : openAt ts (k + 1) = openAt ts k ++ [t.name] := by
        rw [hos]
        unfold opens
        rw [if_pos h1]
      have hk1 : k + 1 < ts.length := by
        rcases Nat.lt_or_ge (k + 1) ts.length with h | h
        · exact h
        · exfalso
          have : k + 1 = ts.length := by omega
          have h9 := hW.1.2.2
          rw [← this, hop1, List.length_append] at h9
          simp at h9
      obtain ⟨u, hu⟩ : ∃ u, ts[k + 1]? = some u := ⟨_, List.getElem?_eq_getElem hk1⟩
      have hnx := kind_next hu
      obtain ⟨ends, hends⟩ : ∃ e : Bool, (kindOf ts ((k : Int) + 1) == 2) = e := ⟨_, rfl⟩
      have htok : tokT t (kindOf ts ((k : Int) - 1)) (kindOf ts ((k : Int) + 1)) = 60 :: ((t.name.data.toList ++ (atsB (alOf t) ++ endsB ends)) ++ [62]) := by
        unfold tokT
        rw [if_pos h1, hends, beginT_is]
      have hpr : PrTag (60 :: (t.name.data.toList ++ (atsB (alOf t) ++ endsB ends)) ++ [62]) := .inl ⟨_, _, ends, hnm, hal, rfl⟩
      obtain ⟨ins, hins⟩ : ∃ ins, t.name.data.toList ++ (atsB (alOf t) ++ endsB ends) = ins := ⟨_, rfl⟩
      have hrq : runQ 0 ins = some 0 := by
        rw [← hins]
        exact runQ_inside ends hnm fun a ha => (hal a ha).1
      rw [hins] at hpr
      rw [htok, hins]
      have eL : 60 :: (ins ++ [62]) ++ printFrom ts (k + 1) n = 60 :: (ins ++ 62 :: printFrom ts (k + 1) n) := by simp
      rw [eL]
      refine along_tag ins _ hA.out hA.quote htx hrq fun _ => ⟨hpr, ?_⟩
      have htag0 := tag_any (st := ⟨[], 0, st.op, b, st.rooted, st.broken⟩) ends hnm hal
      rw [hins, mk_data, toB_al] at htag0
      cases ends with
      | false =>
        have hbo : beginP ⟨[], 0, st.op, true, st.rooted, st.broken⟩ t.name t.attrs false = .ok (⟨[], 0, st.op ++ [t.name], true, true, st.broken⟩, [⟨1, t.name, t.attrs, ⟨#[]⟩⟩]) := begin_ok hroot hal8 (norep_al h5) hop8
        have htag0 := htag0.trans hbo
        have hA2 : At ts (k + 1) ⟨[], 0, st.op ++ [t.name], true, true, st.broken⟩ [] := by
          refine ⟨rfl, hA.sound, rfl, ⟨true, text_none _⟩, by rw [hA.op, hop1], fun h => by omega, fun _ => ⟨rfl, rfl⟩, fun hh => ?_⟩
          have h9 : kindOf ts ((k : Int) + 1) = 2 := hh.2
          rw [h9] at hends
          cases hends
        exact ⟨_, _, htag0, along_from hW n (k + 1) _ [] (by omega) hA2⟩
      | true =>
        have hu2 : u.kind = 2 := by
          have := eq_of_beq hends
          omega
        have hbb : beginP ⟨[], 0, st.op, true, st.rooted, st.broken⟩ t.name t.attrs true = .ok (⟨[], 0, st.op, true, true, st.broken⟩, [⟨1, t.name, t.attrs, ⟨#[]⟩⟩, ⟨2, t.name, [], ⟨#[]⟩⟩]) := by
          unfold beginP
          rw [if_neg hroot, if_neg (by omega), if_neg (fun h => (repB_iff _).2 h (norep_al h5)), if_neg (by show ¬ 8 ≤ st.op.length; omega), if_pos rfl]
        have htag0 := htag0.trans hbb
        refine ⟨_, _, htag0, ?_⟩
        obtain ⟨n', rfl⟩ : ∃ n', n = n' + 1 := ⟨n - 1, by omega⟩
        have hlk := hlast 0
        have htu : tokT u (kindOf ts (((k + 1 : Nat) : Int) - 1)) (kindOf ts (((k + 1 : Nat) : Int) + 1)) = [] := by
          unfold tokT
          rw [if_neg (by omega), if_neg (by omega), if_pos (by rw [hlk]; exact h1)]
        rw [from_some hu, htu, List.nil_append]
        have hop2 : openAt ts (k + 2) = openAt ts k := by
          rw [openAt_succ hu]
          unfold opens
          rw [if_neg (by omega), if_pos hu2, hop1]
          simp
        have hA2 : At ts (k + 2) ⟨[], 0, st.op, true, true, st.broken⟩ [] := by
          refine ⟨rfl, hA.sound, rfl, ⟨true, text_none _⟩, by rw [hA.op, hop2], fun h => by omega, fun _ => ⟨rfl, rfl⟩, fun hh => ?_⟩
          have := hh.1
          rw [kind_last hu] at this
          omega
        exact along_from hW n' (k + 2) _ [] (by omega) hA2
    · -- an ending
      have hne : ¬ kindOf ts ((k : Int) - 1) = 1 := fun e => hA.pair ⟨e, by rw [hkt]; exact h1⟩
      have htok : tokT t (kindOf ts ((k : Int) - 1)) (kindOf ts ((k : Int) + 1)) = 60 :: ((47 :: t.name.data.toList) ++ [62]) := by
        unfold tokT
        rw [if_neg (by omega), if_neg (by omega), if_neg hne]
        simp [endT]
      have hgl : (openAt ts k).getLast? = some t.name := by
        cases hq : (openAt ts k).getLast? with
        | none =>
          rw [List.getLast?_eq_none_iff] at hq
          rw [hq] at h2
          simp at h2
        | some x =>
          rw [hq] at h3
          exact congrArg some h3
      have hnm : nmB t.name.data.toList = true := open_name hW (by omega) (List.mem_of_getLast? hgl)
      have hrq : runQ 0 (47 :: t.name.data.toList) = some 0 := by
        have h9 : runQ 0 (47 :: t.name.data.toList) = runQ 0 t.name.data.toList := rfl
        rw [h9]
        exact runQ_name hnm
      rw [htok]
      have eL : 60 :: ((47 :: t.name.data.toList) ++ [62]) ++ printFrom ts (k + 1) n = 60 :: ((47 :: t.name.data.toList) ++ 62 :: printFrom ts (k + 1) n) := by simp
      rw [eL]
      refine along_tag _ _ hA.out hA.quote htx hrq fun _ => ⟨.inr ⟨_, hnm, rfl⟩, ?_⟩
      have htag0 := tag_ending (st := ⟨[], 0, st.op, b, st.rooted, st.broken⟩) hnm
      rw [mk_data] at htag0
      have heo : endP ⟨[], 0, st.op, true, st.rooted, st.broken⟩ t.name = .ok (⟨[], 0, st.op.dropLast, true, st.rooted, st.broken⟩, [⟨2, t.name, [], ⟨#[]⟩⟩]) := end_ok (by show st.op.getLast? = some t.name; rw [hA.op]; exact hgl)
      have htag0 := htag0.trans heo
      have hop1 : openAt ts (k + 1) = (openAt ts k).dropLast := by
        rw [hos]
        unfold opens
        rw [if_neg (by omega), if_pos h1]
      have hA2 : At ts (k + 1) ⟨[], 0, st.op.dropLast, true, st.rooted, st.broken⟩ [] := by
        refine ⟨rfl, hA.sound, rfl, ⟨true, text_none _⟩, by rw [hA.op, hop1], fun h => by omega, fun _ => ⟨rfl, rfl⟩, fun hh => ?_⟩
        have := hh.1
        rw [kind_last ht] at this
        omega
      exact ⟨_, _, htag0, along_from hW n (k + 1) _ [] (by omega) hA2⟩
    · -- a text
      have htok : tokT t (kindOf ts ((k : Int) - 1)) (kindOf ts ((k : Int) + 1)) = esc t.text.data.toList := by
        unfold tokT
        rw [if_neg (by omega), if_pos h1]
      obtain ⟨hw0, hp0⟩ := hA.bare (.inr h3)
      have hsafe : ∀ b ∈ esc t.text.data.toList, b ≠ 60 := fun b hb => (esc_safe _ b hb).1
      have hne : esc t.text.data.toList ≠ [] := fun e => by
        have := unesc_esc t.text.data.toList
        rw [e, unesc_nil] at this
        have h9 := Option.some.inj this
        have h10 : t.text.data.toList.length = t.text.size := Array.length_toList
        rw [← h9] at h10
        simp at h10
        omega
      rw [htok]
      refine along_run _ _ st hA.out hsafe (fun _ => ?_) (by rw [hw0]; simp)
      have hin : inTagL (st.wait ++ esc t.text.data.toList) = false := by
        rw [hw0, List.nil_append]
        cases hq : esc t.text.data.toList with
        | nil => exact absurd hq hne
        | cons a l =>
          show (a == 60) = false
          rw [beq_eq_false_iff_ne]
          exact hsafe a (by rw [hq]; exact List.mem_cons_self)
      have hop1 : openAt ts (k + 1) = openAt ts k := by
        rw [hos]
        unfold opens
        rw [if_neg (by omega), if_neg (by omega)]
      have htx2 : textL { ({ st with wait := st.wait ++ esc t.text.data.toList } : PS) with wait := [] } (st.wait ++ esc t.text.data.toList) = .ok ({ ({ st with wait := st.wait ++ esc t.text.data.toList } : PS) with wait := [], begun := true }, [t]) := by
        unfold textL
        rw [hw0, List.nil_append, if_neg hne, unesc_esc]
        simp only
        rw [if_pos ((charsB_iff _).2 ((charsOk_esc _ _ (Nat.le_refl _)).2 h5.2)), if_pos (by show 0 < st.op.length; rw [hA.op]; exact h2)]
        have := tok_chars h1 h6 h7
        rw [mk_data, ← this]
      have hA2 : At ts (k + 1) { st with wait := st.wait ++ esc t.text.data.toList } [t] := by
        refine ⟨hA.quote, hA.sound, hin, ⟨true, htx2⟩, by rw [hop1]; exact hA.op, fun h => by omega, fun hh => ?_, fun hh => ?_⟩
        · rcases hh with hh | hh
          · omega
          · exact absurd (by rw [kind_last ht]; exact h1) hh
        · have := hh.1
          rw [kind_last ht] at this
          omega
      exact along_from hW n (k + 1) _ [t] (by omega) hA2
theorem along_print {ts : List Tok} (hW : WholeT ts) : Along st0 (printT ts) := by
  rw [printT_from]
  exact along_from hW ts.length 0 st0 [] (by omega) ⟨rfl, rfl, rfl, ⟨false, text_none _⟩, rfl, fun _ => rfl, fun _ => ⟨rfl, rfl⟩, fun hh => by
    have := hh.1
    unfold kindOf at this
    simp at this⟩
end Go.Proofs.YthmidlmknkbdaaaDoor.Xm
namespace Go.Proofs.YthmidlmknkbdaaaDoor.Xm
open Go.RowKit

/-- The document's parser in memory. -/
def IsF (base p : Nat) (st : PS) (vw vo : Value) (w : World) : Prop :=
  base ≤ p ∧ w.heap[p]? = some (.cells #[vw, .int .u8 st.quote, vo, .bool st.rooted, .bool st.begun, .int .i64 st.broken] 68) ∧
  w.ownsRow base 5 1 vw st.wait.length (Lib.byteCells st.wait) ∧ w.ownsRow base 9 1 vo st.op.length (nameCells st.op)
theorem IsF.cells {base p : Nat} {st : PS} {vw vo : Value} {w : World} (h : IsF base p st vw vo w) : w.cell? ⟨p, 0, none⟩ = some vw ∧ w.cell? ⟨p, 1, none⟩ = some (.int .u8 st.quote) ∧ w.cell? ⟨p, 2, none⟩ = some vo ∧ w.cell? ⟨p, 3, none⟩ = some (.bool st.rooted) ∧ w.cell? ⟨p, 4, none⟩ = some (.bool st.begun) ∧ w.cell? ⟨p, 5, none⟩ = some (.int .i64 st.broken) ∧ ∀ i, i < 6 → w.frozen? ⟨p, i, none⟩ = false := by
  obtain ⟨_, h, _⟩ := h
  refine ⟨by simp [World.cell?, h], by simp [World.cell?, h], by simp [World.cell?, h], by simp [World.cell?, h], by simp [World.cell?, h], by simp [World.cell?, h], fun i _ => by simp [World.frozen?, h]⟩
theorem IsF.lt {base p : Nat} {st : PS} {vw vo : Value} {w : World} (h : IsF base p st vw vo w) : p < w.heap.size := (Array.getElem?_eq_some_iff.1 h.2.1).1
theorem IsF.below {base p : Nat} {st : PS} {vw vo : Value} {w w' : World} (h : IsF base p st vw vo w) (hb : Below w.heap.size w w') : IsF base p st vw vo w' :=
  ⟨h.1, (hb.block p h.lt).trans h.2.1, own_same h.2.2.1 (fun g hg => hb.block g (own_lt h.2.2.1 g hg)), own_same h.2.2.2 (fun g hg => hb.block g (own_lt h.2.2.2 g hg))⟩
theorem IsF.set {base p : Nat} {st st' : PS} {vw vo vw' vo' v : Value} {w : World} (i : Nat) (h : IsF base p st vw vo w) (hi : i < 6) (hw : w.ownsRow base 5 1 vw' st'.wait.length (Lib.byteCells st'.wait)) (ho : w.ownsRow base 9 1 vo' st'.op.length (nameCells st'.op))
    (hc : (#[vw, .int .u8 st.quote, vo, .bool st.rooted, .bool st.begun, .int .i64 st.broken] : Array Value).set i v hi = #[vw', .int .u8 st'.quote, vo', .bool st'.rooted, .bool st'.begun, .int .i64 st'.broken]) : IsF base p st' vw' vo' (w.setCell ⟨p, i, none⟩ v) := by
  refine ⟨h.1, ?_, own_same hw (fun g hg => Below.heap_setCell _ _ _ _ (own_ne0 hw h.2.1 (by decide) g hg)), own_same ho (fun g hg => Below.heap_setCell _ _ _ _ (own_ne0 ho h.2.1 (by decide) g hg))⟩
  rw [heap_setCell_same _ _ i _ _ _ h.2.1, ← hc]
  simp [Array.setIfInBounds, hi]
theorem textL_ok {st st' : PS} {s : List UInt8} {toks : List Tok} (hne : s ≠ []) (h : textL st s = .ok (st', toks)) : ∃ t, unesc s = some t ∧ CharsOk s ∧ st' = { st with begun := true } ∧ ((0 < st.op.length ∧ toks = [⟨3, ⟨#[]⟩, [], ⟨t.toArray⟩⟩]) ∨ (st.op.length = 0 ∧ Blanks s ∧ toks = [])) := by
  unfold textL at h
  rw [if_neg hne] at h
  cases hu : unesc s with
  | none => rw [hu] at h; cases h
  | some t =>
    rw [hu] at h
    simp only at h
    split at h
    · rename_i hc
      refine ⟨t, rfl, (charsB_iff _).1 hc, ?_⟩
      split at h
      · rename_i h0
        cases h
        exact ⟨rfl, .inl ⟨h0, rfl⟩⟩
      · rename_i h0
        split at h
        · rename_i hb
          cases h
          exact ⟨rfl, .inr ⟨by omega, (blanks_all _).2 hb, rfl⟩⟩
        · cases h
    · cases h

set_option maxRecDepth 100000 in
set_option maxHeartbeats 2000000 in
theorem rfText_any (base p bt : Nat) (st st' : PS) (vw vo : Value) (s : ByteArray) (toks : List Tok) (w : World) (hP : IsF base p st vw vo w) (hs : s.size ≤ 3000) (hT : Tabs w) (h4 : 4 ≤ w.heap.size) (hne : s.data.toList ≠ []) (hbt : bt ≤ w.heap.size) (hol : st.op.length ≤ 100000) (h : textL st s.data.toList = .ok (st', toks)) :
    Calls Tryd.prog 42 #[.pointer (some ⟨p, 0, none⟩), .string s] w fun e w' => ∃ v l, e = .returned (.tuple #[v, .int .i64 0]) ∧ l.map (·.1) = toks ∧ ElRow bt w' v l ∧ Below w.heap.size w w' := by
  obtain ⟨t, hu, hc, _, hcase⟩ := textL_ok hne h
  have hun := refUn_yes s t w hs hu
  obtain ⟨go, gc, rfl⟩ := own_shape hP.2.2.2
  have HH := hide (And.intro hP (And.intro hu (And.intro hc (And.intro hT hun))))
  have HX := hide hcase
  clear hP h hT hun hu hc hcase
  go_enter Tryd.func42, Tryd.ntmps42
  go_wp2_with fail
  refine HH.out.2.2.2.2.mono ?_
  rintro e w1 ⟨rfl, hb1⟩
  have hch := refChars_any s w1 (by unfold maxLen; omega) (tabs_below4 HH.out.2.2.2.1 hb1 h4)
  have H1 := hide (And.intro hch hb1)
  have hz1 := hb1.size
  clear hch hb1
  go_wp2_with fail
  refine H1.out.1.mono ?_
  rintro e w2 ⟨he2, hb2⟩
  rw [he2.yes HH.out.2.2.1]
  clear he2
  have hB2 : Below w.heap.size w w2 := H1.out.2.trans (hb2.mono hz1)
  have hz2 := hB2.size
  have hP2 := HH.out.1.below hB2
  have k2 := hP2.cells.2.2.1
  have H2 := hide (And.intro hB2 hP2)
  clear hB2 hP2 hb2
  rcases HX.out with ⟨h0, ht⟩ | ⟨h0, hbl, ht⟩
  · have h0' : ¬ (st.op.length : Int) = 0 := by omega
    clear HX
    have HT := hide ht
    clear ht h0
    go_wp2_with fail
    go_ret2
    have htl := unesc_len HH.out.2.1
    rw [← size_lst] at htl
    exact ⟨_, [(⟨3, ⟨#[]⟩, [], ⟨t.toArray⟩⟩, none, 0)], rfl, by rw [HT.out]; rfl, one_row (k := 3) (by omega) (by decide) (Nat.zero_le _) (by rw [size_lst, arr_list]; omega), H2.out.1.trans ((Below.refl _ _).alloc hz2 _)⟩
  · have h0' : (st.op.length : Int) = 0 := by omega
    have hsp := refSpace_any s w2 (by unfold maxLen; omega)
    have HS := hide (And.intro hsp (And.intro hbl ht))
    clear HX hsp hbl ht h0
    go_wp2_with fail
    refine HS.out.1.mono ?_
    rintro e w3 ⟨he3, hw3⟩
    rw [he3.yes HS.out.2.1, hw3]
    clear he3 hw3 w3
    go_wp2_with fail
    go_ret2
    exact ⟨_, [], rfl, by rw [HS.out.2.2]; rfl, ⟨World.ownsRow_nil _ _ _ _, fun x hx => by simp at hx⟩, H2.out.1⟩
theorem rfDepth_any (base p : Nat) (st : PS) (vw vo : Value) (w : World) (hP : IsF base p st vw vo w) : Calls Tryd.prog 12 #[.pointer (some ⟨p, 0, none⟩)] w fun e w' => e = .returned (.int .i64 (st.op.length : Nat)) ∧ w' = w := by
  obtain ⟨go, gc, rfl⟩ := own_shape hP.2.2.2
  have k2 := hP.cells.2.2.1
  clear hP
  go_enter Tryd.func12, Tryd.ntmps12
  go_wp2_with fail
  go_ret
  exact ⟨rfl, rfl⟩
theorem rfLeft_any (base p : Nat) (st : PS) (vw vo : Value) (w : World) (hP : IsF base p st vw vo w) : Calls Tryd.prog 13 #[.pointer (some ⟨p, 0, none⟩)] w fun e w' => e = .returned (.int .i64 (st.wait.length : Nat)) ∧ w' = w := by
  obtain ⟨go, gc, rfl⟩ := own_shape hP.2.2.1
  have k2 := hP.cells.1
  clear hP
  go_enter Tryd.func13, Tryd.ntmps13
  go_wp2_with fail
  go_ret
  exact ⟨rfl, rfl⟩
theorem rfNew_any (base : Nat) (w : World) (hb : base ≤ w.heap.size) : Calls Tryd.prog 9 #[] w fun e w' => e = .returned (.pointer (some ⟨w.heap.size, 0, none⟩)) ∧ IsF base w.heap.size st0 (.slice none 0 0) (.slice none 0 0) w' ∧ Below w.heap.size w w' := by
  go_enter Tryd.func9, Tryd.ntmps9
  go_wp2_with fail
  go_ret
  exact ⟨rfl, ⟨hb, World.alloc_heap_new w _, World.ownsRow_nil _ _ _ _, World.ownsRow_nil _ _ _ _⟩, (Below.refl _ w).alloc (Nat.le_refl _) _⟩
end Go.Proofs.YthmidlmknkbdaaaDoor.Xm
