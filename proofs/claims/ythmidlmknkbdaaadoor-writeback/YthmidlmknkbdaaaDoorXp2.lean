/- A parser: a text, an ending. -/
import Derived.Test.YthmidlmknkbdaaaDoorXPA
import Derived.Test.YthmidlmknkbdaaaDoorChars
namespace Go.Proofs.YthmidlmknkbdaaaDoor.Xm
open Go.RowKit

section
variable {base p : Nat} {st : PS} {vw vo : Value} {w : World}
theorem IsP.keep (h : IsP base p st vw vo w) {w' : World} (hk : ∀ j, j < w.heap.size → w'.heap[j]? = w.heap[j]?) : IsP base p st vw vo w' := by
  obtain ⟨h0, h1, h2, h3⟩ := h
  exact ⟨h0, (hk p (Array.getElem?_eq_some_iff.1 h1).1).trans h1, own_same h2 (fun g hg => hk g (own_lt h2 g hg)), own_same h3 (fun g hg => hk g (own_lt h3 g hg))⟩
theorem IsP.below (h : IsP base p st vw vo w) {w' : World} (hb : Below w.heap.size w w') : IsP base p st vw vo w' := h.keep hb.block
theorem IsP.lt (h : IsP base p st vw vo w) : p < w.heap.size := (Array.getElem?_eq_some_iff.1 h.2.1).1
theorem IsP.set_begun (h : IsP base p st vw vo w) : IsP base p { st with begun := true } vw vo (w.setCell ⟨p, 3, none⟩ (.bool true)) := by
  obtain ⟨h0, h1, h2, h3⟩ := h
  exact ⟨h0, heap_setCell_same _ _ 3 _ _ _ h1, own_same h2 (fun g hg => Below.heap_setCell _ _ _ _ (own_ne0 h2 h1 (by decide) g hg)), own_same h3 (fun g hg => Below.heap_setCell _ _ _ _ (own_ne0 h3 h1 (by decide) g hg))⟩
theorem IsP.set_rooted (h : IsP base p st vw vo w) : IsP base p { st with rooted := true } vw vo (w.setCell ⟨p, 4, none⟩ (.bool true)) := by
  obtain ⟨h0, h1, h2, h3⟩ := h
  exact ⟨h0, heap_setCell_same _ _ 4 _ _ _ h1, own_same h2 (fun g hg => Below.heap_setCell _ _ _ _ (own_ne0 h2 h1 (by decide) g hg)), own_same h3 (fun g hg => Below.heap_setCell _ _ _ _ (own_ne0 h3 h1 (by decide) g hg))⟩
theorem IsP.set_open (h : IsP base p st vw vo w) {vo' : Value} {op' : List ByteArray} (ho : w.ownsRow base 9 1 vo' op'.length (nameCells op')) : IsP base p { st with op := op' } vw vo' (w.setCell ⟨p, 2, none⟩ vo') := by
  obtain ⟨h0, h1, h2, h3⟩ := h
  exact ⟨h0, heap_setCell_same _ _ 2 _ _ _ h1, own_same h2 (fun g hg => Below.heap_setCell _ _ _ _ (own_ne0 h2 h1 (by decide) g hg)), own_same ho (fun g hg => Below.heap_setCell _ _ _ _ (own_ne0 ho h1 (by decide) g hg))⟩
theorem IsP.set_wait (h : IsP base p st vw vo w) {vw' : Value} {l : List UInt8} (ho : w.ownsRow base 5 1 vw' l.length (Lib.byteCells l)) : IsP base p { st with wait := l } vw' vo (w.setCell ⟨p, 0, none⟩ vw') := by
  obtain ⟨h0, h1, h2, h3⟩ := h
  exact ⟨h0, heap_setCell_same _ _ 0 _ _ _ h1, own_same ho (fun g hg => Below.heap_setCell _ _ _ _ (own_ne0 ho h1 (by decide) g hg)), own_same h3 (fun g hg => Below.heap_setCell _ _ _ _ (own_ne0 h3 h1 (by decide) g hg))⟩
end
theorem one_row {bt : Nat} {w : World} {k : Nat} {nm tx : ByteArray} (hb : bt ≤ w.heap.size) (hk : k < 256) (hn : nm.size ≤ 9223372036854775807) (ht : tx.size ≤ 9223372036854775807) :
    ElRow bt (w.alloc (.cells #[.int .u8 k, .string nm, .slice none 0 0, .string tx] 55)) (.slice (some ⟨w.heap.size, 0, none⟩) 1 1) [(⟨k, nm, [], tx⟩, none, 0)] := by
  refine ⟨⟨by simp [tokC], .inr ⟨w.heap.size, 1, _, rfl, hb, World.alloc_heap_new w _, Nat.le_refl _, by unfold maxLen; omega, by simp, by simp [tokC]⟩⟩, fun x hx => ?_⟩
  simp at hx
  subst hx
  exact ⟨World.ownsRow_nil _ _ _ _, ⟨hk, hn, ht, by simp, fun a h => by simp at h⟩⟩

open Classical in
noncomputable def charsB (l : List UInt8) : Bool := decide (CharsOk l)
theorem charsB_iff (l : List UInt8) : charsB l = true ↔ CharsOk l := by simp [charsB]
/-- What a text says, and how the parser stands behind it. -/
noncomputable def textL (st : PS) (s : List UInt8) : Except Int (PS × List Tok) :=
  if s = [] then .ok (st, []) else
  match unesc s with
  | none => .error 6
  | some t => if charsB s = true then (if 0 < st.op.length then .ok ({ st with begun := true }, [⟨3, ⟨#[]⟩, [], ⟨t.toArray⟩⟩]) else if s.all isBl = true then .ok ({ st with begun := true }, []) else .error 6) else .error 6
theorem un_len : ∀ (f : Nat) (l t : List UInt8), un f l = some t → t.length ≤ l.length
  | 0, _, _, h => by cases h; simp
  | _ + 1, [], _, h => by cases h; simp
  | f + 1, b :: r, t, h => by
    have key : ∀ (k : Nat) (c : UInt8), (un f (r.drop k)).map (c :: ·) = some t → t.length ≤ (b :: r).length := fun k c hk => by
      obtain ⟨u, hu, rfl⟩ := Option.map_eq_some_iff.1 hk
      have := un_len f _ u hu
      rw [List.length_drop] at this
      simp
      omega
    simp only [un] at h
    split at h
    · cases h
    · split at h
      · split at h
        · exact key 4 _ h
        · split at h
          · exact key 3 _ h
          · split at h
            · exact key 3 _ h
            · split at h
              · exact key 5 _ h
              · split at h
                · exact key 5 _ h
                · cases h
      · exact key 0 b (by simpa using h)
theorem unesc_len {l t : List UInt8} (h : unesc l = some t) : t.length ≤ l.length := un_len _ _ _ h
theorem blanks_all (l : List UInt8) : Blanks l ↔ l.all isBl = true := by
  simp [Blanks, List.all_eq_true, isBl_iff]

set_option maxRecDepth 100000 in
set_option maxHeartbeats 2000000 in
theorem takeText_any (base p bt : Nat) (st : PS) (vw vo : Value) (s : ByteArray) (w : World) (hP : IsP base p st vw vo w) (hs : s.size ≤ 100000) (hE : Env w) (h4 : 4 ≤ p) (hbt : bt ≤ w.heap.size) (hol : st.op.length ≤ 100000) :
    Calls Tryd.prog 69 #[.pointer (some ⟨p, 0, none⟩), .string s] w fun e w' => ((∃ st' toks v l, textL st s.data.toList = .ok (st', toks) ∧ e = .returned v ∧ l.map (·.1) = toks ∧ ElRow bt w' v l ∧ IsP base p st' vw vo w') ∨ (∃ err b, textL st s.data.toList = .error err ∧ e = stopE err ∧ IsP base p { st with begun := b } vw vo w')) ∧ Only p w w' := by
  obtain ⟨_, _, c2, c3, _, _, cf⟩ := hP.cells
  have cf3 := cf 3 (by omega)
  clear cf
  by_cases h0 : s.size = 0
  · have h0' := empty_true (s := s) (by omega)
    have hl : s.data.toList = [] := List.eq_nil_of_length_eq_zero (by rw [← size_lst]; exact h0)
    have HP := hide (And.intro hP hl)
    clear hP hl
    go_enter Tryd.func69, Tryd.ntmps69
    go_wp2_with fail
    go_ret
    exact ⟨.inl ⟨st, [], _, [], by simp [textL, HP.out.2], rfl, rfl, ⟨World.ownsRow_nil _ _ _ _, fun x hx => by simp at hx⟩, HP.out.1⟩, Only.refl _ _⟩
  have h0' := empty_false (s := s) (by omega)
  have hne : s.data.toList ≠ [] := fun e => h0 (by rw [size_lst, e]; rfl)
  obtain ⟨go, gc, rfl⟩ := own_shape hP.2.2.2
  have HP := hide hP.set_begun
  have hpl := hP.lt
  have hW := (hP.set_begun).cells.2.2.1
  have HE := hide hE
  clear hP hE
  obtain ⟨W1, hW1⟩ : ∃ W1, w.setCell ⟨p, 3, none⟩ (.bool true) = W1 := ⟨_, rfl⟩
  have hO1 : Only p w W1 := by rw [← hW1]; exact (Only.refl _ _).set _
  rw [hW1] at HP hW
  have hE1 : Env W1 := HE.out.below hO1.below h4
  obtain ⟨m, hm⟩ := hE1.2.2
  have hue := unescape_any s W1 (by omega) hE1.2.1 m hm
  have HU := hide (And.intro hue (And.intro hO1 hE1))
  have hz1 := hO1.size
  clear hue hO1 hE1 hm c2
  go_enter Tryd.func69, Tryd.ntmps69
  go_wp2_with fail
  refine HU.out.1.mono ?_
  rintro e w2 ⟨⟨t, ht, rfl⟩ | ⟨ht, rfl⟩, hb2⟩
  case inr =>
    have H2 := hide (And.intro hb2 ht)
    clear hb2 ht
    go_wp2_with fail
    refine (giveUp_any 6 w2).mono ?_
    rintro e w3 ⟨rfl, hw⟩
    subst hw
    exact ⟨rfl, .inr ⟨6, true, by simp [textL, hne, H2.out.2], rfl, HP.out.below H2.out.1⟩, HU.out.2.1.trans (Only.of_below H2.out.1 (by omega))⟩
  have hE2 := HU.out.2.2.below hb2 (by omega)
  have hch := chars_any s w2 (by unfold maxLen; omega) hE2.1
  have hP2 := HP.out.below hb2
  have k2 := hP2.cells.2.2.1
  have H2 := hide (And.intro hch (And.intro ht (And.intro hP2 (HU.out.2.1.trans (Only.of_below hb2 (by omega))))))
  have hz2 := hb2.size
  clear hch ht hP2 hb2 hE2 hW
  go_wp2_with fail
  refine H2.out.1.mono ?_
  rintro e w3 ⟨⟨hc, rfl⟩ | ⟨hc, rfl⟩, hb3⟩
  case inr =>
    have H3 := hide hb3
    clear hb3
    go_wp2_with fail
    refine (giveUp_any 6 w3).mono ?_
    rintro e w4 ⟨rfl, hw⟩
    subst hw
    have hcb : ¬ charsB s.data.toList = true := fun h => hc ((charsB_iff _).1 h)
    exact ⟨rfl, .inr ⟨6, true, by simp [textL, hne, H2.out.2.1, hcb], rfl, H2.out.2.2.1.below H3.out⟩, H2.out.2.2.2.trans (Only.of_below H3.out (by omega))⟩
  have hcb : charsB s.data.toList = true := (charsB_iff _).2 hc
  have hP3 := H2.out.2.2.1.below hb3
  have k3 := hP3.cells.2.2.1
  have H3 := hide (And.intro hP3 (And.intro (H2.out.2.2.2.trans (Only.of_below hb3 (by omega))) hcb))
  have hz3 := hb3.size
  clear hP3 hb3 hcb k2 hc
  by_cases hop : 0 < (st.op.length : Int)
  · go_wp2_with fail
    go_ret
    have htl := unesc_len H2.out.2.1
    rw [← size_lst] at htl
    refine ⟨.inl ⟨{ st with begun := true }, [⟨3, ⟨#[]⟩, [], ⟨t.toArray⟩⟩], _, [(⟨3, ⟨#[]⟩, [], ⟨t.toArray⟩⟩, none, 0)], ?_, rfl, rfl, one_row (k := 3) (by omega) (by decide) (Nat.zero_le _) (by rw [size_lst, arr_list]; omega), H3.out.1.below ((Below.refl _ _).alloc (Nat.le_refl _) _)⟩, H3.out.2.1.trans (Only.of_below ((Below.refl _ _).alloc (Nat.le_refl _) _) (by omega))⟩
    have h' : 0 < st.op.length := by omega
    simp [textL, hne, H2.out.2.1, H3.out.2.2, h']
  · have h' : ¬ (0 < st.op.length) := by omega
    go_wp2_with fail
    refine (space_any s w3).mono ?_
    rintro e w4 ⟨⟨hb, rfl⟩ | ⟨hb, rfl⟩, hb4⟩
    · have H4 := hide hb4
      have hba := (blanks_all _).1 hb
      clear hb4
      go_wp2_with fail
      go_ret
      refine ⟨.inl ⟨{ st with begun := true }, [], _, [], ?_, rfl, rfl, ⟨World.ownsRow_nil _ _ _ _, fun x hx => by simp at hx⟩, H3.out.1.below H4.out⟩, H3.out.2.1.trans (Only.of_below H4.out (by omega))⟩
      unfold textL
      rw [if_neg hne, H2.out.2.1]
      simp only []
      rw [if_pos H3.out.2.2, if_neg h', if_pos hba]
    · have H4 := hide hb4
      have hba : ¬ (s.data.toList.all isBl = true) := fun h => hb ((blanks_all _).2 h)
      clear hb4
      go_wp2_with fail
      refine (giveUp_any 6 w4).mono ?_
      rintro e w5 ⟨rfl, hw⟩
      subst hw
      refine ⟨rfl, .inr ⟨6, true, ?_, rfl, H3.out.1.below H4.out⟩, H3.out.2.1.trans (Only.of_below H4.out (by omega))⟩
      unfold textL
      rw [if_neg hne, H2.out.2.1]
      simp only []
      rw [if_pos H3.out.2.2, if_neg h', if_neg hba]

/-- An element ends. -/
def endP (st : PS) (nm : ByteArray) : Except Int (PS × List Tok) := if st.op.getLast? = some nm then .ok ({ st with op := st.op.dropLast }, [⟨2, nm, [], ⟨#[]⟩⟩]) else .error 6

set_option maxRecDepth 100000 in
set_option maxHeartbeats 2000000 in
theorem pend_any (base p bt : Nat) (st : PS) (vw vo : Value) (nm : ByteArray) (w : World) (hP : IsP base p st vw vo w) (hn : nm.size ≤ 100000) (hbt : bt ≤ w.heap.size) (hol : st.op.length ≤ 100000) :
    Calls Tryd.prog 88 #[.pointer (some ⟨p, 0, none⟩), .string nm] w fun e w' => ((∃ st' toks v l vo', endP st nm = .ok (st', toks) ∧ e = .returned v ∧ l.map (·.1) = toks ∧ ElRow bt w' v l ∧ IsP base p st' vw vo' w' ∧ vo'.ownBlock = vo.ownBlock) ∨ (endP st nm = .error 6 ∧ e = stopE 6 ∧ w' = w)) ∧ Only p w w' := by
  obtain ⟨_, _, c2, _, _, _, cf⟩ := hP.cells
  have cf2 := cf 2 (by omega)
  clear cf
  rcases List.eq_nil_or_concat st.op with hop | ⟨op', x, hop⟩
  · have ho := hP.2.2.2
    obtain ⟨ga, gc, rfl⟩ := own_shape ho
    rw [hop] at c2
    have he : endP st nm = .error 6 := by simp [endP, hop]
    clear ho
    go_enter Tryd.func88, Tryd.ntmps88
    go_wp2_with fail
    refine (giveUp_any 6 w).mono ?_
    rintro e w5 ⟨rfl, hw⟩
    subst hw
    exact ⟨rfl, .inr ⟨he, rfl, rfl⟩, Only.refl _ _⟩
  · rw [List.concat_eq_append] at hop
    obtain ⟨m, hm⟩ : ∃ m, op'.length = m := ⟨_, rfl⟩
    have hol2 : st.op.length = m + 1 := by rw [hop, ← hm]; simp
    have hnc : nameCells st.op = nameCells op' ++ [.string x] := by rw [hop]; simp [nameCells]
    have hgl : st.op.getLast? = some x := by rw [hop]; simp
    have hdl : st.op.dropLast = op' := by rw [hop]; simp
    have hown3 := hP.2.2.2
    obtain ⟨ga, gc, rfl⟩ := own_shape hown3
    rw [hnc, hol2] at hown3
    obtain ⟨g, hga, hmc, hcx⟩ := own_last hown3
    have hpop := own_pop hown3
    rw [hol2] at c2 hol
    rw [hga] at c2
    have hset := hP.set_open (vo' := .slice ga m gc) (op' := op') (by rw [hm]; exact hpop)
    rw [hga] at hset
    have HS := hide (And.intro hset (And.intro hgl (And.intro hdl (And.intro hga hP))))
    clear hset hgl hdl hpop hown3 hnc hP hop
    have hwm : IntKind.i64.wrap (m : Int) = m := wrap_id _ (by omega) (by omega)
    by_cases hx : x = nm
    · have hxe : (x.toList == nm.toList) = true := by simp [hx]
      go_enter Tryd.func88, Tryd.ntmps88
      go_wp2_with fail
      go_ret
      refine ⟨.inl ⟨{ st with op := op' }, [⟨2, nm, [], ⟨#[]⟩⟩], _, [(⟨2, nm, [], ⟨#[]⟩⟩, none, 0)], _, by simp [endP, HS.out.2.1, hx, HS.out.2.2.1], rfl, rfl, ?_, HS.out.1.below ((Below.refl _ _).alloc (Nat.le_refl _) _), ?_⟩, ?_⟩
      · have h := one_row (bt := bt) (w := w.setCell ⟨p, 2, none⟩ (.slice (some ⟨g, 0, none⟩) m gc)) (k := 2) (nm := nm) (tx := ⟨#[]⟩) (by rw [World.size_setCell]; exact hbt) (by decide) (by omega) (Nat.zero_le _)
        rw [World.size_setCell] at h
        exact h
      · rw [HS.out.2.2.2.1]
        rfl
      · exact ((Only.refl _ _).set _).trans (Only.of_below ((Below.refl _ _).alloc (Nat.le_refl _) _) (by rw [World.size_setCell]; exact Nat.le_of_lt HS.out.2.2.2.2.lt))
    · have hxe : (x.toList == nm.toList) = false := str_ne hx
      have he : endP st nm = .error 6 := by
        unfold endP
        rw [HS.out.2.1, if_neg (by simp [hx])]
      have HEE := hide he
      clear he
      go_enter Tryd.func88, Tryd.ntmps88
      go_wp2_with fail
      refine (giveUp_any 6 w).mono ?_
      rintro e w5 ⟨rfl, hw⟩
      subst hw
      exact ⟨rfl, .inr ⟨HEE.out, rfl, rfl⟩, Only.refl _ _⟩
end Go.Proofs.YthmidlmknkbdaaaDoor.Xm
