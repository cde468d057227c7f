/- The name of an entity. Escape: each of the five characters as its entity. A step's text. -/
import Derived.Test.YthmidlmknkbdaaaDoorEnt
import Derived.Test.YthmidlmknkbdaaaDoorEscM
import Derived.Test.YthmidlmknkbdaaaDoorRight
namespace Go.Proofs.YthmidlmknkbdaaaDoor
open Go.RowKit

theorem entityName_any (r : Int) (w : World) (hl : EntLaid w) : Calls Tryd.prog 56 #[.int .i32 r] w fun e w' => e = .returned (.string (entName r)) ∧ Below w.heap.size w w' := by
  obtain ⟨t, fr, hg⟩ := hl
  have Hg := hide hg
  clear hg
  go_enter Tryd.func56, Tryd.ntmps56
  go_wp2_with (refine wpList_load_row rfl 112 _ rfl 0 rfl t entCs fr _ Hg.out Tryd.underlying112 rfl entSize ?_)
  clear Hg
  go_loopw [6] (fun i wr => ∃ n : Nat, n ≤ 5 ∧ i = .int .i64 n ∧ Below w.heap.size w wr ∧ ∀ k : Nat, k < n → entC k ≠ r) (fun i _ => 5 - (intOf i).toNat)
  case atStart => exact ⟨0, by omega, rfl, Below.refl _ _, fun k h => by omega⟩
  case round =>
    obtain ⟨n, h2, rfl, hb, hno⟩ := hrel
    have Hno := hide hno
    clear hno
    by_cases hlt : n < 5
    · have hix := entIndex n hlt
      have hb' := hb.size
      by_cases he : entC n = r
      · have hs : (entC n == r) = true := by rw [beq_iff_eq]; exact he
        have He := hide (show entName r = entN n by rw [← he]; exact entName_at n hlt)
        clear he
        go_wp2_with fail
        go_ret
        exact ⟨by rw [He.out]; rfl, hb.alloc hb' _⟩
      · have hs : (entC n == r) = false := by rw [beq_eq_false_iff_ne]; exact he
        have He := hide he
        clear he
        go_wp2_with fail
        exact ⟨⟨n + 1, by omega, by go_num, hb.alloc hb' _, fun k a => by
          rcases Nat.lt_or_ge k n with h | h
          · exact Hno.out k h
          · obtain rfl : k = n := by omega
            exact He.out⟩, by simp [intOf]; omega⟩
    · go_wp2_with fail
      go_ret
      exact ⟨by rw [entName_none r (fun k h => Hno.out k (by omega))]; rfl, hb⟩
end Go.Proofs.YthmidlmknkbdaaaDoor
namespace Go.Proofs.YthmidlmknkbdaaaDoor
open Go.RowKit

theorem entityName_no (r : Int) (w : World) (hl : EntLaid w) (h : NotEnt r) : Calls Tryd.prog 56 #[.int .i32 r] w fun e w' => e = .returned (.string ⟨#[]⟩) ∧ Below w.heap.size w w' := by
  have he : entName r = ⟨#[]⟩ := by
    unfold entName
    rw [if_neg h.1, if_neg h.2.1, if_neg h.2.2.1, if_neg h.2.2.2.1, if_neg h.2.2.2.2]
  rw [← he]
  exact entityName_any r w hl

set_option maxHeartbeats 2000000 in
theorem escape_any (s : ByteArray) (w : World) (hs : s.size ≤ 1000000) (hl : EntLaid w) : Calls Tryd.prog 40 #[.string s] w fun e w' => e = .returned (.string ⟨(esc s.data.toList).toArray⟩) ∧ Below w.heap.size w w' := by
  have HL := hide hl
  clear hl
  go_enter Tryd.func40, Tryd.ntmps40
  go_wp2_with fail
  go_loopw [4] (fun cp wr => ∃ (pos c : Nat), c ≤ pos ∧ pos ≤ s.size ∧ cp = .int .i64 c ∧ Lib.IsBuilderF 48 5 w.heap.size w.heap.size (Lib.byteCells (esc (s.data.toList.take c))) wr ∧ wr.heap[w.heap.size + 1]? = some (.stringIter s pos) ∧ Below w.heap.size w wr ∧ ∀ (j : Nat) (h : j < s.size), c ≤ j → j < pos → Plain s[j]) (fun _ wr => s.size - wr.iterPos (w.heap.size + 1))
  case atStart =>
    refine ⟨0, 0, Nat.le_refl _, Nat.zero_le _, rfl, (Lib.IsBuilderF.of (Lib.fresh_isBuilder _ 5 w)).alloc _, ?_, ((Below.refl _ w).alloc (Nat.le_refl _) _).alloc (by simp) _, fun j h h1 h2 => by omega⟩
    have := World.iter_heap (w.alloc (.cells #[.pointer none, .slice none 0 0] 48)) s 0
    simpa using this
  case round =>
    obtain ⟨pos, c, hcp, hpos, rfl, hI, hit, hbw, hpl⟩ := hrel
    have hsz : w.heap.size + 1 < wr.heap.size := (Array.getElem?_eq_some_iff.1 hit).1
    by_cases hp : pos < s.size
    · have hnx : ∀ ty, (Instr.next (.pointer (some ⟨w.heap.size + 1, 0, none⟩)) true ty).run Tryd.prog wr = _ := fun ty => Lib.run_next_any_at wr (w.heap.size + 1) s pos ty hit hp
      obtain ⟨hw1, hw2⟩ := decode_width s pos hp
      have hI2 := hI.iterAt hit (pos + (Utf8.decode s pos).2)
      have hit2 := Lib.iterAt_heap wr (w.heap.size + 1) s pos (pos + (Utf8.decode s pos).2) hit
      have hbw2 := Lib.below_iterAt hbw (k := w.heap.size + 1) (by omega) s (pos + (Utf8.decode s pos).2)
      by_cases hne : NotEnt (Utf8.decode s pos).1
      · have Hne := hide hne
        have H2 := hide (show _ ∧ _ ∧ _ ∧ _ ∧ _ from ⟨hI2, hit2, hbw2, hit, hpl⟩)
        clear hI hI2 hit2 hbw2 hne hpl
        go_wp2_with fail
        refine (entityName_no _ _ (HL.out.below H2.out.2.2.1 HL.out.size) Hne.out).mono ?_
        rintro e w1 ⟨rfl, hb1⟩
        go_wp2_with fail
        have hit3 := (hb1.block (w.heap.size + 1) (by rw [Lib.iterAt_size]; omega)).trans H2.out.2.1
        refine ⟨⟨pos + (Utf8.decode s pos).2, c, by omega, hw2, rfl, isb_below H2.out.1 hb1, hit3, H2.out.2.2.1.trans (hb1.mono (by rw [Lib.iterAt_size]; omega)), fun j h h1 h2 => ?_⟩, ?_⟩
        · rcases Nat.lt_or_ge j pos with h3 | h3
          · exact H2.out.2.2.2.2 j h h1 h3
          · rcases Nat.eq_or_lt_of_le h3 with h4 | h4
            · subst h4
              by_cases ha : (s[pos]'hp).toNat < 128
              · have := Hne.out
                rw [decode_ascii s pos hp ha] at this
                exact plain_of (by unfold NotEnt at this; simpa using this)
              · exact plain_high (by omega)
            · obtain ⟨_, h5⟩ := decode_cont s pos j h4 h2
              exact plain_high h5
        · simp only [World.iterPos, hit3, H2.out.2.2.2.1]
          omega
      · obtain ⟨hd, nm, hnm, hz1, hz2, hcat⟩ := special s pos hp hne
        have hne2 : nm.toList.isEmpty = false := empty_false hz1
        have ha : (s[pos]'hp).toNat < 128 := by
          rcases Nat.lt_or_ge (s[pos]'hp).toNat 128 with h1 | h1
          · exact h1
          · have h3 := (decode_high s pos hp h1).1
            exact absurd (show NotEnt (Utf8.decode s pos).1 from ⟨by omega, by omega, by omega, by omega, by omega⟩) hne
        rw [hd] at hnm hI2 hit2 hbw2
        clear hnx hw1 hw2
        have hnx : ∀ ty, (Instr.next (.pointer (some ⟨w.heap.size + 1, 0, none⟩)) true ty).run Tryd.prog wr = _ := fun ty => Lib.run_next_ascii_at wr (w.heap.size + 1) s pos ty hit hp ha
        have Hcat := hide hcat
        have H2 := hide (show _ ∧ _ ∧ _ ∧ _ ∧ _ from ⟨hI2, hit2, hbw2, hit, hpl⟩)
        have Hn := hide (show ∀ w, EntLaid w → Calls Tryd.prog 56 #[.int .i32 (s[pos]'hp).toNat] w fun e w' => e = .returned (.string nm) ∧ Below w.heap.size w w' from fun w hl => by rw [← hnm]; exact entityName_any _ w hl)
        clear hI hI2 hit2 hbw2 hne hpl hcat hnm hd
        go_wp2_with fail
        refine (Hn.out _ (HL.out.below H2.out.2.2.1 HL.out.size)).mono ?_
        rintro e w1 ⟨rfl, hb1⟩
        have hsz1 : w.heap.size ≤ w1.heap.size := by have := hb1.size; rw [Lib.iterAt_size] at this; omega
        have hcl : (esc (s.data.toList.take c)).length ≤ 6 * c := Nat.le_trans (esc_length _) (by rw [List.length_take]; omega)
        have H3 := hide (isb_below H2.out.1 hb1)
        go_wp2_with fail
        refine (writeString w.heap.size w.heap.size _ _ _ H3.out (by rw [Lib.byteCells_length, ← size_list, app_list, app_list, app_list, ext_list, List.length_append, List.length_append, List.length_append, List.length_take, List.length_drop, size_list, size_list, size_list, size_list]; exact cat_le hcl hcp (Nat.le_of_lt hp) hs hz2) hsz1).mono ?_
        rintro e w2 ⟨rfl, hI4, hb2, hk2⟩
        go_wp2_with fail
        have hit3 := (hb1.block (w.heap.size + 1) (by rw [Lib.iterAt_size]; omega)).trans H2.out.2.1
        have hit4 := hk2.iter hit3 (by omega)
        refine ⟨⟨pos + 1, pos + 1, Nat.le_refl _, hp, by go_num, ?_, hit4, (H2.out.2.2.1.trans (hb1.mono (by rw [Lib.iterAt_size]; omega))).trans hb2, fun j h h1 h2 => by omega⟩, ?_⟩
        · have := esc_step s c pos nm.data.toList hcp hp H2.out.2.2.2.2 Hcat.out
          rw [← this, Lib.byteCells_append]
          refine Or.inr ?_
          have hI5 := hI4
          rw [show Lib.strCells (s.extract c pos ++ ⟨#[38]⟩ ++ nm ++ ⟨#[59]⟩) = Lib.byteCells ((s.data.toList.drop c).take (pos - c) ++ [38] ++ nm.data.toList ++ [59]) by
            unfold Lib.strCells; rw [app_list, app_list, app_list, ext_list]; rfl] at hI5
          exact hI5
        · simp only [World.iterPos, hit4, H2.out.2.2.2.1]
          omega
    · have hnx : ∀ ty, (Instr.next (.pointer (some ⟨w.heap.size + 1, 0, none⟩)) true ty).run Tryd.prog wr = _ := fun ty => Lib.run_next_end_at wr (w.heap.size + 1) s pos ty hit hp
      have HI := hide hI
      have Hpl := hide hpl
      have hcl : (esc (s.data.toList.take c)).length ≤ 6 * c := Nat.le_trans (esc_length _) (by rw [List.length_take]; omega)
      clear hI hpl
      go_wp2_with fail
      refine (writeString w.heap.size w.heap.size _ _ _ HI.out (by rw [Lib.byteCells_length, ← size_list, ext_list, List.length_take, List.length_drop, size_list]; omega) (by omega)).mono ?_
      rintro e w2 ⟨rfl, hI4, hb2, hk2⟩
      have HI5 := hide (show Lib.IsBuilderF 48 5 w.heap.size w.heap.size (Lib.byteCells (esc s.data.toList)) w2 by
        rw [← esc_rest s c (fun j h h1 => Hpl.out j h h1 (by omega)), Lib.byteCells_append]
        refine Or.inr ?_
        have hI5 := hI4
        rw [show Lib.strCells (s.extract c s.size) = Lib.byteCells (s.data.toList.drop c) by
          unfold Lib.strCells; rw [ext_list, List.take_of_length_le (by rw [List.length_drop, size_list]; omega)]; rfl] at hI5
        exact hI5)
      clear hI4 hk2
      have hsz2 : w.heap.size ≤ w2.heap.size := by have := hb2.size; omega
      go_wp2_with fail
      refine (builderString w.heap.size w.heap.size (esc s.data.toList) _ HI5.out hsz2).mono ?_
      rintro e w3 ⟨rfl, _, hb3, _⟩
      go_wp2_with fail
      go_ret
      exact ⟨rfl, (hbw.trans hb2).trans hb3⟩
end Go.Proofs.YthmidlmknkbdaaaDoor
namespace Go.Proofs.YthmidlmknkbdaaaDoor
open Go.RowKit

def attrT (a : ByteArray × ByteArray) : List UInt8 := [32] ++ a.1.data.toList ++ [61, 39] ++ esc a.2.data.toList ++ [39]
def attrsT (al : List (ByteArray × ByteArray)) : List UInt8 := al.flatMap attrT
def beginT (t : Tok) (ends : Bool) : List UInt8 := [60] ++ t.name.data.toList ++ attrsT t.attrs ++ (if ends then [47] else []) ++ [62]
/-- Small enough to be printed. -/
def Few (t : Tok) : Prop := t.name.size ≤ 1000 ∧ t.text.size ≤ 1000 ∧ t.attrs.length ≤ 8 ∧ ∀ a ∈ t.attrs, a.1.size ≤ 1000 ∧ a.2.size ≤ 1000
theorem attrT_le {a : ByteArray × ByteArray} (h : a.1.size ≤ 1000 ∧ a.2.size ≤ 1000) : (attrT a).length ≤ 8000 := by
  have h1 := esc_length a.2.data.toList
  have h2 : a.1.data.toList.length = a.1.size := Array.length_toList
  have h3 : a.2.data.toList.length = a.2.size := Array.length_toList
  simp only [attrT, List.length_append, List.length_cons, List.length_nil]
  omega
theorem attrsT_le : ∀ (al : List (ByteArray × ByteArray)), (∀ a ∈ al, a.1.size ≤ 1000 ∧ a.2.size ≤ 1000) → (attrsT al).length ≤ al.length * 8000
  | [], _ => by simp [attrsT]
  | a :: al, h => by
    have h1 := attrT_le (h a (by simp))
    have h2 := attrsT_le al (fun b hb => h b (by simp [hb]))
    simp only [attrsT, List.flatMap_cons, List.length_append, List.length_cons] at h2 ⊢
    omega
theorem attrsT_succ {al : List (ByteArray × ByteArray)} {k : Nat} {a : ByteArray × ByteArray} (h : al[k]? = some a) : attrsT (al.take (k + 1)) = attrsT (al.take k) ++ attrT a := by
  rw [List.take_add_one, h]
  simp [attrsT]

theorem writeL (B b : Nat) (l : List UInt8) (s : ByteArray) (w : World) (h : Lib.IsBuilderF 48 5 B b (Lib.byteCells l) w) (hlen : l.length + s.size ≤ 1000000000) (hB : B ≤ w.heap.size) :
    Calls Tryd.prog 22 #[.pointer (some ⟨b, 0, none⟩), .string s] w fun e w' => e = .returned (.tuple #[.int .i64 s.size, .nilIface]) ∧ Lib.IsBuilderF 48 5 B b (Lib.byteCells (l ++ s.data.toList)) w' ∧ Below B w w' ∧ Lib.OthersKept 5 (some b) w w' := by
  refine (writeString B b _ s w h (by rw [Lib.byteCells_length]; omega) hB).mono ?_
  rintro e w' ⟨rfl, h1, h2, h3⟩
  refine ⟨rfl, Or.inr ?_, h2, h3⟩
  rw [Lib.byteCells_append]
  exact h1

set_option maxRecDepth 100000 in
set_option maxHeartbeats 2000000 in
theorem printBegin_any (n₀ : Nat) (ao : Option Addr) (cap : Nat) (t : Tok) (ends : Bool) (w : World) (hA : AttrMem n₀ w ao t.attrs) (hn : n₀ ≤ w.heap.size) (hl : EntLaid w) (hF : Few t) :
    Calls Tryd.prog 39 #[.agg #[.int .u8 t.kind, .string t.name, .slice ao t.attrs.length cap, .string t.text], .bool ends] w fun e w' => e = .returned (.string ⟨(beginT t ends).toArray⟩) ∧ Below w.heap.size w w' := by
  have HA := hide hA
  have HL := hide hl
  have HF := hide hF
  have hf1 := hF.1
  have hf3 := hF.2.2.1
  clear hA hl hF
  go_enter Tryd.func39, Tryd.ntmps39
  go_wp2_with fail
  have hI0 := Lib.IsBuilderF.of (Lib.fresh_isBuilder 48 5 (w.alloc (.cells #[.int .u8 t.kind, .string t.name, .slice ao t.attrs.length cap, .string t.text] 55)))
  rw [World.size_alloc] at hI0
  refine (writeL (w.heap.size + 1) (w.heap.size + 1) [] _ _ hI0 ?hlen (by simp)).mono ?_
  case hlen =>
    rw [← size_list, app_list, List.length_append, size_list]
    show 0 + (1 + t.name.size) ≤ _
    omega
  rintro e w1 ⟨rfl, hI1, hb1, _⟩
  have e2 : w1.cell? ⟨w.heap.size, 2, none⟩ = some (.slice ao t.attrs.length cap) := by
    rw [hb1.cell (p := ⟨w.heap.size, 2, none⟩) (by simp)]
    simp
  have hbw1 : Below w.heap.size w w1 := (((Below.refl _ w).alloc (Nat.le_refl _) _).alloc (by simp) _).trans (hb1.mono (by omega))
  have hs1 : w.heap.size + 2 ≤ w1.heap.size := by have := hb1.size; simp at this; omega
  have HI1 := hide (And.intro hI1 hbw1)
  clear hI0 hI1 hb1 hbw1
  go_wp2_with fail
  go_loopw [15] (fun i wr => ∃ k : Nat, k ≤ t.attrs.length ∧ i = .int .i64 k ∧ Lib.IsBuilderF 48 5 (w.heap.size + 1) (w.heap.size + 1) (Lib.byteCells ([60] ++ t.name.data.toList ++ attrsT (t.attrs.take k))) wr ∧ Below w.heap.size w wr ∧ w.heap.size + 2 ≤ wr.heap.size) (fun i _ => t.attrs.length - (intOf i).toNat)
  case atStart =>
    refine ⟨0, Nat.zero_le _, rfl, ?_, HI1.out.2, hs1⟩
    have h := HI1.out.1
    rw [app_list] at h
    simpa [attrsT] using h
  case round =>
    obtain ⟨k, hk, rfl, hI, hbw, hsz⟩ := hrel
    have HI := hide (And.intro hI hbw)
    clear hI hbw
    have hbk : ([60] ++ t.name.data.toList ++ attrsT (t.attrs.take k)).length ≤ 100000 := by
      have h1 := attrsT_le (t.attrs.take k) (fun a ha => HF.out.2.2.2 a (List.mem_of_mem_take ha))
      have h2 : (t.attrs.take k).length ≤ 8 := by simp; omega
      have h3 : t.name.data.toList.length = t.name.size := Array.length_toList
      simp only [List.length_append, List.length_cons, List.length_nil]
      omega
    by_cases hlt : k < t.attrs.length
    · obtain ⟨a, ha⟩ : ∃ a, t.attrs[k]? = some a := ⟨t.attrs[k], by simp [hlt]⟩
      obtain ⟨b, off, rfl, hb, c1, c2⟩ := HA.out.2.2 k a ha
      have d1 := (HI.out.2.cell (p := ⟨b, off + k * 2, none⟩) (show b < _ by omega)).trans c1
      have d2 := (HI.out.2.cell (p := ⟨b, off + k * 2 + 1, none⟩) (show b < _ by omega)).trans c2
      have hsa := HF.out.2.2.2 a (List.mem_of_getElem? ha)
      clear c1 c2
      go_wp2_with fail
      obtain ⟨W1, hW1⟩ : ∃ W1, wr.alloc (.cells #[.string a.1, .string a.2] 65) = W1 := ⟨_, rfl⟩
      have hB1 : Below wr.heap.size wr W1 := by rw [← hW1]; exact (Below.refl _ wr).alloc (Nat.le_refl _) _
      have z1 : W1.heap.size = wr.heap.size + 1 := by rw [← hW1]; simp
      have f1 : W1.heap[wr.heap.size]? = some (.cells #[.string a.1, .string a.2] 65) := by rw [← hW1]; exact World.alloc_heap_new wr _
      have e0 : W1.cell? ⟨wr.heap.size, 0, none⟩ = some (.string a.1) := by simp [World.cell?, f1]
      have e1 : W1.cell? ⟨wr.heap.size, 1, none⟩ = some (.string a.2) := by simp [World.cell?, f1]
      have hbW : Below w.heap.size w W1 := HI.out.2.trans (hB1.mono (by omega))
      have HB := hide hbW
      have HIB := hide (isb_below HI.out.1 hB1)
      have HFA := hide f1
      rw [hW1]
      clear d1 d2 hW1 f1 hB1 hbW
      have hel : (⟨(esc a.2.data.toList).toArray⟩ : ByteArray).size ≤ 6000 := by
        have h1 := esc_length a.2.data.toList
        have h2 : a.2.data.toList.length = a.2.size := Array.length_toList
        show (esc a.2.data.toList).toArray.size ≤ 6000
        simp only [List.size_toArray]
        omega
      obtain ⟨ev, hev⟩ : ∃ ev : ByteArray, ⟨(esc a.2.data.toList).toArray⟩ = ev := ⟨_, rfl⟩
      rw [hev] at hel
      have hesc : ∀ w', EntLaid w' → Calls Tryd.prog 40 #[.string a.2] w' fun e w'' => e = .returned (.string ev) ∧ Below w'.heap.size w' w'' := fun w' h => by rw [← hev]; exact escape_any a.2 w' (by omega) h
      have HE := hide hesc
      have HEV := hide hev
      clear hesc hev
      have q1 : (⟨#[32]⟩ ++ a.1 : ByteArray).size ≤ 2000 := by rw [ByteArray.size_append]; show 1 + _ ≤ _; omega
      have q2 : (⟨#[32]⟩ ++ a.1 ++ ⟨#[61, 39]⟩ : ByteArray).size ≤ 2002 := by rw [ByteArray.size_append]; show _ + 2 ≤ _; omega
      have q3 : (⟨#[32]⟩ ++ a.1 ++ ⟨#[61, 39]⟩ ++ ev : ByteArray).size ≤ 8002 := by rw [ByteArray.size_append]; omega
      have q4 : (⟨#[32]⟩ ++ a.1 ++ ⟨#[61, 39]⟩ ++ ev ++ ⟨#[39]⟩ : ByteArray).size ≤ 8003 := by rw [ByteArray.size_append]; show _ + 1 ≤ _; omega
      have r1 : ∀ w, (Op.stringOp .add ⟨#[32]⟩ a.1).run Tryd.prog w = .ok (.string (⟨#[32]⟩ ++ a.1)) w := fun w => run_string_add_sum w _ _ (by show 1 + _ ≤ _; omega)
      have r2 : ∀ w, (Op.stringOp .add (⟨#[32]⟩ ++ a.1) ⟨#[61, 39]⟩).run Tryd.prog w = .ok (.string (⟨#[32]⟩ ++ a.1 ++ ⟨#[61, 39]⟩)) w := fun w => run_string_add_sum w _ _ (by show _ + 2 ≤ _; omega)
      have r3 : ∀ w, (Op.stringOp .add (⟨#[32]⟩ ++ a.1 ++ ⟨#[61, 39]⟩) ev).run Tryd.prog w = .ok (.string (⟨#[32]⟩ ++ a.1 ++ ⟨#[61, 39]⟩ ++ ev)) w := fun w => run_string_add_sum w _ _ (by omega)
      have r4 : ∀ w, (Op.stringOp .add (⟨#[32]⟩ ++ a.1 ++ ⟨#[61, 39]⟩ ++ ev) ⟨#[39]⟩).run Tryd.prog w = .ok (.string (⟨#[32]⟩ ++ a.1 ++ ⟨#[61, 39]⟩ ++ ev ++ ⟨#[39]⟩)) w := fun w => run_string_add_sum w _ _ (by show _ + 1 ≤ _; omega)
      go_region_held3 (fun w' => w'.cell? ⟨wr.heap.size, 0, none⟩ = some (.string a.1) ∧ w'.cell? ⟨wr.heap.size, 1, none⟩ = some (.string a.2)) (first | exact ⟨k0, k1⟩ | go_keep)
        (first | (go_at_call 40; refine (HE.out _ (HL.out.below (HB.out.trans ?_) HL.out.size)).mono ?_; (exact ((Below.refl _ _).drew).mono HB.out.size); rintro e w2 ⟨rfl, hb2⟩; have g2 := (hb2.block wr.heap.size (show wr.heap.size < W1.heap.size by omega)).trans HFA.out; have k0 : w2.cell? ⟨wr.heap.size, 0, none⟩ = some (.string a.1) := (by simp [World.cell?, g2]); have k1 : w2.cell? ⟨wr.heap.size, 1, none⟩ = some (.string a.2) := (by simp [World.cell?, g2]); have G2 := hide g2; clear g2) | (go_at_call 22; refine (writeL (w.heap.size + 1) (w.heap.size + 1) _ _ _ (isb_below HIB.out (((Below.refl _ _).drew).trans hb2)) (by omega) (by have h := hb2.size; simp at h; omega)).mono ?_; rintro e w3 ⟨rfl, hI3, hb3, hk3⟩; have g3 := hk3 wr.heap.size _ G2.out (by simp; omega) (by intro c fz e; cases e); clear k0 k1; have k0 : w3.cell? ⟨wr.heap.size, 0, none⟩ = some (.string a.1) := (by simp [World.cell?, g3]); have k1 : w3.cell? ⟨wr.heap.size, 1, none⟩ = some (.string a.2) := (by simp [World.cell?, g3])))
      have HI3 := hide hI3
      have hs3 := hb3.size
      have hs2 := hb2.size
      simp at hs2
      clear hI3
      go_wp2_with fail
      refine ⟨⟨k + 1, by omega, by simp, ?_, (HB.out.drew.trans (hb2.mono HB.out.size)).trans (hb3.mono (by omega)), by omega⟩, by simp [intOf]; omega⟩
      have h := HI3.out
      rw [attrsT_succ ha, ← List.append_assoc]
      rw [app_list, app_list, app_list, app_list, ← HEV.out] at h
      exact h
    · obtain rfl : k = t.attrs.length := by omega
      rw [List.take_length] at hbk HI
      cases ends with
      | true =>
        go_wp2_with fail
        refine (writeL (w.heap.size + 1) (w.heap.size + 1) _ ⟨#[47]⟩ _ HI.out.1 (by show _ + 1 ≤ _; omega) (by omega)).mono ?_
        rintro e w3 ⟨rfl, hI3, hb3, _⟩
        have HI3 := hide hI3
        have hs3 := hb3.size
        clear hI3
        go_wp2_with fail
        refine (writeL (w.heap.size + 1) (w.heap.size + 1) _ ⟨#[62]⟩ _ HI3.out (by rw [List.length_append]; show _ + 1 + 1 ≤ _; omega) (by omega)).mono ?_
        rintro e w4 ⟨rfl, hI4, hb4, _⟩
        have HI4 := hide hI4
        have hs4 := hb4.size
        clear hI4
        go_wp2_with fail
        refine (builderString (w.heap.size + 1) (w.heap.size + 1) _ _ HI4.out (by omega)).mono ?_
        rintro e w5 ⟨rfl, _, hb5, _⟩
        go_wp2_with fail
        go_ret
        exact ⟨by simp [beginT], ((HI.out.2.trans (hb3.mono (by omega))).trans (hb4.mono (by omega))).trans (hb5.mono (by omega))⟩
      | false =>
        go_wp2_with fail
        refine (writeL (w.heap.size + 1) (w.heap.size + 1) _ ⟨#[62]⟩ _ HI.out.1 (by show _ + 1 ≤ _; omega) (by omega)).mono ?_
        rintro e w4 ⟨rfl, hI4, hb4, _⟩
        have HI4 := hide hI4
        have hs4 := hb4.size
        clear hI4
        go_wp2_with fail
        refine (builderString (w.heap.size + 1) (w.heap.size + 1) _ _ HI4.out (by omega)).mono ?_
        rintro e w5 ⟨rfl, _, hb5, _⟩
        go_wp2_with fail
        go_ret
        exact ⟨by simp [beginT], (HI.out.2.trans (hb4.mono (by omega))).trans (hb5.mono (by omega))⟩

def endT (name : ByteArray) : List UInt8 := [60, 47] ++ name.data.toList ++ [62]
/-- A token's text, where it stands. -/
def tokT (t : Tok) (last next : Nat) : List UInt8 :=
  if t.kind = 1 then beginT t (next == 2) else if t.kind = 3 then esc t.text.data.toList else if last = 1 then [] else endT t.name

set_option maxRecDepth 100000 in
set_option maxHeartbeats 2000000 in
theorem print_step (n₀ : Nat) (av : Nat → Option Addr × Nat) (ts : List Tok) (k : Nat) (t : Tok) (ht : ts[k]? = some t) (w : World) (hA : AttrMem n₀ w (av k).1 t.attrs) (hn : n₀ ≤ w.heap.size) (hl : EntLaid w) (hF : Few t) :
    Calls Tryd.prog 23 #[stepV ts av k] w fun e w' => e = .returned (.string ⟨(tokT t (kindOf ts (k - 1 : Int)) (kindOf ts (k + 1 : Int))).toArray⟩) ∧ Below w.heap.size w w' := by
  have hst : stepV ts av k = .agg #[.int .u8 t.kind, .string t.name, .slice (av k).1 t.attrs.length (av k).2, .string t.text, .int .u8 (kindOf ts (k - 1 : Int)), .int .u8 (kindOf ts (k + 1 : Int)), .string ((openAt ts k).getLast?.getD ⟨#[]⟩), .int .i64 (openAt ts k).length, .int .i64 (openAt ts (k + 1)).length] := by simp [stepV, ht]
  rw [hst]
  obtain ⟨la, hla⟩ : ∃ la, kindOf ts (k - 1 : Int) = la := ⟨_, rfl⟩
  obtain ⟨nx, hnx⟩ : ∃ nx, kindOf ts (k + 1 : Int) = nx := ⟨_, rfl⟩
  obtain ⟨ins, hin⟩ : ∃ ins, (openAt ts k).getLast?.getD ⟨#[]⟩ = ins := ⟨_, rfl⟩
  obtain ⟨n1, hn1⟩ : ∃ n1, (openAt ts k).length = n1 := ⟨_, rfl⟩
  obtain ⟨n2, hn2⟩ : ∃ n2, (openAt ts (k + 1)).length = n2 := ⟨_, rfl⟩
  rw [hla, hnx, hin, hn1, hn2]
  have HA := hide hA
  have HL := hide hl
  have HF := hide hF
  have hf1 := hF.1
  have hf2 := hF.2.1
  clear hst hla hnx hin hn1 hn2 hA hl hF ht
  have hB0 : ∀ (o : Obj), Below w.heap.size w (w.alloc o) := fun o => (Below.refl _ w).alloc (Nat.le_refl _) _
  have HB0 := hide hB0
  clear hB0
  by_cases h1 : t.kind = 1
  · have hv : tokT t la nx = beginT t (nx == 2) := by simp [tokT, h1]
    have HV := hide hv
    clear hv
    have hc : ∀ (b : Bool) (w' : World), Below w.heap.size w w' → Calls Tryd.prog 39 #[.agg #[.int .u8 1, .string t.name, .slice (av k).1 t.attrs.length (av k).2, .string t.text], .bool b] w' fun e w'' => e = .returned (.string ⟨(beginT t b).toArray⟩) ∧ Below w'.heap.size w' w'' := fun b w' hb => by
      have h := printBegin_any n₀ (av k).1 (av k).2 t b w' (HA.out.below (hb.mono hn)) (Nat.le_trans hn hb.size) (HL.out.below hb HL.out.size) HF.out
      rw [h1] at h
      exact h
    have HC := hide hc
    clear hc
    by_cases hx : nx = 2
    · have hx' : ((nx : Int) == 2) = true := by simp [hx]
      have hxb : (nx == 2) = true := by simp [hx]
      rw [hxb] at HV
      go_enter Tryd.func23, Tryd.ntmps23
      go_wp2_with fail
      refine (HC.out true _ (HB0.out _)).mono ?_
      rintro e w2 ⟨rfl, hb2⟩
      go_wp2_with fail
      go_ret
      exact ⟨by rw [HV.out]; rfl, (HB0.out _).trans (hb2.mono (by simp))⟩
    · have hx' : ((nx : Int) == 2) = false := by rw [beq_eq_false_iff_ne]; omega
      have hxb : (nx == 2) = false := by simp [hx]
      rw [hxb] at HV
      go_enter Tryd.func23, Tryd.ntmps23
      go_wp2_with fail
      refine (HC.out false _ (HB0.out _)).mono ?_
      rintro e w2 ⟨rfl, hb2⟩
      go_wp2_with fail
      go_ret
      exact ⟨by rw [HV.out]; rfl, (HB0.out _).trans (hb2.mono (by simp))⟩
  · have h1' : ((t.kind : Int) == 1) = false := by rw [beq_eq_false_iff_ne]; omega
    by_cases h3 : t.kind = 3
    · have hv : tokT t la nx = esc t.text.data.toList := by simp [tokT, h3]
      have HV := hide hv
      clear hv
      go_enter Tryd.func23, Tryd.ntmps23
      go_wp2_with fail
      refine (escape_any t.text _ (by omega) (HL.out.below (HB0.out _) HL.out.size)).mono ?_
      rintro e w2 ⟨rfl, hb2⟩
      go_wp2_with fail
      go_ret
      exact ⟨by rw [HV.out]; rfl, (HB0.out _).trans (hb2.mono (by simp))⟩
    · have h3' : ((t.kind : Int) == 3) = false := by rw [beq_eq_false_iff_ne]; omega
      by_cases hx : la = 1
      · have hv : tokT t la nx = [] := by simp [tokT, h1, h3, hx]
        have HV := hide hv
        clear hv
        have hx' : ((la : Int) == 1) = true := by simp [hx]
        go_enter Tryd.func23, Tryd.ntmps23
        go_wp2_with fail
        go_ret
        exact ⟨by rw [HV.out]; rfl, HB0.out _⟩
      · have hv : tokT t la nx = endT t.name := by simp [tokT, h1, h3, hx]
        have HV := hide hv
        clear hv
        have hx' : ((la : Int) == 1) = false := by rw [beq_eq_false_iff_ne]; omega
        go_enter Tryd.func23, Tryd.ntmps23
        go_wp2_with fail
        go_ret
        refine ⟨?_, HB0.out _⟩
        rw [HV.out]
        have hb : (⟨#[60, 47]⟩ ++ t.name ++ ⟨#[62]⟩ : ByteArray) = ⟨(endT t.name).toArray⟩ := by
          apply ByteArray.ext
          apply Array.ext'
          rw [app_list, app_list]
          rfl
        rw [← hb]
        rfl
end Go.Proofs.YthmidlmknkbdaaaDoor
