/- Unescape: what a text with entities says, or the error. Unescape: what a text with entities says, or the error. -/
import Derived.Test.YthmidlmknkbdaaaDoorGB
import Derived.Test.YthmidlmknkbdaaaDoorEscM
import Derived.WalkSmall
namespace Go.Proofs.YthmidlmknkbdaaaDoor
open Go.RowKit Go.Maps

/-- What Unescape answers. -/
def UeEnds (s : List UInt8) (e : Ending) : Prop := (∃ l, unesc s = some l ∧ e = .returned (.tuple #[.string ⟨l.toArray⟩, .int .i64 0])) ∨ (unesc s = none ∧ e = .returned (.tuple #[.string ⟨#[]⟩, .int .i64 3]))

theorem unesc_run : ∀ (p q : List UInt8), (∀ b ∈ p, b ≠ 60 ∧ b ≠ 38) → unesc (p ++ q) = (unesc q).map (p ++ ·)
  | [], q, _ => by simp
  | b :: p, q, h => by
    have hb := h b (by simp)
    show unesc (b :: (p ++ q)) = _
    rw [unesc_plain b _ hb.1 hb.2, unesc_run p q (fun x hx => h x (by simp [hx])), Option.map_map]
    rfl
/-- Bytes c up to pos of s are neither < nor &. -/
def Quiet (s : ByteArray) (c pos : Nat) : Prop := ∀ (j : Nat) (h : j < s.size), c ≤ j → j < pos → s[j] ≠ 60 ∧ s[j] ≠ 38
theorem quiet_list {s : ByteArray} {c pos : Nat} (h : Quiet s c pos) (hp : pos ≤ s.size) : ∀ b ∈ (s.data.toList.drop c).take (pos - c), b ≠ 60 ∧ b ≠ 38 := by
  intro b hb
  obtain ⟨i, hi, rfl⟩ := List.mem_iff_getElem.1 hb
  rw [List.length_take, List.length_drop, size_list] at hi
  have hj : c + i < s.size := by omega
  have h1 := list_at s (c + i) hj
  have h2 : ((s.data.toList.drop c).take (pos - c))[i]? = some s[c + i] := by
    rw [List.getElem?_take_of_lt (by omega), List.getElem?_drop]; exact h1
  obtain ⟨_, h4⟩ := List.getElem_of_getElem? h2
  rw [h4]
  exact h (c + i) hj (by omega) (by omega)
theorem split_at (s : ByteArray) (c pos : Nat) (hc : c ≤ pos) : s.data.toList.drop c = (s.data.toList.drop c).take (pos - c) ++ s.data.toList.drop pos := by
  have h := List.take_append_drop (pos - c) (s.data.toList.drop c)
  rw [List.drop_drop, show c + (pos - c) = pos by omega] at h
  exact h.symm
theorem drop_cons (s : ByteArray) (pos : Nat) (hp : pos < s.size) : s.data.toList.drop pos = (s[pos]'hp) :: s.data.toList.drop (pos + 1) := by
  have hlt : pos < s.data.toList.length := by rw [size_list]; exact hp
  rw [List.drop_eq_getElem_cons hlt]
  have := list_at s pos hp
  rw [List.getElem?_eq_getElem hlt] at this
  rw [Option.some.inj this]
theorem bad_at {s : ByteArray} {c pos : Nat} {acc : List UInt8} (hc : c ≤ pos) (hp : pos < s.size) (hq : Quiet s c pos) (ha : unesc s.data.toList = (unesc (s.data.toList.drop c)).map (acc ++ ·)) (hb : unesc ((s[pos]'hp) :: s.data.toList.drop (pos + 1)) = none) : unesc s.data.toList = none := by
  rw [ha, split_at s c pos hc, unesc_run _ _ (quiet_list hq (Nat.le_of_lt hp)), drop_cons s pos hp, hb]
  rfl
theorem step_at {s : ByteArray} {c pos k : Nat} {acc after : List UInt8} (hk : k < 5) (hc : c ≤ pos) (hp : pos < s.size) (hq : Quiet s c pos) (ha : unesc s.data.toList = (unesc (s.data.toList.drop c)).map (acc ++ ·)) (h38 : (s[pos]'hp) = 38) (hr : s.data.toList.drop (pos + 1) = (entN k).data.toList ++ 59 :: after) :
    unesc s.data.toList = (unesc (s.data.toList.drop (pos + (entN k).size + 2))).map ((acc ++ (s.data.toList.drop c).take (pos - c) ++ [entB k]) ++ ·) := by
  have h1 : s.data.toList.drop (pos + (entN k).size + 2) = after := by
    have h2 : s.data.toList.drop (pos + (entN k).size + 2) = (s.data.toList.drop (pos + 1)).drop ((entN k).size + 1) := by rw [List.drop_drop]; congr 1; omega
    rw [h2, hr, show 59 :: after = [59] ++ after from rfl, ← List.append_assoc]
    exact List.drop_left' (by rw [List.length_append, size_list]; rfl)
  have hsp := split_at s c pos hc
  have hql := quiet_list hq (Nat.le_of_lt hp)
  generalize (s.data.toList.drop c).take (pos - c) = p at hsp hql ⊢
  rw [h1, ha, hsp, unesc_run _ _ hql, drop_cons s pos hp, h38, hr, unesc_ent k hk]
  simp only [Option.map_map]
  congr 1
  funext x
  simp
theorem inside_at {s : ByteArray} {pos k : Nat} {after : List UInt8} (hk : k < 5) (hr : s.data.toList.drop (pos + 1) = (entN k).data.toList ++ 59 :: after) : Quiet s (pos + 1) (pos + (entN k).size + 2) ∧ pos + (entN k).size + 2 ≤ s.size := by
  have hlen := congrArg List.length hr
  rw [List.length_drop, size_list, List.length_append, size_list, List.length_cons] at hlen
  refine ⟨fun j hj h1 h2 => ?_, by omega⟩
  have h3 := list_at s j hj
  have h4 : (s.data.toList.drop (pos + 1))[j - (pos + 1)]? = some s[j] := by
    rw [List.getElem?_drop, show pos + 1 + (j - (pos + 1)) = j by omega]; exact h3
  have h5 : s[j] ∈ (entN k).data.toList ++ [59] := by
    rw [hr] at h4
    have h6 : ((entN k).data.toList ++ [59])[j - (pos + 1)]? = some s[j] := by
      rw [show (entN k).data.toList ++ 59 :: after = ((entN k).data.toList ++ [59]) ++ after by simp] at h4
      rw [List.getElem?_append_left (by rw [List.length_append, size_list]; show _ < (entN k).size + 1; omega)] at h4
      exact h4
    exact List.mem_of_getElem? h6
  generalize s[j] = b at h5
  have key : ∀ k, k < 5 → ∀ b ∈ (entN k).data.toList ++ [59], b ≠ 60 ∧ b ≠ 38 := by
    intro k hk
    match k, hk with
    | 0, _ => decide
    | 1, _ => decide
    | 2, _ => decide
    | 3, _ => decide
    | 4, _ => decide
  exact key k hk b h5
theorem ent_len (k : Nat) : (entN k).size ≤ 4 := by
  match k with
  | 0 => decide
  | 1 => decide
  | 2 => decide
  | 3 => decide
  | 4 => decide
  | n + 5 => exact Nat.zero_le _
theorem ent_bd (k : Nat) (h : k < 5) : -2147483648 ≤ entC k ∧ entC k ≤ 2147483647 := by
  match k, h with
  | 0, _ => decide
  | 1, _ => decide
  | 2, _ => decide
  | 3, _ => decide
  | 4, _ => decide
theorem rune_cell (k : Nat) (h : k < 5) : Lib.runeCells (entC k) = Lib.byteCells [entB k] := by
  rw [← Lib.byteCells_encodeRune]
  match k, h with
  | 0, _ => exact congrArg Lib.byteCells (show Lib.encodeRune (entC 0) = [entB 0] by decide)
  | 1, _ => exact congrArg Lib.byteCells (show Lib.encodeRune (entC 1) = [entB 1] by decide)
  | 2, _ => exact congrArg Lib.byteCells (show Lib.encodeRune (entC 2) = [entB 2] by decide)
  | 3, _ => exact congrArg Lib.byteCells (show Lib.encodeRune (entC 3) = [entB 3] by decide)
  | 4, _ => exact congrArg Lib.byteCells (show Lib.encodeRune (entC 4) = [entB 4] by decide)
end Go.Proofs.YthmidlmknkbdaaaDoor
namespace Go.Proofs.YthmidlmknkbdaaaDoor
open Go.RowKit Go.Maps

set_option maxRecDepth 100000 in
set_option maxHeartbeats 8000000 in
theorem unescape_any (s : ByteArray) (w : World) (hs : s.size ≤ 1000000) (hl : EntLaid w) (m : Int) (hm : w.cell? ⟨3, 0, none⟩ = some (.int .i64 m)) : Calls Tryd.prog 84 #[.string s] w fun e w' => UeEnds s.data.toList e ∧ Below w.heap.size w w' := by
  have HL := hide (show _ ∧ _ from ⟨hl, hm⟩)
  have hmlt := lt_of_cell hm
  clear hl hm
  go_enter Tryd.func84, Tryd.ntmps84
  go_wp2_with fail
  refine (entityChars_any _ HL.out.1).mono ?_
  rintro e w1 ⟨rfl, hmap, hb1⟩
  have HM := hide (show _ ∧ _ from ⟨hmap, hb1⟩)
  have hsz0 := hb1.size
  clear hmap hb1
  go_wp2_with fail
  go_loopw [6] (fun cp wr => ∃ (pos c : Nat) (acc : List UInt8), pos ≤ s.size ∧ c ≤ s.size ∧ cp = .int .i64 c ∧ Lib.IsBuilderF 48 5 w1.heap.size w1.heap.size (Lib.byteCells acc) wr ∧ wr.heap[w1.heap.size + 1]? = some (.stringIter s pos) ∧ Below w1.heap.size w1 wr ∧ unesc s.data.toList = (unesc (s.data.toList.drop c)).map (acc ++ ·) ∧ Quiet s c pos ∧ Quiet s pos c ∧ acc.length ≤ c) (fun _ wr => s.size - wr.iterPos (w1.heap.size + 1))
  case atStart =>
    refine ⟨0, 0, [], Nat.zero_le _, Nat.zero_le _, rfl, (Lib.IsBuilderF.of (Lib.fresh_isBuilder _ 5 w1)).alloc _, ?_, ((Below.refl _ w1).alloc (Nat.le_refl _) _).alloc (by simp) _, by simp, fun j h h1 h2 => by omega, fun j h h1 h2 => by omega, Nat.le_refl _⟩
    have := World.iter_heap (w1.alloc (.cells #[.pointer none, .slice none 0 0] 48)) s 0
    simpa using this
  case round =>
    obtain ⟨pos, c, acc, hpos, hcs, rfl, hI, hit, hbw, hacc, hq1, hq2, hal⟩ := hrel
    have hsz : w1.heap.size + 1 < wr.heap.size := (Array.getElem?_eq_some_iff.1 hit).1
    by_cases hp : pos < s.size
    · obtain ⟨hw1, hw2⟩ := decode_width s pos hp
      have hI2 := hI.iterAt hit (pos + (Utf8.decode s pos).2)
      have hit2 := Lib.iterAt_heap wr (w1.heap.size + 1) s pos (pos + (Utf8.decode s pos).2) hit
      have hbw2 := Lib.below_iterAt hbw (k := w1.heap.size + 1) (by omega) s (pos + (Utf8.decode s pos).2)
      have HH := hide (show _ ∧ _ ∧ _ ∧ _ ∧ _ from ⟨hI2, hit2, hbw2, hit, hacc⟩)
      have HQ := hide (show _ ∧ _ from ⟨hq1, hq2⟩)
      clear hI hI2 hit2 hbw2 hacc hq1 hq2
      by_cases h60 : (s[pos]'hp) = 60
      · have ha : (s[pos]'hp).toNat < 128 := by rw [h60]; decide
        have hn60 : (s[pos]'hp).toNat = 60 := by rw [h60]; rfl
        have hcp : c ≤ pos := by
          rcases Nat.lt_or_ge pos c with h | h
          · exact absurd h60 (HQ.out.2 pos hp (Nat.le_refl _) h).1
          · exact h
        have hnx : ∀ ty, (Instr.next (.pointer (some ⟨w1.heap.size + 1, 0, none⟩)) true ty).run Tryd.prog wr = .ok (.tuple #[.bool true, .int .i64 pos, .int .i32 60]) (wr.iterAt (w1.heap.size + 1) s (pos + 1)) := fun ty => by
          have := Lib.run_next_ascii_at (P := Tryd.prog) wr (w1.heap.size + 1) s pos ty hit hp ha
          rw [hn60] at this
          exact this
        have Hn := hide (bad_at hcp hp HQ.out.1 HH.out.2.2.2.2 (by rw [h60]; exact unesc_lt _))
        have Hb := hide (HM.out.2.trans ((Lib.below_iterAt hbw (k := w1.heap.size + 1) (by omega) s (pos + 1)).mono hsz0))
        clear h60 hn60
        go_wp2_with fail
        go_ret2
        exact ⟨Or.inr ⟨Hn.out, rfl⟩, Hb.out⟩
      · by_cases h38 : (s[pos]'hp) = 38
        · have ha : (s[pos]'hp).toNat < 128 := by rw [h38]; decide
          have hn38 : (s[pos]'hp).toNat = 38 := by rw [h38]; rfl
          have hcp : c ≤ pos := by
            rcases Nat.lt_or_ge pos c with h | h
            · exact absurd h38 (HQ.out.2 pos hp (Nat.le_refl _) h).2
            · exact h
          have hdw : (Utf8.decode s pos).2 = 1 := by rw [decode_ascii s pos hp ha]
          rw [hdw] at HH
          have hnx : ∀ ty, (Instr.next (.pointer (some ⟨w1.heap.size + 1, 0, none⟩)) true ty).run Tryd.prog wr = .ok (.tuple #[.bool true, .int .i64 pos, .int .i32 38]) (wr.iterAt (w1.heap.size + 1) s (pos + 1)) := fun ty => by
            have := Lib.run_next_ascii_at (P := Tryd.prog) wr (w1.heap.size + 1) s pos ty hit hp ha
            rw [hn38] at this
            exact this
          have H38 := hide h38
          obtain ⟨W, hW⟩ : ∃ W, W = wr.iterAt (w1.heap.size + 1) s (pos + 1) := ⟨_, rfl⟩
          have hWs : W.heap.size = wr.heap.size := by rw [hW, Lib.iterAt_size]
          rw [← hW] at HH hnx
          have hmW : W.cell? ⟨3, 0, none⟩ = some (.int .i64 m) := by
            rw [HH.out.2.2.1.cell (p := ⟨3, 0, none⟩) (Nat.lt_of_lt_of_le hmlt hsz0), HM.out.2.cell (p := ⟨3, 0, none⟩) hmlt]; exact HL.out.2
          obtain ⟨nmL, aftL, en, hcut⟩ : ∃ a b c, Lib.cut (s.data.toList.drop (pos + 1)) [59] = (a, b, c) := ⟨_, _, _, rfl⟩
          have hCut : ∃ n, Calls Tryd.prog 81 #[.string (s.extract (pos + 1) s.size), .string ⟨#[59]⟩] W fun e w' => e = .returned (.tuple #[.string ⟨nmL.toArray⟩, .string ⟨aftL.toArray⟩, .bool en]) ∧ Below n W w' ∧ n = W.heap.size := ⟨W.heap.size, by
            have := stringsCut (s.extract (pos + 1) s.size) ⟨#[59]⟩ m W (by rw [drop_size]; omega) hmW
            rw [drop_list, show (⟨#[59]⟩ : ByteArray).data.toList = [59] from rfl, hcut] at this
            refine this.mono ?_
            rintro e w' ⟨rfl, n, rfl⟩
            exact ⟨rfl, below_drewN (Below.refl _ _) n, rfl⟩⟩
          obtain ⟨nW, hC⟩ := hCut
          have HC := hide hC
          have hcf := cut_form (s.data.toList.drop (pos + 1))
          rw [hcut] at hcf
          have hnl : nmL.length ≤ s.size := by
            rcases hcf with ⟨_, h2, _⟩ | ⟨h1, _⟩
            · have := congrArg List.length h2
              simp only [List.length_drop, size_list, List.length_append, List.length_cons] at this
              omega
            · have h3 : nmL = (Lib.cut (s.data.toList.drop (pos + 1)) [59]).1 := by rw [hcut]
              rw [h3]
              unfold Lib.cut
              split
              · simp only [List.length_take, List.length_drop, size_list]; omega
              · simp only [List.length_drop, size_list]; omega
          have Hcf := hide (show _ ∧ _ from ⟨hcut, hcf⟩)
          have hkey : keyOf Tryd.prog 9 (.string ⟨nmL.toArray⟩) = some (.string nmL) := WideMaps.keyOf_string_mk Tryd.underlying9 (by show nmL.length ≤ _; unfold maxLen; omega)
          have Hkey := hide hkey
          clear h38 hn38 hdw hW hC hcut hcf hkey hmW
          by_cases hgood : en = true ∧ ∃ k, k < 5 ∧ nmL = (entN k).data.toList
          · obtain ⟨rfl, k, hk, hnm⟩ := hgood
            have hyes : has (mapC 5) (.string nmL) = true := by rw [hnm]; exact (map_yes k hk).1
            have Hat := hide (show (mapC 5).atKey (.string nmL) (.lit (.int .i32 0)) = .lit (.int .i32 (entC k)) by rw [hnm]; exact (map_yes k hk).2)
            have hlen : nmL.length = (entN k).size := by rw [hnm, size_list]
            have hr : s.data.toList.drop (pos + 1) = (entN k).data.toList ++ 59 :: aftL := by
              rcases Hcf.out.2 with ⟨_, h2, _⟩ | ⟨h1, _⟩
              · rw [← hnm]; exact h2
              · cases h1
            obtain ⟨hin, hle⟩ := inside_at hk hr
            have hel := ent_len k
            have Hst := hide (step_at hk hcp hp HQ.out.1 HH.out.2.2.2.2 H38.out hr)
            have Hin := hide (show _ ∧ _ from ⟨hin, hle⟩)
            have Hlen := hide hlen
            have hwf := ent_wf k hk
            have hbd : -2147483648 ≤ entC k ∧ entC k ≤ 2147483647 := ent_bd k hk
            have hnz : nmL.length ≤ 4 := by omega
            clear hnm hr hin hle hlen hwf
            go_wp2_with fail
            refine HC.out.mono ?_
            rintro e w2 ⟨rfl, hb2, rfl⟩
            have hbW := HH.out.2.2.1.trans (hb2.mono (by omega))
            have hmap2 := map_below HM.out.1 hbW
            go_wp2_with (at_lookup; refine wpList_lookup_own_ok_int _ rfl _ _ 132 rfl 9 21 .i32 law Tryd.underlying132 Tryd.underlying21 (zeroRune _) w.heap.size 5 (mapC 5) rfl hmap2 _ _ rfl Hkey.out ?_)
            intro cc hcc _
            have hce : cc = entC k := by
              rw [Hat.out] at hcc
              injection hcc with h1
              injection h1 with _ h2
              exact h2.symm
            subst hce
            have hs2 : w1.heap.size ≤ w2.heap.size := hbW.size
            have H3 := hide (isb_below HH.out.1 hb2)
            have Hit := hide ((hb2.block (w1.heap.size + 1) (by omega)).trans HH.out.2.1)
            clear hcc hmap2 hb2
            go_wp2_with fail
            refine (writeString w1.heap.size w1.heap.size _ _ _ H3.out (by rw [Lib.byteCells_length, ← size_list, ext_list, List.length_take, List.length_drop, size_list]; omega) hs2).mono ?_
            rintro e w3 ⟨rfl, hI4, hb3, hk3⟩
            have hs3 : w1.heap.size ≤ w3.heap.size := by have := hb3.size; omega
            have HI4 := hide (show Lib.IsBuilderF 48 5 w1.heap.size w1.heap.size (Lib.byteCells (acc ++ (s.data.toList.drop c).take (pos - c))) w3 by
              rw [Lib.byteCells_append]
              refine Or.inr ?_
              have hI5 := hI4
              rw [show Lib.strCells (s.extract c pos) = Lib.byteCells ((s.data.toList.drop c).take (pos - c)) by
                unfold Lib.strCells; rw [ext_list]; rfl] at hI5
              exact hI5)
            have Hit3 := hide (hk3.iter Hit.out (by omega))
            have hbW3 := hbW.trans hb3
            clear hI4 hk3 hb3 hbW
            go_wp2_with fail
            refine (writeRune w1.heap.size w1.heap.size _ (entC k) hbd.1 hbd.2 _ HI4.out (by rw [Lib.byteCells_length, List.length_append, List.length_take, List.length_drop, size_list]; omega) hs3).mono ?_
            rintro e w4 ⟨rfl, hI5, hb4, hk4⟩
            have Hit4 := hide (hk4.iter Hit3.out (by omega))
            have hbW4 := hbW3.trans hb4
            have HI6 := hide (show Lib.IsBuilderF 48 5 w1.heap.size w1.heap.size (Lib.byteCells (acc ++ (s.data.toList.drop c).take (pos - c) ++ [entB k])) w4 by
              rw [Lib.byteCells_append, ← rune_cell k hk]
              exact Or.inr hI5)
            clear hI5 hk4 hb4 hbW3
            go_wp2_with fail
            refine ⟨⟨pos + 1, pos + (entN k).size + 2, acc ++ (s.data.toList.drop c).take (pos - c) ++ [entB k], hp, Hin.out.2, ?_, HI6.out, Hit4.out, hbW4, Hst.out, fun j h h1 h2 => by omega, Hin.out.1, ?_⟩, ?_⟩
            · have := Hlen.out
              refine congrArg (Value.int .i64) ?_
              push_cast
              omega
            · rw [List.length_append, List.length_append, List.length_take, List.length_drop, size_list]
              show acc.length + min (pos - c) (s.size - c) + 1 ≤ _
              omega
            · simp only [World.iterPos, Hit4.out, HH.out.2.2.2.1]
              omega
          · have Hn := hide (bad_at hcp hp HQ.out.1 HH.out.2.2.2.2 (by
              rw [H38.out]
              refine amp_bad _ ?_
              rw [Hcf.out.1]
              by_cases he : en = true
              · refine Or.inr fun k hk hh => hgood ⟨he, k, hk, hh⟩
              · exact Or.inl (by simpa using he)))
            by_cases he : en = true
            · subst he
              have hno : has (mapC 5) (.string nmL) = false := map_no nmL (fun k hk hh => hgood ⟨rfl, k, hk, hh⟩)
              clear hgood
              go_wp2_with fail
              refine HC.out.mono ?_
              rintro e w2 ⟨rfl, hb2, rfl⟩
              have hbW := HH.out.2.2.1.trans (hb2.mono (by omega))
              have hmap2 := map_below HM.out.1 hbW
              go_wp2_with (at_lookup; refine wpList_lookup_own_ok_int _ rfl _ _ 132 rfl 9 21 .i32 law Tryd.underlying132 Tryd.underlying21 (zeroRune _) w.heap.size 5 (mapC 5) rfl hmap2 _ _ rfl Hkey.out ?_)
              intro cc _ _
              go_wp2_with fail
              go_ret2
              exact ⟨Or.inr ⟨Hn.out, rfl⟩, HM.out.2.trans (hbW.mono hsz0)⟩
            · have he' : en = false := by simpa using he
              subst he'
              clear hgood he
              go_wp2_with fail
              refine HC.out.mono ?_
              rintro e w2 ⟨rfl, hb2, rfl⟩
              have hbW := HH.out.2.2.1.trans (hb2.mono (by omega))
              have hmap2 := map_below HM.out.1 hbW
              go_wp2_with (at_lookup; refine wpList_lookup_own_ok_int _ rfl _ _ 132 rfl 9 21 .i32 law Tryd.underlying132 Tryd.underlying21 (zeroRune _) w.heap.size 5 (mapC 5) rfl hmap2 _ _ rfl Hkey.out ?_)
              intro cc _ _
              go_wp2_with fail
              go_ret2
              exact ⟨Or.inr ⟨Hn.out, rfl⟩, HM.out.2.trans (hbW.mono hsz0)⟩
        · have hr1 : (((Utf8.decode s pos).1 : Int) == 60) = false := by
            rw [beq_eq_false_iff_ne]
            by_cases ha : (s[pos]'hp).toNat < 128
            · rw [decode_ascii s pos hp ha]
              intro h
              exact h60 (byte_of (n := 60) (by exact_mod_cast h) (by decide))
            · have := (decode_high s pos hp (by omega)).1
              omega
          have hr2 : (((Utf8.decode s pos).1 : Int) != 38) = true := by
            rw [bne_iff_ne]
            by_cases ha : (s[pos]'hp).toNat < 128
            · rw [decode_ascii s pos hp ha]
              intro h
              exact h38 (byte_of (n := 38) (by exact_mod_cast h) (by decide))
            · have := (decode_high s pos hp (by omega)).1
              omega
          have hnx : ∀ ty, (Instr.next (.pointer (some ⟨w1.heap.size + 1, 0, none⟩)) true ty).run Tryd.prog wr = _ := fun ty => Lib.run_next_any_at wr (w1.heap.size + 1) s pos ty hit hp
          have Hne := hide (show _ ∧ _ from ⟨h60, h38⟩)
          clear h60 h38
          go_wp2_with fail
          refine ⟨⟨pos + (Utf8.decode s pos).2, c, acc, hw2, hcs, rfl, HH.out.1, HH.out.2.1, HH.out.2.2.1, HH.out.2.2.2.2, ?_, fun j h h1 h2 => HQ.out.2 j h (by omega) h2, hal⟩, ?_⟩
          · intro j h h1 h2
            rcases Nat.lt_or_ge j pos with h3 | h3
            · exact HQ.out.1 j h h1 h3
            · rcases Nat.eq_or_lt_of_le h3 with h4 | h4
              · subst h4
                exact Hne.out
              · obtain ⟨_, h5⟩ := decode_cont s pos j h4 h2
                have h6 := plain_high h5
                exact ⟨h6.2.1, h6.1⟩
          · simp only [World.iterPos, HH.out.2.1, HH.out.2.2.2.1]
            omega
    · have hnx : ∀ ty, (Instr.next (.pointer (some ⟨w1.heap.size + 1, 0, none⟩)) true ty).run Tryd.prog wr = _ := fun ty => Lib.run_next_end_at wr (w1.heap.size + 1) s pos ty hit hp
      have HI := hide hI
      have HF := hide (show unesc s.data.toList = some (acc ++ s.data.toList.drop c) by
        have h1 := unesc_run (s.data.toList.drop c) [] (by
          have h2 := quiet_list (s := s) (c := c) (pos := s.size) (fun j h h1 h2 => hq1 j h h1 (by omega)) (Nat.le_refl _)
          rw [List.take_of_length_le (by rw [List.length_drop, size_list]; omega)] at h2
          exact h2)
        rw [hacc]
        rw [List.append_nil] at h1
        rw [h1, unesc_nil]
        simp)
      clear hI hacc hq1 hq2
      go_wp2_with fail
      refine (writeString w1.heap.size w1.heap.size _ _ _ HI.out (by rw [Lib.byteCells_length, ← size_list, ext_list, List.length_take, List.length_drop, size_list]; omega) (by omega)).mono ?_
      rintro e w2 ⟨rfl, hI4, hb2, hk2⟩
      have HI5 := hide (show Lib.IsBuilderF 48 5 w1.heap.size w1.heap.size (Lib.byteCells (acc ++ s.data.toList.drop c)) w2 by
        rw [Lib.byteCells_append]
        refine Or.inr ?_
        have hI5 := hI4
        rw [show Lib.strCells (s.extract c s.size) = Lib.byteCells (s.data.toList.drop c) by
          unfold Lib.strCells; rw [ext_list, List.take_of_length_le (by rw [List.length_drop, size_list]; omega)]; rfl] at hI5
        exact hI5)
      clear hI4 hk2
      have hsz2 : w1.heap.size ≤ w2.heap.size := by have := hb2.size; omega
      obtain ⟨aF, haF⟩ : ∃ aF, aF = acc ++ s.data.toList.drop c := ⟨_, rfl⟩
      rw [← haF] at HI5 HF
      clear haF
      go_wp2_with fail
      refine (builderString w1.heap.size w1.heap.size aF _ HI5.out hsz2).mono ?_
      rintro e w3 ⟨rfl, _, hb3, _⟩
      have Hb := hide (HM.out.2.trans (((hbw.trans hb2).trans hb3).mono hsz0))
      go_wp2_with fail
      go_ret2
      exact ⟨Or.inl ⟨aF, HF.out, rfl⟩, Hb.out⟩
end Go.Proofs.YthmidlmknkbdaaaDoor
