/- The document's parser: a tag. The document's parser: what a byte is put with. -/
import Derived.Test.YthmidlmknkbdaaaDoorWD
import Derived.Test.YthmidlmknkbdaaaDoorWE
import Derived.Test.YthmidlmknkbdaaaDoorWF
namespace Go.Proofs.YthmidlmknkbdaaaDoor.Xm
open Go.RowKit

/-- A tag that is a beginning, as the document's parser takes it. -/
theorem rfBegin_any (base p bt : Nat) (st st' : PS) (vw vo : Value) (nm : ByteArray) (al : List AttrL) (ends : Bool) (toks : List Tok) (w : World) (hP : IsF base p st vw vo w) (hn : nmB nm.data.toList = true) (hal : ∀ a ∈ al, nmB a.1 = true) (hl : (60 :: (nm.data.toList ++ (atsB al ++ endsB ends)) ++ [62]).length ≤ 2048) (hbt : bt ≤ w.heap.size)
    (h : beginP { st with begun := true } nm (toB al) ends = .ok (st', toks)) :
    Calls Tryd.prog 62 #[.pointer (some ⟨p, 0, none⟩), .string ⟨(60 :: (nm.data.toList ++ (atsB al ++ endsB ends)) ++ [62]).toArray⟩] w fun e w' => RfEnds bt base p { st' with begun := st.begun } vw toks w e w' := by
  have hb4 : base ≤ w.heap.size := Nat.le_trans hP.1 (Nat.le_of_lt hP.lt)
  unfold beginP at h
  split at h
  · cases h
  rename_i h1
  split at h
  · cases h
  rename_i h2
  split at h
  · cases h
  rename_i h3
  split at h
  · cases h
  rename_i h4
  have h8 : al.length ≤ 8 := by simp [toB] at h2; omega
  have hno : NoRep (toB al) := Classical.byContradiction fun hh => h3 ((repB_iff _).1 hh)
  have h4' : st.op.length < 8 := by
    have h4' : ¬ 8 ≤ st.op.length := h4
    omega
  have h1' : st.op.length = 0 → st.rooted = false := fun h0 => by
    cases hr : st.rooted with
    | false => rfl
    | true => exact absurd ⟨h0, hr⟩ h1
  cases ends with
  | true =>
    cases h
    rcases Nat.eq_zero_or_pos st.op.length with h0 | h0
    · exact rfBegin_a0 base p bt st vw vo nm al w hP hn hal hl hbt hb4 h8 hno h0 (h1' h0)
    · exact rfBegin_a1 base p bt st vw vo nm al w hP hn hal hl hbt hb4 h8 hno h0 h4'
  | false =>
    cases h
    by_cases hae : al = []
    · rcases Nat.eq_zero_or_pos st.op.length with h0 | h0
      · exact rfBegin_b0 base p bt st vw vo nm al w hP hn hal hl hbt hb4 h8 hno h0 (h1' h0) hae
      · exact rfBegin_b1 base p bt st vw vo nm al w hP hn hal hl hbt hb4 h8 hno h0 h4' hae
    · rcases Nat.eq_zero_or_pos st.op.length with h0 | h0
      · exact rfBegin_c0 base p bt st vw vo nm al w hP hn hal hl hbt hb4 h8 hno h0 (h1' h0) hae
      · exact rfBegin_c1 base p bt st vw vo nm al w hP hn hal hl hbt hb4 h8 hno h0 h4' hae
theorem rfEnd_ok (base p bt : Nat) (st st' : PS) (vw vo : Value) (nm : ByteArray) (toks : List Tok) (w : World) (hP : IsF base p st vw vo w) (hn : nmB nm.data.toList = true) (hbt : bt ≤ w.heap.size) (hol : st.op.length ≤ 1000) (h : endP { st with begun := true } nm = .ok (st', toks)) :
    Calls Tryd.prog 61 #[.pointer (some ⟨p, 0, none⟩), .string ⟨(60 :: (47 :: nm.data.toList) ++ [62]).toArray⟩] w fun e w' => RfEnds bt base p { st' with begun := st.begun } vw toks w e w' := by
  unfold endP at h
  split at h
  · rename_i h1
    cases h
    refine (rfEnd_any base p bt st vw vo nm w hP hn (by rw [size_lst]; exact (nmB_len hn).2) hbt hol h1).mono ?_
    rintro e w' ⟨v, vo', rfl, hE, hF, hO⟩
    exact ⟨v, _, vo', rfl, rfl, hE, hF, hO⟩
  · cases h
set_option maxRecDepth 100000 in
set_option maxHeartbeats 2000000 in
theorem rfTagEnd (p : Nat) (s : ByteArray) (w : World) (any : Bool) (R : World → Ending → World → Prop) (hp : p < w.heap.size) (ha : w.cell? ⟨p, 4, none⟩ = some (.bool any)) (hz : s.size ≤ 2048) (h3 : 3 ≤ s.size) (hT : Tabs w) (_h4 : 4 ≤ w.heap.size) (hch : CharsOk s.data.toList) (h1 : 1 < s.size) (n33 : s[1]'h1 ≠ 33) (n63 : s[1]'h1 ≠ 63) (h47 : s[1]'h1 = 47)
    (hc : ∀ w1, Below w.heap.size w w1 → Calls Tryd.prog 61 #[.pointer (some ⟨p, 0, none⟩), .string s] w1 (fun e w' => ∃ v, e = .returned (.tuple #[v, .int .i64 0]) ∧ R w e w')) :
    Calls Tryd.prog 43 #[.pointer (some ⟨p, 0, none⟩), .string s] w (fun e w' => R w e w') := by
  have hcc := refChars_any s w (by unfold maxLen; omega) hT
  have x5 : 8 ≤ s.size → ((s.extract 0 5).toList == [60, 63, 120, 109, 108]) = false := fun h8 => by
    rw [beq_eq_false_iff_ne]
    intro e
    have e2 : (s.extract 0 5).data.toList[1]? = some 63 := by rw [← ByteArray.toList_eq, e]; rfl
    rw [ext_list, List.drop_zero, List.getElem?_take_of_lt (by omega)] at e2
    refine n63 ?_
    have h9 : s.data.toList[1]? = some (s[1]'h1) := by simp [h1]; rfl
    rw [h9] at e2
    exact Option.some.inj e2
  have HC := hide (And.intro hcc (And.intro hch hc))
  have i1 : (2 : Int) < s.size := by omega
  have i2 : (1 : Int) < s.size := by omega
  have i3 : (5 : Int) ≤ s.size ∨ (s.size : Int) < 8 := by omega
  have m33 : (((s[1]'h1).toNat : Int) == 33) = false := by rw [beq_eq_false_iff_ne]; exact fun e => n33 (UInt8.toNat_inj.1 (by show _ = 33; omega))
  have m63 : (((s[1]'h1).toNat : Int) == 63) = false := by rw [beq_eq_false_iff_ne]; exact fun e => n63 (UInt8.toNat_inj.1 (by show _ = 63; omega))
  clear hcc hch hc n33 n63 
  have H5 := hide x5
  clear x5
  go_enter Tryd.func43, Tryd.ntmps43
  go_wp2_with fail
  refine HC.out.1.mono ?_
  rintro e w1 ⟨he, hb1⟩
  rw [he.yes HC.out.2.1]
  clear he
  have ha1 := (hb1.cell (p := ⟨p, 4, none⟩) hp).trans ha
  have HX := hide (HC.out.2.2 w1 hb1)
  clear hb1 ha HC
  cases any with
  | true =>
    go_wp2_with fail
    refine HX.out.mono ?_
    rintro e w2 ⟨v, rfl, hR⟩
    have HR := hide hR
    clear hR
    go_wp2_with fail
    first | exact HR.out | (go_ret2; exact HR.out)
  | false =>
    by_cases h8 : (8 : Int) ≤ s.size
    · have hx := H5.out (by omega)
      have i4 : (5 : Int) ≤ s.size := by omega
      go_wp2_with fail
      refine HX.out.mono ?_
      rintro e w2 ⟨v, rfl, hR⟩
      have HR := hide hR
      clear hR
      go_wp2_with fail
      first | exact HR.out | (go_ret2; exact HR.out)
    · go_wp2_with fail
      refine HX.out.mono ?_
      rintro e w2 ⟨v, rfl, hR⟩
      have HR := hide hR
      clear hR
      go_wp2_with fail
      first | exact HR.out | (go_ret2; exact HR.out)
set_option maxRecDepth 100000 in
set_option maxHeartbeats 2000000 in
theorem rfTagBegin (p : Nat) (s : ByteArray) (w : World) (any : Bool) (R : World → Ending → World → Prop) (hp : p < w.heap.size) (ha : w.cell? ⟨p, 4, none⟩ = some (.bool any)) (hz : s.size ≤ 2048) (h3 : 3 ≤ s.size) (hT : Tabs w) (_h4 : 4 ≤ w.heap.size) (hch : CharsOk s.data.toList) (h1 : 1 < s.size) (n33 : s[1]'h1 ≠ 33) (n63 : s[1]'h1 ≠ 63) (h47 : s[1]'h1 ≠ 47)
    (hc : ∀ w1, Below w.heap.size w w1 → Calls Tryd.prog 62 #[.pointer (some ⟨p, 0, none⟩), .string s] w1 (fun e w' => ∃ v, e = .returned (.tuple #[v, .int .i64 0]) ∧ R w e w')) :
    Calls Tryd.prog 43 #[.pointer (some ⟨p, 0, none⟩), .string s] w (fun e w' => R w e w') := by
  have hcc := refChars_any s w (by unfold maxLen; omega) hT
  have x5 : 8 ≤ s.size → ((s.extract 0 5).toList == [60, 63, 120, 109, 108]) = false := fun h8 => by
    rw [beq_eq_false_iff_ne]
    intro e
    have e2 : (s.extract 0 5).data.toList[1]? = some 63 := by rw [← ByteArray.toList_eq, e]; rfl
    rw [ext_list, List.drop_zero, List.getElem?_take_of_lt (by omega)] at e2
    refine n63 ?_
    have h9 : s.data.toList[1]? = some (s[1]'h1) := by simp [h1]; rfl
    rw [h9] at e2
    exact Option.some.inj e2
  have HC := hide (And.intro hcc (And.intro hch hc))
  have i1 : (2 : Int) < s.size := by omega
  have i2 : (1 : Int) < s.size := by omega
  have i3 : (5 : Int) ≤ s.size ∨ (s.size : Int) < 8 := by omega
  have m33 : (((s[1]'h1).toNat : Int) == 33) = false := by rw [beq_eq_false_iff_ne]; exact fun e => n33 (UInt8.toNat_inj.1 (by show _ = 33; omega))
  have m63 : (((s[1]'h1).toNat : Int) == 63) = false := by rw [beq_eq_false_iff_ne]; exact fun e => n63 (UInt8.toNat_inj.1 (by show _ = 63; omega))
  have m47 : (((s[1]'h1).toNat : Int) == 47) = false := by rw [beq_eq_false_iff_ne]; exact fun e => h47 (UInt8.toNat_inj.1 (by show _ = 47; omega))
  clear hcc hch hc n33 n63 h47
  have H5 := hide x5
  clear x5
  go_enter Tryd.func43, Tryd.ntmps43
  go_wp2_with fail
  refine HC.out.1.mono ?_
  rintro e w1 ⟨he, hb1⟩
  rw [he.yes HC.out.2.1]
  clear he
  have ha1 := (hb1.cell (p := ⟨p, 4, none⟩) hp).trans ha
  have HX := hide (HC.out.2.2 w1 hb1)
  clear hb1 ha HC
  cases any with
  | true =>
    go_wp2_with fail
    refine HX.out.mono ?_
    rintro e w2 ⟨v, rfl, hR⟩
    have HR := hide hR
    clear hR
    go_wp2_with fail
    first | exact HR.out | (go_ret2; exact HR.out)
  | false =>
    by_cases h8 : (8 : Int) ≤ s.size
    · have hx := H5.out (by omega)
      have i4 : (5 : Int) ≤ s.size := by omega
      go_wp2_with fail
      refine HX.out.mono ?_
      rintro e w2 ⟨v, rfl, hR⟩
      have HR := hide hR
      clear hR
      go_wp2_with fail
      first | exact HR.out | (go_ret2; exact HR.out)
    · go_wp2_with fail
      refine HX.out.mono ?_
      rintro e w2 ⟨v, rfl, hR⟩
      have HR := hide hR
      clear hR
      go_wp2_with fail
      first | exact HR.out | (go_ret2; exact HR.out)
theorem rfTag_any (base p bt : Nat) (st st' : PS) (vw vo : Value) (l : List UInt8) (toks : List Tok) (w : World) (hP : IsF base p st vw vo w) (hl : l.length ≤ 2048) (hT : Tabs w) (h4 : 4 ≤ w.heap.size) (hbt : bt ≤ w.heap.size) (hol : st.op.length ≤ 1000) (hpr : PrTag l) (h : tagL st l = .ok (st', toks)) :
    Calls Tryd.prog 43 #[.pointer (some ⟨p, 0, none⟩), .string ⟨l.toArray⟩] w fun e w' => RfEnds bt base p { st' with begun := st.begun } vw toks w e w' := by
  have hcell := hP.cells.2.2.2.2.1
  rcases hpr with ⟨nm, al, ends, hn, ha, rfl⟩ | ⟨nm, hn, rfl⟩
  · rw [tag_any ends hn ha] at h
    obtain ⟨b, t, hbt', hbb⟩ := nm_head (rest := (atsB al ++ endsB ends) ++ [62]) hn
    have hb := nm_byte hbb
    have he : 60 :: (nm ++ (atsB al ++ endsB ends)) ++ [62] = 60 :: b :: t := by
      rw [← hbt']
      simp
    have hch : CharsOk (60 :: (nm ++ (atsB al ++ endsB ends)) ++ [62]) := by
      have := chars_begin ends hn ha
      simpa using this
    have hz3 : 3 ≤ (60 :: (nm ++ (atsB al ++ endsB ends)) ++ [62]).length := by have := (nmB_len hn).1; simp; omega
    have h1 : 1 < (⟨(60 :: (nm ++ (atsB al ++ endsB ends)) ++ [62]).toArray⟩ : ByteArray).size := by rw [mk_size]; omega
    have hb1 : (⟨(60 :: (nm ++ (atsB al ++ endsB ends)) ++ [62]).toArray⟩ : ByteArray)[1]'h1 = b := by
      rw [mk_get]
      simp only [he]
      rfl
    refine rfTagBegin p _ w st.begun (fun w e w' => RfEnds bt base p { st' with begun := st.begun } vw toks w e w') hP.lt hcell (by rw [mk_size]; exact hl) (by rw [mk_size]; exact hz3) hT h4 (by rw [arr_list]; exact hch) h1 (by rw [hb1]; exact hb.2.2.2.2.2.2.2.2.1) (by rw [hb1]; exact hb.2.2.2.2.2.2.2.2.2.1) (by rw [hb1]; exact hb.2.2.2.2.2.2.2.1) (fun w1 hb1 => ?_)
    have hcall := rfBegin_any base p bt st st' vw vo ⟨nm.toArray⟩ al ends toks w1 (hP.below hb1) (by rw [arr_list]; exact hn) (fun a hx => (ha a hx).1) (by rw [arr_list]; exact hl) (Nat.le_trans hbt hb1.size) h
    rw [arr_list] at hcall
    refine hcall.mono ?_
    rintro e w' ⟨v, l', vo', rfl, h5, h6, h7, h8⟩
    exact ⟨v, rfl, v, l', vo', rfl, h5, h6, h7, (Only.of_below hb1 (Nat.le_of_lt hP.lt)).trans h8⟩
  · rw [tag_ending hn] at h
    have hch : CharsOk (60 :: (47 :: nm) ++ [62]) := by
      have e : 60 :: (47 :: nm) ++ [62] = [60, 47] ++ (nm ++ [62]) := by simp
      rw [e, charsOk_asc _ _ (by decide), chars_nm hn]
      exact (charsOk_asc [62] [] (by decide)).2 charsOk_nil
    have hz3 : 3 ≤ (60 :: (47 :: nm) ++ [62]).length := by simp
    have h1 : 1 < (⟨(60 :: (47 :: nm) ++ [62]).toArray⟩ : ByteArray).size := by rw [mk_size]; omega
    have hb1 : (⟨(60 :: (47 :: nm) ++ [62]).toArray⟩ : ByteArray)[1]'h1 = 47 := rfl
    refine rfTagEnd p _ w st.begun (fun w e w' => RfEnds bt base p { st' with begun := st.begun } vw toks w e w') hP.lt hcell (by rw [mk_size]; exact hl) (by rw [mk_size]; exact hz3) hT h4 (by rw [arr_list]; exact hch) h1 (by rw [hb1]; decide) (by rw [hb1]; decide) hb1 (fun w1 hb1 => ?_)
    have hcall := rfEnd_ok base p bt st st' vw vo ⟨nm.toArray⟩ toks w1 (hP.below hb1) (by rw [arr_list]; exact hn) (Nat.le_trans hbt hb1.size) hol h
    rw [arr_list] at hcall
    refine hcall.mono ?_
    rintro e w' ⟨v, l', vo', rfl, h5, h6, h7, h8⟩
    exact ⟨v, rfl, v, l', vo', rfl, h5, h6, h7, (Only.of_below hb1 (Nat.le_of_lt hP.lt)).trans h8⟩
end Go.Proofs.YthmidlmknkbdaaaDoor.Xm
namespace Go.Proofs.YthmidlmknkbdaaaDoor.Xm
open Go.RowKit

theorem byteC_one (l : List UInt8) : ∀ u ∈ Lib.byteCells l, u.oneCell' = true := by
  intro u hu
  obtain ⟨x, _, h⟩ := List.mem_map.1 hu
  rw [← h]
  rfl
/-- Bytes are put behind bytes. -/
theorem append_bys (w : World) {ops : Array Oper} {rest : List Oper} {o : Oper} {a : Act} {Q : Exit → Act → World → Prop} (hg : o.guard = none) (s x : Operand)
    (hop : o.op = Op.call { callee := Callee.builtin Builtin.append, args := #[s, x], argTypes := #[33, 33] }) (base b2 : Nat) (v v2 : Value) (xs l2 : List UInt8) (hs : a.eval s = v) (hx : a.eval x = v2) (hE : w.ownsRow base 5 1 v xs.length (Lib.byteCells xs)) (hE2 : w.ownsRow b2 5 1 v2 l2.length (Lib.byteCells l2))
    (hl : xs.length ≤ 200000) (hl2 : l2.length ≤ 200000) (hb : base ≤ w.heap.size)
    (hK : ∀ v' w', w'.ownsRow base 5 1 v' (xs ++ l2).length (Lib.byteCells (xs ++ l2)) → w.grownBy w' v.ownBlock → wpList Tryd.prog ops Q rest (a.put o.dst v') w') : wpList Tryd.prog ops Q (o :: rest) a w := by
  obtain ⟨i, hi, hz0, hz1, hz2⟩ := info_parts infoByte
  obtain ⟨h21, ⟨e2, hn2⟩ | ⟨g, cap, cur, e2, hbg, hgg, hcc, hm, hsz, htk⟩⟩ := id hE2
  · have hl0 : l2 = [] := List.eq_nil_of_length_eq_zero hn2
    subst hl0
    subst e2
    obtain ⟨b, c, rfl⟩ := own_shape hE
    have hcap : (b = none → xs.length = 0 ∧ c = 0) ∧ xs.length ≤ c := by
      obtain ⟨_, ⟨e1, hn1⟩ | ⟨g, cap, cur, e1, _, _, hcc, _⟩⟩ := id hE
      · have e1' : b = none ∧ xs.length = 0 ∧ c = 0 := by simpa using e1
        exact ⟨fun _ => e1'.2, by omega⟩
      · have e1' : b = some ⟨g, 0, none⟩ ∧ c = cap := by simpa using e1
        exact ⟨fun h => absurd (e1'.1.symm.trans h) (by simp), by rw [e1'.2]; exact hcc⟩
    have hrun := run_append_none (P := Tryd.prog) w 33 o.type 5 i Tryd.underlying33 hi b xs.length c hcap.1 hcap.2
    refine wpList_plain hg fun K hK' => ?_
    unfold Oper.wp
    simp [execOp, hop, resolve, invoke, builtin, hs, hx, hrun, Result.andThen]
    exact hK' _ _ (hK _ w (by simpa using hE) ⟨rfl, rfl, rfl, Nat.le_refl _, fun _ _ _ => rfl⟩)
  · subst e2
    refine wpList_append_own w hg s x 33 hop base 5 i _ 1 1 Tryd.underlying33 hi hz0 hz1 hz2 rfl (by decide) v xs.length (Lib.byteCells xs) hs hE ⟨g, 0, none⟩ l2.length cap (Lib.byteCells l2) hx (by simp [Lib.byteCells]) (hE2.cells rfl) (byteC_one l2) (by unfold maxLen; omega) (by omega) hb ?_
    intro v' w' ho hgr _
    exact hK v' w' (by rw [List.length_append, show Lib.byteCells (xs ++ l2) = Lib.byteCells xs ++ Lib.byteCells l2 by simp [Lib.byteCells]]; exact ho) hgr
theorem conv_rf {w : World} {base : Nat} {v : Value} {l : List UInt8} (h : w.ownsRow base 5 1 v l.length (Lib.byteCells l)) : (convert 33 9 v).run Tryd.prog w = .ok (.string ⟨l.toArray⟩) w := by
  obtain ⟨h1, ⟨rfl, h2⟩ | ⟨g, cap, cur, rfl, x1, x2, x3, x4, x5, x6⟩⟩ := h
  · have hl : l = [] := List.eq_nil_of_length_eq_zero h2
    subst hl
    exact run_convert_bytes_nil (P := Tryd.prog) w 33 5 Tryd.underlying33 Tryd.underlying5 0 0 9 Tryd.underlying9
  · refine run_convert_bytes_back (P := Tryd.prog) w _ 9 5 ⟨g, 0, none⟩ cap l Tryd.underlying33 Tryd.underlying5 Tryd.underlying9 (fun j hj => ?_)
    have hx : (Lib.byteCells l)[j]? = some (.int .u8 (l[j].toNat : Int)) := by simp [Lib.byteCells, hj]
    rw [← x6, List.getElem?_take_of_lt (by omega)] at hx
    rw [Addr.add_mid]
    simp [World.cell?, x2]
    simpa using hx
/-- How a byte ends that is right: the tokens, and the parser behind it. -/
def OneOk (bt base p : Nat) (st' : PS) (toks : List Tok) (w : World) (e : Ending) (w' : World) : Prop := ∃ v l vw' vo', e = .returned (.tuple #[v, .int .i64 0]) ∧ l.map (·.1) = toks ∧ ElRow bt w' v l ∧ IsF base p st' vw' vo' w' ∧ Only p w w'
/-- How one ends that is too many. -/
def OneErr (base p : Nat) (w : World) (e : Ending) (w' : World) : Prop := ∃ st' vw' vo', e = .returned (.tuple #[.slice none 0 0, .int .i64 5]) ∧ IsF base p st' vw' vo' w' ∧ Only p w w'
theorem nil_row (bt : Nat) (w : World) : ElRow bt w (.slice none 0 0) [] := ⟨World.ownsRow_nil _ _ _ _, fun x hx => by simp at hx⟩
theorem tagL_begun {st st2 : PS} {l : List UInt8} {toks : List Tok} (hpr : PrTag l) (h : tagL st l = .ok (st2, toks)) : st2.begun = true ∧ toks.length ≤ 2 := by
  rcases hpr with ⟨nm, al, ends, hn, ha, rfl⟩ | ⟨nm, hn, rfl⟩
  · rw [tag_any ends hn ha] at h
    unfold beginP at h
    split at h
    · cases h
    split at h
    · cases h
    split at h
    · cases h
    split at h
    · cases h
    split at h
    · cases h
      exact ⟨rfl, by simp⟩
    · cases h
      exact ⟨rfl, by simp⟩
  · rw [tag_ending hn] at h
    unfold endP at h
    split at h
    · cases h
      exact ⟨rfl, by simp⟩
    · cases h
theorem inTag_first {l : List UInt8} (c : UInt8) : (inTagL (l ++ [c]) = true → ∃ t, l ++ [c] = 60 :: t) ∧ (inTagL (l ++ [c]) = false → ∃ a t, l ++ [c] = a :: t ∧ a ≠ 60) := by
  cases l with
  | nil => exact ⟨fun h => ⟨[], by rw [show c = 60 from eq_of_beq h]; rfl⟩, fun h => ⟨c, [], rfl, by simpa [inTagL] using h⟩⟩
  | cons a t => exact ⟨fun h => ⟨t ++ [c], by rw [show a = 60 from eq_of_beq h]; rfl⟩, fun h => ⟨a, t ++ [c], rfl, by simpa [inTagL] using h⟩⟩
end Go.Proofs.YthmidlmknkbdaaaDoor.Xm
