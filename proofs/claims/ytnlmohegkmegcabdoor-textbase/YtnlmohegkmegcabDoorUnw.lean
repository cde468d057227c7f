/- Unbase64: what is taken is just what is made. -/
import Derived.Test.YtnlmohegkmegcabDoorUn
import Derived.Test.YtnlmohegkmegcabDoorB64w
import Derived.Test.YtnlmohegkmegcabDoorShelf
import Derived.Test.YtnlmohegkmegcabDoorName
namespace Go.Proofs.YtnlmohegkmegcabDoor
open Go.RowKit

/-- What Unbase64 answers. -/
def UnEnds (s : List UInt8) (e : Ending) : Prop := (∃ l, b64 l = s ∧ e = .returned (.tuple #[.string ⟨l.toArray⟩, .int .i64 0])) ∨ ((∀ l, b64 l ≠ s) ∧ e = .returned (.tuple #[.string ⟨#[]⟩, .int .i64 3]))

theorem not_b64 (s t : ByteArray) (ht : t.data.toList = Lib.trimRightB s.data.toList 61) (k : Nat) (hk : k < t.size) (h : dv (t[k]'hk).toNat = none) : ∀ l, b64 l ≠ s.data.toList := by
  intro l hl
  rw [← hl, trim_b64] at ht
  have h1 := list_at t k hk
  rw [ht, List.getElem?_map, Option.map_eq_some_iff] at h1
  obtain ⟨v, hv, h2⟩ := h1
  rw [← h2, (dv_dg v (vals_lt l v (List.mem_of_getElem? hv))).1] at h
  cases h
/-- What waits, behind the digits vs. -/
def State (vs : List Nat) (b h : Nat) (out : List UInt8) : Prop := vs.foldl dstep (0, 0, []) = (b, h, out) ∧ (h = 0 ∨ h = 2 ∨ h = 4 ∨ h = 6) ∧ b < 2 ^ h ∧ out.length ≤ vs.length
theorem State.next {vs : List Nat} {b h : Nat} {out : List UInt8} (hs : State vs b h out) (d : Nat) : (vs ++ [d]).foldl dstep (0, 0, []) = dstep (b, h, out) d := by
  rw [List.foldl_append, hs.1]; rfl
theorem own_iter {w : World} {B : Nat} {v : Value} {n : Nat} {xs : List Value} (h : w.ownsRow B 5 1 v n xs) {k : Nat} {s : ByteArray} {p : Nat} (hk : w.heap[k]? = some (.stringIter s p)) (p' : Nat) : (w.iterAt k s p').ownsRow B 5 1 v n xs := by
  refine ⟨h.1, ?_⟩
  rcases h.2 with hn | ⟨g, cap, cur, hv, hbg, hg, rest⟩
  · exact .inl hn
  · refine .inr ⟨g, cap, cur, hv, hbg, (Lib.iterAt_other w k g s p' (fun e => ?_)).trans hg, rest⟩
    rw [e, hk] at hg
    cases hg
theorem own_ne {w : World} {B : Nat} {v : Value} {n : Nat} {xs : List Value} (h : w.ownsRow B 5 1 v n xs) {k : Nat} {s : ByteArray} {p : Nat} (hk : w.heap[k]? = some (.stringIter s p)) : some k ≠ v.ownBlock := by
  intro e
  rcases h.2 with ⟨hn, _⟩ | ⟨g, cap, cur, hv, hbg, hg, rest⟩
  · subst hn; cases e
  · subst hv
    cases e
    rw [hk] at hg
    cases hg

set_option maxHeartbeats 4000000 in
theorem unb_core (s t : ByteArray) (ht : t.data.toList = Lib.trimRightB s.data.toList 61) (w : World) (hs : s.size ≤ 400000) (hts : t.size ≤ s.size) : Calls Tryd.prog 21 #[.string s] w fun e w' => UnEnds s.data.toList e ∧ Below w.heap.size w w' := by
  have HT := hide (show ∀ w, Calls Tryd.prog 36 #[.string s, .string ⟨#[61]⟩] w fun e w' => e = .returned (.string t) ∧ w' = w from fun w => by
    have := trimRight s 61 (by decide) w (by omega)
    rw [← ht] at this
    exact this)
  have Ht := hide ht
  clear ht
  obtain ⟨i0, hi, hz0, hz1, hz2⟩ := byteInfo
  have H := hide (show _ ∧ _ ∧ _ ∧ _ from ⟨hi, hz0, hz1, hz2⟩)
  clear hi hz0 hz1 hz2
  go_enter Tryd.func21, Tryd.ntmps21
  go_wp2_with fail
  refine (HT.out _).mono ?_
  rintro e w' ⟨rfl, hw'⟩
  subst hw'
  go_wp2_with fail
  go_loopw [4, 5, 6] (fun bv bt hd wr => ∃ (k : Nat) (vs : List Nat) (b h : Nat) (out : List UInt8), k ≤ t.size ∧ wr.heap[w'.heap.size]? = some (.stringIter t k) ∧ Below w'.heap.size w' wr ∧ vs.length = k ∧ State vs b h out ∧ (∀ j (hj : j < t.size), j < k → dv (t[j]'hj).toNat = vs[j]?) ∧ bt = .int .u32 b ∧ hd = .int .i64 h ∧ wr.ownsRow w'.heap.size 5 1 bv out.length (Lib.byteCells out)) (fun _ _ _ wr => t.size - wr.iterPos w'.heap.size)
  case atStart =>
    refine ⟨0, [], 0, 0, [], Nat.zero_le _, ?_, (Below.refl _ w').alloc (Nat.le_refl _) _, rfl, ⟨rfl, Or.inl rfl, by decide, Nat.le_refl _⟩, fun j hj h => by omega, rfl, rfl, ⟨rfl, Or.inl ⟨rfl, rfl⟩⟩⟩
    have := World.iter_heap w' t 0
    simpa using this
  case round =>
    obtain ⟨k, vs, b, h, out, hk, hit, hbw, hvs, hst, hpre, rfl, rfl, hown⟩ := hrel
    have hsz : w'.heap.size < wr.heap.size := (Array.getElem?_eq_some_iff.1 hit).1
    by_cases hp : k < t.size
    · by_cases ha : (t[k]'hp).toNat < 128
      · have hnx : ∀ ty, (Instr.next (.pointer (some ⟨w'.heap.size, 0, none⟩)) true ty).run Tryd.prog wr = _ := fun ty => Lib.run_next_ascii_at wr w'.heap.size t k ty hit hp ha
        have hbw2 := Lib.below_iterAt hbw (k := w'.heap.size) (Nat.le_refl _) t (k + 1)
        have hit2 := Lib.iterAt_heap wr w'.heap.size t k (k + 1) hit
        have hown2 := own_iter hown hit (k + 1)
        have hsz2 : w'.heap.size < (wr.iterAt w'.heap.size t (k + 1)).heap.size := by rw [Lib.iterAt_size]; exact hsz
        cases hdv : dv (t[k]'hp).toNat with
        | none =>
          have Hn := hide (not_b64 s t Ht.out k hp hdv)
          have Hb2 := hide hbw2
          have Hdv := hide hdv
          clear hst hpre hown hown2 hit2 hbw2 hdv
          go_wp2_with (go_at_call 37; refine (digit_no _ (by omega) Hdv.out _).mono ?_; rintro e w2 ⟨rfl, rfl⟩)
          go_ret2
          exact ⟨Or.inr ⟨Hn.out, rfl⟩, Hb2.out⟩
        | some d =>
          have hd64 := dv_lt hdv
          have Hdv := hide hdv
          have Hst := hide hst
          have HH := hide (show _ ∧ _ ∧ _ ∧ _ ∧ _ from ⟨hpre, hown2, hit2, hbw2, hit⟩)
          obtain ⟨_, hh, hbb, hol⟩ := hst
          clear hpre hown hown2 hit2 hbw2 hdv
          rcases hh with rfl | rfl | rfl | rfl
          · have hb1 : b < 1 := hbb
            have hor : bits BinOp.or IntKind.u32 ((b : Int) * 64) (d : Int) = (d : Int) := by
              rw [bits_join .u32 32 (by decide) wraps_u32 6 ((b : Int) * 64) (d : Int) (by omega) (by omega) (by omega) (by omega) (by omega) (by omega)]
              omega
            clear hbb
            go_wp2_with (go_at_call 37; refine (digit_yes _ d Hdv.out _).mono ?_; rintro e w2 ⟨rfl, rfl⟩)
            refine ⟨⟨k + 1, vs ++ [d], d, 6, out, hp, HH.out.2.2.1, HH.out.2.2.2.1, by rw [List.length_append, hvs]; rfl, ?_, ?_, rfl, by go_num, HH.out.2.1⟩, ?_⟩
            · refine ⟨?_, by omega, hd64, by rw [List.length_append]; show out.length ≤ vs.length + 1; omega⟩
              rw [Hst.out.next d]
              simp [dstep]
            · intro j hj hjk
              rcases Nat.lt_or_ge j k with h1 | h1
              · rw [HH.out.1 j hj h1, List.getElem?_append_left (by omega)]
              · obtain rfl : j = k := by omega
                rw [Hdv.out, List.getElem?_append_right (by omega), hvs]
                simp
            · simp only [World.iterPos, HH.out.2.2.1, HH.out.2.2.2.2]
              omega
          · have hb4 : b < 4 := hbb
            obtain ⟨m, hm⟩ : ∃ m, m = b * 64 + d := ⟨_, rfl⟩
            have hml : m < 256 := by omega
            have hor : bits BinOp.or IntKind.u32 ((b : Int) * 64) (d : Int) = (m : Int) := by
              rw [bits_join .u32 32 (by decide) wraps_u32 6 ((b : Int) * 64) (d : Int) (by omega) (by omega) (by omega) (by omega) (by omega) (by omega)]
              omega
            have hms : ((m : Int) ).toNat < 256 := by omega
            have hand : bits BinOp.and IntKind.u32 (m : Int) 0 = ((m % 1 : Nat) : Int) := by rw [show (0 : Int) = 2 ^ 0 - 1 by rfl, bits_mask .u32 32 (by decide) wraps_u32 0 (by decide) (m : Int) (by omega) (by omega)]; omega
            have Hm := hide hm
            have hWs : w'.heap.size ≤ (wr.iterAt w'.heap.size t (k + 1)).heap.size := Nat.le_of_lt hsz2
            have hba : Below (wr.iterAt w'.heap.size t (k + 1)).heap.size (wr.iterAt w'.heap.size t (k + 1)) ((wr.iterAt w'.heap.size t (k + 1)).alloc (.cells #[.int .u8 ((m : Int) )] 5)) := (Below.refl _ _).alloc (Nat.le_refl _) _
            have hown5 := own_below HH.out.2.1 hba
            have hb4' := HH.out.2.2.2.1.alloc hWs (.cells #[.int .u8 ((m : Int) )] 5)
            clear hm hba hbb
            go_wp2_with (first | (go_at_call 37; refine (digit_yes _ d Hdv.out _).mono ?_; rintro e w2 ⟨rfl, rfl⟩) | (at_builtin; refine wpList_append_lies _ rfl _ _ 33 rfl w'.heap.size 5 i0 (.int .u8 0) 1 1 Tryd.underlying33 H.out.1 H.out.2.1 H.out.2.2.1 H.out.2.2.2 rfl (by omega) _ out.length (Lib.byteCells out) rfl hown5 ⟨(wr.iterAt w'.heap.size t (k + 1)).heap.size, 0, none⟩ 1 1 [.int .u8 ((m : Int) )] rfl rfl ?c6 ?c7 (by omega) ?c8 ?c9 ?c10 _ rfl ?_))
            case c6 => intro j u hj; cases j with
              | zero => cases hj; simp [Addr.add]
              | succ j => simp at hj
            case c7 => intro u hu; simp at hu; subst hu; rfl
            case c8 => unfold maxLen; omega
            case c9 => omega
            case c10 => exact hb4'.size
            intro g cap w5 hown6 hgr6 _ _
            have hb5 := hb4'.grown hgr6 hb4'.size (fun k hk => own_lt hown5 k hk)
            have hit5 : w5.heap[w'.heap.size]? = some (.stringIter t (k + 1)) := by
              rw [hgr6.block w'.heap.size (by simp; omega) (own_ne HH.out.2.1 HH.out.2.2.1)]
              rw [Below.heap_alloc _ _ _ hsz2]
              exact HH.out.2.2.1
            clear hown5 hgr6 hb4'
            go_wp2_with fail
            refine ⟨⟨k + 1, vs ++ [d], m % 1, 0, out ++ [UInt8.ofNat (m / 1)], hp, hit5, hb5, by rw [List.length_append, hvs]; rfl, ?_, ?_, by go_num, by go_num, ?_⟩, ?_⟩
            · refine ⟨?_, by omega, Nat.mod_lt _ (by decide), by rw [List.length_append, List.length_append]; show out.length + 1 ≤ vs.length + 1; omega⟩
              rw [Hst.out.next d, Hm.out]
              simp [dstep, Nat.mod_one]
            · intro j hj hjk
              rcases Nat.lt_or_ge j k with h1 | h1
              · rw [HH.out.1 j hj h1, List.getElem?_append_left (by omega)]
              · obtain rfl : j = k := by omega
                rw [Hdv.out, List.getElem?_append_right (by omega), hvs]
                simp
            · rw [List.length_append, Lib.byteCells_append]
              have e : Lib.byteCells [UInt8.ofNat (m / 1)] = [.int .u8 ((m : Int) )] := by
                simp [Lib.byteCells]
                omega
              rw [e]
              exact hown6
            · simp only [World.iterPos, hit5, HH.out.2.2.2.2]
              omega
          · have hb4 : b < 16 := hbb
            obtain ⟨m, hm⟩ : ∃ m, m = b * 64 + d := ⟨_, rfl⟩
            have hml : m < 1024 := by omega
            have hor : bits BinOp.or IntKind.u32 ((b : Int) * 64) (d : Int) = (m : Int) := by
              rw [bits_join .u32 32 (by decide) wraps_u32 6 ((b : Int) * 64) (d : Int) (by omega) (by omega) (by omega) (by omega) (by omega) (by omega)]
              omega
            have hms : ((m : Int) / 4).toNat < 256 := by omega
            have hand : bits BinOp.and IntKind.u32 (m : Int) 3 = ((m % 4 : Nat) : Int) := by rw [show (3 : Int) = 2 ^ 2 - 1 by rfl, bits_mask .u32 32 (by decide) wraps_u32 2 (by decide) (m : Int) (by omega) (by omega)]; omega
            have Hm := hide hm
            have hWs : w'.heap.size ≤ (wr.iterAt w'.heap.size t (k + 1)).heap.size := Nat.le_of_lt hsz2
            have hba : Below (wr.iterAt w'.heap.size t (k + 1)).heap.size (wr.iterAt w'.heap.size t (k + 1)) ((wr.iterAt w'.heap.size t (k + 1)).alloc (.cells #[.int .u8 ((m : Int) / 4)] 5)) := (Below.refl _ _).alloc (Nat.le_refl _) _
            have hown5 := own_below HH.out.2.1 hba
            have hb4' := HH.out.2.2.2.1.alloc hWs (.cells #[.int .u8 ((m : Int) / 4)] 5)
            clear hm hba hbb
            go_wp2_with (first | (go_at_call 37; refine (digit_yes _ d Hdv.out _).mono ?_; rintro e w2 ⟨rfl, rfl⟩) | (at_builtin; refine wpList_append_lies _ rfl _ _ 33 rfl w'.heap.size 5 i0 (.int .u8 0) 1 1 Tryd.underlying33 H.out.1 H.out.2.1 H.out.2.2.1 H.out.2.2.2 rfl (by omega) _ out.length (Lib.byteCells out) rfl hown5 ⟨(wr.iterAt w'.heap.size t (k + 1)).heap.size, 0, none⟩ 1 1 [.int .u8 ((m : Int) / 4)] rfl rfl ?c6 ?c7 (by omega) ?c8 ?c9 ?c10 _ rfl ?_))
            case c6 => intro j u hj; cases j with
              | zero => cases hj; simp [Addr.add]
              | succ j => simp at hj
            case c7 => intro u hu; simp at hu; subst hu; rfl
            case c8 => unfold maxLen; omega
            case c9 => omega
            case c10 => exact hb4'.size
            intro g cap w5 hown6 hgr6 _ _
            have hb5 := hb4'.grown hgr6 hb4'.size (fun k hk => own_lt hown5 k hk)
            have hit5 : w5.heap[w'.heap.size]? = some (.stringIter t (k + 1)) := by
              rw [hgr6.block w'.heap.size (by simp; omega) (own_ne HH.out.2.1 HH.out.2.2.1)]
              rw [Below.heap_alloc _ _ _ hsz2]
              exact HH.out.2.2.1
            clear hown5 hgr6 hb4'
            go_wp2_with fail
            refine ⟨⟨k + 1, vs ++ [d], m % 4, 2, out ++ [UInt8.ofNat (m / 4)], hp, hit5, hb5, by rw [List.length_append, hvs]; rfl, ?_, ?_, by go_num, by go_num, ?_⟩, ?_⟩
            · refine ⟨?_, by omega, Nat.mod_lt _ (by decide), by rw [List.length_append, List.length_append]; show out.length + 1 ≤ vs.length + 1; omega⟩
              rw [Hst.out.next d, Hm.out]
              simp [dstep]
            · intro j hj hjk
              rcases Nat.lt_or_ge j k with h1 | h1
              · rw [HH.out.1 j hj h1, List.getElem?_append_left (by omega)]
              · obtain rfl : j = k := by omega
                rw [Hdv.out, List.getElem?_append_right (by omega), hvs]
                simp
            · rw [List.length_append, Lib.byteCells_append]
              have e : Lib.byteCells [UInt8.ofNat (m / 4)] = [.int .u8 ((m : Int) / 4)] := by
                simp [Lib.byteCells]
                omega
              rw [e]
              exact hown6
            · simp only [World.iterPos, hit5, HH.out.2.2.2.2]
              omega
          · have hb4 : b < 64 := hbb
            obtain ⟨m, hm⟩ : ∃ m, m = b * 64 + d := ⟨_, rfl⟩
            have hml : m < 4096 := by omega
            have hor : bits BinOp.or IntKind.u32 ((b : Int) * 64) (d : Int) = (m : Int) := by
              rw [bits_join .u32 32 (by decide) wraps_u32 6 ((b : Int) * 64) (d : Int) (by omega) (by omega) (by omega) (by omega) (by omega) (by omega)]
              omega
            have hms : ((m : Int) / 16).toNat < 256 := by omega
            have hand : bits BinOp.and IntKind.u32 (m : Int) 15 = ((m % 16 : Nat) : Int) := by rw [show (15 : Int) = 2 ^ 4 - 1 by rfl, bits_mask .u32 32 (by decide) wraps_u32 4 (by decide) (m : Int) (by omega) (by omega)]; omega
            have Hm := hide hm
            have hWs : w'.heap.size ≤ (wr.iterAt w'.heap.size t (k + 1)).heap.size := Nat.le_of_lt hsz2
            have hba : Below (wr.iterAt w'.heap.size t (k + 1)).heap.size (wr.iterAt w'.heap.size t (k + 1)) ((wr.iterAt w'.heap.size t (k + 1)).alloc (.cells #[.int .u8 ((m : Int) / 16)] 5)) := (Below.refl _ _).alloc (Nat.le_refl _) _
            have hown5 := own_below HH.out.2.1 hba
            have hb4' := HH.out.2.2.2.1.alloc hWs (.cells #[.int .u8 ((m : Int) / 16)] 5)
            clear hm hba hbb
            go_wp2_with (first | (go_at_call 37; refine (digit_yes _ d Hdv.out _).mono ?_; rintro e w2 ⟨rfl, rfl⟩) | (at_builtin; refine wpList_append_lies _ rfl _ _ 33 rfl w'.heap.size 5 i0 (.int .u8 0) 1 1 Tryd.underlying33 H.out.1 H.out.2.1 H.out.2.2.1 H.out.2.2.2 rfl (by omega) _ out.length (Lib.byteCells out) rfl hown5 ⟨(wr.iterAt w'.heap.size t (k + 1)).heap.size, 0, none⟩ 1 1 [.int .u8 ((m : Int) / 16)] rfl rfl ?c6 ?c7 (by omega) ?c8 ?c9 ?c10 _ rfl ?_))
            case c6 => intro j u hj; cases j with
              | zero => cases hj; simp [Addr.add]
              | succ j => simp at hj
            case c7 => intro u hu; simp at hu; subst hu; rfl
            case c8 => unfold maxLen; omega
            case c9 => omega
            case c10 => exact hb4'.size
            intro g cap w5 hown6 hgr6 _ _
            have hb5 := hb4'.grown hgr6 hb4'.size (fun k hk => own_lt hown5 k hk)
            have hit5 : w5.heap[w'.heap.size]? = some (.stringIter t (k + 1)) := by
              rw [hgr6.block w'.heap.size (by simp; omega) (own_ne HH.out.2.1 HH.out.2.2.1)]
              rw [Below.heap_alloc _ _ _ hsz2]
              exact HH.out.2.2.1
            clear hown5 hgr6 hb4'
            go_wp2_with fail
            refine ⟨⟨k + 1, vs ++ [d], m % 16, 4, out ++ [UInt8.ofNat (m / 16)], hp, hit5, hb5, by rw [List.length_append, hvs]; rfl, ?_, ?_, by go_num, by go_num, ?_⟩, ?_⟩
            · refine ⟨?_, by omega, Nat.mod_lt _ (by decide), by rw [List.length_append, List.length_append]; show out.length + 1 ≤ vs.length + 1; omega⟩
              rw [Hst.out.next d, Hm.out]
              simp [dstep]
            · intro j hj hjk
              rcases Nat.lt_or_ge j k with h1 | h1
              · rw [HH.out.1 j hj h1, List.getElem?_append_left (by omega)]
              · obtain rfl : j = k := by omega
                rw [Hdv.out, List.getElem?_append_right (by omega), hvs]
                simp
            · rw [List.length_append, Lib.byteCells_append]
              have e : Lib.byteCells [UInt8.ofNat (m / 16)] = [.int .u8 ((m : Int) / 16)] := by
                simp [Lib.byteCells]
                omega
              rw [e]
              exact hown6
            · simp only [World.iterPos, hit5, HH.out.2.2.2.2]
              omega
      · have hd := (decode_high t k hp (by omega)).1
        have hle := decode_le t k
        have hnx : ∀ ty, (Instr.next (.pointer (some ⟨w'.heap.size, 0, none⟩)) true ty).run Tryd.prog wr = _ := fun ty => Lib.run_next_any_at wr w'.heap.size t k ty hit hp
        have Hb2 := hide (Lib.below_iterAt hbw (k := w'.heap.size) (Nat.le_refl _) t (k + (Utf8.decode t k).2))
        have none1 : ∀ r : Nat, 128 ≤ r → dv r = none := fun r hr => by
          cases h1 : dv r with
          | none => rfl
          | some q => have := dv_ascii h1; omega
        have Hn := hide (not_b64 s t Ht.out k hp (none1 _ (by omega)))
        have Hdv := hide (none1 (Utf8.decode t k).1 hd)
        clear hst hpre hown none1 hd
        go_wp2_with (go_at_call 37; refine (digit_no _ hle Hdv.out _).mono ?_; rintro e w2 ⟨rfl, rfl⟩)
        go_ret2
        exact ⟨Or.inr ⟨Hn.out, rfl⟩, Hb2.out⟩
    · have hnx : ∀ ty, (Instr.next (.pointer (some ⟨w'.heap.size, 0, none⟩)) true ty).run Tryd.prog wr = _ := fun ty => Lib.run_next_end_at wr w'.heap.size t k ty hit hp
      have cv := conv_own hown
      have hol : out.length ≤ t.size := Nat.le_trans hst.2.2.2 (by omega)
      have HF := hide (show ∀ l, b64 l = s.data.toList → l = out from fun l hl => by
        have h1 : t.data.toList = (vals l).map dg := by rw [Ht.out, ← hl, trim_b64]
        have h2 : vs = vals l := by
          apply List.ext_getElem?
          intro j
          by_cases hj : j < t.size
          · have h3 := hpre j hj (by omega)
            have h4 := list_at t j hj
            rw [h1, List.getElem?_map, Option.map_eq_some_iff] at h4
            obtain ⟨v, hv, h5⟩ := h4
            rw [← h3, hv, ← h5, (dv_dg v (vals_lt l v (List.mem_of_getElem? hv))).1]
          · have h6 : (vals l).length = t.size := by rw [← size_list t, h1, List.length_map]
            rw [List.getElem?_eq_none (by omega), List.getElem?_eq_none (by omega)]
        have h7 := fold_vals l []
        rw [← h2, hst.1] at h7
        exact h7.symm)
      clear hst hpre hown
      go_wp2_with fail
      refine (base64_any ⟨out.toArray⟩ _ (by rw [← size_list]; show out.length ≤ _; omega)).mono ?_
      rintro e w3 ⟨rfl, hb3⟩
      have hb4 := hbw.trans (hb3.mono hbw.size)
      by_cases heq : b64 out = s.data.toList
      · have hE : (b64 out == s.toList) = true := by
          rw [ByteArray.toList_eq, beq_iff_eq]; exact heq
        have Heq := hide heq
        clear heq
        go_wp2_with fail
        go_ret2
        exact ⟨Or.inl ⟨out, Heq.out, rfl⟩, hb4⟩
      · have hE : (b64 out == s.toList) = false := by
          rw [ByteArray.toList_eq, beq_eq_false_iff_ne]; exact heq
        have Heq := hide heq
        clear heq
        go_wp2_with fail
        go_ret2
        exact ⟨Or.inr ⟨fun l hl => Heq.out (by rw [← HF.out l hl]; exact hl), rfl⟩, hb4⟩

theorem unbase64_any (s : ByteArray) (w : World) (hs : s.size ≤ 400000) : Calls Tryd.prog 21 #[.string s] w fun e w' => UnEnds s.data.toList e ∧ Below w.heap.size w w' := by
  refine unb_core s ⟨(Lib.trimRightB s.data.toList 61).toArray⟩ rfl w hs ?_
  have h : (Lib.trimRightB s.data.toList 61).length ≤ s.data.toList.length := by
    unfold Lib.trimRightB
    rw [List.length_reverse]
    exact Nat.le_trans ((List.dropWhile_sublist _).length_le) (by rw [List.length_reverse]; exact Nat.le_refl _)
  rw [size_list] at h
  exact h
end Go.Proofs.YtnlmohegkmegcabDoor
