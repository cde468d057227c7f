/- The document's own Unbase64, walked. -/
import Derived.Test.YtnlmohegkmegcabDoorRefUnb
namespace Go.Proofs.YtnlmohegkmegcabDoor
open Go.RowKit

set_option maxHeartbeats 1000000 in
theorem refUnbase64_any (s : ByteArray) (w : World) (hs : s.size ≤ 3000) : Calls Tryd.prog 22 #[.string s] w fun e w' => UnEnds s.data.toList e ∧ Below w.heap.size w w' := by
  by_cases h4 : s.size % 4 = 0
  · obtain ⟨i0, hi, hz0, hz1, hz2⟩ := byteInfo
    have H := hide (show _ ∧ _ ∧ _ ∧ _ from ⟨hi, hz0, hz1, hz2⟩)
    clear hi hz0 hz1 hz2
    have h4' : ((s.size : Int) % 4 != 0) = false := by rw [bne_eq_false_iff_eq]; omega
    go_enter Tryd.func22, Tryd.ntmps22
    go_wp2_with fail
    go_loopw [4, 5] (fun bv ci wr => ∃ (i : Nat) (out : List UInt8), i ≤ s.size ∧ i % 4 = 0 ∧ ci = .int .i64 i ∧ out.length ≤ i ∧ ung s.data.toList = out ++ ung (s.data.toList.drop i) ∧ wr.ownsRow w.heap.size 5 1 bv out.length (Lib.byteCells out) ∧ Below w.heap.size w wr) (fun _ ci _ => s.size - (intOf ci).toNat)
    case atStart => exact ⟨0, [], Nat.zero_le _, rfl, rfl, Nat.le_refl _, rfl, ⟨rfl, Or.inl ⟨rfl, rfl⟩⟩, Below.refl _ _⟩
    case round =>
      obtain ⟨i, out, hi, hi4, rfl, hol, hO, hown, hbw⟩ := hrel
      have HO := hide (show _ ∧ _ from ⟨hO, hbw⟩)
      clear hO hbw
      by_cases hp : i < s.size
      · have hp4 : i + 4 ≤ s.size := by omega
        have Hown := hide hown
        clear hown
        obtain ⟨g, hg⟩ : ∃ g, g = (s.data.toList.drop i).take 4 := ⟨_, rfl⟩
        have hgl : g.length = 4 := by rw [hg, List.length_take, List.length_drop, size_list]; omega
        have Hg := hide hg
        clear hg
        go_wp2_with fail
        go_loopw [6, 7, 8] (fun cn cm ck wr => ∃ (k : Nat), k ≤ 4 ∧ ck = .int .i64 k ∧ cn = .int .i64 (gN (g.take k)) ∧ cm = .int .i64 (gM (g.take k)) ∧ wr.ownsRow w.heap.size 5 1 u4 out.length (Lib.byteCells out) ∧ Below w.heap.size w wr) (fun _ _ ck _ => 4 - (intOf ck).toNat)
        case atStart => exact ⟨0, Nat.zero_le _, rfl, rfl, rfl, Hown.out, HO.out.2⟩
        case round =>
          obtain ⟨k, hk, rfl, rfl, rfl, hown, hbw⟩ := hrel
          have HW := hide (show _ ∧ _ from ⟨hown, hbw⟩)
          clear hown hbw
          have hk5 : k = 4 ∨ k < 4 := by omega
          rcases hk5 with hk4 | hk5
          · have hgt : g.take k = g := List.take_of_length_le (by omega)
            have hkz : ¬ ((k : Int) < 4) := by omega
            clear hk
            obtain ⟨N, hN⟩ : ∃ N, N = gN g := ⟨_, rfl⟩
            obtain ⟨M, hM⟩ : ∃ M, M = gM g := ⟨_, rfl⟩
            have hNb : -16777216 ≤ N ∧ N ≤ 16777216 := by
              have := gN_bd 4 g hgl
              rw [← hN] at this
              omega
            have hM4 : M ≤ 4 := by
              have := gM_le g
              omega
            obtain ⟨hN1, hN2⟩ := hNb
            rw [hgt, ← hN, ← hM]
            have hgr : grp g = [u8i (N / 65536), u8i (N / 256), u8i N].take (M - 1) := by rw [hN, hM]; rfl
            have hgrl : (grp g).length = M - 1 := by rw [hgr, List.length_take]; simp; omega
            have Hu := hide (show ung s.data.toList = out ++ grp g ++ ung (s.data.toList.drop (i + 4)) by
              rw [HO.out.1, ung_step _ (by rw [List.length_drop, size_list]; omega), ← Hg.out, List.drop_drop]
              simp)
            have Hgr := hide (show _ ∧ _ from ⟨hgr, hgrl⟩)
            clear hgt hN hM hgr hgrl
            go_wp2_with fail
            go_loopw [4, 9] (fun bv ck wr => ∃ (k : Nat), k ≤ M - 1 ∧ ck = .int .i64 k ∧ wr.ownsRow w.heap.size 5 1 bv (out ++ (grp g).take k).length (Lib.byteCells (out ++ (grp g).take k)) ∧ Below w.heap.size w wr) (fun _ ck _ => 4 - (intOf ck).toNat)
            case atStart => exact ⟨0, Nat.zero_le _, rfl, by simpa using HW.out.1, HW.out.2⟩
            case round =>
              obtain ⟨k, hk, rfl, hown, hbw⟩ := hrel
              have hol2 : (out ++ (grp g).take k).length = out.length + k := by
                rw [List.length_append, List.length_take, Hgr.out.2]
                omega
              by_cases hkM : (k : Int) < (M : Int) - 1
              · have hk3 : k = 2 ∨ k = 1 ∨ k = 0 := by omega
                rcases hk3 with rfl | rfl | rfl
                · obtain ⟨L, hL⟩ : ∃ L, L = out ++ (grp g).take 2 := ⟨_, rfl⟩
                  rw [← hL] at hown hol2
                  have hnx : out ++ (grp g).take 3 = L ++ [u8i (N)] := by
                    rw [hL, Hgr.out.1, List.take_take, List.take_take, show min 3 (M - 1) = 3 by omega, show min 2 (M - 1) = 2 by omega]
                    simp
                  have HQ := hide (show _ ∧ _ ∧ _ from ⟨hown, hbw, hnx⟩)
                  have hLs : L.length ≤ 3000 := by omega
                  have hx1 : 0 ≤ N % 256 := by omega
                  have hx2 : N % 256 < 256 := by omega
                  have hWs : w.heap.size ≤ wr.heap.size := hbw.size
                  have hba : Below wr.heap.size wr (wr.alloc (.cells #[.int .u8 (N % 256)] 5)) := (Below.refl _ _).alloc (Nat.le_refl _) _
                  have hown5 := own_below hown hba
                  have hb4' := hbw.alloc hWs (.cells #[.int .u8 (N % 256)] 5)
                  clear hown hbw hL hba hnx
                  go_wp2_with (at_builtin; refine wpList_append_lies _ rfl _ _ 33 rfl w.heap.size 5 i0 (.int .u8 0) 1 1 Tryd.underlying33 H.out.1 H.out.2.1 H.out.2.2.1 H.out.2.2.2 rfl (by omega) _ L.length (Lib.byteCells L) rfl hown5 ⟨wr.heap.size, 0, none⟩ 1 1 [.int .u8 (N % 256)] rfl rfl ?c6 ?c7 (by omega) ?c8 ?c9 ?c10 _ rfl ?_)
                  case c6 => intro j u hj; cases j with
                    | zero => cases hj; simp [Addr.add]
                    | succ j => simp at hj
                  case c7 => intro u hu; simp at hu; subst hu; rfl
                  case c8 => unfold maxLen; omega
                  case c9 => omega
                  case c10 => exact hb4'.size
                  intro g' cap w5 hown6 hgr6 _ _
                  have hb5 := hb4'.grown hgr6 hb4'.size (fun k hk => own_lt hown5 k hk)
                  clear hown5 hgr6 hb4'
                  go_wp2_with fail
                  refine ⟨⟨3, by omega, rfl, ?_, hb5⟩, by simp [intOf]⟩
                  rw [HQ.out.2.2, List.length_append, Lib.byteCells_append]
                  have e : Lib.byteCells [u8i (N)] = [.int .u8 (N % 256)] := by
                    simp [Lib.byteCells, u8i]
                    omega
                  rw [e, hol2]
                  exact hown6
                · obtain ⟨L, hL⟩ : ∃ L, L = out ++ (grp g).take 1 := ⟨_, rfl⟩
                  rw [← hL] at hown hol2
                  have hnx : out ++ (grp g).take 2 = L ++ [u8i (N / 256)] := by
                    rw [hL, Hgr.out.1, List.take_take, List.take_take, show min 2 (M - 1) = 2 by omega, show min 1 (M - 1) = 1 by omega]
                    simp
                  have HQ := hide (show _ ∧ _ ∧ _ from ⟨hown, hbw, hnx⟩)
                  have hLs : L.length ≤ 3000 := by omega
                  have hx1 : 0 ≤ N / 256 % 256 := by omega
                  have hx2 : N / 256 % 256 < 256 := by omega
                  have hWs : w.heap.size ≤ wr.heap.size := hbw.size
                  have hba : Below wr.heap.size wr (wr.alloc (.cells #[.int .u8 (N / 256 % 256)] 5)) := (Below.refl _ _).alloc (Nat.le_refl _) _
                  have hown5 := own_below hown hba
                  have hb4' := hbw.alloc hWs (.cells #[.int .u8 (N / 256 % 256)] 5)
                  clear hown hbw hL hba hnx
                  go_wp2_with (at_builtin; refine wpList_append_lies _ rfl _ _ 33 rfl w.heap.size 5 i0 (.int .u8 0) 1 1 Tryd.underlying33 H.out.1 H.out.2.1 H.out.2.2.1 H.out.2.2.2 rfl (by omega) _ L.length (Lib.byteCells L) rfl hown5 ⟨wr.heap.size, 0, none⟩ 1 1 [.int .u8 (N / 256 % 256)] rfl rfl ?c6 ?c7 (by omega) ?c8 ?c9 ?c10 _ rfl ?_)
                  case c6 => intro j u hj; cases j with
                    | zero => cases hj; simp [Addr.add]
                    | succ j => simp at hj
                  case c7 => intro u hu; simp at hu; subst hu; rfl
                  case c8 => unfold maxLen; omega
                  case c9 => omega
                  case c10 => exact hb4'.size
                  intro g' cap w5 hown6 hgr6 _ _
                  have hb5 := hb4'.grown hgr6 hb4'.size (fun k hk => own_lt hown5 k hk)
                  clear hown5 hgr6 hb4'
                  go_wp2_with fail
                  refine ⟨⟨2, by omega, rfl, ?_, hb5⟩, by simp [intOf]⟩
                  rw [HQ.out.2.2, List.length_append, Lib.byteCells_append]
                  have e : Lib.byteCells [u8i (N / 256)] = [.int .u8 (N / 256 % 256)] := by
                    simp [Lib.byteCells, u8i]
                    omega
                  rw [e, hol2]
                  exact hown6
                · obtain ⟨L, hL⟩ : ∃ L, L = out ++ (grp g).take 0 := ⟨_, rfl⟩
                  rw [← hL] at hown hol2
                  have hnx : out ++ (grp g).take 1 = L ++ [u8i (N / 65536)] := by
                    rw [hL, Hgr.out.1, List.take_take, List.take_take, show min 1 (M - 1) = 1 by omega, show min 0 (M - 1) = 0 by omega]
                    simp
                  have HQ := hide (show _ ∧ _ ∧ _ from ⟨hown, hbw, hnx⟩)
                  have hLs : L.length ≤ 3000 := by omega
                  have hx1 : 0 ≤ N / 65536 % 256 := by omega
                  have hx2 : N / 65536 % 256 < 256 := by omega
                  have hWs : w.heap.size ≤ wr.heap.size := hbw.size
                  have hba : Below wr.heap.size wr (wr.alloc (.cells #[.int .u8 (N / 65536 % 256)] 5)) := (Below.refl _ _).alloc (Nat.le_refl _) _
                  have hown5 := own_below hown hba
                  have hb4' := hbw.alloc hWs (.cells #[.int .u8 (N / 65536 % 256)] 5)
                  clear hown hbw hL hba hnx
                  go_wp2_with (at_builtin; refine wpList_append_lies _ rfl _ _ 33 rfl w.heap.size 5 i0 (.int .u8 0) 1 1 Tryd.underlying33 H.out.1 H.out.2.1 H.out.2.2.1 H.out.2.2.2 rfl (by omega) _ L.length (Lib.byteCells L) rfl hown5 ⟨wr.heap.size, 0, none⟩ 1 1 [.int .u8 (N / 65536 % 256)] rfl rfl ?c6 ?c7 (by omega) ?c8 ?c9 ?c10 _ rfl ?_)
                  case c6 => intro j u hj; cases j with
                    | zero => cases hj; simp [Addr.add]
                    | succ j => simp at hj
                  case c7 => intro u hu; simp at hu; subst hu; rfl
                  case c8 => unfold maxLen; omega
                  case c9 => omega
                  case c10 => exact hb4'.size
                  intro g' cap w5 hown6 hgr6 _ _
                  have hb5 := hb4'.grown hgr6 hb4'.size (fun k hk => own_lt hown5 k hk)
                  clear hown5 hgr6 hb4'
                  go_wp2_with fail
                  refine ⟨⟨1, by omega, rfl, ?_, hb5⟩, by simp [intOf]⟩
                  rw [HQ.out.2.2, List.length_append, Lib.byteCells_append]
                  have e : Lib.byteCells [u8i (N / 65536)] = [.int .u8 (N / 65536 % 256)] := by
                    simp [Lib.byteCells, u8i]
                    omega
                  rw [e, hol2]
                  exact hown6
              · have hkM2 : k = M - 1 := by omega
                have HQ := hide (show _ ∧ _ from ⟨hown, hbw⟩)
                have hgk : (grp g).take k = grp g := List.take_of_length_le (by rw [Hgr.out.2]; omega)
                rw [hgk] at hown hol2
                have HR := hide hown
                clear hown hbw hgk
                go_wp2_with fail
                exact ⟨⟨i + 4, out ++ grp g, hp4, by omega, by go_num, by omega, Hu.out, HR.out, HQ.out.2⟩, by simp only [intOf]; omega⟩
          · have hik : i + k < s.size := by omega
            obtain ⟨c, hc⟩ : ∃ c, c = s[i + k] := ⟨_, rfl⟩
            have hix := index_at s (i + k) hik ((i : Int) + k) (by omega)
            rw [← hc] at hix
            have hgk : g[k]? = some c := by
              rw [Hg.out, List.getElem?_take_of_lt hk5, List.getElem?_drop, list_at s (i + k) hik, hc]
            have htk : g.take (k + 1) = g.take k ++ [c] := by rw [List.take_add_one, hgk]; rfl
            obtain ⟨n, hn⟩ : ∃ n, n = gN (g.take k) := ⟨_, rfl⟩
            obtain ⟨m, hm⟩ : ∃ m, m = gM (g.take k) := ⟨_, rfl⟩
            have hnb : -300000 ≤ n ∧ n ≤ 300000 := by
              have := gN_bd k (g.take k) (by rw [List.length_take]; omega)
              rw [← hn] at this
              have hk4 : k = 0 ∨ k = 1 ∨ k = 2 ∨ k = 3 := by omega
              rcases hk4 with rfl | rfl | rfl | rfl <;> omega
            have hmb : m ≤ 4 := by
              have := gM_le (g.take k)
              rw [List.length_take] at this
              omega
            obtain ⟨hn1, hn2⟩ := hnb
            rw [← hn, ← hm]
            have hpl := pl_bd c
            obtain ⟨hp1, hp2⟩ := hpl
            have h256 := c.toNat_lt
            have Hnm := hide (show gN (g.take (k + 1)) = (if c = 61 then n * 64 else n * 64 + pl c) ∧ gM (g.take (k + 1)) = (if c = 61 then m else m + 1) by
              rw [htk, gN_snoc, gM_snoc, hn, hm]
              exact ⟨rfl, rfl⟩)
            clear hc hgk htk hn hm
            by_cases h61 : c = 61
            · have e61 : ((c.toNat : Int) != 61) = false := by rw [h61]; rfl
              have Hnm2 := hide (show gN (g.take (k + 1)) = n * 64 ∧ gM (g.take (k + 1)) = m by
                have := Hnm.out
                rw [if_pos h61, if_pos h61] at this
                exact this)
              clear h61
              go_wp2_with fail
              exact ⟨⟨k + 1, by omega, by go_num, by rw [Hnm2.out.1], by rw [Hnm2.out.2], HW.out.1, HW.out.2⟩, by simp [intOf]; omega⟩
            · have e61 : ((c.toNat : Int) != 61) = true := by
                rw [bne_iff_ne]
                exact fun h => h61 (byte_of (n := 61) (by omega) (by decide))
              have Hnm2 := hide (show gN (g.take (k + 1)) = n * 64 + pl c ∧ gM (g.take (k + 1)) = m + 1 by
                have := Hnm.out
                rw [if_neg h61, if_neg h61] at this
                exact this)
              clear h61
              go_wp2_with (go_at_call 38; refine (place_any c _).mono ?_; rintro e w2 ⟨rfl, rfl⟩)
              exact ⟨⟨k + 1, by omega, by go_num, by rw [Hnm2.out.1], by rw [Hnm2.out.2]; go_num, HW.out.1, HW.out.2⟩, by simp [intOf]; omega⟩
      · have hie : i = s.size := by omega
        subst hie
        have cv := conv_own hown
        have Hown := hide hown
        have HF := hide (show ∀ l, b64 l = s.data.toList → l = out from fun l hl => by
          have h1 := HO.out.1
          rw [List.drop_eq_nil_of_le (by rw [size_list]; exact Nat.le_refl _), ← hl, ung_b64] at h1
          simpa [ung] using h1)
        clear hown
        go_wp2_with fail
        refine (refBase64_any ⟨out.toArray⟩ _ (by rw [sz_list]; omega)).mono ?_
        rintro e w3 ⟨rfl, hb3⟩
        have hb4 := HO.out.2.trans (hb3.mono HO.out.2.size)
        have cv3 := conv_own (own_below Hown.out hb3)
        by_cases heq : b64 out = s.data.toList
        · have hE : (b64 out == s.toList) = true := by
            rw [ByteArray.toList_eq, beq_iff_eq]; exact heq
          have Heq := hide heq
          clear heq
          go_wp2_with fail
          go_ret2
          exact ⟨Or.inl ⟨out, Heq.out, rfl⟩, hb4⟩
        · have hE : (b64 out == s.toList) = false := by
            rw [ByteArray.toList_eq, beq_eq_false_iff_ne]; exact heq
          have Heq := hide heq
          clear heq
          go_wp2_with fail
          go_ret2
          exact ⟨Or.inr ⟨fun l hl => Heq.out (by rw [← HF.out l hl]; exact hl), rfl⟩, hb4⟩
  · have h4' : ((s.size : Int) % 4 != 0) = true := by rw [bne_iff_ne]; omega
    have Hn := hide (show ∀ l, b64 l ≠ s.data.toList from fun l hl => by
      have h1 := (b64_length l).1
      rw [hl, size_list] at h1
      exact h4 h1)
    go_enter Tryd.func22, Tryd.ntmps22
    go_wp2_with fail
    go_ret2
    exact ⟨Or.inr ⟨Hn.out, rfl⟩, Below.refl _ _⟩
end Go.Proofs.YtnlmohegkmegcabDoor
