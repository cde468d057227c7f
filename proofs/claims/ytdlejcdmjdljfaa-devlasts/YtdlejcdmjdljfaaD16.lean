/- Sectors are compared; two devices tell the same. -/
import Derived.Test.YtdlejcdmjdljfaaD14
import Derived.ChangeKeysEq
namespace Go.Proofs.Ytdlejcdmjdljfaa
open Go.RowKit Go.Shelf

theorem cells5 : Try.prog.cellsOf 5 = 1 := by kernel_rfl
theorem infoU8 : (Try.prog.info? 5).map (fun i => (i.zero, i.size, i.bytes)) = some (some (.int .u8 0), 1, 1) := by kernel_rfl
theorem secA_get {s : Sec} {i : Nat} {b : UInt8} (h : s[i]? = some b) : (secA s)[i]? = some (.int .u8 b.toNat) := by
  simp only [secA, Lib.byteCells, List.getElem?_toArray, List.getElem?_map, h]
  rfl
theorem part_sec {s : Sec} {i : Nat} {b : UInt8} (h : s[i]? = some b) (w : World) : (part 5 (secA s) (i * 1)).run Try.prog w = .ok (.int .u8 b.toNat) w := by
  have hg := secA_get h
  have ha : (isAgg 5).run Try.prog w = .ok false w := by
    unfold isAgg
    rw [Sem.run_bind, run_underlying Try.underlying5 w]
    rfl
  unfold part
  simp [ha, hg]
theorem eqItems_sec (d : Nat) (s t : Sec) (w : World) : ∀ is : List Nat, (∀ i ∈ is, i < s.length ∧ i < t.length) → (Op.eqItems (d + 1) 5 1 (secA s) (secA t) is).run Try.prog w = .ok (decide (∀ i ∈ is, s[i]? = t[i]?)) w
  | [], _ => by simp [Op.eqItems]
  | i :: is, h => by
    obtain ⟨h1, h2⟩ := h i List.mem_cons_self
    have ih := eqItems_sec d s t w is (fun j hj => h j (List.mem_cons_of_mem _ hj))
    have p1 := part_sec (List.getElem?_eq_getElem h1) w
    have p2 := part_sec (List.getElem?_eq_getElem h2) w
    have p3 := run_equalIn_int (P := Try.prog) w d 5 .u8 .u8 ((s[i]).toNat : Int) ((t[i]).toNat : Int) Try.underlying5
    simp only [Op.eqItems, Sem.run_bind, p1, p2, p3, Result.andThen_ok]
    by_cases he : s[i] = t[i]
    · have e1 : (((s[i]).toNat : Int) == ((t[i]).toNat : Int)) = true := by simp [he]
      rw [e1]
      simp only [Bool.not_true, Bool.false_eq_true, if_false, ih]
      congr 1
      rw [decide_eq_decide]
      simp [List.getElem?_eq_getElem h1, List.getElem?_eq_getElem h2, he]
    · have e1 : (((s[i]).toNat : Int) == ((t[i]).toNat : Int)) = false := by
        rw [beq_eq_false_iff_ne]
        intro h
        exact he (UInt8.toNat_inj.1 (by omega))
      rw [e1]
      simp [List.getElem?_eq_getElem h1, List.getElem?_eq_getElem h2, he]
theorem sec_equal (d : Nat) {T : TypeId} (hT : Try.prog.underlying T = some (.array 64 5)) (s t : Sec) (hs : s.length = 64) (ht : t.length = 64) (w : World) : (Op.equalIn (d + 2) T (.agg (secA s)) (.agg (secA t))).run Try.prog w = .ok (decide (s = t)) w := by
  obtain ⟨i, h1, _⟩ := infos infoU8
  rw [run_equalIn_array w (d + 1) (secA s) (secA t) hT h1, cells5, eqItems_sec d s t w _ (fun j hj => by simp at hj; omega)]
  congr 1
  rw [decide_eq_decide]
  constructor
  · intro h
    apply List.ext_getElem?
    intro j
    by_cases hj : j < 64
    · exact h j (by simpa using hj)
    · rw [List.getElem?_eq_none (by omega), List.getElem?_eq_none (by omega)]
  · rintro rfl j _
    rfl
theorem sec_neq {T : TypeId} (hT : Try.prog.underlying T = some (.array 64 5)) (s t : Sec) (hs : s.length = 64) (ht : t.length = 64) (w : World) : (binOp .neq T (.agg (secA s)) (.agg (secA t))).run Try.prog w = .ok (.bool (!decide (s = t))) w := by
  rw [run_neq_struct, sec_equal 9998 hT s t hs ht w]
  simp
theorem sec_eql {T : TypeId} (hT : Try.prog.underlying T = some (.array 64 5)) (s t : Sec) (hs : s.length = 64) (ht : t.length = 64) (w : World) : (binOp .eql T (.agg (secA s)) (.agg (secA t))).run Try.prog w = .ok (.bool (decide (s = t))) w := by
  rw [run_eql_struct, sec_equal 9998 hT s t hs ht w]
  simp
/-- What is read, whatever the number is. -/
def rdS (d : Dv) (i : Int) : Sec := if wrongI d.las.length i = 0 then readS d i.toNat else sec0
theorem rdS_len {d : Dv} (hd : DvOk d) (i : Int) : (rdS d i).length = 64 := by
  unfold rdS
  split
  · exact readAt_len d hd _ _
  · rfl
theorem read_all (base p : Nat) (d : Dv) (vl vw : Value) (i : Int) (w : World) (h : IsD base p d vl vw w) (hd : DvOk d) :
    Calls Try.prog 18 #[.pointer (some ⟨p, 0, none⟩), .int .i64 i] w fun e w' => e = .returned (.tuple #[.agg (secA (rdS d i)), .int .i64 (wrongI d.las.length i)]) ∧ Below w.heap.size w w' := by
  unfold rdS
  rcases wrongI_or d.las.length i with ⟨h1, h2, h3⟩ | h1
  · rw [if_pos h1, h1]
    have := read_any base p d vl vw i.toNat w h hd h3
    rwa [show ((i.toNat : Nat) : Int) = i by omega] at this
  · rw [if_neg (by omega), h1]
    exact read_bad base p d vl vw i w h h1
theorem rread_all (base p : Nat) (d : Dv) (vl vw : Value) (i : Int) (w : World) (h : IsR base p d vl vw w) (hd : DvOk d) :
    Calls Try.prog 27 #[.pointer (some ⟨p, 0, none⟩), .int .i64 i] w fun e w' => e = .returned (.tuple #[.agg (secA (rdS d i)), .int .i64 (wrongI d.las.length i)]) ∧ Below w.heap.size w w' := by
  unfold rdS
  rcases wrongI_or d.las.length i with ⟨h1, h2, h3⟩ | h1
  · rw [if_pos h1, h1]
    have := rread_any base p d vl vw i.toNat w h hd h3
    rwa [show ((i.toNat : Nat) : Int) = i by omega] at this
  · rw [if_neg (by omega), h1]
    exact rread_bad base p d vl vw i w h h1

set_option maxRecDepth 100000 in
set_option maxHeartbeats 2000000 in
theorem same_any (base p q : Nat) (d : Dv) (vl vw ul uw : Value) (w : World) (h : Two base p q d vl vw ul uw w) (hd : DvOk d) :
    Calls Try.prog 11 #[.pointer (some ⟨p, 0, none⟩), .pointer (some ⟨q, 0, none⟩)] w fun e w' => e = .returned (.bool true) ∧ Below w.heap.size w w' := by
  have HH := hide (And.intro h hd)
  have hmost := hd.most
  clear h hd
  go_enter Try.func11, Try.ntmps11
  go_wp2_with fail
  go_loopw [5] (fun j wr => ∃ k : Nat, k ≤ d.las.length + 2 ∧ j = .int .i64 ((k : Int) - 1) ∧ Below w.heap.size w wr) (fun j _ => d.las.length + 2 - ((intOf j) + 1).toNat)
  case atStart => exact ⟨0, by omega, rfl, Below.refl _ _⟩
  case round =>
    obtain ⟨k, hk, rfl, hbw⟩ := hrel
    have hT := HH.out.1.below hbw
    have HT := hide (And.intro hT hbw)
    have hws := hbw.size
    clear hT hbw
    have hw1 : IntKind.i64.wrap ((k : Int) - 1 + 1) = k := by rw [IntKind.wrap_i64]; omega
    obtain ⟨i, hi⟩ : ∃ i : Int, (k : Int) - 1 = i := ⟨_, rfl⟩
    by_cases hle : i ≤ d.las.length
    · obtain ⟨s, hs⟩ : ∃ s, rdS d i = s := ⟨_, rfl⟩
      have h64 : s.length = 64 := hs ▸ rdS_len HH.out.2 i
      obtain ⟨e0, he0⟩ : ∃ e0, wrongI d.las.length i = e0 := ⟨_, rfl⟩
      have hneq := sec_neq (T := 38) undSecA s s h64 h64
      simp only [decide_true, Bool.not_true] at hneq
      rw [hi]
      rw [hi] at hw1
      go_wp2_with (first | (go_at_call 26; refine (rsize_any base q d ul uw wr HT.out.1.ref).mono ?_; rintro e w' ⟨rfl, hw'⟩; rw [hw']; clear hw') | (go_at_call 18; refine (read_all base p d vl vw i _ HT.out.1.dev HH.out.2).mono ?_; rintro e w2 ⟨rfl, b2⟩; rw [hs, he0]; have B2 := hide b2; clear b2; refine stopHere ?_))
      unfold Hid
      have hst2 := run_store_new (P := Try.prog) infoSecD w2 (cs := secA s) (c := secA sec0) (by rw [secA_size, h64]) rfl (secA_one s)
      obtain ⟨W3, hW3⟩ : ∃ W3, w2.alloc (.cells (secA s) 39) = W3 := ⟨_, rfl⟩
      rw [hW3] at hst2
      have b3 : Below w2.heap.size w2 W3 := by rw [← hW3]; exact (Below.refl _ w2).alloc (Nat.le_refl _) _
      have z3 : W3.heap.size = w2.heap.size + 1 := by rw [← hW3]; simp
      have f3 : W3.heap[w2.heap.size]? = some (.cells (secA s) 39) := by rw [← hW3]; exact World.alloc_heap_new w2 _
      have s2 : wr.heap.size ≤ w2.heap.size := B2.out.size
      have H3 := hide (And.intro ((HT.out.1.below B2.out).below b3) (And.intro f3 (HT.out.2.trans ((B2.out.mono (by omega)).trans (b3.mono (by omega))))))
      have HS2 := hide hst2
      clear b3 f3 hst2 hW3 B2
      go_wp2_with (first | (refine l_alloc _ infoSecD rfl rfl ?_) | (refine l_store _ HS2.out rfl rfl rfl rfl ?_; refine stopHere ?_))
      unfold Hid
      go_wp2_with (go_at_call 27; refine (rread_all base q d ul uw i _ H3.out.1.ref HH.out.2).mono ?_; rintro e w4 ⟨rfl, b4⟩; rw [hs, he0]; have B4 := hide b4; clear b4; refine stopHere ?_)
      unfold Hid
      have hst4 := run_store_new (P := Try.prog) infoSecR w4 (cs := secA s) (c := secA sec0) (by rw [secA_size, h64]) rfl (secA_one s)
      obtain ⟨W5, hW5⟩ : ∃ W5, w4.alloc (.cells (secA s) 53) = W5 := ⟨_, rfl⟩
      rw [hW5] at hst4
      have b5 : Below w4.heap.size w4 W5 := by rw [← hW5]; exact (Below.refl _ w4).alloc (Nat.le_refl _) _
      have f5 : W5.heap[w4.heap.size]? = some (.cells (secA s) 53) := by rw [← hW5]; exact World.alloc_heap_new w4 _
      have s4 : W3.heap.size ≤ w4.heap.size := B4.out.size
      have g5 : W5.heap[w2.heap.size]? = some (.cells (secA s) 39) := (b5.block _ (by omega)).trans ((B4.out.block _ (by omega)).trans H3.out.2.1)
      have hl1 := run_load_row (P := Try.prog) (w := W5) (cs := secA s) (g := w2.heap.size) (ty' := 39) infoSecD undSecD rfl (by rw [secA_size, h64]) g5
      have hl2 := run_load_row (P := Try.prog) (w := W5) (cs := secA s) (g := w4.heap.size) (ty' := 53) infoSecR undSecR rfl (by rw [secA_size, h64]) f5
      have H5 := hide (H3.out.2.2.trans ((B4.out.mono (by omega)).trans (b5.mono (by omega))))
      have HS4 := hide hst4
      have HL1 := hide hl1
      have HL2 := hide hl2
      clear b5 f5 g5 hst4 hW5 B4 hl1 hl2
      go_wp2_with (first | (refine l_alloc _ infoSecR rfl rfl ?_) | (refine l_store _ HS4.out rfl rfl rfl rfl ?_; refine stopHere ?_))
      unfold Hid
      go_wp2_with (first | (refine l_load _ HL1.out rfl rfl rfl ?_) | (refine l_load _ HL2.out rfl rfl rfl ?_))
      go_roundw
      case rel => exact ⟨k + 1, by omega, by simp, H5.out⟩
      case measure => simp [intOf]; omega
    · have hki : k = d.las.length + 2 := by omega
      rw [hi]
      have hT := HT.out.1
      have HS1 := hide (size_any base p d vl vw wr hT.dev)
      have HS2 := hide (rsize_any base q d ul uw wr hT.ref)
      have HP1 := hide (pending_any base p d vl vw wr hT.dev)
      have HP2 := hide (rpending_any base q d ul uw wr hT.ref)
      clear hT
      go_wp2_with (first | (go_at_call 26; refine HS2.out.mono ?_; rintro e w' ⟨rfl, hw'⟩; subst hw') | (go_at_call 23; refine HS1.out.mono ?_; rintro e w' ⟨rfl, hw'⟩; subst hw') | (go_at_call 16; refine HP1.out.mono ?_; rintro e w' ⟨rfl, hw'⟩; subst hw') | (go_at_call 28; refine HP2.out.mono ?_; rintro e w' ⟨rfl, hw'⟩; subst hw'))
      go_ret
      exact ⟨rfl, HT.out.2⟩
end Go.Proofs.Ytdlejcdmjdljfaa
