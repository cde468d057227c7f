/- DevOrder. -/
import Derived.Test.YtdlejcdmjdljfabD15o
import Derived.Test.YtdlejcdmjdljfabD16o
namespace Go.Proofs.Ytdlejcdmjdljfab
open Go.RowKit Go.Shelf

/-- An operation under a guard that says yes. -/
theorem g_val {ops : Array Oper} {rest : List Oper} {o : Oper} {a : Act} {w w' : World} {Q : Exit → Act → World → Prop} (hw : Region.wanted o (yielded ops a.tmps) = true) (v : Value) (hr : (execOp a.eval o).run Try.prog w = .ok (.value v) w') (h : wpList Try.prog ops Q rest (a.put o.dst v) w') : wpList Try.prog ops Q (o :: rest) a w :=
  BigFrame.wpList_want hw fun K hK => by
    unfold Oper.wp
    rw [hr]
    exact hK _ _ h
theorem sec_guard {T : TypeId} (hT : Try.prog.eqGuardType Try.prog.depth T = false) (x y : Operand) (a b : Array Value) (w : World) : (eqGuard .eql T x y (.agg a) (.agg b)).run Try.prog w = .ok () w := by
  unfold eqGuard
  simp [hT, go_sem]
theorem ex_eql {o : Oper} {a : Act} {w : World} {T T' : TypeId} {x y : Operand} {u v : Array Value} {r : Value} (ho : o.op = .binOp .eql T x y T') (hx : a.eval x = .agg u) (hy : a.eval y = .agg v) (hT : Try.prog.eqGuardType Try.prog.depth T = false) (hr : (binOp .eql T (.agg u) (.agg v)).run Try.prog w = .ok r w) : (execOp a.eval o).run Try.prog w = .ok (.value r) w := by
  unfold execOp
  simp only [ho, hx, hy]
  simp only [Sem.run_bind, sec_guard hT, hr, Result.andThen_ok, Sem.run_pure]
/-- Bytes in memory, below n₀. -/
def ByMem (n₀ : Nat) (w : World) (ao : Option Addr) (l : List UInt8) : Prop := l.length ≤ 9223372036854775807 ∧ ∀ j v, l[j]? = some v → ∃ b off, ao = some ⟨b, off, none⟩ ∧ b < n₀ ∧ w.cell? ⟨b, off + j, none⟩ = some (.int .u8 v.toNat)
theorem ByMem.below {n₀ : Nat} {w w' : World} {ao : Option Addr} {l : List UInt8} (h : ByMem n₀ w ao l) (hb : Below n₀ w w') : ByMem n₀ w' ao l := by
  refine ⟨h.1, fun j v hj => ?_⟩
  obtain ⟨b, off, e1, e2, e3⟩ := h.2 j v hj
  exact ⟨b, off, e1, e2, (hb.cell (p := ⟨b, _, none⟩) e2).trans e3⟩
/-- The device behind the first k bytes that are written. -/
def ordD (l : List UInt8) (k : Nat) : Dv := ⟨[sec0, sec0], (l.take k).map fun c => (1, allC c)⟩
theorem ordD_succ {l : List UInt8} {k : Nat} {c : UInt8} (h : l[k]? = some c) : ordD l (k + 1) = dvWrite (ordD l k) 1 (allC c) := by
  simp [ordD, dvWrite, List.take_add_one, h]
theorem ordD_len (l : List UInt8) (k : Nat) : (ordD l k).wr.length = min k l.length := by simp [ordD]
theorem ordD_ok (l : List UInt8) (k : Nat) (hk : k ≤ 1000) : DvOk (ordD l k) := by
  refine ⟨fun s hs => ?_, by simp [ordD], by simp [ordD], fun x hx => ?_, by rw [ordD_len]; omega⟩
  · simp only [ordD, List.mem_cons, List.not_mem_nil, or_false] at hs
    rcases hs with rfl | rfl <;> rfl
  · simp only [ordD, List.mem_map] at hx
    obtain ⟨c, _, rfl⟩ := hx
    exact ⟨by simp [ordD], fillS_len _ _ (Nat.le_refl _)⟩
theorem ordD_read {l : List UInt8} {k : Nat} {c : UInt8} (h : l[k]? = some c) : readS (ordD l (k + 1)) 1 = allC c := by
  have hlt := (List.getElem?_eq_some_iff.1 h).1
  unfold readS
  rw [ordD_len, Nat.min_eq_left (by omega), readAt_succ (x := (1, allC c)) _ _ _ (by simp [ordD, h])]
  simp
/-- What is there behind a crash. -/
def wantAt (l : List UInt8) (sv : Nat → Bool) : Nat → UInt8
  | 0 => 0
  | k + 1 => if sv k then l.getD k 0 else wantAt l sv k
theorem ord_land (l : List UInt8) (n : Nat) (sv : Nat → Bool) : ∀ k, k ≤ min n l.length → landAt (ordD l n) sv k = [sec0, allC (wantAt l sv k)]
  | 0, _ => rfl
  | k + 1, h => by
    have ih := ord_land l n sv k (by omega)
    have hx : (ordD l n).wr[k]? = some (1, allC (l.getD k 0)) := by
      have hk : l[k]? = some (l.getD k 0) := by rw [List.getD_eq_getElem?_getD, List.getElem?_eq_getElem (by omega)]; rfl
      simp only [ordD, List.getElem?_map, List.getElem?_take]
      rw [if_pos (by omega), hk]
      rfl
    rw [landAt_succ hx, ih]
    simp only [wantAt]
    split <;> rfl
/-- A sector in a variable of its own: it is made, and stored. -/
theorem sec_var (w : World) (s : Sec) (h64 : s.length = 64) : ∃ W, (Instr.storeAt 29 (.pointer (some ⟨w.heap.size, 0, none⟩)) (.agg (secA s))).run Try.prog (w.alloc (.cells (Lib.byteCells sec0).toArray 29)) = .ok () W ∧ W.heap[w.heap.size]? = some (.cells (secA s) 29) ∧ Below w.heap.size w W ∧ W.heap.size = w.heap.size + 1 :=
  ⟨_, run_store_new (P := Try.prog) infoSecD w (cs := secA s) (c := secA sec0) (by rw [secA_size, h64]) rfl (secA_one s), World.alloc_heap_new w _, (Below.refl _ w).alloc (Nat.le_refl _) _, by simp⟩
theorem allC_cell {w : World} {b j : Nat} {c : UInt8} {T : TypeId} (h : w.heap[b]? = some (.cells (secA (allC c)) T)) (hj : j < 64) : w.cell? ⟨b, j, none⟩ = some (.int .u8 c.toNat) := by
  rw [cell_of_row w b j _ _ _ h]
  refine secA_get ?_
  show (List.replicate 64 c ++ List.replicate (64 - 64) 0)[j]? = some c
  rw [List.getElem?_append_left (by rw [List.length_replicate]; exact hj), List.getElem?_replicate, if_pos hj]

set_option maxRecDepth 100000 in
set_option maxHeartbeats 4000000 in
theorem devOrder_core (ao : Option Addr) (cap : Nat) (l : List UInt8) (sa : Option Addr) (sc : Nat) (bs : List Bool) (w : World) (h40 : l.length ≤ 40) (cut : Bool) (l0 : List UInt8) (hcut : if cut then 40 < l0.length ∧ l = l0.take 40 else l = l0) (hcap : l0.length ≤ cap) (hcm : cap ≤ 9223372036854775807) (hm : ByMem w.heap.size w ao l) (hs : BoolMem w.heap.size w sa bs) :
    Calls Try.prog 3 #[.slice ao l0.length cap, .slice sa bs.length sc] w fun e w' => e = .returned (.bool true) ∧ Below w.heap.size w w' := by
  have H0 := hide (new_any w.heap.size 2 w (Nat.le_refl _) (by omega) (by omega))
  have HM := hide (And.intro hm hs)
  have hlbs := hs.1
  have hlen : l.length = min l0.length 40 := by
    cases cut with
    | true => simp only [if_true] at hcut; rw [hcut.2]; simp; omega
    | false => simp only [Bool.false_eq_true, if_false] at hcut; rw [hcut] at h40 ⊢; omega
  have hgt : decide ((40 : Int) < l0.length) = cut := by
    cases cut with
    | true => simp only [if_true] at hcut; simp; omega
    | false => simp only [Bool.false_eq_true, if_false] at hcut; rw [← hcut]; simp; omega
  clear hm hs
  go_enter Try.func3, Try.ntmps3
  have hc0 : (l0.length : Int) ≤ cap := by omega
  have hcc : (cap : Int) ≤ 9223372036854775807 := by omega
  have hz0 : (0 : Int) ≤ l0.length := by omega
  have e2 : ordD l 0 = dvNew 2 := rfl
  have e2' : ∀ k, (ordD l k).las.length = 2 := fun _ => rfl
  have hcase : (40 < l0.length ∧ l.length = 40) ∨ (¬ 40 < l0.length ∧ l.length = l0.length) := by omega
  clear hgt hcut
  rcases hcase with ⟨g1, g2⟩ | ⟨g1, g2⟩
  all_goals
    first | (have gi : ((40 : Int) < (l0.length : Int)) := by omega) | (have gi : ¬ ((40 : Int) < (l0.length : Int)) := by omega)
    clear g1
    go_wp2_with (go_at_call 9; refine H0.out.mono ?_; rintro e w1 ⟨p, vl, rfl, d1, hp1, b1⟩; have s1 := b1.size; have H1 := hide (And.intro d1 b1); clear d1 b1)
    go_loopw [6, 7] (fun wv j wr => ∃ k : Nat, k ≤ l.length ∧ j = .int .i64 k ∧ wv = .int .u8 (wantAt l (svOf bs) k).toNat ∧ (∃ a b, IsD w.heap.size p (ordD l k) a b wr) ∧ Below w.heap.size w wr) (fun _ j _ => l.length - (intOf j).toNat)
    case atStart => exact ⟨0, Nat.zero_le _, rfl, rfl, ⟨_, _, H1.out.1⟩, H1.out.2⟩
    case round =>
      obtain ⟨k, hk, rfl, rfl, ⟨a, b, hT⟩, hbw⟩ := hrel
      have hw1 : IntKind.i64.wrap ((k : Int) + 1) = k + 1 := by rw [IntKind.wrap_i64]; omega
      have hok := ordD_ok l k (by omega)
      have hws := hbw.size
      by_cases hlt : k < l.length
      · obtain ⟨c, hc⟩ : ∃ c, l[k]? = some c := ⟨l[k], by simp [hlt]⟩
        obtain ⟨bb, off, rfl, hb0, cc⟩ := (HM.out.1.below hbw).2 k c hc
        have hps := ordD_succ hc
        have hrd := ordD_read hc
        have hs64 : (allC c).length = 64 := fillS_len _ _ (Nat.le_refl _)
        have hwn : wantAt l (svOf bs) (k + 1) = if svOf bs k then c else wantAt l (svOf bs) k := by simp only [wantAt, List.getD_eq_getElem?_getD, hc]; rfl
        have q1 : (k : Int) < 40 := by omega
        have q2 : (k : Int) < l0.length := by omega
        have HB := hide (And.intro hT (And.intro hbw hok))
        clear hT hbw hok
        go_wp2_with (first
          | (go_at_call 11; refine (sector_any c wr).mono ?_; rintro e w2 ⟨rfl, b2⟩; have s2 := b2.size; have B2 := hide b2; clear b2)
          | (go_at_call 10; refine (write_any w.heap.size p (ordD l k) a b 1 (allC c) w2 (HB.out.1.below B2.out) HB.out.2.2 (by omega) (by rw [e2']; omega) hs64 (by rw [ordD_len]; omega)).mono ?_; rintro e w3 ⟨rfl, t3⟩; have s3 := toD_size t3; have f3 := HB.out.2.1.trans ((B2.out.mono (by omega)).trans (toD_frees t3).below); obtain ⟨a3, b3, t3⟩ := toD_is t3; rw [← hps] at t3; have H3 := hide (And.intro t3 f3); clear t3 f3; refine stopHere ?_))
        unfold Hid
        have hrr := read_any w.heap.size p (ordD l (k + 1)) a3 b3 1 w3 H3.out.1 (ordD_ok l (k + 1) (by omega)) (by rw [e2']; omega)
        rw [hrd] at hrr
        have HR := hide hrr
        clear hrr
        go_wp2_with (go_at_call 12; refine HR.out.mono ?_; rintro e w4 ⟨rfl, b4⟩; have s4 := b4.size; have B4 := hide b4; clear b4; refine stopHere ?_)
        unfold Hid
        obtain ⟨W5, hst, f5, b5, z5⟩ := sec_var w4 (allC c) hs64
        have hB5 : Below w3.heap.size w3 W5 := B4.out.trans (b5.mono s4)
        have c9 := allC_cell (j := 9) f5 (by omega)
        have hB5w : Below w.heap.size w W5 := H3.out.2.trans (hB5.mono (by omega))
        obtain ⟨bb', off', e5, hb5, cc5⟩ := (HM.out.1.below hB5w).2 k c hc
        cases e5
        have hm5 := HM.out.2.below hB5w
        have H5 := hide (And.intro (H3.out.1.below hB5) hB5w)
        have HS := hide hst
        clear hst f5 b5 hB5 hB5w
        go_wp2_with (first | (refine l_alloc _ infoSecD rfl rfl ?_) | (refine l_store _ HS.out rfl rfl rfl rfl ?_; refine stopHere ?_))
        unfold Hid
        go_wp2_with fail
        go_region_held3 (fun w' => w'.cell? ⟨w4.heap.size, 9, none⟩ = some (.int .u8 c.toNat) ∧ w'.cell? ⟨bb, off + k, none⟩ = some (.int .u8 c.toNat)) ((go_split_ands; refine ⟨?_, ?_⟩ <;> assumption)) (fail)
        by_cases hkl : k < bs.length
        · obtain ⟨v, hv⟩ : ∃ v, bs[k]? = some v := ⟨bs[k], by simp [hkl]⟩
          obtain ⟨sb, soff, rfl, hs0, hsc⟩ := hm5.2 k v hv
          have hsv : svOf bs k = v := by simp [svOf, List.getD_eq_getElem?_getD, hv]
          rw [hsv] at hwn
          cases v with
          | true =>
            rw [if_pos rfl] at hwn
            go_wp2_with fail
            go_roundw
            case rel => exact ⟨k + 1, by omega, by simp, by rw [hwn], ⟨a3, b3, H5.out.1.below (Below.refl _ _).drew⟩, H5.out.2.drew⟩
            case measure => simp [intOf]; omega
          | false =>
            rw [if_neg (by simp)] at hwn
            go_wp2_with fail
            go_roundw
            case rel => exact ⟨k + 1, by omega, by simp, by rw [hwn], ⟨a3, b3, H5.out.1.below (Below.refl _ _).drew⟩, H5.out.2.drew⟩
            case measure => simp [intOf]; omega
        · have hsv : svOf bs k = false := by simp [svOf, List.getD_eq_getElem?_getD, List.getElem?_eq_none (show bs.length ≤ k by omega)]
          have hkl' : ¬ ((k : Int) < bs.length) := by omega
          rw [hsv, if_neg (by simp)] at hwn
          go_wp2_with fail
          go_roundw
          case rel => exact ⟨k + 1, by omega, by simp, by rw [hwn], ⟨a3, b3, H5.out.1.below (Below.refl _ _).drew⟩, H5.out.2.drew⟩
          case measure => simp [intOf]; omega
      · obtain rfl : k = l.length := by omega
        first | (have gn : ¬ ((l.length : Int) < 40) := by omega) | (have gn : ¬ ((l.length : Int) < (l0.length : Int)) := by omega)
        obtain ⟨c, hc⟩ : ∃ c, wantAt l (svOf bs) l.length = c := ⟨_, rfl⟩
        rw [hc]
        have hs64 : (allC c).length = 64 := fillS_len _ _ (Nat.le_refl _)
        obtain ⟨D2, hD2⟩ : ∃ D2, settled (ordD l l.length) (svOf bs) = D2 := ⟨_, rfl⟩
        have hla : D2.las = [sec0, allC c] := by
          rw [← hD2, ← hc]
          show landAt _ _ (ordD l l.length).wr.length = _
          rw [ordD_len, Nat.min_self]
          exact ord_land l l.length (svOf bs) l.length (by omega)
        have hwr : D2.wr = [] := by rw [← hD2]; rfl
        have hok2 : DvOk D2 := hD2 ▸ settled_ok hok _
        have hr1 : readS D2 1 = allC c := by simp [readS, readAt, hwr, hla]
        have hr0 : readS D2 0 = sec0 := by simp [readS, readAt, hwr, hla]
        have hcr := crash_any w.heap.size p (ordD l l.length) a b sa bs sc wr hT hok hws (HM.out.2.below hbw)
        rw [hD2] at hcr
        have HC := hide hcr
        have HB := hide hbw
        clear hcr hbw hT hok
        go_wp2_with (go_at_call 13; refine HC.out.mono ?_; rintro e w2 ⟨rfl, t2⟩; have s2 := toD_size t2; have f2 := HB.out.trans (toD_frees t2).below; obtain ⟨a2, b2, t2⟩ := toD_is t2; have H2 := hide (And.intro t2 f2); clear t2 f2; refine stopHere ?_)
        unfold Hid
        have hrr := read_any w.heap.size p D2 a2 b2 1 w2 H2.out.1 hok2 (by rw [hla]; simp)
        rw [hr1] at hrr
        have HR1 := hide hrr
        clear hrr
        go_wp2_with (go_at_call 12; refine HR1.out.mono ?_; rintro e w3 ⟨rfl, b3⟩; have s3 := b3.size; have B3 := hide b3; clear b3; refine stopHere ?_)
        unfold Hid
        obtain ⟨W4, hst4, f4, b4, z4⟩ := sec_var w3 (allC c) hs64
        have hB4 : Below w2.heap.size w2 W4 := B3.out.trans (b4.mono s3)
        have hrr := read_any w.heap.size p D2 a2 b2 0 W4 (H2.out.1.below hB4) hok2 (by rw [hla]; simp)
        rw [hr0] at hrr
        have HR0 := hide hrr
        have HS4 := hide hst4
        have H4 := hide (And.intro f4 (H2.out.2.trans (hB4.mono (by omega))))
        clear hrr hst4 f4 b4 hB4
        go_wp2_with (first | (refine l_alloc _ infoSecD rfl rfl ?_) | (refine l_store _ HS4.out rfl rfl rfl rfl ?_; refine stopHere ?_))
        unfold Hid
        go_wp2_with (go_at_call 12; refine HR0.out.mono ?_; rintro e w5 ⟨rfl, b5⟩; have s5 := b5.size; have B5 := hide b5; clear b5; refine stopHere ?_)
        unfold Hid
        obtain ⟨W6, hst6, f6, b6, z6⟩ := sec_var w5 sec0 rfl
        have HS6 := hide hst6
        have H6 := hide (And.intro f6 (And.intro ((b6.block _ (by omega)).trans ((B5.out.block _ (hp_lt H4.out.1)).trans H4.out.1)) (H4.out.2.trans ((B5.out.mono (by omega)).trans (b6.mono (by omega))))))
        clear hst6 f6 b6
        go_wp2_with (first | (refine l_alloc _ infoSecD rfl rfl ?_) | (refine l_store _ HS6.out rfl rfl rfl rfl ?_; refine stopHere ?_))
        unfold Hid
        go_wp2_with (go_at_call 14; refine (live_any W6).mono ?_; rintro e w7 ⟨rfl, b7⟩; have s7 := b7.size; have B7 := hide b7; clear b7; refine stopHere ?_)
        unfold Hid
        have f7 := (B7.out.block _ (hp_lt H6.out.1)).trans H6.out.1
        have g7 := (B7.out.block _ (hp_lt H6.out.2.1)).trans H6.out.2.1
        have c0 := allC_cell (j := 0) g7 (by omega)
        have c63 := allC_cell (j := 63) g7 (by omega)
        have hl7 := run_load_row (P := Try.prog) (w := w7) (cs := secA sec0) (g := w5.heap.size) (ty' := 29) infoSecD undSecD rfl rfl f7
        have heq := sec_eql (T := 29) undSecD sec0 sec0 rfl rfl
        simp only [decide_true] at heq
        have HL7 := hide hl7
        have HQ := hide heq
        clear f7 g7 hl7 heq
        go_wp2_with (refine g_val rfl _ (ex_load rfl rfl HL7.out) ?_; refine stopHere ?_)
        unfold Hid
        refine g_val (w' := w7) rfl (.agg (secA sec0)) (by kernel_rfl) ?_
        refine g_val rfl (.bool true) (ex_eql (u := secA sec0) (v := secA sec0) rfl rfl rfl (by kernel_rfl) (HQ.out w7)) ?_
        go_wp2_with fail
        go_ret
        exact ⟨rfl, H6.out.2.2.trans (B7.out.mono (by omega))⟩
theorem devOrder_any (ao : Option Addr) (cap : Nat) (l : List UInt8) (sa : Option Addr) (sc : Nat) (bs : List Bool) (w : World) (hcap : l.length ≤ cap) (hcm : cap ≤ 9223372036854775807) (hm : ByMem w.heap.size w ao l) (hs : BoolMem w.heap.size w sa bs) :
    Calls Try.prog 3 #[.slice ao l.length cap, .slice sa bs.length sc] w fun e w' => e = .returned (.bool true) ∧ Below w.heap.size w w' := by
  by_cases h : 40 < l.length
  · refine devOrder_core ao cap (l.take 40) sa sc bs w (by simp; omega) true l (by simp [h]) hcap hcm ⟨by simp; omega, fun j v hj => hm.2 j v ?_⟩ hs
    rw [List.getElem?_take] at hj
    split at hj
    · exact hj
    · cases hj
  · exact devOrder_core ao cap l sa sc bs w (by omega) false l (by simp) hcap hcm hm hs
end Go.Proofs.Ytdlejcdmjdljfab
