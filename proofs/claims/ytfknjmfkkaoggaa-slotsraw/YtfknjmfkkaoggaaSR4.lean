/- The document's slot. -/
import Derived.Test.YtfknjmfkkaoggaaSRA
import Derived.Deep.Upon
namespace Go.Proofs.Ytfknjmfkkaoggaa
open Go.RowKit Go.Shelf

theorem ex_mulN {o : Oper} {a : Act} {w : World} {x y : Operand} {m n : Nat} (ho : o.op = .binOp .mul 3 x y 3) (hx : a.eval x = .int .i64 m) (hy : a.eval y = .int .i64 n) (h : m * n ≤ 4611686018427387904) : (execOp a.eval o).run Try.prog w = .ok (.value (.int .i64 ((m * n : Nat)))) w := by
  have e : IntKind.i64.wrap ((m : Int) * n) = (m : Int) * n := by
    have : ((m * n : Nat) : Int) = (m : Int) * n := Int.natCast_mul m n
    rw [IntKind.wrap_i64]
    omega
  have e2 : ((m * n : Nat) : Int) = (m : Int) * n := Int.natCast_mul m n
  unfold execOp
  simp only [ho, hx, hy]
  rw [e2]
  go_simp
theorem results_two {fn : Func} {tmps : Array Value} {w : World} {a b : Nat} {x y : Value} (h : fn.results = #[.tmp a, .tmp b]) (ha : tmps[a]?.getD undef = x) (hb : tmps[b]?.getD undef = y) : (results fn tmps).run Try.prog w = .ok (.tuple #[x, y]) w := by
  simp [results, h, ha, hb]
theorem run_append_none {P : Program} (w : World) (t ty e : TypeId) (i : TypeInfo) (ht : P.underlying t = some (.slice e)) (hi : P.info? e = some i) (b : Option Addr) (n c : Nat) (hb : b = none → n = 0 ∧ c = 0) (hc : n ≤ c) :
    (Builtin.append_ #[t, t] ty #[.slice b n c, .slice none 0 0]).run P w = .ok (.slice b n c) w := by
  cases b with
  | none =>
    obtain ⟨rfl, rfl⟩ := hb rfl
    simp [Builtin.append_, run_underlying ht, sizeOf, typeInfo, hi, Builtin.lenOf, run_firstCells_none]
  | some a => simp [Builtin.append_, run_underlying ht, sizeOf, typeInfo, hi, Builtin.lenOf, run_firstCells_none, hc, storeCells]
/-- The first bytes of a row. -/
theorem row_take {w : World} {base m n gc : Nat} {ga : Option Addr} {l : List UInt8} (h : Row w base (.slice ga m gc) l) (hl : l.length = m) (hn : n ≤ m) (h0 : 0 < m) : Row w base (.slice ga n gc) (l.take n) ∧ n ≤ gc := by
  have hlt : (l.take n).length = n := by rw [List.length_take]; omega
  obtain ⟨h1, ⟨e, h2⟩ | ⟨g, cap, cur, e, x1, x2, x3, x4, x5, x6⟩⟩ := h
  · omega
  · cases e
    refine ⟨?_, by omega⟩
    show w.ownsRow base 5 1 _ (l.take n).length _
    rw [hlt]
    refine ⟨by rw [byteCells_len, hlt]; omega, .inr ⟨g, gc, cur, rfl, x1, x2, by omega, x4, x5, ?_⟩⟩
    have : Lib.byteCells (l.take n) = (Lib.byteCells l).take n := by simp [Lib.byteCells, List.map_take]
    rw [this, ← x6, List.take_take, hl]
    congr 1
    omega
/-- A sector behind a row. -/
theorem app_sec {w : World} {base g : Nat} {T : TypeId} {v : Value} {l : List UInt8} {s : Sec} (h : Row w base v l) (hx : w.heap[g]? = some (.cells (secA s) T)) (hs : s.length = 64) (hb : base ≤ w.heap.size) (hl : l.length ≤ 10000000) : ∃ v' w', (Builtin.append_ #[30, 30] 30 #[v, .slice (some ⟨g, 0, none⟩) 64 64]).run Try.prog w = .ok v' w' ∧ Row w' base v' (l ++ s) ∧ w.grownBy w' v.ownBlock := by
  obtain ⟨ti, t1, t2, t3, t4⟩ := infos infoU8b
  obtain ⟨v', w', hap, y1, y2, _⟩ := run_append_own_at (P := Try.prog) w base 30 30 5 ti _ 1 1 Try.underlying30 t1 t2 t3 t4 rfl (by omega) v l.length (Lib.byteCells l) h ⟨g, 0, none⟩ 64 64 (Lib.byteCells s) (by rw [byteCells_len]; omega) (fun j u hu => by
    rw [Addr.add_mid]
    simp only [World.cell?, hx, secA]
    simpa using hu) (one_bytes s) (by unfold maxLen; omega) (by omega) hb
  refine ⟨v', w', hap, ?_, y2⟩
  show w'.ownsRow base 5 1 v' (l ++ s).length (Lib.byteCells (l ++ s))
  rw [bc_app, List.length_append, hs]
  exact y1
/-- What the document's reading asks of a slot that holds. -/
theorem holds_iff (d : Dv) (k : Nat) : HoldsS d k ↔ ((rN (readS d k)).toNat ≤ (d.las.length - 2) / 2 * 64 ∧ rT (readS d k) ≠ 0#64) ∧ rootS (rT (readS d k)) (rN (readS d k)) (crcL (bytL d k (rN (readS d k)).toNat)) = readS d k := by
  unfold HoldsS
  constructor
  · rintro ⟨h1, h2, h3, h4⟩
    exact ⟨⟨h3, h2⟩, by rw [h4]; exact h1⟩
  · rintro ⟨⟨h3, h2⟩, h1⟩
    have h4 : crcL (bytL d k (rN (readS d k)).toNat) = rS (readS d k) := by
      have := congrArg rS h1
      rw [root_S] at this
      exact this
    exact ⟨by rw [← h4]; exact h1, h2, h3, h4⟩
theorem rN_v (s : Sec) (h : s.length = 64) : ((numL ((s.drop 10).take 4) 0#64).toNat : Int) = (rN s).toNat := by
  have hl : ((s.drop 10).take 4).length = 4 := by rw [List.length_take, List.length_drop]; omega
  have hb : (numL ((s.drop 10).take 4) 0#64).toNat < 4294967296 := by
    rw [num_nat _ _ (by rw [hl]; decide)]
    match hq : (s.drop 10).take 4, hl with
    | [a, b, c, e], _ =>
      have := a.toNat_lt
      have := b.toNat_lt
      have := c.toNat_lt
      have := e.toNat_lt
      simp only [numN]
      simp
      omega
  unfold rN low
  rw [BitVec.toNat_ofNat]
  omega
set_option maxRecDepth 100000 in
set_option maxHeartbeats 4000000 in
theorem rslot_any (base q p : Nat) (d : Dv) (vl vw : Value) (k : Nat) (w : World) (h : IsT base q p d vl vw w) (hd : DvOk d) (h2 : 4 ≤ d.las.length) (h3 : d.las.length ≤ 4096) (hk : k ≤ 1) :
    Calls Try.prog 73 #[.pointer (some ⟨q, 0, none⟩), .int .i64 k] w fun e w' => ((HoldsS d k ∧ ∃ v, e = .returned (.tuple #[v, .int .u64 (rT (readS d k)).toNat]) ∧ Row w' w.heap.size v (bytL d k (rN (readS d k)).toNat)) ∨ (¬ HoldsS d k ∧ e = .returned (.tuple #[.slice none 0 0, .int .u64 0]))) ∧ Below w.heap.size w w' := by
  have c1 := h.cell
  obtain ⟨S, hS⟩ : ∃ S, readS d k = S := ⟨_, rfl⟩
  have lS : S.length = 64 := by rw [← hS]; exact readAt_len d hd _ _
  have hrd := rread_any base p d vl vw k w h.dev hd (by omega)
  rw [hS] at hrd
  have HR := hide hrd
  have HH := hide (And.intro h hd)
  obtain ⟨Hd, hHd⟩ : ∃ Hd : Prop, Hd = HoldsS d k := ⟨_, rfl⟩
  rw [← hHd]
  rw [holds_iff, hS] at hHd
  have HHd := hide hHd
  rw [hS]
  clear h hd hrd hHd
  go_enter Try.func73, Try.ntmps73
  go_wp2_with (first
    | (go_at_call 39; refine HR.out.mono ?_; rintro e w1 ⟨rfl, b1⟩; refine stopHere ?_))
  unfold Hid
  have s1 := b1.size
  obtain ⟨W2, hst, f2, b2, z2⟩ : ∃ W, (Instr.storeAt 61 (.pointer (some ⟨w1.heap.size, 0, none⟩)) (.agg (secA S))).run Try.prog (w1.alloc (.cells (Lib.byteCells sec0).toArray 61)) = .ok () W ∧ W.heap[w1.heap.size]? = some (.cells (secA S) 61) ∧ Below w1.heap.size w1 W ∧ W.heap.size = w1.heap.size + 1 :=
    ⟨_, run_store_new (P := Try.prog) infoSecR w1 (cs := secA S) (c := secA sec0) (by rw [secA_size, lS]) rfl (secA_one S), World.alloc_heap_new w1 _, (Below.refl _ w1).alloc (Nat.le_refl _) _, by simp⟩
  have HST := hide hst
  have g1 := get_any (some ⟨w1.heap.size, 10, none⟩) 54 ((S.drop 10).take 4) W2 (by rw [List.length_take]; omega) (sec_memo 10 4 f2)
  have g2 := get_any (some ⟨w1.heap.size, 2, none⟩) 62 ((S.drop 2).take 8) W2 (by rw [List.length_take]; omega) (sec_memo 2 8 f2)
  rw [rN_v S lS, show ((S.drop 10).take 4).length = 4 by rw [List.length_take, List.length_drop]; omega] at g1
  rw [show numL ((S.drop 2).take 8) 0#64 = rT S from rfl, show ((S.drop 2).take 8).length = 8 by rw [List.length_take, List.length_drop]; omega] at g2
  obtain ⟨n, hn⟩ : ∃ n, (rN S).toNat = n := ⟨_, rfl⟩
  obtain ⟨t, ht⟩ : ∃ t, rT S = t := ⟨_, rfl⟩
  rw [hn] at g1 
  rw [ht] at g2 
  have hn32 : n < 4294967296 := by rw [← hn]; exact (rN S).isLt
  have HG1 := hide g1
  have HG2 := hide g2
  have B2 := b1.trans (b2.mono s1)
  have HI2 := hide (And.intro (HH.out.1.below B2) (And.intro f2 B2))
  have HF := hide (rhalf_any base q p d vl vw W2 HI2.out.1 h2 h3)
  obtain ⟨hf, hhf⟩ : ∃ hf, (d.las.length - 2) / 2 = hf := ⟨_, rfl⟩
  have hf2 : hf ≤ 4096 := by omega
  rw [hhf] at HF 
  have e64 : IntKind.i64.wrap ((hf : Int) * 64) = ((hf * 64 : Nat) : Int) := by rw [IntKind.wrap_i64]; omega
  obtain ⟨rm, hrm⟩ : ∃ rm, hf * 64 = rm := ⟨_, rfl⟩
  rw [hrm] at e64 
  have en : IntKind.i64.wrap (n : Int) = n := by rw [IntKind.wrap_i64]; omega
  have HL := hide (And.intro hn (And.intro ht (And.intro hhf hrm)))
  have htl := t.isLt
  clear hst g1 g2 b1 b2 f2 B2 z2 hn ht hhf hrm
  go_wp2_with (first
    | (refine l_alloc _ infoSecR rfl rfl ?_)
    | (refine l_store _ HST.out rfl rfl rfl rfl ?_; refine stopHere ?_))
  unfold Hid
  go_wp2_with (first
    | (go_at_call 80; refine HG1.out.mono ?_; rintro e w' ⟨rfl, hw'⟩; rw [hw']; clear hw'; refine stopHere ?_))
  unfold Hid
  go_wp2_with (first
    | (go_at_call 80; refine HG2.out.mono ?_; rintro e w' ⟨rfl, hw'⟩; rw [hw']; clear hw')
    | (go_at_call 58; refine HF.out.mono ?_; rintro e w' ⟨rfl, hw'⟩; rw [hw']; clear hw'; refine stopHere ?_))
  unfold Hid
  by_cases hbig : (rm : Int) < n
  · go_wp2_with fail
    obtain ⟨q1, q2, q3, q4⟩ := HL.out
    exact bodyPost_ret (results_two rfl rfl rfl) rfl ⟨.inr ⟨fun hh => (by rw [HHd.out] at hh; have := hh.1.1; rw [q1, q3, q4] at this; omega), rfl⟩, HI2.out.2.2⟩
  · by_cases ht0 : t = 0#64
    · have ht1 : (t.toNat : Int) = 0 := by rw [ht0]; rfl
      rw [ht1]
      go_wp2_with fail
      exact bodyPost_ret (results_two rfl rfl rfl) rfl ⟨.inr ⟨fun hh => (by rw [HHd.out] at hh; exact hh.1.2 (HL.out.2.1.trans ht0)), rfl⟩, HI2.out.2.2⟩
    · have ht1 : ¬ (t.toNat : Int) = 0 := fun e => ht0 (BitVec.eq_of_toNat_eq (by show t.toNat = 0; omega))
      have ht2 : ((t.toNat : Int) == 0) = false := by rw [beq_eq_false_iff_ne]; exact ht1
      have hnb : n ≤ 1000000 := by have := HL.out.2.2.2; omega
      have H0 := hide (show Row W2 w.heap.size (.slice none 0 0) (rawL d k 0) from ⟨rfl, .inl ⟨rfl, rfl⟩⟩)
      go_wp2_with fail
      obtain ⟨cn, hcn⟩ : ∃ cn, (n + 63) / 64 = cn := ⟨_, rfl⟩
      go_loopw [10, 11] (fun v i wr => ∃ j : Nat, j ≤ cn ∧ i = .int .i64 j ∧ (j = 0 → v = .slice none 0 0) ∧ Row wr w.heap.size v (rawL d k j) ∧ wr.heap[w1.heap.size]? = some (.cells (secA S) 61) ∧ Below w.heap.size w wr) (fun _ i _ => cn - (intOf i).toNat)
      case atStart => exact ⟨0, Nat.zero_le _, rfl, fun _ => rfl, H0.out, HI2.out.2.1, HI2.out.2.2⟩
      case round =>
        obtain ⟨j, hj, rfl, hj0, hr, fS, hbw⟩ := hrel
        have hw1 : IntKind.i64.wrap ((j : Int) + 1) = j + 1 := by rw [IntKind.wrap_i64]; omega
        have hrl := rawL_len HH.out.2 k j
        obtain ⟨ga, gc, rfl⟩ := own_shape hr
        rw [hrl] at hr ⊢
        obtain ⟨m, hm⟩ : ∃ m, 64 * j = m := ⟨_, rfl⟩
        rw [hm] at hr ⊢
        by_cases hlt : j < cn
        · have hltm : (m : Int) < n := by omega
          have HI := hide (And.intro hr (And.intro fS hbw))
          clear hr fS hbw
          go_wp2_with fail
          obtain ⟨V0, hV0⟩ : ∃ V0, wr.drew = V0 := ⟨_, rfl⟩
          obtain ⟨hr, fS, hbw⟩ := HI.out
          have D0 : Below wr.heap.size wr V0 := by rw [← hV0]; exact (Below.refl _ _).drew
          have gV : Below w.heap.size w V0 := hbw.trans (D0.mono hbw.size)
          have hT0 := HH.out.1.below gV
          have hq0 : q < V0.heap.size := hp_lt hT0.here
          have y0 := hT0.cell
          have hf' : (d.las.length - 2) / 2 = hf := HL.out.2.2.1
          have hrmn : n ≤ hf * 64 := by have := HL.out.2.2.2; omega
          have hjh : j < hf := by omega
          have hkh : k * hf ≤ hf := by
            rcases (show k = 0 ∨ k = 1 by omega) with rfl | rfl <;> simp
          have HFi := hide fun (V : World) (hV : Below V0.heap.size V0 V) => (by have h := rhalf_any base q p d vl vw V (hT0.below hV) h2 h3; rw [hf'] at h; exact h : Calls Try.prog 58 #[.pointer (some ⟨q, 0, none⟩)] V fun e w' => e = .returned (.int .i64 hf) ∧ w' = V)
          obtain ⟨X, hX⟩ : ∃ X, secAt d k j = X := ⟨_, rfl⟩
          have lX : X.length = 64 := by rw [← hX]; exact secAt_len HH.out.2 k j
          have HRd := hide fun (V : World) (hV : Below V0.heap.size V0 V) => (by have h := rread_any base p d vl vw ((2 + k * hf) + j) V (hT0.below hV).dev HH.out.2 (by omega); rw [show readS d ((2 + k * hf) + j) = X by rw [← hX, ← hf']; rfl] at h; exact h : Calls Try.prog 39 #[.pointer (some ⟨p, 0, none⟩), .int .i64 ((2 + k * hf) + j : Nat)] V fun e w' => e = .returned (.tuple #[.agg (secA X), .int .i64 0]) ∧ Below V.heap.size V w')
          --REG
          refine region_rel (S := fun W => Below V0.heap.size V0 W) (fun a W => ∃ (b12 : Nat) (x13 x43 x44 x45 x46 x47 x48 x49 x50 x51 x52 x53 x54 x55 x56 x57 : Value), W.heap[b12]? = some (.cells (secA X) 61) ∧ Below wr.heap.size wr W ∧ a = { tmps := #[.pointer (some ⟨q, 0, none⟩), .int .i64 k, undef, undef, .slice none 0 0, .int .u64 0, .pointer (some ⟨w1.heap.size, 0, none⟩), .int .i64 0, .int .i64 n, .int .u64 t.toNat, .slice ga m gc, .int .i64 j, .pointer (some ⟨b12, 0, none⟩), x13, .tuple #[.agg (secA S), .int .i64 0], .pointer (some ⟨q, 0, none⟩), .pointer (some ⟨q, 0, none⟩), .pointer (some ⟨q, 0, none⟩), .pointer (some ⟨p, 0, none⟩), .int .i64 k, .tuple #[.agg (secA S), .int .i64 0], .agg (secA S), .int .i64 0, .slice (some ⟨w1.heap.size, 10, none⟩) 4 54, .int .u64 n, .int .i64 n, .slice (some ⟨w1.heap.size, 2, none⟩) 8 62, .int .u64 t.toNat, .int .i64 n, .pointer (some ⟨q, 0, none⟩), .int .i64 hf, .int .i64 rm, .bool false, .bool false, .int .u64 t.toNat, .bool false, .bool false, .slice ga m gc, .int .i64 m, .int .i64 n, .bool true, u41, u42, x43, x44, x45, x46, x47, x48, x49, x50, x51, x52, x53, x54, x55, x56, x57, u58, u59, u60, undef, undef, undef, undef, undef, undef, undef, undef, undef, undef, undef, undef], defers := [] }) (by kernel_rfl) ?reg ?beh
          case reg =>
            rw [hV0]
            have SV0 : Below V0.heap.size V0 V0 := Below.refl _ _
            refine anyH_take (i := 0) (v := .pointer (some ⟨q, 0, none⟩)) rfl (some 44) rfl (by kernel_rfl) (by kernel_rfl) (by kernel_rfl) (fun _ _ _ h => by cases h.1) rfl (fun w0 hw0 => by first | rfl | kernel_rfl) SV0 ?_
            simp only [Act.put, List.setIfInBounds_toArray, List.set_cons_zero, List.set_cons_succ]
            refine anyH_take (i := 1) (v := .pointer (some ⟨q, 0, none⟩)) rfl (some 45) rfl (by kernel_rfl) (by kernel_rfl) (by kernel_rfl) (fun _ _ _ h => by cases h.1) rfl (fun w0 hw0 => by first | rfl | kernel_rfl) SV0 ?_
            simp only [Act.put, List.setIfInBounds_toArray, List.set_cons_zero, List.set_cons_succ]
            refine anyH_take (i := 2) (v := .pointer (some ⟨q, 0, none⟩)) rfl (some 46) rfl (by kernel_rfl) (by kernel_rfl) (by kernel_rfl) (fun _ _ _ h => by cases h.1) rfl (fun w0 hw0 => by first | rfl | kernel_rfl) SV0 ?_
            simp only [Act.put, List.setIfInBounds_toArray, List.set_cons_zero, List.set_cons_succ]
            refine anyH_take (i := 3) (v := .pointer (some ⟨p, 0, none⟩)) rfl (some 47) rfl (by kernel_rfl) (by kernel_rfl) (by kernel_rfl) (fun _ _ _ h => by cases h.1) rfl (fun w0 hw0 => ex_load rfl rfl (run_load_cell Try.underlying55 rfl (by rw [hw0.cell (p := ⟨q, 0, none⟩) hq0]; exact y0))) SV0 ?_
            simp only [Act.put, List.setIfInBounds_toArray, List.set_cons_zero, List.set_cons_succ]
            refine anyH_take (i := 4) (v := .int .i64 k) rfl (some 48) rfl (by kernel_rfl) (by kernel_rfl) (by kernel_rfl) (fun _ _ _ h => by cases h.1) rfl (fun w0 hw0 => by first | rfl | kernel_rfl) SV0 ?_
            simp only [Act.put, List.setIfInBounds_toArray, List.set_cons_zero, List.set_cons_succ]
            refine anyH_take (i := 5) (v := .pointer (some ⟨q, 0, none⟩)) rfl (some 49) rfl (by kernel_rfl) (by kernel_rfl) (by kernel_rfl) (fun _ _ _ h => by cases h.1) rfl (fun w0 hw0 => by first | rfl | kernel_rfl) SV0 ?_
            simp only [Act.put, List.setIfInBounds_toArray, List.set_cons_zero, List.set_cons_succ]
            refine anyH_take (i := 9) (v := .int .i64 j) rfl (some 53) rfl (by kernel_rfl) (by kernel_rfl) (by kernel_rfl) (fun _ _ _ h => by cases h.1) rfl (fun w0 hw0 => by first | rfl | kernel_rfl) SV0 ?_
            simp only [Act.put, List.setIfInBounds_toArray, List.set_cons_zero, List.set_cons_succ]
            refine anyH_two (i := 6) (j := 15) (by kernel_rfl) ?_ ?_
            · refine op_call rfl (some 50) rfl rfl #[.pointer (some ⟨q, 0, none⟩)] rfl (by simp [Act.eval]) (fun _ _ => rfl) (HFi.out V0 SV0) ?_
              rintro e V1 ⟨rfl, eV1⟩
              have SV1 : Below V0.heap.size V0 V1 := by rw [eV1]; exact SV0
              refine ⟨_, rfl, SV1, ?_⟩
              simp only [Act.put, List.setIfInBounds_toArray, List.set_cons_zero, List.set_cons_succ]
              refine anyH_take (i := 7) (v := .int .i64 ((k * hf : Nat))) rfl (some 51) rfl (by kernel_rfl) (by kernel_rfl) (by kernel_rfl) (fun _ _ _ h => by cases h.1) rfl (fun w0 hw0 => ex_mulN rfl rfl rfl (by have : k * hf ≤ 1 * hf := Nat.mul_le_mul_right _ hk; omega)) SV1 ?_
              simp only [Act.put, List.setIfInBounds_toArray, List.set_cons_zero, List.set_cons_succ]
              refine anyH_take (i := 8) (v := .int .i64 ((2 + k * hf : Nat))) rfl (some 52) rfl (by kernel_rfl) (by kernel_rfl) (by kernel_rfl) (fun _ _ _ h => by cases h.1) rfl (fun w0 hw0 => ex_addN (m := 2) rfl rfl rfl (by have : k * hf ≤ 1 * hf := Nat.mul_le_mul_right _ hk; omega)) SV1 ?_
              simp only [Act.put, List.setIfInBounds_toArray, List.set_cons_zero, List.set_cons_succ]
              refine anyH_take (i := 10) (v := .int .i64 (((2 + k * hf) + j : Nat))) rfl (some 54) rfl (by kernel_rfl) (by kernel_rfl) (by kernel_rfl) (fun _ _ _ h => by cases h.1) rfl (fun w0 hw0 => ex_addN rfl rfl rfl (by have : k * hf ≤ 1 * hf := Nat.mul_le_mul_right _ hk; omega)) SV1 ?_
              simp only [Act.put, List.setIfInBounds_toArray, List.set_cons_zero, List.set_cons_succ]
              refine anyH_two (i := 11) (j := 15) (by kernel_rfl) ?_ ?_
              · refine op_call rfl (some 55) rfl rfl #[.pointer (some ⟨p, 0, none⟩), .int .i64 (((2 + k * hf) + j : Nat))] rfl (by simp [Act.eval]) (fun _ _ => rfl) (HRd.out V1 SV1) ?_
                rintro e V2 ⟨rfl, bV2⟩
                have SV2 : Below V0.heap.size V0 V2 := SV1.trans (bV2.mono SV1.size)
                refine ⟨_, rfl, SV2, ?_⟩
                simp only [Act.put, List.setIfInBounds_toArray, List.set_cons_zero, List.set_cons_succ]
                refine anyH_take (i := 12) (v := .tuple #[.agg (secA X), .int .i64 0]) rfl (some 43) rfl (by kernel_rfl) (by kernel_rfl) (by kernel_rfl) (fun _ _ _ h => by cases h.1) rfl (fun w0 hw0 => by first | rfl | kernel_rfl) SV2 ?_
                simp only [Act.put, List.setIfInBounds_toArray, List.set_cons_zero, List.set_cons_succ]
                refine anyH_take (i := 13) (v := .agg (secA X)) rfl (some 56) rfl (by kernel_rfl) (by kernel_rfl) (by kernel_rfl) (fun _ _ _ h => by cases h.1) rfl (fun w0 hw0 => by first | rfl | kernel_rfl) SV2 ?_
                simp only [Act.put, List.setIfInBounds_toArray, List.set_cons_zero, List.set_cons_succ]
                refine anyH_take (i := 14) (v := .int .i64 0) rfl (some 57) rfl (by kernel_rfl) (by kernel_rfl) (by kernel_rfl) (fun _ _ _ h => by cases h.1) rfl (fun w0 hw0 => by first | rfl | kernel_rfl) SV2 ?_
                simp only [Act.put, List.setIfInBounds_toArray, List.set_cons_zero, List.set_cons_succ]
                refine anyH_one (i := 15) (by kernel_rfl) ?_
                obtain ⟨V3, hV3, qV3, bV3⟩ : ∃ W, V2.alloc (.cells (secA sec0) 61) = W ∧ W.heap[V2.heap.size]? = some (.cells (secA sec0) 61) ∧ Below V2.heap.size V2 W := ⟨_, rfl, World.alloc_heap_new _ _, (Below.refl _ _).alloc (Nat.le_refl _) _⟩
                have SV3 : Below V0.heap.size V0 V3 := SV2.trans (bV3.mono SV2.size)
                refine op_run rfl (some 12) rfl rfl (ex_alloc rfl (run_alloc_long infoSecR V2)) ?_
                rw [show (Lib.byteCells sec0).toArray = secA sec0 from rfl, hV3]
                refine ⟨SV3, ?_⟩
                simp only [Act.put, List.setIfInBounds_toArray, List.set_cons_zero, List.set_cons_succ]
                have qq : V3.heap[V2.heap.size]? = some (.cells (secA sec0) 61) := qV3
                obtain ⟨Vz, hst, k1, k2, k3, k4⟩ := run_store_sec infoSecR qq (by rfl) lX
                have Sz : Below V0.heap.size V0 Vz := SV3.trans (k4.mono SV2.size)
                refine anyH_one (i := 16) (by kernel_rfl) ?_
                refine op_store rfl rfl rfl (ex_store rfl rfl rfl hst) ?_
                refine ⟨Sz, ?_⟩
                simp only [Act.put]
                refine anyH_val (i := 17) (by kernel_rfl) rfl (some 13) rfl rfl (ex_any rfl rfl) Sz ?_
                simp only [Act.put, List.setIfInBounds_toArray, List.set_cons_zero, List.set_cons_succ]
                exact wpAnyH_done (by kernel_rfl) ⟨rfl, V2.heap.size, _, _, _, _, _, _, _, _, _, _, _, _, _, _, _, _, k1, D0.trans (Sz.mono D0.size), rfl⟩ _
              · obtain ⟨V2, hV2, qV2, bV2⟩ : ∃ W, V1.alloc (.cells (secA sec0) 61) = W ∧ W.heap[V1.heap.size]? = some (.cells (secA sec0) 61) ∧ Below V1.heap.size V1 W := ⟨_, rfl, World.alloc_heap_new _ _, (Below.refl _ _).alloc (Nat.le_refl _) _⟩
                have SV2 : Below V0.heap.size V0 V2 := SV1.trans (bV2.mono SV1.size)
                refine op_run rfl (some 12) rfl rfl (ex_alloc rfl (run_alloc_long infoSecR V1)) ?_
                rw [show (Lib.byteCells sec0).toArray = secA sec0 from rfl, hV2]
                refine ⟨SV2, ?_⟩
                simp only [Act.put, List.setIfInBounds_toArray, List.set_cons_zero, List.set_cons_succ]
                refine anyH_one (i := 11) (by kernel_rfl) ?_
                refine op_call rfl (some 55) rfl rfl #[.pointer (some ⟨p, 0, none⟩), .int .i64 (((2 + k * hf) + j : Nat))] rfl (by simp [Act.eval]) (fun _ _ => rfl) (HRd.out V2 SV2) ?_
                rintro e V3 ⟨rfl, bV3⟩
                have SV3 : Below V0.heap.size V0 V3 := SV2.trans (bV3.mono SV2.size)
                refine ⟨_, rfl, SV3, ?_⟩
                simp only [Act.put, List.setIfInBounds_toArray, List.set_cons_zero, List.set_cons_succ]
                refine anyH_take (i := 12) (v := .tuple #[.agg (secA X), .int .i64 0]) rfl (some 43) rfl (by kernel_rfl) (by kernel_rfl) (by kernel_rfl) (fun _ _ _ h => by cases h.1) rfl (fun w0 hw0 => by first | rfl | kernel_rfl) SV3 ?_
                simp only [Act.put, List.setIfInBounds_toArray, List.set_cons_zero, List.set_cons_succ]
                refine anyH_take (i := 13) (v := .agg (secA X)) rfl (some 56) rfl (by kernel_rfl) (by kernel_rfl) (by kernel_rfl) (fun _ _ _ h => by cases h.1) rfl (fun w0 hw0 => by first | rfl | kernel_rfl) SV3 ?_
                simp only [Act.put, List.setIfInBounds_toArray, List.set_cons_zero, List.set_cons_succ]
                refine anyH_take (i := 14) (v := .int .i64 0) rfl (some 57) rfl (by kernel_rfl) (by kernel_rfl) (by kernel_rfl) (fun _ _ _ h => by cases h.1) rfl (fun w0 hw0 => by first | rfl | kernel_rfl) SV3 ?_
                simp only [Act.put, List.setIfInBounds_toArray, List.set_cons_zero, List.set_cons_succ]
                have qq : V3.heap[V1.heap.size]? = some (.cells (secA sec0) 61) := (bV3.block _ (hp_lt qV2)).trans qV2
                obtain ⟨Vz, hst, k1, k2, k3, k4⟩ := run_store_sec infoSecR qq (by rfl) lX
                have Sz : Below V0.heap.size V0 Vz := SV3.trans (k4.mono SV1.size)
                refine anyH_one (i := 16) (by kernel_rfl) ?_
                refine op_store rfl rfl rfl (ex_store rfl rfl rfl hst) ?_
                refine ⟨Sz, ?_⟩
                simp only [Act.put]
                refine anyH_val (i := 17) (by kernel_rfl) rfl (some 13) rfl rfl (ex_any rfl rfl) Sz ?_
                simp only [Act.put, List.setIfInBounds_toArray, List.set_cons_zero, List.set_cons_succ]
                exact wpAnyH_done (by kernel_rfl) ⟨rfl, V1.heap.size, _, _, _, _, _, _, _, _, _, _, _, _, _, _, _, _, k1, D0.trans (Sz.mono D0.size), rfl⟩ _
            · obtain ⟨V1, hV1, qV1, bV1⟩ : ∃ W, V0.alloc (.cells (secA sec0) 61) = W ∧ W.heap[V0.heap.size]? = some (.cells (secA sec0) 61) ∧ Below V0.heap.size V0 W := ⟨_, rfl, World.alloc_heap_new _ _, (Below.refl _ _).alloc (Nat.le_refl _) _⟩
              have SV1 : Below V0.heap.size V0 V1 := SV0.trans (bV1.mono SV0.size)
              refine op_run rfl (some 12) rfl rfl (ex_alloc rfl (run_alloc_long infoSecR V0)) ?_
              rw [show (Lib.byteCells sec0).toArray = secA sec0 from rfl, hV1]
              refine ⟨SV1, ?_⟩
              simp only [Act.put, List.setIfInBounds_toArray, List.set_cons_zero, List.set_cons_succ]
              refine anyH_one (i := 6) (by kernel_rfl) ?_
              refine op_call rfl (some 50) rfl rfl #[.pointer (some ⟨q, 0, none⟩)] rfl (by simp [Act.eval]) (fun _ _ => rfl) (HFi.out V1 SV1) ?_
              rintro e V2 ⟨rfl, eV2⟩
              have SV2 : Below V0.heap.size V0 V2 := by rw [eV2]; exact SV1
              refine ⟨_, rfl, SV2, ?_⟩
              simp only [Act.put, List.setIfInBounds_toArray, List.set_cons_zero, List.set_cons_succ]
              refine anyH_take (i := 7) (v := .int .i64 ((k * hf : Nat))) rfl (some 51) rfl (by kernel_rfl) (by kernel_rfl) (by kernel_rfl) (fun _ _ _ h => by cases h.1) rfl (fun w0 hw0 => ex_mulN rfl rfl rfl (by have : k * hf ≤ 1 * hf := Nat.mul_le_mul_right _ hk; omega)) SV2 ?_
              simp only [Act.put, List.setIfInBounds_toArray, List.set_cons_zero, List.set_cons_succ]
              refine anyH_take (i := 8) (v := .int .i64 ((2 + k * hf : Nat))) rfl (some 52) rfl (by kernel_rfl) (by kernel_rfl) (by kernel_rfl) (fun _ _ _ h => by cases h.1) rfl (fun w0 hw0 => ex_addN (m := 2) rfl rfl rfl (by have : k * hf ≤ 1 * hf := Nat.mul_le_mul_right _ hk; omega)) SV2 ?_
              simp only [Act.put, List.setIfInBounds_toArray, List.set_cons_zero, List.set_cons_succ]
              refine anyH_take (i := 10) (v := .int .i64 (((2 + k * hf) + j : Nat))) rfl (some 54) rfl (by kernel_rfl) (by kernel_rfl) (by kernel_rfl) (fun _ _ _ h => by cases h.1) rfl (fun w0 hw0 => ex_addN rfl rfl rfl (by have : k * hf ≤ 1 * hf := Nat.mul_le_mul_right _ hk; omega)) SV2 ?_
              simp only [Act.put, List.setIfInBounds_toArray, List.set_cons_zero, List.set_cons_succ]
              refine anyH_one (i := 11) (by kernel_rfl) ?_
              refine op_call rfl (some 55) rfl rfl #[.pointer (some ⟨p, 0, none⟩), .int .i64 (((2 + k * hf) + j : Nat))] rfl (by simp [Act.eval]) (fun _ _ => rfl) (HRd.out V2 SV2) ?_
              rintro e V3 ⟨rfl, bV3⟩
              have SV3 : Below V0.heap.size V0 V3 := SV2.trans (bV3.mono SV2.size)
              refine ⟨_, rfl, SV3, ?_⟩
              simp only [Act.put, List.setIfInBounds_toArray, List.set_cons_zero, List.set_cons_succ]
              refine anyH_take (i := 12) (v := .tuple #[.agg (secA X), .int .i64 0]) rfl (some 43) rfl (by kernel_rfl) (by kernel_rfl) (by kernel_rfl) (fun _ _ _ h => by cases h.1) rfl (fun w0 hw0 => by first | rfl | kernel_rfl) SV3 ?_
              simp only [Act.put, List.setIfInBounds_toArray, List.set_cons_zero, List.set_cons_succ]
              refine anyH_take (i := 13) (v := .agg (secA X)) rfl (some 56) rfl (by kernel_rfl) (by kernel_rfl) (by kernel_rfl) (fun _ _ _ h => by cases h.1) rfl (fun w0 hw0 => by first | rfl | kernel_rfl) SV3 ?_
              simp only [Act.put, List.setIfInBounds_toArray, List.set_cons_zero, List.set_cons_succ]
              refine anyH_take (i := 14) (v := .int .i64 0) rfl (some 57) rfl (by kernel_rfl) (by kernel_rfl) (by kernel_rfl) (fun _ _ _ h => by cases h.1) rfl (fun w0 hw0 => by first | rfl | kernel_rfl) SV3 ?_
              simp only [Act.put, List.setIfInBounds_toArray, List.set_cons_zero, List.set_cons_succ]
              have qq : V3.heap[V0.heap.size]? = some (.cells (secA sec0) 61) := (bV3.block _ (by rw [eV2]; exact hp_lt qV1)).trans (by rw [eV2]; exact qV1)
              obtain ⟨Vz, hst, k1, k2, k3, k4⟩ := run_store_sec infoSecR qq (by rfl) lX
              have Sz : Below V0.heap.size V0 Vz := SV3.trans (k4.mono (Nat.le_refl _))
              refine anyH_one (i := 16) (by kernel_rfl) ?_
              refine op_store rfl rfl rfl (ex_store rfl rfl rfl hst) ?_
              refine ⟨Sz, ?_⟩
              simp only [Act.put]
              refine anyH_val (i := 17) (by kernel_rfl) rfl (some 13) rfl rfl (ex_any rfl rfl) Sz ?_
              simp only [Act.put, List.setIfInBounds_toArray, List.set_cons_zero, List.set_cons_succ]
              exact wpAnyH_done (by kernel_rfl) ⟨rfl, V0.heap.size, _, _, _, _, _, _, _, _, _, _, _, _, _, _, _, _, k1, D0.trans (Sz.mono D0.size), rfl⟩ _
          --END
          case beh =>
            rintro a W' ⟨b12, x13, x43, x44, x45, x46, x47, x48, x49, x50, x51, x52, x53, x54, x55, x56, x57, fX, hBW, rfl⟩
            obtain ⟨v3, W3, ap3, r3, g3⟩ := app_sec (hr.below hBW) fX lX (Nat.le_trans hbw.size hBW.size) (by rw [rawL_len HH.out.2]; omega)
            have hB3 : Below w.heap.size w W3 := grown_below (hr.below hBW) (Nat.le_refl _) (hbw.trans (hBW.mono hbw.size)) g3
            have fS3 : W3.heap[w1.heap.size]? = _ := (g3.block _ (Nat.lt_of_lt_of_le (hp_lt fS) hBW.size) (fun e => own_ne0 hr fS (by decide) _ e.symm rfl)).trans ((hBW.block _ (hp_lt fS)).trans fS)
            have e3 : rawL d k j ++ X = rawL d k (j + 1) := by rw [rawL, hX]
            rw [e3] at r3
            have HA3 := hide ap3
            have H3 := hide (And.intro r3 (And.intro fS3 hB3))
            clear r3 fS3 hB3 ap3 g3 fX hBW hr fS hbw y0 e3
            go_wp2_with (first
              | (at_builtin; refine l_val rfl _ (ex_append2 (t := 30) (t' := 30) rfl rfl rfl HA3.out) ?_))
            go_roundw
            case rel => exact ⟨j + 1, by omega, by simp, fun e => absurd e (Nat.succ_ne_zero j), H3.out.1, H3.out.2.1, H3.out.2.2⟩
            case measure => simp [intOf]; omega
        · have hltm : ¬ (m : Int) < n := by omega
          obtain rfl : j = cn := by omega
          obtain ⟨bL, hbL⟩ : ∃ bL, bytL d k n = bL := ⟨_, rfl⟩
          have lbL : bL.length = n := by rw [← hbL]; exact bytL_len HH.out.2 k n
          by_cases hn0 : n = 0
          · obtain ⟨W4, hW4, f4, b4, z4⟩ : ∃ W, wr.alloc (.cells #[] 5) = W ∧ W.heap[wr.heap.size]? = some (.cells #[] 5) ∧ Below wr.heap.size wr W ∧ W.heap.size = wr.heap.size + 1 := ⟨_, rfl, World.alloc_heap_new _ _, (Below.refl _ _).alloc (Nat.le_refl _) _, by simp⟩
            have hv0 := hj0 (by omega)
            rw [hrl, hm] at hv0
            obtain ⟨rfl, rfl, rfl⟩ : ga = none ∧ m = 0 ∧ gc = 0 := by simpa using hv0
            have rX : Row W4 w.heap.size (.slice (some ⟨wr.heap.size, 0, none⟩) 0 0) bL := by
              have e : bL = [] := List.eq_nil_of_length_eq_zero (by omega)
              subst e
              exact ⟨rfl, .inr ⟨_, _, _, rfl, hbw.size, f4, Nat.le_refl _, by unfold maxLen; omega, rfl, rfl⟩⟩
            have fX : W4.heap[w1.heap.size]? = _ := (b4.block _ (hp_lt fS)).trans fS
            have BX : Below w.heap.size w W4 := hbw.trans (b4.mono hbw.size)
            obtain ⟨ti, t1, _⟩ := infos infoU8b
            have HA := hide (run_append_none (P := Try.prog) W4 30 30 5 ti Try.underlying30 t1 (some ⟨wr.heap.size, 0, none⟩) 0 0 (by intro e; cases e) (Nat.le_refl _))
            have HX := hide (And.intro rX (And.intro fX BX))
            have HW4 := hide hW4
            obtain rfl : n = 0 := hn0
            clear hr fS hbw rX fX BX hW4 f4 b4 z4 hv0 hj0
            go_wp2_with (first
              | (at_builtin; rw [show wr.alloc (.cells #[] 5) = W4 from HW4.out]; refine l_val rfl _ (ex_append2 (t := 30) (t' := 30) rfl rfl rfl HA.out) ?_; refine stopHere ?_))
            unfold Hid
            --TAIL1
            obtain ⟨rX, fX, BX⟩ := HX.out
            obtain ⟨V0, hV0⟩ : ∃ V0, W4.drew = V0 := ⟨_, rfl⟩
            have D0 : Below W4.heap.size W4 V0 := by rw [← hV0]; exact (Below.refl _ _).drew
            have rV : Row V0 w.heap.size (.slice (some ⟨wr.heap.size, 0, none⟩) 0 0) bL := rX.below D0
            have fx0 : V0.heap[w1.heap.size]? = _ := (D0.block _ (hp_lt fX)).trans fX
            have hx0 : w1.heap.size < V0.heap.size := hp_lt fx0
            have rV2 : V0.ownsRow w.heap.size 5 1 (.slice (some ⟨wr.heap.size, 0, none⟩) 0 0) 0 (Lib.byteCells bL) := by have h := rV; unfold Row at h; rw [lbL] at h; exact h
            obtain ⟨Y, hY⟩ : ∃ Y, rootS t (BitVec.ofNat 32 0) (crcL bL) = Y := ⟨_, rfl⟩
            have hro := rroot_any ((some ⟨wr.heap.size, 0, none⟩)) bL 0 0 t V0 (own_bytes rV2 lbL) lbL (by omega)
            rw [hY] at hro
            have HRo := hide hro
            have lY : Y.length = 64 := by rw [← hY]; exact (root_lens _ _ _).2.2.2
            clear hro
            go_wp2_with fail
            refine region_rel (S := fun W => Below V0.heap.size V0 W) (fun a W => ∃ xx : Nat → Value, (Below V0.heap.size V0 W) ∧ a = { tmps := #[xx 0, xx 1, xx 2, xx 3, xx 4, xx 5, xx 6, xx 7, xx 8, .int .u64 t.toNat, .slice (some ⟨wr.heap.size, 0, none⟩) 0 0, xx 11, xx 12, xx 13, xx 14, xx 15, xx 16, xx 17, xx 18, xx 19, xx 20, xx 21, xx 22, xx 23, xx 24, xx 25, xx 26, xx 27, xx 28, xx 29, xx 30, xx 31, xx 32, xx 33, xx 34, xx 35, xx 36, xx 37, xx 38, xx 39, xx 40, xx 41, xx 42, xx 43, xx 44, xx 45, xx 46, xx 47, xx 48, xx 49, xx 50, xx 51, xx 52, xx 53, xx 54, xx 55, xx 56, xx 57, xx 58, xx 59, xx 60, xx 61, xx 62, xx 63, xx 64, xx 65, xx 66, xx 67, xx 68, xx 69, .bool (!decide (Y = S)), xx 71, xx 72], defers := [] }) (by kernel_rfl) ?reg2 ?beh2
            case reg2 =>
              rw [hV0]
              have SV0 : Below V0.heap.size V0 V0 := Below.refl _ _
              refine anyH_take (i := 0) (v := .slice (some ⟨wr.heap.size, 0, none⟩) 0 0) rfl (some 66) rfl (by kernel_rfl) (by kernel_rfl) (by kernel_rfl) (fun _ _ _ h => by cases h.1) rfl (fun w0 hw0 => by first | rfl | kernel_rfl) SV0 ?_
              simp only [Act.put, List.setIfInBounds_toArray, List.set_cons_zero, List.set_cons_succ]
              refine anyH_take (i := 1) (v := .int .u64 t.toNat) rfl (some 67) rfl (by kernel_rfl) (by kernel_rfl) (by kernel_rfl) (fun _ _ _ h => by cases h.1) rfl (fun w0 hw0 => by first | rfl | kernel_rfl) SV0 ?_
              simp only [Act.put, List.setIfInBounds_toArray, List.set_cons_zero, List.set_cons_succ]
              refine anyH_take (i := 3) (v := .agg (secA S)) rfl (some 69) rfl (by kernel_rfl) (by kernel_rfl) (by kernel_rfl) (fun _ _ _ h => by cases h.1) rfl (fun w0 hw0 => ex_load rfl rfl (run_load_row infoSecR undSecR rfl (by rw [secA_size, lS]) ((hw0.block _ hx0).trans fx0))) SV0 ?_
              simp only [Act.put, List.setIfInBounds_toArray, List.set_cons_zero, List.set_cons_succ]
              refine anyH_one (i := 2) (by kernel_rfl) ?_
              refine op_call rfl (some 68) rfl rfl #[.slice (some ⟨wr.heap.size, 0, none⟩) 0 0, .int .u64 t.toNat] rfl (by simp [Act.eval]) (fun _ _ => rfl) HRo.out ?_
              rintro e V1 ⟨rfl, b1⟩
              refine ⟨_, rfl, b1, ?_⟩
              simp only [Act.put, List.setIfInBounds_toArray, List.set_cons_zero, List.set_cons_succ]
              refine anyH_val (i := 4) (by kernel_rfl) rfl (some 70) rfl rfl (ex_neq (u := secA Y) (v := secA S) rfl rfl rfl (by kernel_rfl) (sec_neq (T := 61) undSecR Y S lY lS V1)) b1 ?_
              simp only [Act.put, List.setIfInBounds_toArray, List.set_cons_zero, List.set_cons_succ]
              exact wpAnyH_done (by kernel_rfl) ⟨rfl, fill (b1) (by kernel_rfl)⟩ _
            case beh2 =>
              rintro a W' ⟨xx, hBW, rfl⟩
              have hBf : Below w.heap.size w W' := BX.trans ((D0.trans (hBW.mono D0.size)).mono BX.size)
              obtain ⟨q1, q2, q3, q4⟩ := HL.out
              have hnN : BitVec.ofNat 32 0 = rN S := by rw [← q1]; apply BitVec.eq_of_toNat_eq; rw [BitVec.toNat_ofNat]; have := (rN S).isLt; omega
              have hHY : Hd = (Y = S) := by
                rw [HHd.out, q1, q2, q3, q4, hbL, ← hnN, hY]
                exact propext ⟨fun hh => hh.2, fun hh => ⟨⟨by omega, ht0⟩, hh⟩⟩
              have HQ := hide (And.intro q1 (And.intro q2 (And.intro hHY (And.intro hbL (And.intro hBf (rV.below hBW))))))
              by_cases hys : Y = S
              · rw [decide_eq_true hys]
                have HYS := hide hys
                clear hys hBf hBW q1 q2 q3 q4 hnN hHY hY hbL rX fX BX D0 rV rV2 fx0 HX
                go_wp2_with fail
                obtain ⟨q1, q2, hHY, hbL, hBf, hRf⟩ := HQ.out
                exact bodyPost_ret (results_two rfl rfl rfl) rfl ⟨.inl ⟨hHY ▸ HYS.out, _, by rw [q2]; rfl, by rw [q1, hbL]; exact hRf⟩, hBf⟩
              · rw [decide_eq_false hys]
                have HYS := hide hys
                clear hys hBf hBW q1 q2 q3 q4 hnN hHY hY hbL rX fX BX D0 rV rV2 fx0 HX
                go_wp2_with fail
                obtain ⟨q1, q2, hHY, hbL, hBf, hRf⟩ := HQ.out
                exact bodyPost_ret (results_two rfl rfl rfl) rfl ⟨.inr ⟨fun hh => HYS.out (hHY ▸ hh), rfl⟩, hBf⟩
            --TAILE1
          · obtain ⟨hrt, hngc⟩ := row_take (n := n) hr (by rw [hrl]; exact hm) (by omega) (by omega)
            have ebL : (rawL d k ((n + 63) / 64)).take n = bL := hbL
            rw [hcn] at ebL
            rw [ebL] at hrt
            obtain ⟨W4, hW4, b4, z4⟩ : ∃ W, wr.alloc (.cells #[] 5) = W ∧ Below wr.heap.size wr W ∧ W.heap.size = wr.heap.size + 1 := ⟨_, rfl, (Below.refl _ _).alloc (Nat.le_refl _) _, by simp⟩
            obtain ⟨v5, W5, ap5, r5, g5⟩ := app_full (b := wr.heap.size) (n := 0) (l := []) rfl (fun j c hj => by cases hj) (hrt.below b4) (fun e => by rw [e] at lbL; exact hn0 lbL.symm) (by omega)
            rw [List.nil_append] at r5
            have hB5 : Below W4.heap.size W4 W5 := (Below.refl _ _).grown g5 (Nat.le_refl _) (fun k e => by cases e)
            have rX : Row W5 w.heap.size v5 bL := r5.lower (Nat.le_trans hbw.size b4.size)
            have fX : W5.heap[w1.heap.size]? = _ := (hB5.block _ (Nat.lt_of_lt_of_le (hp_lt fS) b4.size)).trans ((b4.block _ (hp_lt fS)).trans fS)
            have BX : Below w.heap.size w W5 := hbw.trans ((b4.trans (hB5.mono b4.size)).mono hbw.size)
            have HX := hide (And.intro rX (And.intro fX BX))
            have HA := hide ap5
            have HW4 := hide hW4
            obtain ⟨g, rfl⟩ : ∃ g, ga = some ⟨g, 0, none⟩ := by
              obtain ⟨_, ⟨e, h2⟩ | ⟨g, cap, cur, e, _⟩⟩ := id hrt
              · cases e
                exact absurd rfl (fun e => hn0 (by omega))
              · cases e
                exact ⟨g, rfl⟩
            have hngi : (n : Int) ≤ gc := by omega
            clear hr fS hbw rX fX BX hW4 b4 z4 hj0 hrt r5 g5 hB5 ap5
            go_wp2_with (first
              | (at_builtin; rw [show wr.alloc (.cells #[] 5) = W4 from HW4.out]; refine l_val rfl _ (ex_append2 (t := 30) (t' := 30) rfl rfl rfl HA.out) ?_; refine stopHere ?_))
            unfold Hid
            --TAIL2
            obtain ⟨rX, fX, BX⟩ := HX.out
            obtain ⟨gv, cv, rfl⟩ := own_shape rX
            rw [lbL] at rX ⊢
            obtain ⟨V0, hV0⟩ : ∃ V0, W5.drew = V0 := ⟨_, rfl⟩
            have D0 : Below W5.heap.size W5 V0 := by rw [← hV0]; exact (Below.refl _ _).drew
            have rV : Row V0 w.heap.size (.slice gv n cv) bL := rX.below D0
            have fx0 : V0.heap[w1.heap.size]? = _ := (D0.block _ (hp_lt fX)).trans fX
            have hx0 : w1.heap.size < V0.heap.size := hp_lt fx0
            have rV2 : V0.ownsRow w.heap.size 5 1 (.slice gv n cv) n (Lib.byteCells bL) := by have h := rV; unfold Row at h; rw [lbL] at h; exact h
            obtain ⟨Y, hY⟩ : ∃ Y, rootS t (BitVec.ofNat 32 n) (crcL bL) = Y := ⟨_, rfl⟩
            have hro := rroot_any (gv) bL n cv t V0 (own_bytes rV2 lbL) lbL (by omega)
            rw [hY] at hro
            have HRo := hide hro
            have lY : Y.length = 64 := by rw [← hY]; exact (root_lens _ _ _).2.2.2
            clear hro
            go_wp2_with fail
            refine region_rel (S := fun W => Below V0.heap.size V0 W) (fun a W => ∃ xx : Nat → Value, (Below V0.heap.size V0 W) ∧ a = { tmps := #[xx 0, xx 1, xx 2, xx 3, xx 4, xx 5, xx 6, xx 7, xx 8, .int .u64 t.toNat, .slice gv n cv, xx 11, xx 12, xx 13, xx 14, xx 15, xx 16, xx 17, xx 18, xx 19, xx 20, xx 21, xx 22, xx 23, xx 24, xx 25, xx 26, xx 27, xx 28, xx 29, xx 30, xx 31, xx 32, xx 33, xx 34, xx 35, xx 36, xx 37, xx 38, xx 39, xx 40, xx 41, xx 42, xx 43, xx 44, xx 45, xx 46, xx 47, xx 48, xx 49, xx 50, xx 51, xx 52, xx 53, xx 54, xx 55, xx 56, xx 57, xx 58, xx 59, xx 60, xx 61, xx 62, xx 63, xx 64, xx 65, xx 66, xx 67, xx 68, xx 69, .bool (!decide (Y = S)), xx 71, xx 72], defers := [] }) (by kernel_rfl) ?reg2 ?beh2
            case reg2 =>
              rw [hV0]
              have SV0 : Below V0.heap.size V0 V0 := Below.refl _ _
              refine anyH_take (i := 0) (v := .slice gv n cv) rfl (some 66) rfl (by kernel_rfl) (by kernel_rfl) (by kernel_rfl) (fun _ _ _ h => by cases h.1) rfl (fun w0 hw0 => by first | rfl | kernel_rfl) SV0 ?_
              simp only [Act.put, List.setIfInBounds_toArray, List.set_cons_zero, List.set_cons_succ]
              refine anyH_take (i := 1) (v := .int .u64 t.toNat) rfl (some 67) rfl (by kernel_rfl) (by kernel_rfl) (by kernel_rfl) (fun _ _ _ h => by cases h.1) rfl (fun w0 hw0 => by first | rfl | kernel_rfl) SV0 ?_
              simp only [Act.put, List.setIfInBounds_toArray, List.set_cons_zero, List.set_cons_succ]
              refine anyH_take (i := 3) (v := .agg (secA S)) rfl (some 69) rfl (by kernel_rfl) (by kernel_rfl) (by kernel_rfl) (fun _ _ _ h => by cases h.1) rfl (fun w0 hw0 => ex_load rfl rfl (run_load_row infoSecR undSecR rfl (by rw [secA_size, lS]) ((hw0.block _ hx0).trans fx0))) SV0 ?_
              simp only [Act.put, List.setIfInBounds_toArray, List.set_cons_zero, List.set_cons_succ]
              refine anyH_one (i := 2) (by kernel_rfl) ?_
              refine op_call rfl (some 68) rfl rfl #[.slice gv n cv, .int .u64 t.toNat] rfl (by simp [Act.eval]) (fun _ _ => rfl) HRo.out ?_
              rintro e V1 ⟨rfl, b1⟩
              refine ⟨_, rfl, b1, ?_⟩
              simp only [Act.put, List.setIfInBounds_toArray, List.set_cons_zero, List.set_cons_succ]
              refine anyH_val (i := 4) (by kernel_rfl) rfl (some 70) rfl rfl (ex_neq (u := secA Y) (v := secA S) rfl rfl rfl (by kernel_rfl) (sec_neq (T := 61) undSecR Y S lY lS V1)) b1 ?_
              simp only [Act.put, List.setIfInBounds_toArray, List.set_cons_zero, List.set_cons_succ]
              exact wpAnyH_done (by kernel_rfl) ⟨rfl, fill (b1) (by kernel_rfl)⟩ _
            case beh2 =>
              rintro a W' ⟨xx, hBW, rfl⟩
              have hBf : Below w.heap.size w W' := BX.trans ((D0.trans (hBW.mono D0.size)).mono BX.size)
              obtain ⟨q1, q2, q3, q4⟩ := HL.out
              have hnN : BitVec.ofNat 32 n = rN S := by rw [← q1]; apply BitVec.eq_of_toNat_eq; rw [BitVec.toNat_ofNat]; have := (rN S).isLt; omega
              have hHY : Hd = (Y = S) := by
                rw [HHd.out, q1, q2, q3, q4, hbL, ← hnN, hY]
                exact propext ⟨fun hh => hh.2, fun hh => ⟨⟨by omega, ht0⟩, hh⟩⟩
              have HQ := hide (And.intro q1 (And.intro q2 (And.intro hHY (And.intro hbL (And.intro hBf (rV.below hBW))))))
              by_cases hys : Y = S
              · rw [decide_eq_true hys]
                have HYS := hide hys
                clear hys hBf hBW q1 q2 q3 q4 hnN hHY hY hbL rX fX BX D0 rV rV2 fx0 HX
                go_wp2_with fail
                obtain ⟨q1, q2, hHY, hbL, hBf, hRf⟩ := HQ.out
                exact bodyPost_ret (results_two rfl rfl rfl) rfl ⟨.inl ⟨hHY ▸ HYS.out, _, by rw [q2]; rfl, by rw [q1, hbL]; exact hRf⟩, hBf⟩
              · rw [decide_eq_false hys]
                have HYS := hide hys
                clear hys hBf hBW q1 q2 q3 q4 hnN hHY hY hbL rX fX BX D0 rV rV2 fx0 HX
                go_wp2_with fail
                obtain ⟨q1, q2, hHY, hbL, hBf, hRf⟩ := HQ.out
                exact bodyPost_ret (results_two rfl rfl rfl) rfl ⟨.inr ⟨fun hh => HYS.out (hHY ▸ hh), rfl⟩, hBf⟩
            --TAILE2
end Go.Proofs.Ytfknjmfkkaoggaa
