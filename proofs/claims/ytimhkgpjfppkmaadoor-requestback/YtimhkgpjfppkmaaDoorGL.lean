/- Guarded operations by hand; requests that are unlike. RequestBack: what is encoded is decoded as it was, and whole; what is decoded is right, and encoded says the same. -/
import Derived.Test.YtimhkgpjfppkmaaDoorRq15
namespace Go.Proofs.YtimhkgpjfppkmaaDoor
open Go.RowKit Go.Shelf

theorem l_valG {P : Program} {ops : Array Oper} {rest : List Oper} {o : Oper} {a : Act} {w w' : World} {Q : Exit → Act → World → Prop} (hw : Region.wanted o (yielded ops a.tmps) = true) (v : Value) (hr : (execOp a.eval o).run P w = .ok (.value v) w') (h : wpList P ops Q rest (a.put o.dst v) w') : wpList P ops Q (o :: rest) a w :=
  wpList_step fun K hK => by
    rw [if_pos hw]
    unfold Oper.wp
    rw [hr]
    exact hK _ _ h
theorem l_loadG {P : Program} {ops : Array Oper} {rest : List Oper} {o : Oper} {a : Act} {w : World} {Q : Exit → Act → World → Prop} (ty : TypeId) {x : Operand} {v : Value} {p : Addr} (hr : (Instr.loadAt ty (.pointer (some p))).run P w = .ok v w) (hw : Region.wanted o (yielded ops a.tmps) = true) (ho : o.op = .load ty x) (hx : a.eval x = .pointer (some p)) (h : wpList P ops Q rest (a.put o.dst v) w) : wpList P ops Q (o :: rest) a w := l_valG hw v (ex_load ho hx hr) h
set_option maxRecDepth 100000 in
set_option maxHeartbeats 4000000 in
theorem neq_same (r : Rq) (w : World) : (binOp .neq 26 (.agg (rqA r)) (.agg (rqA r))).run Tryd.prog w = .ok (.bool false) w := by
  have u := Tryd.underlying26
  unfold rqA
  go_simp
theorem eqGuardNq (x y : Operand) (a b : Array Value) (w : World) : (eqGuard .neq 26 x y (.agg a) (.agg b)).run Tryd.prog w = .ok () w := by
  unfold eqGuard
  simp [go_sem]
theorem ex_neqSame {o : Oper} {c : Act} {w : World} {T' : TypeId} {x y : Operand} {a : Rq} (ho : o.op = .binOp .neq 26 x y T') (hx : c.eval x = .agg (rqA a)) (hy : c.eval y = .agg (rqA a)) : (execOp c.eval o).run Tryd.prog w = .ok (.value (.bool false)) w := by
  unfold execOp
  simp only [ho, hx, hy]
  simp only [Sem.run_bind, eqGuardNq, neq_same, Result.andThen_ok, Sem.run_pure]
theorem eq_zero : eqRq zeroRq zeroRq = true := (eqRq_iff _ _).2 rfl
theorem store_rq (r : Rq) (w : World) : (Instr.storeAt 26 (.pointer (some ⟨w.heap.size, 0, none⟩)) (.agg (rqA r))).run Tryd.prog (w.alloc (.cells #[.int .u8 0, .string ⟨#[]⟩, .string ⟨#[]⟩, .string ⟨#[]⟩, .int .u8 0, .int .u8 0, .int .i64 0, .int .i64 0, .string ⟨#[]⟩, .bool false, .string ⟨#[]⟩] 26)) = .ok () (w.alloc (.cells (rqA r) 26)) :=
  run_store_new (P := Tryd.prog) infoRq w rfl rfl (by simp [rqA, Value.oneCell'])
end Go.Proofs.YtimhkgpjfppkmaaDoor
namespace Go.Proofs.YtimhkgpjfppkmaaDoor
open Go.RowKit Go.Shelf

set_option maxRecDepth 100000 in
set_option maxHeartbeats 8000000 in
theorem requestBack_any (r : Rq) (la : Option Addr) (lc : Nat) (ls : List Tok) (lv : Nat → Option Addr × Nat) (w : World) (hr : RqFits r) (hT : TokMem w.heap.size w la ls lv) (hsz : ∀ t ∈ ls, ∀ a ∈ t.attrs, a.2.size ≤ 281474976710656) (hG : GlbR w) :
    Calls Tryd.prog 3 #[.agg (rqA r), .slice la ls.length lc] w fun e w' => e = .returned (.bool true) ∧ Below w.heap.size w w' := by
  obtain ⟨W1, hW1⟩ : ∃ W1, w.alloc (.cells (rqA r) 26) = W1 := ⟨_, rfl⟩
  have b1 : Below w.heap.size w W1 := by rw [← hW1]; exact (Below.refl _ w).alloc (Nat.le_refl _) _
  have f1 : W1.heap[w.heap.size]? = some (.cells (rqA r) 26) := by rw [← hW1]; exact World.alloc_heap_new _ _
  have HEa := hide (encode_any r W1 hr (hG.below b1))
  have HLa := hide (load_rq f1)
  have H1 := hide (And.intro f1 b1)
  have HLs := hide (fun (V : World) (hV : Below w.heap.size w V) => decode_any la lc ls lv V (tok_raise (hT.below hV) hV.size) hsz (hG.below hV))
  have HTL := hide (fun (V : World) (hV : Below w.heap.size w V) => tok_raise (hT.below hV) hV.size)
  have HG := hide hG
  obtain ⟨n, hn⟩ : ∃ n, ls.length = n := ⟨_, rfl⟩
  have HN := hide hn
  rw [hn] at HLs ⊢
  have HW1 := hide hW1
  rw [← hW1] at HEa HLa
  clear hW1 b1 f1 hT hsz hG hn hr
  go_enter Tryd.func3, Tryd.ntmps3
  go_wp2_with (refine l_load _ HLa.out rfl rfl rfl ?_)
  refine HEa.out.mono ?_
  rintro e w2 ⟨hEa, b2⟩
  have hW1 : w.alloc (.cells (rqA r) 26) = W1 := HW1.out
  rw [hW1] at b2 hEa
  have f2 := (b2.block _ (Array.getElem?_eq_some_iff.1 H1.out.1).1).trans H1.out.1
  have B2 : Below w.heap.size w w2 := H1.out.2.trans (b2.mono H1.out.2.size)
  rcases hEa with ⟨hra, va, l1, rfl, hl1, hER1⟩ | ⟨hra, rfl⟩
  · have hn1 : l1.length = (encT r).length := by rw [← hl1, List.length_map]
    obtain ⟨ao1, cap1, rfl, hT1⟩ := tokMem_own hER1 (by have := enc_len (r := r); omega)
    rw [hl1] at hT1
    rw [hn1]
    have hD := decode_any ao1 cap1 (encT r) (avOf l1) w2 hT1 (enc_small hra) (HG.out.below B2)
    obtain ⟨m, hm⟩ : ∃ m, (encT r).length = m := ⟨_, rfl⟩
    rw [hm] at hD ⊢
    have HD := hide hD
    have H2 := hide (And.intro f2 (And.intro B2 (And.intro hT1 (And.intro hra hm))))
    clear hD hm hT1 hra hn1 hl1 hER1 f2 B2 b2 HEa HLa HW1 hW1
    go_wp2_with fail
    refine HD.out.mono ?_
    rintro e w3 ⟨⟨r', hr', he, _, rfl⟩ | ⟨hno, _⟩, b3⟩
    · obtain ⟨f2, B2, hT1, hra, hm⟩ := H2.out
      obtain rfl : r = r' := (enc_inj hr' hra he).symm
      obtain ⟨W4, hW4⟩ : ∃ W, w3.alloc (.cells (rqA r) 26) = W := ⟨_, rfl⟩
      have b4 : Below w3.heap.size w3 W4 := by rw [← hW4]; exact (Below.refl _ w3).alloc (Nat.le_refl _) _
      have f4 : W4.heap[w3.heap.size]? = some (.cells (rqA r) 26) := by rw [← hW4]; exact World.alloc_heap_new _ _
      have b24 : Below w2.heap.size w2 W4 := b3.trans (b4.mono b3.size)
      have B4 : Below w.heap.size w W4 := B2.trans (b24.mono B2.size)
      have g4 := (b24.block _ (Array.getElem?_eq_some_iff.1 f2).1).trans f2
      have HST := hide (store_rq r w3)
      have HW4 := hide hW4
      have HL1 := hide (load_rq f4)
      have HL0 := hide (load_rq g4)
      have hWh := refWhole_any ao1 cap1 (encT r) (avOf l1) W4 (tok_raise (hT1.below b24) b24.size) (HG.out.below B4).tabs
      rw [hm] at hWh
      have HWh := hide hWh
      have H4 := hide (And.intro B4 hra)
      clear f2 B2 hT1 hra hm he hr' hW4 b4 f4 b24 B4 g4 hWh b3 HD H2
      go_wp2_with (first
        | (refine l_alloc 26 infoRq rfl rfl ?_)
        | (refine l_store 26 HST.out rfl rfl rfl rfl ?_; rw [HW4.out])
        | (refine l_loadG _ HL1.out (by rfl) rfl rfl ?_)
        | (refine l_loadG _ HL0.out (by rfl) rfl rfl ?_)
        | (refine l_valG (by rfl) _ (ex_neqSame (a := r) rfl rfl rfl) ?_))
      refine HWh.out.mono ?_
      rintro e wX ⟨⟨_, rfl⟩ | ⟨hno, _⟩, b5⟩
      · have HX := hide (H4.out.1.trans (b5.mono H4.out.1.size))
        clear b5 HWh HL0 HL1 HST HW4 H4
        have HD2 := hide (HLs.out wX HX.out)
        go_wp2_with fail
        refine HD2.out.mono ?_
        rintro e w6 ⟨⟨x, hx, hex, hfx, rfl⟩ | ⟨hno, rfl⟩, b6⟩
        · obtain ⟨W7, hW7⟩ : ∃ W, w6.alloc (.cells (rqA x) 26) = W := ⟨_, rfl⟩
          have b7 : Below w6.heap.size w6 W7 := by rw [← hW7]; exact (Below.refl _ w6).alloc (Nat.le_refl _) _
          have f7 : W7.heap[w6.heap.size]? = some (.cells (rqA x) 26) := by rw [← hW7]; exact World.alloc_heap_new _ _
          have B7 : Below w.heap.size w W7 := HX.out.trans ((b6.trans (b7.mono b6.size)).mono HX.out.size)
          have HST := hide (store_rq x w6)
          have HW7 := hide hW7
          have HL := hide (load_rq f7)
          have HEx := hide (encode_any x W7 hfx (HG.out.below B7))
          have H7 := hide (And.intro f7 (And.intro B7 (And.intro hx (And.intro hex hfx))))
          clear hW7 f7 b7 B7 b6 hx hex hfx HD2
          go_wp2_with (first
            | (refine l_alloc 26 infoRq rfl rfl ?_)
            | (refine l_store 26 HST.out rfl rfl rfl rfl ?_; rw [HW7.out])
            | (refine l_load _ HL.out rfl rfl rfl ?_))
          refine HEx.out.mono ?_
          rintro e w8 ⟨⟨_, vx, lx, rfl, hlx, hERx⟩ | ⟨hno, _⟩, b8⟩
          · obtain ⟨f7, B7, hx, hex, hfx⟩ := H7.out
            obtain ⟨aox, capx, rfl, hTx⟩ := tokMem_own hERx (by have h := congrArg List.length hlx; rw [List.length_map] at h; rw [h]; have := enc_len (r := x); omega)
            have hnx : lx.length = n := by rw [← HN.out, ← hex, ← hlx, List.length_map]
            rw [hlx, hex] at hTx
            rw [hnx]
            have B8 : Below w.heap.size w w8 := B7.trans (b8.mono B7.size)
            have f8 := (b8.block _ (Array.getElem?_eq_some_iff.1 f7).1).trans f7
            have HLv := hide (live13_any w8 (HG.out.below B8))
            have H8 := hide (And.intro f8 (And.intro B8 (And.intro hTx (And.intro hx hfx))))
            clear f7 B7 hx hex hfx hTx hnx hlx hERx B8 f8 b8 HEx HL HST HW7 H7
            go_wp2_with fail
            refine HLv.out.mono ?_
            rintro e w9 ⟨rfl, b9⟩
            obtain ⟨f8, B8, hTx, hx, hfx⟩ := H8.out
            have B9 : Below w.heap.size w w9 := B8.trans (b9.mono B8.size)
            have f9 := (b9.block _ (Array.getElem?_eq_some_iff.1 f8).1).trans f8
            have hS := refSame_any aox la capx lc ls ls (avOf lx) lv w9 (tok_raise (hTx.below b9) b9.size) (HTL.out w9 B9)
            rw [HN.out] at hS
            have HS := hide hS
            have H9 := hide (And.intro f9 (And.intro B9 (And.intro hx hfx)))
            clear f8 B8 hTx hx hfx B9 f9 hS b9 HLv H8
            go_wp2_with fail
            refine HS.out.mono ?_
            rintro e w10 ⟨⟨_, rfl⟩ | ⟨hne, _⟩, b10⟩
            · obtain ⟨f9, B9, hx, hfx⟩ := H9.out
              have B10 : Below w.heap.size w w10 := B9.trans (b10.mono B9.size)
              have f10 := (b10.block _ (Array.getElem?_eq_some_iff.1 f9).1).trans f9
              have HL := hide (load_rq f10)
              have HRt := hide (right_any x w10 hfx (HG.out.below B10))
              have H10 := hide (And.intro B10 hx)
              clear f9 B9 hx hfx B10 f10 b10 HS H9
              go_wp2_with (refine l_loadG _ HL.out (by rfl) rfl rfl ?_)
              refine HRt.out.mono ?_
              rintro e w11 ⟨⟨bb, rfl, hbb⟩, b11⟩
              obtain rfl : true = bb := (hbb.2 H10.out.2).symm
              have HB := hide (H10.out.1.trans (b11.mono H10.out.1.size))
              clear hbb b11 HL HRt
              go_wp2_with fail
              go_ret
              exact ⟨rfl, HB.out⟩
            · exact absurd True.intro hne
          · exact absurd H7.out.2.2.1 hno
        · obtain ⟨W7, hW7⟩ : ∃ W, w6.alloc (.cells (rqA zeroRq) 26) = W := ⟨_, rfl⟩
          have b7 : Below w6.heap.size w6 W7 := by rw [← hW7]; exact (Below.refl _ w6).alloc (Nat.le_refl _) _
          have f7 : W7.heap[w6.heap.size]? = some (.cells (rqA zeroRq) 26) := by rw [← hW7]; exact World.alloc_heap_new _ _
          have B7 : Below w.heap.size w W7 := HX.out.trans ((b6.trans (b7.mono b6.size)).mono HX.out.size)
          have HST := hide (store_rq zeroRq w6)
          have HW7 := hide hW7
          have HLv := hide (live13_any W7 (HG.out.below B7))
          have H7 := hide (And.intro f7 B7)
          clear hW7 f7 b7 B7 b6 hno HD2
          go_wp2_with (first
            | (refine l_alloc 26 infoRq rfl rfl ?_)
            | (refine l_store 26 HST.out rfl rfl rfl rfl ?_; rw [HW7.out]))
          refine HLv.out.mono ?_
          rintro e w8 ⟨rfl, b8⟩
          have f8 := (b8.block _ (Array.getElem?_eq_some_iff.1 H7.out.1).1).trans H7.out.1
          have HL := hide (load_rq f8)
          have HB := hide (H7.out.2.trans (b8.mono H7.out.2.size))
          clear f8 b8 HLv HST HW7 H7
          go_wp2_with (first
            | (refine l_loadG _ HL.out (by rfl) rfl rfl ?_)
            | (refine l_valG (by rfl) _ (ex_bldZ rfl) ?_)
            | (refine l_valG (by rfl) _ (ex_eqRq (a := zeroRq) (b := zeroRq) rfl rfl rfl) ?_; rw [eq_zero]))
          go_ret
          exact ⟨rfl, HB.out⟩
      · exact absurd (enc_whole H4.out.2) hno
    · exact absurd rfl (hno r H2.out.2.2.2.1)
  · obtain ⟨wX, hwX⟩ : ∃ wX, w2 = wX := ⟨_, rfl⟩
    have HX := hide B2
    rw [hwX] at HX ⊢
    clear f2 B2 b2 hra HEa HLa HW1 hW1 hwX H1
    have HD2 := hide (HLs.out wX HX.out)
    go_wp2_with fail
    refine HD2.out.mono ?_
    rintro e w6 ⟨⟨x, hx, hex, hfx, rfl⟩ | ⟨hno, rfl⟩, b6⟩
    · obtain ⟨W7, hW7⟩ : ∃ W, w6.alloc (.cells (rqA x) 26) = W := ⟨_, rfl⟩
      have b7 : Below w6.heap.size w6 W7 := by rw [← hW7]; exact (Below.refl _ w6).alloc (Nat.le_refl _) _
      have f7 : W7.heap[w6.heap.size]? = some (.cells (rqA x) 26) := by rw [← hW7]; exact World.alloc_heap_new _ _
      have B7 : Below w.heap.size w W7 := HX.out.trans ((b6.trans (b7.mono b6.size)).mono HX.out.size)
      have HST := hide (store_rq x w6)
      have HW7 := hide hW7
      have HL := hide (load_rq f7)
      have HEx := hide (encode_any x W7 hfx (HG.out.below B7))
      have H7 := hide (And.intro f7 (And.intro B7 (And.intro hx (And.intro hex hfx))))
      clear hW7 f7 b7 B7 b6 hx hex hfx HD2
      go_wp2_with (first
        | (refine l_alloc 26 infoRq rfl rfl ?_)
        | (refine l_store 26 HST.out rfl rfl rfl rfl ?_; rw [HW7.out])
        | (refine l_load _ HL.out rfl rfl rfl ?_))
      refine HEx.out.mono ?_
      rintro e w8 ⟨⟨_, vx, lx, rfl, hlx, hERx⟩ | ⟨hno, _⟩, b8⟩
      · obtain ⟨f7, B7, hx, hex, hfx⟩ := H7.out
        obtain ⟨aox, capx, rfl, hTx⟩ := tokMem_own hERx (by have h := congrArg List.length hlx; rw [List.length_map] at h; rw [h]; have := enc_len (r := x); omega)
        have hnx : lx.length = n := by rw [← HN.out, ← hex, ← hlx, List.length_map]
        rw [hlx, hex] at hTx
        rw [hnx]
        have B8 : Below w.heap.size w w8 := B7.trans (b8.mono B7.size)
        have f8 := (b8.block _ (Array.getElem?_eq_some_iff.1 f7).1).trans f7
        have HLv := hide (live13_any w8 (HG.out.below B8))
        have H8 := hide (And.intro f8 (And.intro B8 (And.intro hTx (And.intro hx hfx))))
        clear f7 B7 hx hex hfx hTx hnx hlx hERx B8 f8 b8 HEx HL HST HW7 H7
        go_wp2_with fail
        refine HLv.out.mono ?_
        rintro e w9 ⟨rfl, b9⟩
        obtain ⟨f8, B8, hTx, hx, hfx⟩ := H8.out
        have B9 : Below w.heap.size w w9 := B8.trans (b9.mono B8.size)
        have f9 := (b9.block _ (Array.getElem?_eq_some_iff.1 f8).1).trans f8
        have hS := refSame_any aox la capx lc ls ls (avOf lx) lv w9 (tok_raise (hTx.below b9) b9.size) (HTL.out w9 B9)
        rw [HN.out] at hS
        have HS := hide hS
        have H9 := hide (And.intro f9 (And.intro B9 (And.intro hx hfx)))
        clear f8 B8 hTx hx hfx B9 f9 hS b9 HLv H8
        go_wp2_with fail
        refine HS.out.mono ?_
        rintro e w10 ⟨⟨_, rfl⟩ | ⟨hne, _⟩, b10⟩
        · obtain ⟨f9, B9, hx, hfx⟩ := H9.out
          have B10 : Below w.heap.size w w10 := B9.trans (b10.mono B9.size)
          have f10 := (b10.block _ (Array.getElem?_eq_some_iff.1 f9).1).trans f9
          have HL := hide (load_rq f10)
          have HRt := hide (right_any x w10 hfx (HG.out.below B10))
          have H10 := hide (And.intro B10 hx)
          clear f9 B9 hx hfx B10 f10 b10 HS H9
          go_wp2_with (refine l_loadG _ HL.out (by rfl) rfl rfl ?_)
          refine HRt.out.mono ?_
          rintro e w11 ⟨⟨bb, rfl, hbb⟩, b11⟩
          obtain rfl : true = bb := (hbb.2 H10.out.2).symm
          have HB := hide (H10.out.1.trans (b11.mono H10.out.1.size))
          clear hbb b11 HL HRt
          go_wp2_with fail
          go_ret
          exact ⟨rfl, HB.out⟩
        · exact absurd True.intro hne
      · exact absurd H7.out.2.2.1 hno
    · obtain ⟨W7, hW7⟩ : ∃ W, w6.alloc (.cells (rqA zeroRq) 26) = W := ⟨_, rfl⟩
      have b7 : Below w6.heap.size w6 W7 := by rw [← hW7]; exact (Below.refl _ w6).alloc (Nat.le_refl _) _
      have f7 : W7.heap[w6.heap.size]? = some (.cells (rqA zeroRq) 26) := by rw [← hW7]; exact World.alloc_heap_new _ _
      have B7 : Below w.heap.size w W7 := HX.out.trans ((b6.trans (b7.mono b6.size)).mono HX.out.size)
      have HST := hide (store_rq zeroRq w6)
      have HW7 := hide hW7
      have HLv := hide (live13_any W7 (HG.out.below B7))
      have H7 := hide (And.intro f7 B7)
      clear hW7 f7 b7 B7 b6 hno HD2
      go_wp2_with (first
        | (refine l_alloc 26 infoRq rfl rfl ?_)
        | (refine l_store 26 HST.out rfl rfl rfl rfl ?_; rw [HW7.out]))
      refine HLv.out.mono ?_
      rintro e w8 ⟨rfl, b8⟩
      have f8 := (b8.block _ (Array.getElem?_eq_some_iff.1 H7.out.1).1).trans H7.out.1
      have HL := hide (load_rq f8)
      have HB := hide (H7.out.2.trans (b8.mono H7.out.2.size))
      clear f8 b8 HLv HST HW7 H7
      go_wp2_with (first
        | (refine l_loadG _ HL.out (by rfl) rfl rfl ?_)
        | (refine l_valG (by rfl) _ (ex_bldZ rfl) ?_)
        | (refine l_valG (by rfl) _ (ex_eqRq (a := zeroRq) (b := zeroRq) rfl rfl rfl) ?_; rw [eq_zero]))
      go_ret
      exact ⟨rfl, HB.out⟩
end Go.Proofs.YtimhkgpjfppkmaaDoor
