/- NodeStays: what is answered is right, behind any edits. -/
import Derived.Test.YtffjmkngdjbjlaaDoorNe23
namespace Go.Proofs.YtffjmkngdjbjlaaDoor
open Go.RowKit

theorem ex_eq33 {o : Oper} {a : Act} {w : World} {x y : Operand} {s t : Int} {b : Bool} (ho : o.op = .binOp .eql 33 x y 33) (hx : a.eval x = .int .u8 s) (hy : a.eval y = .int .u8 t) (hb : (s == t) = b) : (execOp a.eval o).run Tryd.prog w = .ok (.value (.bool b)) w := by
  unfold execOp
  simp only [ho, hx, hy]
  go_simp
theorem begN_stay (q : Nat) (leaf : Bool) (hq : q < 3) : Stay leaf (begN q leaf) := ⟨begN_right q leaf hq, rfl, rfl, rfl, fun x hx => by simp [begN] at hx⟩
set_option maxRecDepth 100000 in
set_option maxHeartbeats 2000000 in
theorem nodeStays_any (ax : Nat) (leaf : Bool) (ha : ax < 256) (ao : Option Addr) (cap : Nat) (l : List Ed) (w : World) (hl : EdsMem w.heap.size w ao l) (hg : Glob w) :
    Calls Tryd.prog 3 #[.int .u8 ax, .bool leaf, .slice ao l.length cap] w fun e w' => e = .returned (.bool true) ∧ Below w.heap.size w w' := by
  obtain ⟨M, hM⟩ : ∃ M, l.length = M := ⟨_, rfl⟩
  have HBe := hide (begun_any ax leaf ha w)
  have HL := hide (And.intro hl (And.intro hg hM))
  rw [hM]
  clear hl hg hM
  go_enter Tryd.func3, Tryd.ntmps3
  go_wp2_with fail
  refine HBe.out.mono ?_
  rintro e w1 ⟨u0, rfl, hm1, b1⟩
  have hq3 : ax % 3 < 3 := Nat.mod_lt _ (by omega)
  obtain ⟨N0, hN0⟩ : ∃ N0, begN (ax % 3) leaf = N0 := ⟨_, rfl⟩
  have hs0 : Stay leaf N0 := by rw [← hN0]; exact begN_stay _ leaf hq3
  rw [hN0] at hm1 ⊢
  have f1 := World.alloc_heap_new w1 (.cells (ndA N0 u0) 28)
  have b2 : Below w1.heap.size w1 (w1.alloc (.cells (ndA N0 u0) 28)) := (Below.refl _ w1).alloc (Nat.le_refl _) _
  obtain ⟨W1, hW1⟩ : ∃ W1, w1.alloc (.cells (ndA N0 u0) 28) = W1 := ⟨_, rfl⟩
  rw [hW1] at f1 b2
  obtain ⟨nb, hnb0⟩ : ∃ nb, w1.heap.size = nb := ⟨_, rfl⟩
  have hnbw : w.heap.size ≤ nb := by have := b1.size; omega
  have HS0 := hide (And.intro (show W1.heap[nb]? = some (.cells (ndA N0 u0) 28) by rw [← hnb0]; exact f1) (And.intro (hm1.move b2) (And.intro hs0 (And.intro (b1.trans (b2.mono b1.size)) hnbw))))
  have HW1 := hide (show w1.alloc (.cells (ndA N0 u0) 28) = W1 ∧ w1.heap.size = nb from ⟨hW1, hnb0⟩)
  clear hq3 hN0 hs0 hm1 b1 f1 b2 hW1 hnb0 hnbw HBe
  have hlit : (ndA N0 u0 : Array Value) = #[.string N0.name, .bool N0.coll, .int .u8 N0.acc, .int .i64 N0.max, .slice u0.aa N0.affs.length u0.ac, .slice u0.sa N0.subs.length u0.sc, .slice u0.ia N0.items.length u0.ic, .string N0.parent] := rfl
  rw [hlit]
  clear hlit
  go_wp2_with fail
  have hW1 := HW1.out
  obtain ⟨hWa, hWb⟩ := hW1
  have hWa' : w1.alloc (.cells #[.string N0.name, .bool N0.coll, .int .u8 N0.acc, .int .i64 N0.max, .slice u0.aa N0.affs.length u0.ac, .slice u0.sa N0.subs.length u0.sc, .slice u0.ia N0.items.length u0.ic, .string N0.parent] 28) = W1 := hWa
  rw [hWa', hWb]
  clear hWa hWb hWa' HW1
  go_loopw [8] (fun iv wr => ∃ (k : Nat) (n : Nd) (u : NdW), k ≤ M ∧ k ≤ 40 ∧ iv = .int .i64 k ∧ wr.heap[nb]? = some (.cells (ndA n u) 28) ∧ NdM wr.heap.size wr n u ∧ Stay leaf n ∧ Below w.heap.size w wr) (fun iv _ => 40 - (intOf iv).toNat)
  case atStart => exact ⟨0, N0, u0, Nat.zero_le _, Nat.zero_le _, rfl, HS0.out.1, HS0.out.2.1, HS0.out.2.2.1, HS0.out.2.2.2.1⟩
  case round =>
    obtain ⟨k, n, u, hkM, hk40, rfl, hnb, hnm, hst, hbw⟩ := hrel
    have HR0 := hide (And.intro hst hbw)
    by_cases hlt : (k : Int) < M
    · by_cases h40 : (k : Int) < 40
      · obtain ⟨x, hx⟩ : ∃ x, l[k]? = some x := ⟨_, List.getElem?_eq_getElem (by have := HL.out.2.2; omega)⟩
        obtain ⟨hfit, eb, eo, hao, heb0, hec0⟩ := HL.out.1 k x hx
        have heb : eb < wr.heap.size := Nat.lt_of_lt_of_le heb0 hbw.size
        have hec : ∀ j (h : j < 10), wr.cell? ⟨eb, eo + k * 10 + j, none⟩ = some ((edC x)[j]'h) := fun j h => (hbw.cell (p := ⟨eb, _, none⟩) heb0).trans (hec0 j h)
        have hg : Glob wr := HL.out.2.1.below hbw
        have hkl : k < M := by omega
        have HE := hide (And.intro hfit (And.intro heb (And.intro hec (And.intro hg (And.intro hnb hnm)))))
        clear hfit heb hec hg hnb hnm hst hbw hx hec0 heb0
        rw [hao]
        clear hao
        go_wp2_with fail
        have hfit := HE.out.1
        have heb := HE.out.2.1
        have hec := HE.out.2.2.1
        have hg := HE.out.2.2.2.1
        have hnb := HE.out.2.2.2.2.1
        have hnm := HE.out.2.2.2.2.2
        obtain ⟨V0, hV0⟩ : ∃ V0, wr.drew = V0 := ⟨_, rfl⟩
        have B0 : Below wr.heap.size wr V0 := by rw [← hV0]; exact (Below.refl _ wr).drew
        have vnb := (B0.block _ (Array.getElem?_eq_some_iff.1 hnb).1).trans hnb
        have vnl : nb < V0.heap.size := (Array.getElem?_eq_some_iff.1 vnb).1
        have vnm := hnm.move B0
        have vg := hg.below B0
        have vel : eb < V0.heap.size := Nat.lt_of_lt_of_le heb B0.size
        have vec : ∀ j (h : j < 10), V0.cell? ⟨eb, eo + k * 10 + j, none⟩ = some ((edC x)[j]'h) := fun j h => (B0.cell (p := ⟨eb, _, none⟩) heb).trans (hec j h)
        refine region_rel (S := fun V => Below V0.heap.size V0 V) (fun a Wz => ∃ (m : Nd) (u : NdW) (c : Int) (bq : Nat) (xx : Nat → Value), DoneAt V0 n x m u c bq Wz ∧ a = { tmps := #[.int .u8 ax, .bool leaf, .slice (some ⟨eb, eo, none⟩) M cap, undef, undef, undef, xx 6, .pointer (some ⟨nb, 0, none⟩), .int .i64 k, .pointer (some ⟨bq, 0, none⟩), .int .i64 c, xx 11, .int .u8 ax, .bool leaf, .agg #[.string N0.name, .bool N0.coll, .int .u8 N0.acc, .int .i64 N0.max, .slice u0.aa N0.affs.length u0.ac, .slice u0.sa N0.subs.length u0.sc, .slice u0.ia N0.items.length u0.ic, .string N0.parent], xx 15, xx 16, xx 17, xx 18, xx 19, xx 20, xx 21, xx 22, xx 23, xx 24, xx 25, xx 26, xx 27, xx 28, xx 29, xx 30, xx 31, xx 32, xx 33, xx 34, xx 35, xx 36, xx 37, xx 38, xx 39, xx 40, xx 41, xx 42, xx 43, xx 44, xx 45, xx 46, xx 47, xx 48, xx 49, xx 50, xx 51, xx 52, xx 53, xx 54, xx 55, xx 56, xx 57, xx 58, xx 59, xx 60, xx 61, xx 62, xx 63, xx 64, xx 65, xx 66, xx 67, xx 68, xx 69, xx 70, xx 71, xx 72, xx 73, xx 74, xx 75, xx 76, xx 77, xx 78, xx 79, xx 80, undef], defers := [] }) (by kernel_rfl) ?anya ?fina
        case anya =>
          rw [hV0]
          clear hV0 B0
          have S0 : Below V0.heap.size V0 V0 := Below.refl _ _
          refine anyH_take (i := 0) (v := .agg (ndA n u)) rfl (some 26) rfl (by kernel_rfl) (by kernel_rfl) (by kernel_rfl) (fun _ _ _ h => by cases h.1) (by kernel_rfl) (fun w0 hw0 => ex_load rfl rfl (load_nd ((hw0.block _ vnl).trans vnb))) S0 ?_
          simp only [Act.put, List.setIfInBounds_toArray, List.set_cons_zero, List.set_cons_succ]
          refine anyH_take (i := 1) (v := .slice (some ⟨eb, eo, none⟩) M cap) rfl (some 27) rfl (by kernel_rfl) (by kernel_rfl) (by kernel_rfl) (fun _ _ _ h => by cases h.1) (by kernel_rfl) (fun w0 hw0 => by first | rfl | kernel_rfl) S0 ?_
          simp only [Act.put, List.setIfInBounds_toArray, List.set_cons_zero, List.set_cons_succ]
          refine anyH_take (i := 2) (v := .int .i64 k) rfl (some 28) rfl (by kernel_rfl) (by kernel_rfl) (by kernel_rfl) (fun _ _ _ h => by cases h.1) (by kernel_rfl) (fun w0 hw0 => by first | rfl | kernel_rfl) S0 ?_
          simp only [Act.put, List.setIfInBounds_toArray, List.set_cons_zero, List.set_cons_succ]
          refine anyH_take (i := 3) (v := .pointer (some ⟨eb, eo + k * 10, none⟩)) rfl (some 29) rfl (by kernel_rfl) (by kernel_rfl) (by kernel_rfl) (fun _ _ _ h => by cases h.1) (by kernel_rfl) (fun _ _ => ex_idxEd rfl rfl rfl hkl) S0 ?_
          simp only [Act.put, List.setIfInBounds_toArray, List.set_cons_zero, List.set_cons_succ]
          refine anyH_take (i := 4) (v := .agg (edA x)) rfl (some 30) rfl (by kernel_rfl) (by kernel_rfl) (by kernel_rfl) (fun _ _ _ h => by cases h.1) (by kernel_rfl) (fun w0 hw0 => ex_load rfl rfl (load_edC (fun j h => (hw0.cell (p := ⟨eb, _, none⟩) vel).trans (vec j h)))) S0 ?_
          simp only [Act.put, List.setIfInBounds_toArray, List.set_cons_zero, List.set_cons_succ]
          refine anyH_two (i := 5) (j := 9) (by kernel_rfl) ?caa ?ala
          case caa =>
            refine op_call rfl (some 31) rfl (by kernel_rfl) #[.agg (ndA n u), .agg (edA x)] rfl (by simp [Act.eval]) (fun _ _ => rfl) (do_any n u x V0 vnm vg hfit) ?_
            rintro e V1 ⟨m, u, c, rfl, hC, hm1, b1, ho1⟩
            have S1 : Below V0.heap.size V0 V1 := b1
            refine ⟨_, rfl, S1, ?_⟩
            simp only [Act.put, List.setIfInBounds_toArray, List.set_cons_zero, List.set_cons_succ]
            refine anyH_take (i := 6) (v := .tuple #[.agg (ndA m u), .int .i64 c]) rfl (some 25) rfl (by kernel_rfl) (by kernel_rfl) (by kernel_rfl) (fun _ _ _ h => by cases h.1) (by kernel_rfl) (fun w0 hw0 => by first | rfl | kernel_rfl) S1 ?_
            simp only [Act.put, List.setIfInBounds_toArray, List.set_cons_zero, List.set_cons_succ]
            refine anyH_take (i := 7) (v := .agg (ndA m u)) rfl (some 32) rfl (by kernel_rfl) (by kernel_rfl) (by kernel_rfl) (fun _ _ _ h => by cases h.1) (by kernel_rfl) (fun w0 hw0 => by first | rfl | kernel_rfl) S1 ?_
            simp only [Act.put, List.setIfInBounds_toArray, List.set_cons_zero, List.set_cons_succ]
            refine anyH_take (i := 8) (v := .int .i64 c) rfl (some 33) rfl (by kernel_rfl) (by kernel_rfl) (by kernel_rfl) (fun _ _ _ h => by cases h.1) (by kernel_rfl) (fun w0 hw0 => by first | rfl | kernel_rfl) S1 ?_
            simp only [Act.put, List.setIfInBounds_toArray, List.set_cons_zero, List.set_cons_succ]
            have hD := doneAt1 hC hm1 b1 ho1
            have S2 := S1.alloc S1.size (.cells (ndA noN noW) 28)
            refine anyH_one (i := 9) (by kernel_rfl) ?_
            refine op_run rfl (some 9) rfl (by kernel_rfl) (ex_alloc rfl (zero_nd V1)) ?_
            refine ⟨S2, ?_⟩
            simp only [Act.put, List.setIfInBounds_toArray, List.set_cons_zero, List.set_cons_succ]
            refine anyH_one (i := 10) (by kernel_rfl) ?_
            refine op_store rfl rfl (by kernel_rfl) (ex_store (u := .agg (ndA m u)) rfl rfl rfl (store_nd (World.alloc_heap_new V1 _))) ?_
            refine ⟨hD.bel, ?_⟩
            simp only [Act.put]
            refine anyH_val (i := 11) (v := .int .i64 c) (by kernel_rfl) rfl (some 10) rfl (by kernel_rfl) (by first | rfl | kernel_rfl) hD.bel ?_
            simp only [Act.put, List.setIfInBounds_toArray, List.set_cons_zero, List.set_cons_succ]
            exact wpAnyH_done (by kernel_rfl) ⟨rfl, m, u, c, _, fill hD (by kernel_rfl)⟩ _
          case ala =>
            have S1 := S0.alloc S0.size (.cells (ndA noN noW) 28)
            refine op_run rfl (some 9) rfl (by kernel_rfl) (ex_alloc rfl (zero_nd V0)) ?_
            refine ⟨S1, ?_⟩
            simp only [Act.put, List.setIfInBounds_toArray, List.set_cons_zero, List.set_cons_succ]
            refine anyH_one (i := 5) (by kernel_rfl) ?_
            refine op_call rfl (some 31) rfl (by kernel_rfl) #[.agg (ndA n u), .agg (edA x)] rfl (by simp [Act.eval]) (fun _ _ => rfl) (do_any n u x (V0.alloc (.cells (ndA noN noW) 28)) (vnm.move S1) (vg.below S1) hfit) ?_
            rintro e V2 ⟨m, u, c, rfl, hC, hm1, b1, ho1⟩
            have S2 : Below V0.heap.size V0 V2 := S1.trans (b1.mono S1.size)
            refine ⟨_, rfl, S2, ?_⟩
            simp only [Act.put, List.setIfInBounds_toArray, List.set_cons_zero, List.set_cons_succ]
            refine anyH_take (i := 6) (v := .tuple #[.agg (ndA m u), .int .i64 c]) rfl (some 25) rfl (by kernel_rfl) (by kernel_rfl) (by kernel_rfl) (fun _ _ _ h => by cases h.1) (by kernel_rfl) (fun w0 hw0 => by first | rfl | kernel_rfl) S2 ?_
            simp only [Act.put, List.setIfInBounds_toArray, List.set_cons_zero, List.set_cons_succ]
            refine anyH_take (i := 7) (v := .agg (ndA m u)) rfl (some 32) rfl (by kernel_rfl) (by kernel_rfl) (by kernel_rfl) (fun _ _ _ h => by cases h.1) (by kernel_rfl) (fun w0 hw0 => by first | rfl | kernel_rfl) S2 ?_
            simp only [Act.put, List.setIfInBounds_toArray, List.set_cons_zero, List.set_cons_succ]
            refine anyH_take (i := 8) (v := .int .i64 c) rfl (some 33) rfl (by kernel_rfl) (by kernel_rfl) (by kernel_rfl) (fun _ _ _ h => by cases h.1) (by kernel_rfl) (fun w0 hw0 => by first | rfl | kernel_rfl) S2 ?_
            simp only [Act.put, List.setIfInBounds_toArray, List.set_cons_zero, List.set_cons_succ]
            obtain ⟨hD, hz2⟩ := doneAt2 hC hm1 b1 ho1
            refine anyH_one (i := 10) (by kernel_rfl) ?_
            refine op_store rfl rfl (by kernel_rfl) (ex_store (u := .agg (ndA m u)) rfl rfl rfl (store_nd hz2)) ?_
            refine ⟨hD.bel, ?_⟩
            simp only [Act.put]
            refine anyH_val (i := 11) (v := .int .i64 c) (by kernel_rfl) rfl (some 10) rfl (by kernel_rfl) (by first | rfl | kernel_rfl) hD.bel ?_
            simp only [Act.put, List.setIfInBounds_toArray, List.set_cons_zero, List.set_cons_succ]
            exact wpAnyH_done (by kernel_rfl) ⟨rfl, m, u, c, _, fill hD (by kernel_rfl)⟩ _
        case fina =>
          rintro a W ⟨m, u1, c, bq, xx, hD, rfl⟩
          have hnbV := (hD.bel.block _ vnl).trans vnb
          have B1 : Below w.heap.size w W := HR0.out.2.trans ((B0.trans (hD.bel.mono B0.size)).mono HR0.out.2.size)
          have HD := hide (And.intro hD (And.intro hnbV (And.intro (vnm.move hD.bel) (And.intro B1 (And.intro vnl (Array.getElem?_eq_some_iff.1 hD.box).1)))))
          clear hD hnbV B1 vnb vnm vg vel vec vnl hfit heb hec hg hnb hnm HE
          by_cases hc0 : c = 0
          · subst hc0
            have HSm := hide (done_stay (do_done HD.out.1.doc) HR0.out.1)
            go_wp2_with (refine l_load _ (load_nd HD.out.1.box) rfl rfl rfl ?_; refine stopNd ?_)
            unfold Hid
            refine l_store _ (store_nd (n := m) (u := u1) HD.out.2.1) rfl rfl rfl rfl ?_
            have hown := HD.out.1.own
            have hvl := HD.out.2.2.2.2.1
            have k0 : (setNd W nb m u1).heap[nb]? = some (.cells (ndA m u1) 28) := setNd_heap HD.out.2.1
            have k1 : NdM (setNd W nb m u1).heap.size (setNd W nb m u1) m u1 := ndM_far HD.out.1.mem setNd_size setNd_far ⟨fun a e => by have := hown.1 a e; omega, fun a e => by have := hown.2.1 a e; omega, fun a e => by have := hown.2.2 a e; omega⟩
            have k2 : Below w.heap.size w (setNd W nb m u1) := setNd_below HD.out.2.2.2.1 HS0.out.2.2.2.2
            obtain ⟨W5, hW5⟩ : ∃ W5, setNd W nb m u1 = W5 := ⟨_, rfl⟩
            rw [hW5] at k0 k1 k2 ⊢
            have HK := hide (And.intro k0 (And.intro k1 k2))
            have HLd := hide (load_nd k0)
            have HRi := hide (rightN_any m u1 W5 k1 (HL.out.2.1.below k2))
            clear hown hvl k0 k1 k2 hW5
            go_wp2_with (refine l_load _ HLd.out rfl rfl rfl ?_)
            refine HRi.out.mono ?_
            rintro e w6 ⟨⟨p, rfl, hp⟩, b6⟩
            obtain rfl : true = p := (hp.2 HSm.out.right).symm
            have k0 := (b6.block _ (Array.getElem?_eq_some_iff.1 HK.out.1).1).trans HK.out.1
            have c0 : w6.cell? ⟨nb, 0, none⟩ = some (.string ⟨#[110]⟩) := by rw [← HSm.out.name]; exact (nd_box k0).1
            have c1 : w6.cell? ⟨nb, 1, none⟩ = some (.bool (!leaf)) := by rw [← HSm.out.coll]; exact (nd_box k0).2.1
            have c7 : w6.cell? ⟨nb, 7, none⟩ = some (.string ⟨#[]⟩) := by rw [← HSm.out.parent]; exact (nd_box k0).2.2.2.2.2.2.2
            have c5 := (nd_box k0).2.2.2.2.2.1
            have hcl : ((!leaf) == leaf) = false := by cases leaf <;> rfl
            have HK6 := hide (And.intro k0 (And.intro (HK.out.2.1.move b6) (HK.out.2.2.trans (b6.mono HK.out.2.2.size))))
            obtain ⟨S, hS⟩ : ∃ S, m.subs.length = S := ⟨_, rfl⟩
            have hS16 : S ≤ 16 := by rw [← hS]; exact subs_right HSm.out.right
            rw [hS] at c5
            have HSl := hide hS
            clear k0 b6 hp HRi HLd hS
            go_wp2_with fail
            clear c0 c1 c5 c7 hcl
            go_loopw [11] (fun jv wr => ∃ (j : Nat), j ≤ S ∧ jv = .int .i64 j ∧ Below w6.heap.size w6 wr) (fun jv _ => S - (intOf jv).toNat)
            case atStart => exact ⟨0, Nat.zero_le _, rfl, Below.refl _ _⟩
            case round =>
              obtain ⟨j, hjS, rfl, hbt⟩ := hrel
              have HT := hide hbt
              have kb := (hbt.block _ (Array.getElem?_eq_some_iff.1 HK6.out.1).1).trans HK6.out.1
              have c5 := (nd_box kb).2.2.2.2.2.1
              rw [HSl.out] at c5
              have hnbl : nb < wr.heap.size := (Array.getElem?_eq_some_iff.1 kb).1
              by_cases hjlt : (j : Int) < S
              · have hjn : j < S := by omega
                obtain ⟨y, hy⟩ : ∃ y, m.subs[j]? = some y := ⟨_, List.getElem?_eq_getElem (by have := HSl.out; omega)⟩
                have hmt := HK6.out.2.1.move hbt
                obtain ⟨sb, so, hsa, hsl, d0, d1, d2⟩ := hmt.ok.2.1.2 j y hy
                have hro := HSm.out.out y (List.mem_of_getElem? hy)
                obtain ⟨ro, hroe⟩ : ∃ ro, roleL m.affs y.1 = ro := ⟨_, rfl⟩
                rw [hroe] at hro
                have hr1 : ((ro : Int) == 1) = false := by rw [beq_eq_false_iff_ne]; omega
                have HJ := hide (And.intro kb (And.intro hmt (And.intro d0 (And.intro hroe (And.intro hsl hnbl)))))
                clear kb hmt d0 d1 d2 hro hroe hbt hy hsl hnbl
                rw [hsa] at c5
                go_wp2_with fail
                clear c5
                obtain ⟨V9, hV9⟩ : ∃ V9, wr.drew = V9 := ⟨_, rfl⟩
                have B9 : Below wr.heap.size wr V9 := by rw [← hV9]; exact (Below.refl _ wr).drew
                have vb := (B9.block _ HJ.out.2.2.2.2.2).trans HJ.out.1
                have vbl : nb < V9.heap.size := Nat.lt_of_lt_of_le HJ.out.2.2.2.2.2 B9.size
                have vm := HJ.out.2.1.move B9
                have vd := (B9.cell (p := ⟨sb, _, none⟩) HJ.out.2.2.2.2.1).trans HJ.out.2.2.1
                have vdl : sb < V9.heap.size := Nat.lt_of_lt_of_le HJ.out.2.2.2.2.1 B9.size
                apply region_any (B := fun V => Below V9.heap.size V9 V) (S := fun V => Below V9.heap.size V9 V) (hm := by kernel_rfl)
                case h =>
                  rw [hV9]
                  have S0 : Below V9.heap.size V9 V9 := Below.refl _ _
                  refine anyH_take (i := 0) (v := .agg (ndA m u1)) rfl (some 72) rfl (by kernel_rfl) (by kernel_rfl) (by kernel_rfl) (fun _ _ _ h => by cases h.1) (by kernel_rfl) (fun w0 hw0 => ex_load rfl rfl (load_nd ((hw0.block _ vbl).trans vb))) S0 ?_
                  simp only [Act.put, List.setIfInBounds_toArray, List.set_cons_zero, List.set_cons_succ]
                  refine anyH_take (i := 1) (v := .pointer (some ⟨nb, 5, none⟩)) rfl (some 73) rfl (by kernel_rfl) (by kernel_rfl) (by kernel_rfl) (fun _ _ _ h => by cases h.1) (by kernel_rfl) (fun w0 hw0 => by first | rfl | kernel_rfl) S0 ?_
                  simp only [Act.put, List.setIfInBounds_toArray, List.set_cons_zero, List.set_cons_succ]
                  refine anyH_take (i := 2) (v := .slice (some ⟨sb, so, none⟩) S u1.sc) rfl (some 74) rfl (by kernel_rfl) (by kernel_rfl) (by kernel_rfl) (fun _ _ _ h => by cases h.1) (by kernel_rfl) (fun w0 hw0 => ex_load rfl rfl (load_one (agg_one25 _) (by have h := (nd_box ((hw0.block _ vbl).trans vb)).2.2.2.2.2.1; rw [HSl.out, hsa] at h; exact h))) S0 ?_
                  simp only [Act.put, List.setIfInBounds_toArray, List.set_cons_zero, List.set_cons_succ]
                  refine anyH_take (i := 3) (v := .int .i64 j) rfl (some 75) rfl (by kernel_rfl) (by kernel_rfl) (by kernel_rfl) (fun _ _ _ h => by cases h.1) (by kernel_rfl) (fun w0 hw0 => by first | rfl | kernel_rfl) S0 ?_
                  simp only [Act.put, List.setIfInBounds_toArray, List.set_cons_zero, List.set_cons_succ]
                  refine anyH_take (i := 4) (v := .pointer (some ⟨sb, so + j * 3, none⟩)) rfl (some 76) rfl (by kernel_rfl) (by kernel_rfl) (by kernel_rfl) (fun _ _ _ h => by cases h.1) (by kernel_rfl) (fun _ _ => ex_idxSub rfl rfl rfl hjn) S0 ?_
                  simp only [Act.put, List.setIfInBounds_toArray, List.set_cons_zero, List.set_cons_succ]
                  refine anyH_take (i := 5) (v := .pointer (some ⟨sb, so + j * 3, none⟩)) rfl (some 77) rfl (by kernel_rfl) (by kernel_rfl) (by kernel_rfl) (fun _ _ _ h => by cases h.1) (by kernel_rfl) (fun _ _ => ex_fldS0 rfl rfl) S0 ?_
                  simp only [Act.put, List.setIfInBounds_toArray, List.set_cons_zero, List.set_cons_succ]
                  refine anyH_take (i := 6) (v := .string y.1) rfl (some 78) rfl (by kernel_rfl) (by kernel_rfl) (by kernel_rfl) (fun _ _ _ h => by cases h.1) (by kernel_rfl) (fun w0 hw0 => ex_load rfl rfl (load_one (agg_one9 _) ((hw0.cell (p := ⟨sb, _, none⟩) vdl).trans vd))) S0 ?_
                  simp only [Act.put, List.setIfInBounds_toArray, List.set_cons_zero, List.set_cons_succ]
                  refine anyH_one (i := 7) (by kernel_rfl) ?_
                  refine op_call rfl (some 79) rfl (by kernel_rfl) #[.agg (ndA m u1), .string y.1] rfl (by simp [Act.eval]) (fun _ _ => rfl) (role_any m u1 y.1 V9 vm.ok) ?_
                  rintro e V8 ⟨rfl, b8⟩
                  rw [HJ.out.2.2.2.1]
                  refine ⟨_, rfl, b8, ?_⟩
                  simp only [Act.put, List.setIfInBounds_toArray, List.set_cons_zero, List.set_cons_succ]
                  refine anyH_val (i := 8) (v := .bool false) (by kernel_rfl) rfl (some 80) rfl (by kernel_rfl) (ex_eq33 rfl rfl rfl hr1) b8 ?_
                  simp only [Act.put, List.setIfInBounds_toArray, List.set_cons_zero, List.set_cons_succ]
                  exact wpAnyH_done (by kernel_rfl) ⟨rfl, rfl, b8⟩ _
                case hq =>
                  intro W9 hB9
                  have HB9 := hide (B9.trans (hB9.mono B9.size))
                  clear hV9 B9 vb vbl vm vd vdl hB9
                  go_wp2_with fail
                  go_roundw
                  case rel => exact ⟨j + 1, by omega, by simp, HT.out.trans (HB9.out.mono HT.out.size)⟩
                  case measure => simp [intOf]; omega
              · have hjS' : j = S := by omega
                have k1 := HK6.out.2.1.move hbt
                have HW := hide (And.intro kb (And.intro k1 (HK6.out.2.2.trans (hbt.mono HK6.out.2.2.size))))
                clear kb hbt hnbl k1
                go_wp2_with fail
                go_roundw
                case rel => exact ⟨k + 1, m, u1, by omega, by omega, by simp, HW.out.1, HW.out.2.1, HSm.out, HW.out.2.2⟩
                case measure => simp [intOf]; omega
          · have hm : m = noN := do_none HD.out.1.doc hc0
            subst hm
            have hc : (c != 0) = true := by rw [bne_iff_ne]; exact hc0
            have c0 : W.cell? ⟨bq, 0, none⟩ = some (.string ⟨#[]⟩) := (nd_box HD.out.1.box).1
            have c4 : W.cell? ⟨bq, 4, none⟩ = some (.slice u1.aa 0 u1.ac) := (nd_box HD.out.1.box).2.2.2.2.1
            clear hc0
            go_wp2_with fail
            go_roundw
            case rel =>
              exact ⟨k + 1, n, u, by omega, by omega, by simp, HD.out.2.1, HD.out.2.2.1, HR0.out.1, HD.out.2.2.2.1⟩
            case measure => simp [intOf]; omega
      · skip
        have HLi := hide (live11_any wr (HL.out.2.1.below HR0.out.2))
        clear hnb hnm hst hbw
        go_wp2_with fail
        refine HLi.out.mono ?_
        rintro e w4 ⟨rfl, b4⟩
        have H4 := hide (HR0.out.2.trans (b4.mono HR0.out.2.size))
        clear b4
        go_wp2_with fail
        go_ret
        exact ⟨rfl, H4.out⟩
    · skip
      have HLi := hide (live11_any wr (HL.out.2.1.below HR0.out.2))
      clear hnb hnm hst hbw
      go_wp2_with fail
      refine HLi.out.mono ?_
      rintro e w4 ⟨rfl, b4⟩
      have H4 := hide (HR0.out.2.trans (b4.mono HR0.out.2.size))
      clear b4
      go_wp2_with fail
      go_ret
      exact ⟨rfl, H4.out⟩
theorem nodeStays_int (z : Int) (leaf : Bool) (ao : Option Addr) (cap : Nat) (l : List Ed) (w : World) (h0 : 0 ≤ z) (h1 : z ≤ 255) (hl : EdsMem w.heap.size w ao l) (hg : Glob w) :
    Calls Tryd.prog 3 #[.int .u8 z, .bool leaf, .slice ao l.length cap] w fun e w' => e = .returned (.bool true) ∧ Below w.heap.size w w' := by
  obtain ⟨k, rfl⟩ : ∃ k : Nat, z = k := ⟨z.toNat, by omega⟩
  exact nodeStays_any k leaf (by omega) ao cap l w hl hg
end Go.Proofs.YtffjmkngdjbjlaaDoor
