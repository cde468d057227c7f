/- Somebody subscribes. -/
import Derived.Test.YtffjmkngdjbjlaaGreatDoorQK
import Derived.Test.YtffjmkngdjbjlaaGreatDoorNe7
namespace Go.Proofs.YtffjmkngdjbjlaaGreatDoor
open Go.RowKit

/-- Subscriptions with this one in its place. -/
def inSub (x : ByteArray × Bool × Int) (L : List (ByteArray × Bool × Int)) : List (ByteArray × Bool × Int) := (woSub x.1 L).takeWhile (fun y => decide (y.1.toList < x.1.toList)) ++ x :: (woSub x.1 L).dropWhile (fun y => decide (y.1.toList < x.1.toList))
/-- What with answers at this list and this element. -/
def WithS (L : List (ByteArray × Bool × Int)) (x : ByteArray × Bool × Int) : Prop := ∀ (ao : Option Addr) (cap : Nat) (w : World), SubMem w.heap.size w ao L →
    Calls Tryz.prog 16 #[.slice ao L.length cap, .func (.func 17) #[] #[], .agg #[.string x.1, .bool x.2.1, .int .i64 x.2.2]] w fun e w' => ∃ v', e = .returned v' ∧ w'.ownsRow w.heap.size 43 3 v' (inSub x L).length (sC (inSub x L)) ∧ Below w.heap.size w w'
theorem takeWhile_all {α : Type} {p : α → Bool} {l : List α} (h : ∀ y ∈ l, p y = true) : l.takeWhile p = l ∧ l.dropWhile p = [] := by
  induction l with
  | nil => exact ⟨rfl, rfl⟩
  | cons a l ih =>
    have h1 := h a (by simp)
    have h2 := ih (fun y hy => h y (by simp [hy]))
    simp [h1, h2]
theorem inSub_end {x : ByteArray × Bool × Int} {L : List (ByteArray × Bool × Int)} (h : ∀ y ∈ woSub x.1 L, y.1.toList < x.1.toList) : inSub x L = woSub x.1 L ++ [x] := by
  have := takeWhile_all (p := fun y : ByteArray × Bool × Int => decide (y.1.toList < x.1.toList)) (fun y hy => decide_eq_true (h y hy))
  unfold inSub
  rw [this.1, this.2]
theorem withS_end {x : ByteArray × Bool × Int} {L : List (ByteArray × Bool × Int)} (h : ∀ y ∈ woSub x.1 L, y.1.toList < x.1.toList) : WithS L x := by
  intro ao cap w hm
  rw [inSub_end h]
  exact withEnd_s ao cap L x w hm h
theorem inSub_mem {x y : ByteArray × Bool × Int} {L : List (ByteArray × Bool × Int)} (h : y ∈ inSub x L) : y = x ∨ y ∈ L := by
  unfold inSub at h
  rcases List.mem_append.1 h with h | h
  · exact .inr (List.mem_filter.1 ((List.takeWhile_sublist _).subset h)).1
  · rcases List.mem_cons.1 h with h | h
    · exact .inl h
    · exact .inr (List.mem_filter.1 ((List.dropWhile_sublist _).subset h)).1
theorem inSub_len (x : ByteArray × Bool × Int) (L : List (ByteArray × Bool × Int)) : (inSub x L).length ≤ L.length + 1 := by
  unfold inSub
  have h1 : (woSub x.1 L).length ≤ L.length := List.length_filter_le _ _
  have h2 := congrArg List.length (List.takeWhile_append_dropWhile (p := fun y : ByteArray × Bool × Int => decide (y.1.toList < x.1.toList)) (l := woSub x.1 L))
  rw [List.length_append] at h2
  rw [List.length_append, List.length_cons]
  omega
def AskS (n : Nd) (s : ByteArray) (d : Int) : Prop := RightN n ∧ addrOk s = true ∧ (decide (0 ≤ d) && decide (d ≤ 255)) = true
def oldS (n : Nd) (s : ByteArray) : Option (ByteArray × Bool × Int) := n.subs.find? (fun x => decide (x.1 = s))
/-- Why a subscription that is well asked for is refused; 0: it is not. -/
def codeS (n : Nd) (s : ByteArray) : Int := if roleL n.affs s = 1 then 3 else if n.acc = 2 ∧ roleL n.affs s < 3 then 6 else match oldS n s with
  | some x => if x.2.1 = true then 7 else 0
  | none => if 16 ≤ n.subs.length then 8 else 0
def newS (n : Nd) (s : ByteArray) (d : Int) : ByteArray × Bool × Int := match oldS n s with
  | some x => (x.1, x.2.1, d)
  | none => (s, decide (n.acc = 1) && decide (roleL n.affs s < 3), d)
def SbsC (n : Nd) (s : ByteArray) (d : Int) (m : Nd) (c : Int) : Prop := (¬ AskS n s d ∧ c = 1 ∧ m = noN) ∨ (AskS n s d ∧ codeS n s ≠ 0 ∧ c = codeS n s ∧ m = noN) ∨ (AskS n s d ∧ codeS n s = 0 ∧ c = 0 ∧ m = { n with subs := inSub (newS n s d) n.subs })
theorem firstSub_ex {l : List (ByteArray × Bool × Int)} {s : ByteArray} {e : Ending} (h : FirstSub l s e) : ∃ ya yp yd b, e = .returned (.tuple #[.agg #[.string ya, .bool yp, .int .i64 yd], .bool b]) ∧ ((b = true ∧ ya = s ∧ l.find? (fun x => decide (x.1 = s)) = some (ya, yp, yd)) ∨ (b = false ∧ l.find? (fun x => decide (x.1 = s)) = none ∧ ya = ⟨#[]⟩ ∧ yp = false ∧ yd = 0)) := by
  rcases h with ⟨x, hx, rfl⟩ | ⟨hx, rfl⟩
  · exact ⟨x.1, x.2.1, x.2.2, true, rfl, .inl ⟨rfl, by simpa using List.find?_some hx, hx⟩⟩
  · exact ⟨_, _, _, false, rfl, .inr ⟨rfl, hx, rfl, rfl, rfl⟩⟩
theorem Bx.other {w W : World} {n : Nd} {v : NdW} {q i : Nat} {x : Value} (h : Bx w n v W) (hm : NdM w.heap.size w n v) (hq : w.heap.size + 2 ≤ q) : Bx w n v (W.setCell ⟨q, i, none⟩ x) := by
  obtain ⟨m', x', hr⟩ := h.r
  have hb := h.bel.setCell (p := ⟨q, i, none⟩) (by show w.heap.size ≤ q; omega) x
  exact ⟨(set_blk _ _ _ _ (by show w.heap.size ≠ q; omega)).trans h.a, ⟨m', x', (set_blk _ _ _ _ (by show w.heap.size + 1 ≠ q; omega)).trans hr⟩, hm.move hb, hb, by rw [size_set]; exact h.size⟩
def setS (w : World) (q : Nat) (a : ByteArray) (p : Bool) (d : Int) : World := ((w.setCell ⟨q, 0, none⟩ (.string a)).setCell ⟨q, 1, none⟩ (.bool p)).setCell ⟨q, 2, none⟩ (.int .i64 d)
theorem store_s {w : World} {q : Nat} {u0 u1 u2 : Value} {a : ByteArray} {p : Bool} {d : Int} (h : w.heap[q]? = some (.cells #[u0, u1, u2] 43)) : (Instr.storeAt 43 (.pointer (some ⟨q, 0, none⟩)) (.agg #[.string a, .bool p, .int .i64 d])).run Tryz.prog w = .ok () (setS w q a p d) := by
  obtain ⟨z0, z1, z2, y0, y1, y2⟩ := cells_s h
  unfold setS
  go_simp
theorem q_call {W W' : World} {q : Nat} {o : Obj} (h : W.heap[q]? = some o) (hb : Below W.heap.size W W') : W'.heap[q]? = some o := (hb.block _ (Array.getElem?_eq_some_iff.1 h).1).trans h
theorem subs_right {n : Nd} (h : RightN n) : n.subs.length ≤ 16 := h.2.2.2.2.2.1.1
set_option maxRecDepth 100000 in
set_option maxHeartbeats 8000000 in
theorem subscribe_any (n : Nd) (v : NdW) (s : ByteArray) (d : Int) (w : World) (hm : NdM w.heap.size w n v) (hg : Glob w) (hs : Fits s) (hws : WithS n.subs (newS n s d)) :
    Calls Tryz.prog 4 #[.agg (ndA n v), .string s, .int .i64 d] w fun e w' => EditR w (SbsC n s d) e w' := by
  have HM := hide hm
  have HWS := hide hws
  have HGw := hide hg
  have HS := hide hs
  clear hws
  obtain ⟨W, hW, fa, fr, bw, zw⟩ := boxes w n v
  have bx : Bx w n v W := ⟨fa, ⟨_, _, fr⟩, hm.move bw, bw, by omega⟩
  have HX := hide bx
  have HG := hide (hg.below bw)
  have HW := hide hW
  have HA := hide fa
  rw [← hW] at HA
  have HRo := hide (role_any n v s W bx.mem.ok)
  rw [← hW] at HRo
  rw [show (ndA noN noW : Array Value) = #[.string ⟨#[]⟩, .bool false, .int .u8 0, .int .i64 0, .slice none 0 0, .slice none 0 0, .slice none 0 0, .string ⟨#[]⟩] from rfl] at HRo
  obtain ⟨ro, hro⟩ : ∃ ro, roleL n.affs s = ro := ⟨_, rfl⟩
  rw [hro] at HRo
  have HROL := hide hro
  clear hro
  have hZ : (ndA noN noW : Array Value) = #[.string ⟨#[]⟩, .bool false, .int .u8 0, .int .i64 0, .slice none 0 0, .slice none 0 0, .slice none 0 0, .string ⟨#[]⟩] := rfl
  rw [hZ] at HA
  clear hm hg hW fa fr bw zw bx hZ
  obtain ⟨C, hC⟩ : ∃ C, SbsC n s d = C := ⟨_, rfl⟩
  rw [hC]
  have HC := hide hC
  clear hC
  go_enter Tryz.func4, Tryz.ntmps4
  go_wp2_with (refine l_load _ (load_nd HA.out) rfl rfl rfl ?_)
  refine HRo.out.mono ?_
  rintro e w1 ⟨rfl, b1⟩
  have x1 : Bx w n v w1 := by
    have h : _ = W := HW.out
    have b1' : Below W.heap.size W w1 := by
      rw [← h]
      exact b1
    exact HX.out.call b1'
  have X1 := hide x1
  clear x1 b1 HRo HA hs
  have HSu := hide (sub_any n v s w1 X1.out.mem.ok)
  go_wp2_with (refine l_load _ (load_nd X1.out.a) rfl rfl rfl ?_)
  refine HSu.out.mono ?_
  rintro e w2 ⟨hfs, b2⟩
  obtain ⟨ya, yp, yd, b, rfl, hold⟩ := firstSub_ex hfs
  have bq := b2.alloc b2.size (.cells #[.string ya, .bool yp, .int .i64 yd] 43)
  have x2 := X1.out.call bq
  have fq := World.alloc_heap_new w2 (.cells #[.string ya, .bool yp, .int .i64 yd] 43)
  have hq2 : w.heap.size + 2 ≤ w2.heap.size := Nat.le_trans X1.out.size b2.size
  have XA := hide x2.a
  have HOLD := hide hold
  clear hfs b2 bq hold HSu
  go_wp2_with (refine l_load _ (load_nd XA.out) rfl rfl rfl ?_; refine stopNd ?_)
  unfold Hid
  obtain ⟨W2, hW2⟩ : ∃ W2, w2.alloc (.cells #[.string ya, .bool yp, .int .i64 yd] 43) = W2 := ⟨_, rfl⟩
  obtain ⟨q, hq⟩ : ∃ q, w2.heap.size = q := ⟨_, rfl⟩
  rw [hW2] at x2 fq ⊢
  rw [hq] at fq hq2 ⊢
  have X2 := hide x2
  have Q2 := hide fq
  have HQ2 := hide hq2
  clear hW2 hq XA x2 fq hq2
  have HRi := hide (rightN_any n v W2 X2.out.mem (HGw.out.below X2.out.bel))
  go_wp2_with fail
  refine HRi.out.mono ?_
  rintro e w3 ⟨⟨p, rfl, hp⟩, b3⟩
  have X3 := hide (X2.out.call b3)
  have Q3 := hide (q_call Q2.out b3)
  have HP := hide hp
  clear b3 hp HRi X2 Q2
  cases p with
  | false =>
    have HC2 := hide (show C noN 1 by rw [← HC.out]; exact .inl ⟨fun h => (by have := HP.out.2 h.1; cases this), rfl, rfl⟩)
    have HRf := hide (refuseN_any 1 w3)
    go_wp2_with fail
    refine HRf.out.mono ?_
    rintro e w8_ ⟨rfl, b2⟩
    have x2 := hide (X3.out.call b2)
    clear b2
    obtain ⟨m', x', hr⟩ := x2.out.r
    have HR := hide hr
    clear hr
    go_wp2_with (refine l_store _ (store_nd (n := noN) (u := noW) HR.out) rfl rfl rfl rfl ?_)
    exact bodyPost_ret (refuse_run x2.out rfl rfl rfl) rfl (refuse_ed x2.out HC2.out)
  | true =>
    have HT := hide (HP.out.1 rfl)
    have hG3 := HGw.out.below X3.out.bel
    have HAd := hide (addr_any s w3 (by have := HS.out; omega) hG3.max hG3.lt)
    obtain ⟨pa, hpa⟩ : ∃ pa, addrOk s = pa := ⟨_, rfl⟩
    rw [hpa] at HAd
    have HPA := hide hpa
    clear hG3 hpa
    go_wp2_with fail
    refine HAd.out.mono ?_
    rintro e w4 ⟨rfl, b4⟩
    have X4 := hide (X3.out.call b4)
    have Q4 := hide (q_call Q3.out b4)
    clear b4 HAd X3 Q3
    cases pa with
    | false =>
      have HC2 := hide (show C noN 1 by rw [← HC.out]; exact .inl ⟨fun h => (by have := h.2.1; rw [HPA.out] at this; cases this), rfl, rfl⟩)
      have HRf := hide (refuseN_any 1 w4)
      go_wp2_with fail
      refine HRf.out.mono ?_
      rintro e w8_ ⟨rfl, b2⟩
      have x2 := hide (X4.out.call b2)
      clear b2
      obtain ⟨m', x', hr⟩ := x2.out.r
      have HR := hide hr
      clear hr
      go_wp2_with (refine l_store _ (store_nd (n := noN) (u := noW) HR.out) rfl rfl rfl rfl ?_)
      exact bodyPost_ret (refuse_run x2.out rfl rfl rfl) rfl (refuse_ed x2.out HC2.out)
    | true =>
      have HDe := hide (isDepth_any d w4)
      obtain ⟨pd, hpd⟩ : ∃ pd, (decide (0 ≤ d) && decide (d ≤ 255)) = pd := ⟨_, rfl⟩
      rw [hpd] at HDe
      have HPD := hide hpd
      clear hpd
      go_wp2_with fail
      refine HDe.out.mono ?_
      rintro e w5 ⟨rfl, hw5⟩
      rw [hw5]
      clear hw5 HDe
      cases pd with
      | false =>
        have HC2 := hide (show C noN 1 by rw [← HC.out]; exact .inl ⟨fun h => (by have := h.2.2; rw [HPD.out] at this; cases this), rfl, rfl⟩)
        have HRf := hide (refuseN_any 1 w4)
        go_wp2_with fail
        refine HRf.out.mono ?_
        rintro e w8_ ⟨rfl, b2⟩
        have x2 := hide (X4.out.call b2)
        clear b2
        obtain ⟨m', x', hr⟩ := x2.out.r
        have HR := hide hr
        clear hr
        go_wp2_with (refine l_store _ (store_nd (n := noN) (u := noW) HR.out) rfl rfl rfl rfl ?_)
        exact bodyPost_ret (refuse_run x2.out rfl rfl rfl) rfl (refuse_ed x2.out HC2.out)
      | true =>
        have HASK := hide (show AskS n s d from ⟨HT.out, HPA.out, HPD.out⟩)
        have HCO : ∃ cs, codeS n s = cs := ⟨_, rfl⟩
        obtain ⟨cs, hcs⟩ := HCO
        have HCS := hide hcs
        clear hcs
        have c2 := (nd_box X4.out.a).2.2.1
        have c5 := (nd_box X4.out.a).2.2.2.2.2.1
        obtain ⟨e0, e1, e2, z0, z1, z2⟩ := cells_s Q4.out
        by_cases h1 : ro = 1
        · have h1e : ((ro : Int) == 1) = true := by rw [h1]; rfl
          have HCV := hide (show codeS n s = 3 by unfold codeS; rw [HROL.out, if_pos h1])
          clear h1
          have HC2 := hide (show C noN 3 by rw [← HC.out]; exact .inr (.inl ⟨HASK.out, by rw [HCV.out]; decide, HCV.out.symm, rfl⟩))
          have HRf := hide (refuseN_any 3 w4)
          go_wp2_with fail
          refine HRf.out.mono ?_
          rintro e w8_ ⟨rfl, b2⟩
          have x2 := hide (X4.out.call b2)
          clear b2
          obtain ⟨m', x', hr⟩ := x2.out.r
          have HR := hide hr
          clear hr
          go_wp2_with (refine l_store _ (store_nd (n := noN) (u := noW) HR.out) rfl rfl rfl rfl ?_)
          exact bodyPost_ret (refuse_run x2.out rfl rfl rfl) rfl (refuse_ed x2.out HC2.out)
        · have h1e : ((ro : Int) == 1) = false := by rw [beq_eq_false_iff_ne]; omega
          have H1 := hide h1
          clear h1
          by_cases h2 : n.acc = 2
          · have h2e : ((n.acc : Int) == 2) = true := by rw [h2]; rfl
            by_cases h3 : (ro : Int) < 3
            · have HCV := hide (show codeS n s = 6 by unfold codeS; rw [HROL.out, if_neg H1.out, if_pos ⟨h2, by omega⟩])
              clear h2
              have HC2 := hide (show C noN 6 by rw [← HC.out]; exact .inr (.inl ⟨HASK.out, by rw [HCV.out]; decide, HCV.out.symm, rfl⟩))
              have HRf := hide (refuseN_any 6 w4)
              go_wp2_with fail
              refine HRf.out.mono ?_
              rintro e w8_ ⟨rfl, b2⟩
              have x2 := hide (X4.out.call b2)
              clear b2
              obtain ⟨m', x', hr⟩ := x2.out.r
              have HR := hide hr
              clear hr
              go_wp2_with (refine l_store _ (store_nd (n := noN) (u := noW) HR.out) rfl rfl rfl rfl ?_)
              exact bodyPost_ret (refuse_run x2.out rfl rfl rfl) rfl (refuse_ed x2.out HC2.out)
            · have HNW := hide (show ¬ (n.acc = 2 ∧ ro < 3) from fun h => h3 (by omega))
              cases b with
              | true =>
                have hold1 : ya = s ∧ oldS n s = some (ya, yp, yd) := by
                  rcases HOLD.out with ⟨_, h1, h2⟩ | ⟨h, _⟩
                  · exact ⟨h1, h2⟩
                  · cases h
                obtain ⟨hya, hfind⟩ := hold1
                have HF := hide (show oldS n s = some (ya, yp, yd) from hfind)
                have HYF := hide (show Fits ya by rw [hya]; exact HS.out)
                clear hya hfind
                cases yp with
                | true =>
                  have HCV := hide (show codeS n s = 7 by unfold codeS; rw [HROL.out, if_neg H1.out, if_neg HNW.out, HF.out]; rfl)
                  have HC2 := hide (show C noN 7 by rw [← HC.out]; exact .inr (.inl ⟨HASK.out, by rw [HCV.out]; decide, HCV.out.symm, rfl⟩))
                  have HRf := hide (refuseN_any 7 w4)
                  go_wp2_with fail
                  refine HRf.out.mono ?_
                  rintro e w8_ ⟨rfl, b2⟩
                  have x2 := hide (X4.out.call b2)
                  clear b2
                  obtain ⟨m', x', hr⟩ := x2.out.r
                  have HR := hide hr
                  clear hr
                  go_wp2_with (refine l_store _ (store_nd (n := noN) (u := noW) HR.out) rfl rfl rfl rfl ?_)
                  exact bodyPost_ret (refuse_run x2.out rfl rfl rfl) rfl (refuse_ed x2.out HC2.out)
                | false =>
                  have HCV := hide (show codeS n s = 0 by unfold codeS; rw [HROL.out, if_neg H1.out, if_neg HNW.out, HF.out]; rfl)
                  have HNEW : newS n s d = (ya, false, d) := by unfold newS; rw [HF.out]
                  have XT := hide (X4.out.other (x := .int .i64 d) (i := 2) HM.out HQ2.out)
                  have QT := hide (heap_setk (i := 2) (v := .int .i64 d) Q4.out)
                  have hWx : WithS n.subs (ya, false, d) := by
                    rw [← HNEW]
                    exact HWS.out
                  have HWX := hide hWx
                  clear hWx HNEW
                  have HFr := hide (fresh_any n v (w4.setCell ⟨q, 2, none⟩ (.int .i64 d)) XT.out.mem)
                  go_wp2_with (refine l_load _ (load_nd XT.out.a) rfl rfl rfl ?_)
                  refine HFr.out.mono ?_
                  rintro e w3 ⟨u, rfl, hu, hfar, b3⟩
                  have x3a := XT.out.call b3
                  have hz2 := XT.out.size
                  have x3 := x3a.put hu ⟨fun a e => by have := hfar.1 a e; omega, fun a e => by have := hfar.2.1 a e; omega, fun a e => by have := hfar.2.2 a e; omega⟩
                  have HFar := hide (show Far w u from ⟨fun a e => by have := hfar.1 a e; omega, fun a e => by have := hfar.2.1 a e; omega, fun a e => by have := hfar.2.2 a e; omega⟩)
                  have X3 := hide x3
                  have HA3 := hide x3a.a
                  clear hu hfar x3a x3 hz2
                  go_wp2_with (refine l_store _ (store_nd (n := n) (u := u) HA3.out) rfl rfl rfl rfl ?_; refine stopNd ?_)
                  unfold Hid
                  have q3 : (setNd w3 w.heap.size n u).heap[q]? = _ := (setNd_far _ (by have := HQ2.out; omega)).trans (q_call QT.out b3)
                  obtain ⟨W3, hW3⟩ : ∃ W3, setNd w3 w.heap.size n u = W3 := ⟨_, rfl⟩
                  rw [hW3] at X3 q3 ⊢
                  clear hW3 HA3 b3
                  have c5 := (nd_box X3.out.a).2.2.2.2.2.1
                  have hwi := HWX.out u.sa u.sc W3 X3.out.mem.ok.2.1
                  obtain ⟨L5, hL5⟩ : ∃ L5, inSub (ya, false, d) n.subs = L5 := ⟨_, rfl⟩
                  have hlen : L5.length ≤ 17 := by rw [← hL5]; exact Nat.le_trans (inSub_len _ _) (Nat.succ_le_succ (subs_right HT.out))
                  have hfit : ∀ x ∈ L5, Fits x.1 := by
                    intro x hx
                    rw [← hL5] at hx
                    rcases inSub_mem hx with h | h
                    · rw [h]; exact HYF.out
                    · exact X3.out.mem.fits.subs x h
                  rw [hL5] at hwi
                  have HL5 := hide hL5
                  have HWi := hide hwi
                  have Q3 := hide q3
                  obtain ⟨e0, e1, e2, _⟩ := cells_s q3
                  have hl3 := load_s (x := (ya, false, d)) e0 e1 e2
                  clear hwi q3 e0 e1 e2 hL5
                  go_wp2_with (refine l_load _ hl3 rfl rfl rfl ?_)
                  refine HWi.out.mono ?_
                  rintro e w7 ⟨v7, rfl, hown7, b7⟩
                  have x7 := X3.out.call b7
                  obtain ⟨g7, c7, hv7, hm7, hc7, _, hb7⟩ := own_s hown7 (by omega)
                  subst hv7
                  have hz6 := X3.out.size
                  have hx8 := x7.setSubs (sa := g7) (sc := c7) (L := L5) HFar.out hm7 hc7 hfit (fun a e => by have := (hb7 a e).1; omega)
                  have z6 := (nd_box x7.a).2.2.2.2.2.1
                  have zf6 : w7.frozen? ⟨w.heap.size, 5, none⟩ = false := by simp [World.frozen?, x7.a]
                  have X8 := hide hx8
                  have HCn := hide (show C { n with subs := L5 } 0 by
                    rw [← HC.out, ← HL5.out]
                    exact .inr (.inr ⟨HASK.out, HCV.out, rfl, by rw [show newS n s d = (ya, false, d) by unfold newS; rw [HF.out]]⟩))
                  clear hx8 x7 hm7 hc7 hown7 b7 hb7 c5 hlen hfit hl3
                  go_wp2_with (refine l_store _ (store_any (size_one25 _) z6 zf6) rfl rfl rfl rfl ?_; refine stopNd ?_)
                  unfold Hid
                  obtain ⟨W8, hW8⟩ : ∃ W8, w7.setCell ⟨w.heap.size, 5, none⟩ (.slice g7 L5.length c7) = W8 := ⟨_, rfl⟩
                  obtain ⟨N8, hN8⟩ : ∃ N8 : Nd, { n with subs := L5 } = N8 := ⟨_, rfl⟩
                  obtain ⟨U8, hU8⟩ : ∃ U8 : NdW, { u with sa := g7, sc := c7 } = U8 := ⟨_, rfl⟩
                  rw [hW8, hN8, hU8] at X8
                  rw [hN8] at HCn
                  rw [hW8]
                  clear hW8 hN8 hU8 z6 zf6
                  go_wp2_with (refine l_load _ (load_nd X8.out.1.a) rfl rfl rfl ?_; refine stopNd ?_)
                  unfold Hid
                  obtain ⟨m', x', hr⟩ := X8.out.1.r
                  have HR := hide hr
                  clear hr
                  refine l_store _ (store_nd (n := N8) (u := U8) HR.out) rfl rfl rfl rfl ?_
                  go_wp2_with fail
                  exact bodyPost_ret (done_run X8.out.1 rfl rfl rfl) rfl (done_ed X8.out.1 HCn.out X8.out.2)
              | false =>
                have hold1 : oldS n s = none ∧ ya = ⟨#[]⟩ ∧ yp = false ∧ yd = 0 := by
                  rcases HOLD.out with ⟨h, _⟩ | ⟨_, h⟩
                  · cases h
                  · exact h
                obtain ⟨hfind, rfl, rfl, rfl⟩ := hold1
                have HF := hide hfind
                have HYF := HS
                clear hfind
                by_cases hl : (16 : Int) ≤ (n.subs.length : Int)
                · have HCV := hide (show codeS n s = 8 by unfold codeS; rw [HROL.out, if_neg H1.out, if_neg HNW.out, HF.out]; exact if_pos (by omega))
                  have HC2 := hide (show C noN 8 by rw [← HC.out]; exact .inr (.inl ⟨HASK.out, by rw [HCV.out]; decide, HCV.out.symm, rfl⟩))
                  have HRf := hide (refuseN_any 8 w4)
                  go_wp2_with fail
                  refine HRf.out.mono ?_
                  rintro e w8_ ⟨rfl, b2⟩
                  have x2 := hide (X4.out.call b2)
                  clear b2
                  obtain ⟨m', x', hr⟩ := x2.out.r
                  have HR := hide hr
                  clear hr
                  go_wp2_with (refine l_store _ (store_nd (n := noN) (u := noW) HR.out) rfl rfl rfl rfl ?_)
                  exact bodyPost_ret (refuse_run x2.out rfl rfl rfl) rfl (refuse_ed x2.out HC2.out)
                · have HCV := hide (show codeS n s = 0 by unfold codeS; rw [HROL.out, if_neg H1.out, if_neg HNW.out, HF.out]; exact if_neg (by omega))
                  have ha : ¬ n.acc = 1 := by omega
                  have hae : ((n.acc : Int) == 1) = false := by rw [beq_eq_false_iff_ne]; omega
                  have HNEW : newS n s d = (s, false, d) := by
                    unfold newS
                    rw [HF.out, HROL.out]
                    simp [ha]
                  have HNEW2 := hide HNEW
                  have X6 := hide (((X4.out.other (x := .string s) (i := 0) HM.out HQ2.out).other (x := .bool false) (i := 1) HM.out HQ2.out).other (x := .int .i64 0) (i := 2) HM.out HQ2.out)
                  have Q6 := hide (set3_s (v0 := .string s) (v1 := .bool false) (v2 := .int .i64 0) Q4.out)
                  clear e0 e1 e2 z0 z1 z2
                  go_wp2_with (refine l_store _ (store_s Q4.out) rfl rfl rfl rfl ?_; refine stopNd ?_)
                  unfold Hid
                  obtain ⟨W6, hW6⟩ : ∃ W6, setS w4 q s false 0 = W6 := ⟨_, rfl⟩
                  rw [hW6]
                  unfold setS at hW6
                  rw [hW6] at X6 Q6
                  clear hW6 c2 c5
                  obtain ⟨e0, e1, e2, z0, z1, z2⟩ := cells_s Q6.out
                  have XT := hide (X6.out.other (x := .int .i64 d) (i := 2) HM.out HQ2.out)
                  have QT := hide (heap_setk (i := 2) (v := .int .i64 d) Q6.out)
                  have hWx : WithS n.subs (s, false, d) := by
                    rw [← HNEW]
                    exact HWS.out
                  have HWX := hide hWx
                  clear hWx HNEW
                  have HFr := hide (fresh_any n v (W6.setCell ⟨q, 2, none⟩ (.int .i64 d)) XT.out.mem)
                  go_wp2_with (refine l_load _ (load_nd XT.out.a) rfl rfl rfl ?_)
                  refine HFr.out.mono ?_
                  rintro e w3 ⟨u, rfl, hu, hfar, b3⟩
                  have x3a := XT.out.call b3
                  have hz2 := XT.out.size
                  have x3 := x3a.put hu ⟨fun a e => by have := hfar.1 a e; omega, fun a e => by have := hfar.2.1 a e; omega, fun a e => by have := hfar.2.2 a e; omega⟩
                  have HFar := hide (show Far w u from ⟨fun a e => by have := hfar.1 a e; omega, fun a e => by have := hfar.2.1 a e; omega, fun a e => by have := hfar.2.2 a e; omega⟩)
                  have X3 := hide x3
                  have HA3 := hide x3a.a
                  clear hu hfar x3a x3 hz2
                  go_wp2_with (refine l_store _ (store_nd (n := n) (u := u) HA3.out) rfl rfl rfl rfl ?_; refine stopNd ?_)
                  unfold Hid
                  have q3 : (setNd w3 w.heap.size n u).heap[q]? = _ := (setNd_far _ (by have := HQ2.out; omega)).trans (q_call QT.out b3)
                  obtain ⟨W3, hW3⟩ : ∃ W3, setNd w3 w.heap.size n u = W3 := ⟨_, rfl⟩
                  rw [hW3] at X3 q3 ⊢
                  clear hW3 HA3 b3
                  have c5 := (nd_box X3.out.a).2.2.2.2.2.1
                  have hwi := HWX.out u.sa u.sc W3 X3.out.mem.ok.2.1
                  obtain ⟨L5, hL5⟩ : ∃ L5, inSub (s, false, d) n.subs = L5 := ⟨_, rfl⟩
                  have hlen : L5.length ≤ 17 := by rw [← hL5]; exact Nat.le_trans (inSub_len _ _) (Nat.succ_le_succ (subs_right HT.out))
                  have hfit : ∀ x ∈ L5, Fits x.1 := by
                    intro x hx
                    rw [← hL5] at hx
                    rcases inSub_mem hx with h | h
                    · rw [h]; exact HYF.out
                    · exact X3.out.mem.fits.subs x h
                  rw [hL5] at hwi
                  have HL5 := hide hL5
                  have HWi := hide hwi
                  have Q3 := hide q3
                  obtain ⟨e0, e1, e2, _⟩ := cells_s q3
                  have hl3 := load_s (x := (s, false, d)) e0 e1 e2
                  clear hwi q3 e0 e1 e2 hL5
                  go_wp2_with (refine l_load _ hl3 rfl rfl rfl ?_)
                  refine HWi.out.mono ?_
                  rintro e w7 ⟨v7, rfl, hown7, b7⟩
                  have x7 := X3.out.call b7
                  obtain ⟨g7, c7, hv7, hm7, hc7, _, hb7⟩ := own_s hown7 (by omega)
                  subst hv7
                  have hz6 := X3.out.size
                  have hx8 := x7.setSubs (sa := g7) (sc := c7) (L := L5) HFar.out hm7 hc7 hfit (fun a e => by have := (hb7 a e).1; omega)
                  have z6 := (nd_box x7.a).2.2.2.2.2.1
                  have zf6 : w7.frozen? ⟨w.heap.size, 5, none⟩ = false := by simp [World.frozen?, x7.a]
                  have X8 := hide hx8
                  have HCn := hide (show C { n with subs := L5 } 0 by
                    rw [← HC.out, ← HL5.out]
                    exact .inr (.inr ⟨HASK.out, HCV.out, rfl, by rw [HNEW2.out]⟩))
                  clear hx8 x7 hm7 hc7 hown7 b7 hb7 c5 hlen hfit hl3
                  go_wp2_with (refine l_store _ (store_any (size_one25 _) z6 zf6) rfl rfl rfl rfl ?_; refine stopNd ?_)
                  unfold Hid
                  obtain ⟨W8, hW8⟩ : ∃ W8, w7.setCell ⟨w.heap.size, 5, none⟩ (.slice g7 L5.length c7) = W8 := ⟨_, rfl⟩
                  obtain ⟨N8, hN8⟩ : ∃ N8 : Nd, { n with subs := L5 } = N8 := ⟨_, rfl⟩
                  obtain ⟨U8, hU8⟩ : ∃ U8 : NdW, { u with sa := g7, sc := c7 } = U8 := ⟨_, rfl⟩
                  rw [hW8, hN8, hU8] at X8
                  rw [hN8] at HCn
                  rw [hW8]
                  clear hW8 hN8 hU8 z6 zf6
                  go_wp2_with (refine l_load _ (load_nd X8.out.1.a) rfl rfl rfl ?_; refine stopNd ?_)
                  unfold Hid
                  obtain ⟨m', x', hr⟩ := X8.out.1.r
                  have HR := hide hr
                  clear hr
                  refine l_store _ (store_nd (n := N8) (u := U8) HR.out) rfl rfl rfl rfl ?_
                  go_wp2_with fail
                  exact bodyPost_ret (done_run X8.out.1 rfl rfl rfl) rfl (done_ed X8.out.1 HCn.out X8.out.2)
          · have h2e : ((n.acc : Int) == 2) = false := by rw [beq_eq_false_iff_ne]; omega
            have HNW := hide (show ¬ (n.acc = 2 ∧ ro < 3) from fun h => h2 h.1)
            cases b with
            | true =>
              have hold1 : ya = s ∧ oldS n s = some (ya, yp, yd) := by
                rcases HOLD.out with ⟨_, h1, h2⟩ | ⟨h, _⟩
                · exact ⟨h1, h2⟩
                · cases h
              obtain ⟨hya, hfind⟩ := hold1
              have HF := hide (show oldS n s = some (ya, yp, yd) from hfind)
              have HYF := hide (show Fits ya by rw [hya]; exact HS.out)
              clear hya hfind
              cases yp with
              | true =>
                have HCV := hide (show codeS n s = 7 by unfold codeS; rw [HROL.out, if_neg H1.out, if_neg HNW.out, HF.out]; rfl)
                have HC2 := hide (show C noN 7 by rw [← HC.out]; exact .inr (.inl ⟨HASK.out, by rw [HCV.out]; decide, HCV.out.symm, rfl⟩))
                have HRf := hide (refuseN_any 7 w4)
                go_wp2_with fail
                refine HRf.out.mono ?_
                rintro e w8_ ⟨rfl, b2⟩
                have x2 := hide (X4.out.call b2)
                clear b2
                obtain ⟨m', x', hr⟩ := x2.out.r
                have HR := hide hr
                clear hr
                go_wp2_with (refine l_store _ (store_nd (n := noN) (u := noW) HR.out) rfl rfl rfl rfl ?_)
                exact bodyPost_ret (refuse_run x2.out rfl rfl rfl) rfl (refuse_ed x2.out HC2.out)
              | false =>
                have HCV := hide (show codeS n s = 0 by unfold codeS; rw [HROL.out, if_neg H1.out, if_neg HNW.out, HF.out]; rfl)
                have HNEW : newS n s d = (ya, false, d) := by unfold newS; rw [HF.out]
                have XT := hide (X4.out.other (x := .int .i64 d) (i := 2) HM.out HQ2.out)
                have QT := hide (heap_setk (i := 2) (v := .int .i64 d) Q4.out)
                have hWx : WithS n.subs (ya, false, d) := by
                  rw [← HNEW]
                  exact HWS.out
                have HWX := hide hWx
                clear hWx HNEW
                have HFr := hide (fresh_any n v (w4.setCell ⟨q, 2, none⟩ (.int .i64 d)) XT.out.mem)
                go_wp2_with (refine l_load _ (load_nd XT.out.a) rfl rfl rfl ?_)
                refine HFr.out.mono ?_
                rintro e w3 ⟨u, rfl, hu, hfar, b3⟩
                have x3a := XT.out.call b3
                have hz2 := XT.out.size
                have x3 := x3a.put hu ⟨fun a e => by have := hfar.1 a e; omega, fun a e => by have := hfar.2.1 a e; omega, fun a e => by have := hfar.2.2 a e; omega⟩
                have HFar := hide (show Far w u from ⟨fun a e => by have := hfar.1 a e; omega, fun a e => by have := hfar.2.1 a e; omega, fun a e => by have := hfar.2.2 a e; omega⟩)
                have X3 := hide x3
                have HA3 := hide x3a.a
                clear hu hfar x3a x3 hz2
                go_wp2_with (refine l_store _ (store_nd (n := n) (u := u) HA3.out) rfl rfl rfl rfl ?_; refine stopNd ?_)
                unfold Hid
                have q3 : (setNd w3 w.heap.size n u).heap[q]? = _ := (setNd_far _ (by have := HQ2.out; omega)).trans (q_call QT.out b3)
                obtain ⟨W3, hW3⟩ : ∃ W3, setNd w3 w.heap.size n u = W3 := ⟨_, rfl⟩
                rw [hW3] at X3 q3 ⊢
                clear hW3 HA3 b3
                have c5 := (nd_box X3.out.a).2.2.2.2.2.1
                have hwi := HWX.out u.sa u.sc W3 X3.out.mem.ok.2.1
                obtain ⟨L5, hL5⟩ : ∃ L5, inSub (ya, false, d) n.subs = L5 := ⟨_, rfl⟩
                have hlen : L5.length ≤ 17 := by rw [← hL5]; exact Nat.le_trans (inSub_len _ _) (Nat.succ_le_succ (subs_right HT.out))
                have hfit : ∀ x ∈ L5, Fits x.1 := by
                  intro x hx
                  rw [← hL5] at hx
                  rcases inSub_mem hx with h | h
                  · rw [h]; exact HYF.out
                  · exact X3.out.mem.fits.subs x h
                rw [hL5] at hwi
                have HL5 := hide hL5
                have HWi := hide hwi
                have Q3 := hide q3
                obtain ⟨e0, e1, e2, _⟩ := cells_s q3
                have hl3 := load_s (x := (ya, false, d)) e0 e1 e2
                clear hwi q3 e0 e1 e2 hL5
                go_wp2_with (refine l_load _ hl3 rfl rfl rfl ?_)
                refine HWi.out.mono ?_
                rintro e w7 ⟨v7, rfl, hown7, b7⟩
                have x7 := X3.out.call b7
                obtain ⟨g7, c7, hv7, hm7, hc7, _, hb7⟩ := own_s hown7 (by omega)
                subst hv7
                have hz6 := X3.out.size
                have hx8 := x7.setSubs (sa := g7) (sc := c7) (L := L5) HFar.out hm7 hc7 hfit (fun a e => by have := (hb7 a e).1; omega)
                have z6 := (nd_box x7.a).2.2.2.2.2.1
                have zf6 : w7.frozen? ⟨w.heap.size, 5, none⟩ = false := by simp [World.frozen?, x7.a]
                have X8 := hide hx8
                have HCn := hide (show C { n with subs := L5 } 0 by
                  rw [← HC.out, ← HL5.out]
                  exact .inr (.inr ⟨HASK.out, HCV.out, rfl, by rw [show newS n s d = (ya, false, d) by unfold newS; rw [HF.out]]⟩))
                clear hx8 x7 hm7 hc7 hown7 b7 hb7 c5 hlen hfit hl3
                go_wp2_with (refine l_store _ (store_any (size_one25 _) z6 zf6) rfl rfl rfl rfl ?_; refine stopNd ?_)
                unfold Hid
                obtain ⟨W8, hW8⟩ : ∃ W8, w7.setCell ⟨w.heap.size, 5, none⟩ (.slice g7 L5.length c7) = W8 := ⟨_, rfl⟩
                obtain ⟨N8, hN8⟩ : ∃ N8 : Nd, { n with subs := L5 } = N8 := ⟨_, rfl⟩
                obtain ⟨U8, hU8⟩ : ∃ U8 : NdW, { u with sa := g7, sc := c7 } = U8 := ⟨_, rfl⟩
                rw [hW8, hN8, hU8] at X8
                rw [hN8] at HCn
                rw [hW8]
                clear hW8 hN8 hU8 z6 zf6
                go_wp2_with (refine l_load _ (load_nd X8.out.1.a) rfl rfl rfl ?_; refine stopNd ?_)
                unfold Hid
                obtain ⟨m', x', hr⟩ := X8.out.1.r
                have HR := hide hr
                clear hr
                refine l_store _ (store_nd (n := N8) (u := U8) HR.out) rfl rfl rfl rfl ?_
                go_wp2_with fail
                exact bodyPost_ret (done_run X8.out.1 rfl rfl rfl) rfl (done_ed X8.out.1 HCn.out X8.out.2)
            | false =>
              have hold1 : oldS n s = none ∧ ya = ⟨#[]⟩ ∧ yp = false ∧ yd = 0 := by
                rcases HOLD.out with ⟨h, _⟩ | ⟨_, h⟩
                · cases h
                · exact h
              obtain ⟨hfind, rfl, rfl, rfl⟩ := hold1
              have HF := hide hfind
              have HYF := HS
              clear hfind
              by_cases hl : (16 : Int) ≤ (n.subs.length : Int)
              · have HCV := hide (show codeS n s = 8 by unfold codeS; rw [HROL.out, if_neg H1.out, if_neg HNW.out, HF.out]; exact if_pos (by omega))
                have HC2 := hide (show C noN 8 by rw [← HC.out]; exact .inr (.inl ⟨HASK.out, by rw [HCV.out]; decide, HCV.out.symm, rfl⟩))
                have HRf := hide (refuseN_any 8 w4)
                go_wp2_with fail
                refine HRf.out.mono ?_
                rintro e w8_ ⟨rfl, b2⟩
                have x2 := hide (X4.out.call b2)
                clear b2
                obtain ⟨m', x', hr⟩ := x2.out.r
                have HR := hide hr
                clear hr
                go_wp2_with (refine l_store _ (store_nd (n := noN) (u := noW) HR.out) rfl rfl rfl rfl ?_)
                exact bodyPost_ret (refuse_run x2.out rfl rfl rfl) rfl (refuse_ed x2.out HC2.out)
              · have HCV := hide (show codeS n s = 0 by unfold codeS; rw [HROL.out, if_neg H1.out, if_neg HNW.out, HF.out]; exact if_neg (by omega))
                by_cases ha : n.acc = 1
                · have hae : ((n.acc : Int) == 1) = true := by rw [ha]; rfl
                  by_cases h3 : (ro : Int) < 3
                  · have h3n : ro < 3 := by omega
                    have HNEW : newS n s d = (s, true, d) := by
                      unfold newS
                      rw [HF.out, HROL.out]
                      simp [ha, h3n]
                    have HNEW2 := hide HNEW
                    have X6 := hide (((X4.out.other (x := .string s) (i := 0) HM.out HQ2.out).other (x := .bool true) (i := 1) HM.out HQ2.out).other (x := .int .i64 0) (i := 2) HM.out HQ2.out)
                    have Q6 := hide (set3_s (v0 := .string s) (v1 := .bool true) (v2 := .int .i64 0) Q4.out)
                    clear e0 e1 e2 z0 z1 z2
                    go_wp2_with (refine l_store _ (store_s Q4.out) rfl rfl rfl rfl ?_; refine stopNd ?_)
                    unfold Hid
                    obtain ⟨W6, hW6⟩ : ∃ W6, setS w4 q s true 0 = W6 := ⟨_, rfl⟩
                    rw [hW6]
                    unfold setS at hW6
                    rw [hW6] at X6 Q6
                    clear hW6 c2 c5
                    obtain ⟨e0, e1, e2, z0, z1, z2⟩ := cells_s Q6.out
                    have XT := hide (X6.out.other (x := .int .i64 d) (i := 2) HM.out HQ2.out)
                    have QT := hide (heap_setk (i := 2) (v := .int .i64 d) Q6.out)
                    have hWx : WithS n.subs (s, true, d) := by
                      rw [← HNEW]
                      exact HWS.out
                    have HWX := hide hWx
                    clear hWx HNEW
                    have HFr := hide (fresh_any n v (W6.setCell ⟨q, 2, none⟩ (.int .i64 d)) XT.out.mem)
                    go_wp2_with (refine l_load _ (load_nd XT.out.a) rfl rfl rfl ?_)
                    refine HFr.out.mono ?_
                    rintro e w3 ⟨u, rfl, hu, hfar, b3⟩
                    have x3a := XT.out.call b3
                    have hz2 := XT.out.size
                    have x3 := x3a.put hu ⟨fun a e => by have := hfar.1 a e; omega, fun a e => by have := hfar.2.1 a e; omega, fun a e => by have := hfar.2.2 a e; omega⟩
                    have HFar := hide (show Far w u from ⟨fun a e => by have := hfar.1 a e; omega, fun a e => by have := hfar.2.1 a e; omega, fun a e => by have := hfar.2.2 a e; omega⟩)
                    have X3 := hide x3
                    have HA3 := hide x3a.a
                    clear hu hfar x3a x3 hz2
                    go_wp2_with (refine l_store _ (store_nd (n := n) (u := u) HA3.out) rfl rfl rfl rfl ?_; refine stopNd ?_)
                    unfold Hid
                    have q3 : (setNd w3 w.heap.size n u).heap[q]? = _ := (setNd_far _ (by have := HQ2.out; omega)).trans (q_call QT.out b3)
                    obtain ⟨W3, hW3⟩ : ∃ W3, setNd w3 w.heap.size n u = W3 := ⟨_, rfl⟩
                    rw [hW3] at X3 q3 ⊢
                    clear hW3 HA3 b3
                    have c5 := (nd_box X3.out.a).2.2.2.2.2.1
                    have hwi := HWX.out u.sa u.sc W3 X3.out.mem.ok.2.1
                    obtain ⟨L5, hL5⟩ : ∃ L5, inSub (s, true, d) n.subs = L5 := ⟨_, rfl⟩
                    have hlen : L5.length ≤ 17 := by rw [← hL5]; exact Nat.le_trans (inSub_len _ _) (Nat.succ_le_succ (subs_right HT.out))
                    have hfit : ∀ x ∈ L5, Fits x.1 := by
                      intro x hx
                      rw [← hL5] at hx
                      rcases inSub_mem hx with h | h
                      · rw [h]; exact HYF.out
                      · exact X3.out.mem.fits.subs x h
                    rw [hL5] at hwi
                    have HL5 := hide hL5
                    have HWi := hide hwi
                    have Q3 := hide q3
                    obtain ⟨e0, e1, e2, _⟩ := cells_s q3
                    have hl3 := load_s (x := (s, true, d)) e0 e1 e2
                    clear hwi q3 e0 e1 e2 hL5
                    go_wp2_with (refine l_load _ hl3 rfl rfl rfl ?_)
                    refine HWi.out.mono ?_
                    rintro e w7 ⟨v7, rfl, hown7, b7⟩
                    have x7 := X3.out.call b7
                    obtain ⟨g7, c7, hv7, hm7, hc7, _, hb7⟩ := own_s hown7 (by omega)
                    subst hv7
                    have hz6 := X3.out.size
                    have hx8 := x7.setSubs (sa := g7) (sc := c7) (L := L5) HFar.out hm7 hc7 hfit (fun a e => by have := (hb7 a e).1; omega)
                    have z6 := (nd_box x7.a).2.2.2.2.2.1
                    have zf6 : w7.frozen? ⟨w.heap.size, 5, none⟩ = false := by simp [World.frozen?, x7.a]
                    have X8 := hide hx8
                    have HCn := hide (show C { n with subs := L5 } 0 by
                      rw [← HC.out, ← HL5.out]
                      exact .inr (.inr ⟨HASK.out, HCV.out, rfl, by rw [HNEW2.out]⟩))
                    clear hx8 x7 hm7 hc7 hown7 b7 hb7 c5 hlen hfit hl3
                    go_wp2_with (refine l_store _ (store_any (size_one25 _) z6 zf6) rfl rfl rfl rfl ?_; refine stopNd ?_)
                    unfold Hid
                    obtain ⟨W8, hW8⟩ : ∃ W8, w7.setCell ⟨w.heap.size, 5, none⟩ (.slice g7 L5.length c7) = W8 := ⟨_, rfl⟩
                    obtain ⟨N8, hN8⟩ : ∃ N8 : Nd, { n with subs := L5 } = N8 := ⟨_, rfl⟩
                    obtain ⟨U8, hU8⟩ : ∃ U8 : NdW, { u with sa := g7, sc := c7 } = U8 := ⟨_, rfl⟩
                    rw [hW8, hN8, hU8] at X8
                    rw [hN8] at HCn
                    rw [hW8]
                    clear hW8 hN8 hU8 z6 zf6
                    go_wp2_with (refine l_load _ (load_nd X8.out.1.a) rfl rfl rfl ?_; refine stopNd ?_)
                    unfold Hid
                    obtain ⟨m', x', hr⟩ := X8.out.1.r
                    have HR := hide hr
                    clear hr
                    refine l_store _ (store_nd (n := N8) (u := U8) HR.out) rfl rfl rfl rfl ?_
                    go_wp2_with fail
                    exact bodyPost_ret (done_run X8.out.1 rfl rfl rfl) rfl (done_ed X8.out.1 HCn.out X8.out.2)
                  · have h3d : decide ((ro : Int) < 3) = false := decide_eq_false h3
                    have HNEW : newS n s d = (s, false, d) := by
                      unfold newS
                      rw [HF.out, HROL.out]
                      simp; omega
                    have HNEW2 := hide HNEW
                    have X6 := hide (((X4.out.other (x := .string s) (i := 0) HM.out HQ2.out).other (x := .bool false) (i := 1) HM.out HQ2.out).other (x := .int .i64 0) (i := 2) HM.out HQ2.out)
                    have Q6 := hide (set3_s (v0 := .string s) (v1 := .bool false) (v2 := .int .i64 0) Q4.out)
                    clear e0 e1 e2 z0 z1 z2
                    go_wp2_with (refine l_store _ (store_s Q4.out) rfl rfl rfl rfl ?_; refine stopNd ?_)
                    unfold Hid
                    obtain ⟨W6, hW6⟩ : ∃ W6, setS w4 q s false 0 = W6 := ⟨_, rfl⟩
                    rw [hW6]
                    unfold setS at hW6
                    rw [hW6] at X6 Q6
                    clear hW6 c2 c5
                    obtain ⟨e0, e1, e2, z0, z1, z2⟩ := cells_s Q6.out
                    have XT := hide (X6.out.other (x := .int .i64 d) (i := 2) HM.out HQ2.out)
                    have QT := hide (heap_setk (i := 2) (v := .int .i64 d) Q6.out)
                    have hWx : WithS n.subs (s, false, d) := by
                      rw [← HNEW]
                      exact HWS.out
                    have HWX := hide hWx
                    clear hWx HNEW
                    have HFr := hide (fresh_any n v (W6.setCell ⟨q, 2, none⟩ (.int .i64 d)) XT.out.mem)
                    go_wp2_with (refine l_load _ (load_nd XT.out.a) rfl rfl rfl ?_)
                    refine HFr.out.mono ?_
                    rintro e w3 ⟨u, rfl, hu, hfar, b3⟩
                    have x3a := XT.out.call b3
                    have hz2 := XT.out.size
                    have x3 := x3a.put hu ⟨fun a e => by have := hfar.1 a e; omega, fun a e => by have := hfar.2.1 a e; omega, fun a e => by have := hfar.2.2 a e; omega⟩
                    have HFar := hide (show Far w u from ⟨fun a e => by have := hfar.1 a e; omega, fun a e => by have := hfar.2.1 a e; omega, fun a e => by have := hfar.2.2 a e; omega⟩)
                    have X3 := hide x3
                    have HA3 := hide x3a.a
                    clear hu hfar x3a x3 hz2
                    go_wp2_with (refine l_store _ (store_nd (n := n) (u := u) HA3.out) rfl rfl rfl rfl ?_; refine stopNd ?_)
                    unfold Hid
                    have q3 : (setNd w3 w.heap.size n u).heap[q]? = _ := (setNd_far _ (by have := HQ2.out; omega)).trans (q_call QT.out b3)
                    obtain ⟨W3, hW3⟩ : ∃ W3, setNd w3 w.heap.size n u = W3 := ⟨_, rfl⟩
                    rw [hW3] at X3 q3 ⊢
                    clear hW3 HA3 b3
                    have c5 := (nd_box X3.out.a).2.2.2.2.2.1
                    have hwi := HWX.out u.sa u.sc W3 X3.out.mem.ok.2.1
                    obtain ⟨L5, hL5⟩ : ∃ L5, inSub (s, false, d) n.subs = L5 := ⟨_, rfl⟩
                    have hlen : L5.length ≤ 17 := by rw [← hL5]; exact Nat.le_trans (inSub_len _ _) (Nat.succ_le_succ (subs_right HT.out))
                    have hfit : ∀ x ∈ L5, Fits x.1 := by
                      intro x hx
                      rw [← hL5] at hx
                      rcases inSub_mem hx with h | h
                      · rw [h]; exact HYF.out
                      · exact X3.out.mem.fits.subs x h
                    rw [hL5] at hwi
                    have HL5 := hide hL5
                    have HWi := hide hwi
                    have Q3 := hide q3
                    obtain ⟨e0, e1, e2, _⟩ := cells_s q3
                    have hl3 := load_s (x := (s, false, d)) e0 e1 e2
                    clear hwi q3 e0 e1 e2 hL5
                    go_wp2_with (refine l_load _ hl3 rfl rfl rfl ?_)
                    refine HWi.out.mono ?_
                    rintro e w7 ⟨v7, rfl, hown7, b7⟩
                    have x7 := X3.out.call b7
                    obtain ⟨g7, c7, hv7, hm7, hc7, _, hb7⟩ := own_s hown7 (by omega)
                    subst hv7
                    have hz6 := X3.out.size
                    have hx8 := x7.setSubs (sa := g7) (sc := c7) (L := L5) HFar.out hm7 hc7 hfit (fun a e => by have := (hb7 a e).1; omega)
                    have z6 := (nd_box x7.a).2.2.2.2.2.1
                    have zf6 : w7.frozen? ⟨w.heap.size, 5, none⟩ = false := by simp [World.frozen?, x7.a]
                    have X8 := hide hx8
                    have HCn := hide (show C { n with subs := L5 } 0 by
                      rw [← HC.out, ← HL5.out]
                      exact .inr (.inr ⟨HASK.out, HCV.out, rfl, by rw [HNEW2.out]⟩))
                    clear hx8 x7 hm7 hc7 hown7 b7 hb7 c5 hlen hfit hl3
                    go_wp2_with (refine l_store _ (store_any (size_one25 _) z6 zf6) rfl rfl rfl rfl ?_; refine stopNd ?_)
                    unfold Hid
                    obtain ⟨W8, hW8⟩ : ∃ W8, w7.setCell ⟨w.heap.size, 5, none⟩ (.slice g7 L5.length c7) = W8 := ⟨_, rfl⟩
                    obtain ⟨N8, hN8⟩ : ∃ N8 : Nd, { n with subs := L5 } = N8 := ⟨_, rfl⟩
                    obtain ⟨U8, hU8⟩ : ∃ U8 : NdW, { u with sa := g7, sc := c7 } = U8 := ⟨_, rfl⟩
                    rw [hW8, hN8, hU8] at X8
                    rw [hN8] at HCn
                    rw [hW8]
                    clear hW8 hN8 hU8 z6 zf6
                    go_wp2_with (refine l_load _ (load_nd X8.out.1.a) rfl rfl rfl ?_; refine stopNd ?_)
                    unfold Hid
                    obtain ⟨m', x', hr⟩ := X8.out.1.r
                    have HR := hide hr
                    clear hr
                    refine l_store _ (store_nd (n := N8) (u := U8) HR.out) rfl rfl rfl rfl ?_
                    go_wp2_with fail
                    exact bodyPost_ret (done_run X8.out.1 rfl rfl rfl) rfl (done_ed X8.out.1 HCn.out X8.out.2)
                · have hae : ((n.acc : Int) == 1) = false := by rw [beq_eq_false_iff_ne]; omega
                  have HNEW : newS n s d = (s, false, d) := by
                    unfold newS
                    rw [HF.out, HROL.out]
                    simp [ha]
                  have HNEW2 := hide HNEW
                  have X6 := hide (((X4.out.other (x := .string s) (i := 0) HM.out HQ2.out).other (x := .bool false) (i := 1) HM.out HQ2.out).other (x := .int .i64 0) (i := 2) HM.out HQ2.out)
                  have Q6 := hide (set3_s (v0 := .string s) (v1 := .bool false) (v2 := .int .i64 0) Q4.out)
                  clear e0 e1 e2 z0 z1 z2
                  go_wp2_with (refine l_store _ (store_s Q4.out) rfl rfl rfl rfl ?_; refine stopNd ?_)
                  unfold Hid
                  obtain ⟨W6, hW6⟩ : ∃ W6, setS w4 q s false 0 = W6 := ⟨_, rfl⟩
                  rw [hW6]
                  unfold setS at hW6
                  rw [hW6] at X6 Q6
                  clear hW6 c2 c5
                  obtain ⟨e0, e1, e2, z0, z1, z2⟩ := cells_s Q6.out
                  have XT := hide (X6.out.other (x := .int .i64 d) (i := 2) HM.out HQ2.out)
                  have QT := hide (heap_setk (i := 2) (v := .int .i64 d) Q6.out)
                  have hWx : WithS n.subs (s, false, d) := by
                    rw [← HNEW]
                    exact HWS.out
                  have HWX := hide hWx
                  clear hWx HNEW
                  have HFr := hide (fresh_any n v (W6.setCell ⟨q, 2, none⟩ (.int .i64 d)) XT.out.mem)
                  go_wp2_with (refine l_load _ (load_nd XT.out.a) rfl rfl rfl ?_)
                  refine HFr.out.mono ?_
                  rintro e w3 ⟨u, rfl, hu, hfar, b3⟩
                  have x3a := XT.out.call b3
                  have hz2 := XT.out.size
                  have x3 := x3a.put hu ⟨fun a e => by have := hfar.1 a e; omega, fun a e => by have := hfar.2.1 a e; omega, fun a e => by have := hfar.2.2 a e; omega⟩
                  have HFar := hide (show Far w u from ⟨fun a e => by have := hfar.1 a e; omega, fun a e => by have := hfar.2.1 a e; omega, fun a e => by have := hfar.2.2 a e; omega⟩)
                  have X3 := hide x3
                  have HA3 := hide x3a.a
                  clear hu hfar x3a x3 hz2
                  go_wp2_with (refine l_store _ (store_nd (n := n) (u := u) HA3.out) rfl rfl rfl rfl ?_; refine stopNd ?_)
                  unfold Hid
                  have q3 : (setNd w3 w.heap.size n u).heap[q]? = _ := (setNd_far _ (by have := HQ2.out; omega)).trans (q_call QT.out b3)
                  obtain ⟨W3, hW3⟩ : ∃ W3, setNd w3 w.heap.size n u = W3 := ⟨_, rfl⟩
                  rw [hW3] at X3 q3 ⊢
                  clear hW3 HA3 b3
                  have c5 := (nd_box X3.out.a).2.2.2.2.2.1
                  have hwi := HWX.out u.sa u.sc W3 X3.out.mem.ok.2.1
                  obtain ⟨L5, hL5⟩ : ∃ L5, inSub (s, false, d) n.subs = L5 := ⟨_, rfl⟩
                  have hlen : L5.length ≤ 17 := by rw [← hL5]; exact Nat.le_trans (inSub_len _ _) (Nat.succ_le_succ (subs_right HT.out))
                  have hfit : ∀ x ∈ L5, Fits x.1 := by
                    intro x hx
                    rw [← hL5] at hx
                    rcases inSub_mem hx with h | h
                    · rw [h]; exact HYF.out
                    · exact X3.out.mem.fits.subs x h
                  rw [hL5] at hwi
                  have HL5 := hide hL5
                  have HWi := hide hwi
                  have Q3 := hide q3
                  obtain ⟨e0, e1, e2, _⟩ := cells_s q3
                  have hl3 := load_s (x := (s, false, d)) e0 e1 e2
                  clear hwi q3 e0 e1 e2 hL5
                  go_wp2_with (refine l_load _ hl3 rfl rfl rfl ?_)
                  refine HWi.out.mono ?_
                  rintro e w7 ⟨v7, rfl, hown7, b7⟩
                  have x7 := X3.out.call b7
                  obtain ⟨g7, c7, hv7, hm7, hc7, _, hb7⟩ := own_s hown7 (by omega)
                  subst hv7
                  have hz6 := X3.out.size
                  have hx8 := x7.setSubs (sa := g7) (sc := c7) (L := L5) HFar.out hm7 hc7 hfit (fun a e => by have := (hb7 a e).1; omega)
                  have z6 := (nd_box x7.a).2.2.2.2.2.1
                  have zf6 : w7.frozen? ⟨w.heap.size, 5, none⟩ = false := by simp [World.frozen?, x7.a]
                  have X8 := hide hx8
                  have HCn := hide (show C { n with subs := L5 } 0 by
                    rw [← HC.out, ← HL5.out]
                    exact .inr (.inr ⟨HASK.out, HCV.out, rfl, by rw [HNEW2.out]⟩))
                  clear hx8 x7 hm7 hc7 hown7 b7 hb7 c5 hlen hfit hl3
                  go_wp2_with (refine l_store _ (store_any (size_one25 _) z6 zf6) rfl rfl rfl rfl ?_; refine stopNd ?_)
                  unfold Hid
                  obtain ⟨W8, hW8⟩ : ∃ W8, w7.setCell ⟨w.heap.size, 5, none⟩ (.slice g7 L5.length c7) = W8 := ⟨_, rfl⟩
                  obtain ⟨N8, hN8⟩ : ∃ N8 : Nd, { n with subs := L5 } = N8 := ⟨_, rfl⟩
                  obtain ⟨U8, hU8⟩ : ∃ U8 : NdW, { u with sa := g7, sc := c7 } = U8 := ⟨_, rfl⟩
                  rw [hW8, hN8, hU8] at X8
                  rw [hN8] at HCn
                  rw [hW8]
                  clear hW8 hN8 hU8 z6 zf6
                  go_wp2_with (refine l_load _ (load_nd X8.out.1.a) rfl rfl rfl ?_; refine stopNd ?_)
                  unfold Hid
                  obtain ⟨m', x', hr⟩ := X8.out.1.r
                  have HR := hide hr
                  clear hr
                  refine l_store _ (store_nd (n := N8) (u := U8) HR.out) rfl rfl rfl rfl ?_
                  go_wp2_with fail
                  exact bodyPost_ret (done_run X8.out.1 rfl rfl rfl) rfl (done_ed X8.out.1 HCn.out X8.out.2)
end Go.Proofs.YtffjmkngdjbjlaaGreatDoor
