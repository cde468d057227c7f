/- NodeDecides: only what is pending is decided, once; yes lets it read, no takes it away. -/
import Derived.Test.YtffjmkngdjbjlaaDoorNodeStays
namespace Go.Proofs.YtffjmkngdjbjlaaDoor
open Go.RowKit

/-- The last owner. -/
def ownL (l : List (ByteArray × Nat)) : ByteArray := (((l.filter fun x => decide (x.2 = 5)).getLast?).map (·.1)).getD ⟨#[]⟩
theorem ownL_more {l : List (ByteArray × Nat)} {k : Nat} {x : ByteArray × Nat} (h : l[k]? = some x) : ownL (l.take (k + 1)) = if x.2 = 5 then x.1 else ownL (l.take k) := by
  unfold ownL
  rw [List.take_add_one, h, List.filter_append]
  by_cases hx : x.2 = 5
  · simp [hx]
  · simp [hx]
theorem ownL_mem {n : Nd} (h : RightN n) : roleL n.affs (ownL n.affs) = 5 ∧ ∃ x ∈ n.affs, x.1 = ownL n.affs := by
  obtain ⟨y, hy, hy5⟩ := h.2.2.2.2.1.2.2.2
  have hne : (n.affs.filter fun x => decide (x.2 = 5)) ≠ [] := fun e => by
    have : y ∈ n.affs.filter fun x => decide (x.2 = 5) := List.mem_filter.2 ⟨hy, by simp [hy5]⟩
    rw [e] at this
    cases this
  have hl := List.getLast?_eq_some_getLast hne
  have hm := List.getLast_mem hne
  obtain ⟨x, hx⟩ : ∃ x, (n.affs.filter fun x => decide (x.2 = 5)).getLast hne = x := ⟨_, rfl⟩
  rw [hx] at hl hm
  have e : ownL n.affs = x.1 := by unfold ownL; rw [hl]; rfl
  have hm' := List.mem_filter.1 hm
  rw [e, role_mem ((riseG_map _ _).1 h.2.2.2.2.1.2.1) hm'.1]
  exact ⟨by simpa using hm'.2, x, hm'.1, rfl⟩
theorem dec_no {n m : Nd} {o s : ByteArray} {yes : Bool} {c : Int} (hr : RightN n) (ho : roleL n.affs o = 5) (h : DecC n o s yes m c) (hp : ¬ ∃ d, oldS n s = some (s, true, d)) : c = 4 ∧ m = noN := by
  rcases h with ⟨⟨h, _⟩ | ⟨_, h, _⟩, _⟩ | ⟨_, _, ⟨_, h1, h2⟩ | ⟨d, h, _⟩⟩
  · exact absurd hr h
  · exact absurd ho h
  · exact ⟨h1, h2⟩
  · exact absurd ⟨d, h⟩ hp
theorem dec_yes {n m : Nd} {o s : ByteArray} {yes : Bool} {c d : Int} (hr : RightN n) (ho : roleL n.affs o = 5) (h : DecC n o s yes m c) (hp : oldS n s = some (s, true, d)) : c = 0 ∧ m = { n with subs := if yes = true then inSub (s, false, d) n.subs else woSub s n.subs } := by
  rcases h with ⟨⟨h, _⟩ | ⟨_, h, _⟩, _⟩ | ⟨_, _, ⟨h, _⟩ | ⟨d', h, h1, h2⟩⟩
  · exact absurd hr h
  · exact absurd ho h
  · exact absurd ⟨d, hp⟩ h
  · rw [hp] at h
    cases h
    exact ⟨h1, h2⟩
theorem dec_find {n : Nd} {s : ByteArray} {yes : Bool} {d : Int} (hr : RightN n) : (if yes = true then inSub (s, false, d) n.subs else woSub s n.subs).find? (fun x => decide (x.1 = s)) = if yes = true then some (s, false, d) else none := by
  have hR := (riseG_map _ _).1 hr.2.2.2.2.2.1.2.1
  cases yes with
  | true =>
    rw [if_pos rfl, if_pos rfl, inSub_G, find_inG _ hR, if_pos rfl]
  | false =>
    rw [if_neg (by decide), if_neg (by decide), woSub_G, find_woG, if_pos rfl]
theorem dec_right {n : Nd} {s : ByteArray} {yes : Bool} {d : Int} (hr : RightN n) (hp : oldS n s = some (s, true, d)) : RightN { n with subs := if yes = true then inSub (s, false, d) n.subs else woSub s n.subs } := by
  obtain ⟨r1, r2, r3, r4, r5, r6, r7⟩ := hr
  refine ⟨r1, r2, r3, r4, r5, ?_, r7⟩
  cases yes with
  | false => exact woSub_ok r6 _
  | true => exact inSub_ok r6 (x := (s, false, d)) (r6.2.2 (s, true, d) (old_mem hp).1) (.inr (by rw [hp]; rfl))
set_option maxRecDepth 100000 in
set_option maxHeartbeats 2000000 in
theorem nodeDecides_any (ao : Option Addr) (cap : Nat) (l : List Ed) (who : ByteArray) (yes : Bool) (w : World) (hl : EdsMem w.heap.size w ao l) (hwho : Fits who) (hg : Glob w) :
    Calls Tryd.prog 7 #[.slice ao l.length cap, .string who, .bool yes] w fun e w' => e = .returned (.bool true) ∧ Below w.heap.size w w' := by
  obtain ⟨M, hM⟩ : ∃ M, l.length = M := ⟨_, rfl⟩
  have HBe := hide (begun_any 1 true (by omega) w)
  have HL := hide (And.intro hl (And.intro hg (And.intro hM hwho)))
  rw [hM]
  clear hl hg hM hwho
  go_enter Tryd.func7, Tryd.ntmps7
  go_wp2_with fail
  refine HBe.out.mono ?_
  rintro e w1 ⟨u0, rfl, hm1, b1⟩
  obtain ⟨N0, hN0⟩ : ∃ N0, begN (1 % 3) true = N0 := ⟨_, rfl⟩
  have hs0 : Stay true N0 := by rw [← hN0]; exact begN_stay _ true (by decide)
  rw [hN0] at hm1 ⊢
  have f1 := World.alloc_heap_new w1 (.cells (ndA N0 u0) 28)
  have b2 : Below w1.heap.size w1 (w1.alloc (.cells (ndA N0 u0) 28)) := (Below.refl _ w1).alloc (Nat.le_refl _) _
  obtain ⟨W1, hW1⟩ : ∃ W1, w1.alloc (.cells (ndA N0 u0) 28) = W1 := ⟨_, rfl⟩
  rw [hW1] at f1 b2
  obtain ⟨nb, hnb0⟩ : ∃ nb, w1.heap.size = nb := ⟨_, rfl⟩
  have hnbw : w.heap.size ≤ nb := by have := b1.size; omega
  have HS0 := hide (And.intro (show W1.heap[nb]? = some (.cells (ndA N0 u0) 28) by rw [← hnb0]; exact f1) (And.intro (hm1.move b2) (And.intro hs0 (And.intro (b1.trans (b2.mono b1.size)) hnbw))))
  have HW1 := hide (show w1.alloc (.cells (ndA N0 u0) 28) = W1 ∧ w1.heap.size = nb from ⟨hW1, hnb0⟩)
  clear hN0 hs0 hm1 b1 f1 b2 hW1 hnb0 hnbw HBe
  have hlit : (ndA N0 u0 : Array Value) = #[.string N0.name, .bool N0.coll, .int .u8 N0.acc, .int .i64 N0.max, .slice u0.aa N0.affs.length u0.ac, .slice u0.sa N0.subs.length u0.sc, .slice u0.ia N0.items.length u0.ic, .string N0.parent] := rfl
  rw [hlit]
  clear hlit
  go_wp2_with fail
  have hW1 := HW1.out
  obtain ⟨hWa, hWb⟩ := hW1
  have hWa' : w1.alloc (.cells #[.string N0.name, .bool N0.coll, .int .u8 N0.acc, .int .i64 N0.max, .slice u0.aa N0.affs.length u0.ac, .slice u0.sa N0.subs.length u0.sc, .slice u0.ia N0.items.length u0.ic, .string N0.parent] 28) = W1 := hWa
  rw [hWa', hWb]
  clear hWa hWb hWa' HW1
  go_loopw [8] (fun iv wr => ∃ (k : Nat) (n : Nd) (u : NdW), k ≤ M ∧ k ≤ 20 ∧ iv = .int .i64 k ∧ wr.heap[nb]? = some (.cells (ndA n u) 28) ∧ NdM wr.heap.size wr n u ∧ Stay true n ∧ Below w.heap.size w wr) (fun iv _ => 20 - (intOf iv).toNat)
  case atStart => exact ⟨0, N0, u0, Nat.zero_le _, Nat.zero_le _, rfl, HS0.out.1, HS0.out.2.1, HS0.out.2.2.1, HS0.out.2.2.2.1⟩
  case round =>
    obtain ⟨k, n, u, hkM, hk40, rfl, hnb, hnm, hst, hbw⟩ := hrel
    have HR0 := hide (And.intro hst (And.intro hbw (And.intro hnb hnm)))
    by_cases hlt : (k : Int) < M
    · by_cases h40 : (k : Int) < 20
      · obtain ⟨x, hx⟩ : ∃ x, l[k]? = some x := ⟨_, List.getElem?_eq_getElem (by have := HL.out.2.2.1; omega)⟩
        obtain ⟨hfit, eb, eo, hao, heb0, hec0⟩ := HL.out.1 k x hx
        have heb : eb < wr.heap.size := Nat.lt_of_lt_of_le heb0 hbw.size
        have hec : ∀ j (h : j < 10), wr.cell? ⟨eb, eo + k * 10 + j, none⟩ = some ((edC x)[j]'h) := fun j h => (hbw.cell (p := ⟨eb, _, none⟩) heb0).trans (hec0 j h)
        have hg : Glob wr := HL.out.2.1.below hbw
        have hkl : k < M := by omega
        have HE := hide (And.intro hfit (And.intro heb (And.intro hec (And.intro hg (And.intro hnb hnm)))))
        clear hfit heb hec hg hnb hnm hst hbw hx hec0 heb0
        rw [hao]
        clear hao
        go_wp2_with fail
        have hfit := HE.out.1
        have heb := HE.out.2.1
        have hec := HE.out.2.2.1
        have hg := HE.out.2.2.2.1
        have hnb := HE.out.2.2.2.2.1
        have hnm := HE.out.2.2.2.2.2
        obtain ⟨V0, hV0⟩ : ∃ V0, wr.drew = V0 := ⟨_, rfl⟩
        have B0 : Below wr.heap.size wr V0 := by rw [← hV0]; exact (Below.refl _ wr).drew
        have vnb := (B0.block _ (Array.getElem?_eq_some_iff.1 hnb).1).trans hnb
        have vnl : nb < V0.heap.size := (Array.getElem?_eq_some_iff.1 vnb).1
        have vnm := hnm.move B0
        have vg := hg.below B0
        have vel : eb < V0.heap.size := Nat.lt_of_lt_of_le heb B0.size
        have vec : ∀ j (h : j < 10), V0.cell? ⟨eb, eo + k * 10 + j, none⟩ = some ((edC x)[j]'h) := fun j h => (B0.cell (p := ⟨eb, _, none⟩) heb).trans (hec j h)
        refine region_rel (S := fun V => Below V0.heap.size V0 V) (fun a Wz => ∃ (m : Nd) (u : NdW) (c : Int) (bq : Nat) (xx : Nat → Value), DoneAt V0 n x m u c bq Wz ∧ a = { tmps := #[.slice (some ⟨eb, eo, none⟩) M cap, .string who, .bool yes, undef, undef, undef, .bool false, .pointer (some ⟨nb, 0, none⟩), .int .i64 k, .pointer (some ⟨bq, 0, none⟩), .int .i64 c, undef, undef, undef, undef, undef, undef, undef, undef, undef, undef, .agg #[.string N0.name, .bool N0.coll, .int .u8 N0.acc, .int .i64 N0.max, .slice u0.aa N0.affs.length u0.ac, .slice u0.sa N0.subs.length u0.sc, .slice u0.ia N0.items.length u0.ic, .string N0.parent], xx 22, xx 23, xx 24, xx 25, xx 26, xx 27, xx 28, xx 29, xx 30, xx 31, xx 32, xx 33, xx 34, xx 35, xx 36, xx 37, xx 38, xx 39, xx 40, xx 41, xx 42, xx 43, undef, undef, undef, undef, undef, undef, undef, undef, undef, undef, undef, undef, undef, undef, undef, undef, undef, undef, undef, undef, undef, undef, undef, undef, undef, undef, undef, undef, undef, undef, undef, undef, undef, undef, undef, undef, undef, undef, undef, undef, undef, undef, undef, undef, undef, undef, undef, undef, undef, undef, undef, undef, undef, undef, undef, undef, undef, undef, undef, undef, undef, undef, undef, undef, undef, undef, undef, undef, undef, undef, undef, undef, undef, undef, undef, undef, undef, undef, undef, undef, undef, undef, undef, undef, undef, undef, undef, undef, undef, undef, undef, undef, undef, undef, undef], defers := [] }) (by kernel_rfl) ?anya ?fina
        case anya =>
          rw [hV0]
          clear hV0 B0
          have S0 : Below V0.heap.size V0 V0 := Below.refl _ _
          refine anyH_take (i := 0) (v := .agg (ndA n u)) rfl (some 33) rfl (by kernel_rfl) (by kernel_rfl) (by kernel_rfl) (fun _ _ _ h => by cases h.1) (by kernel_rfl) (fun w0 hw0 => ex_load rfl rfl (load_nd ((hw0.block _ vnl).trans vnb))) S0 ?_
          simp only [Act.put, List.setIfInBounds_toArray, List.set_cons_zero, List.set_cons_succ]
          refine anyH_take (i := 1) (v := .slice (some ⟨eb, eo, none⟩) M cap) rfl (some 34) rfl (by kernel_rfl) (by kernel_rfl) (by kernel_rfl) (fun _ _ _ h => by cases h.1) (by kernel_rfl) (fun w0 hw0 => by first | rfl | kernel_rfl) S0 ?_
          simp only [Act.put, List.setIfInBounds_toArray, List.set_cons_zero, List.set_cons_succ]
          refine anyH_take (i := 2) (v := .int .i64 k) rfl (some 35) rfl (by kernel_rfl) (by kernel_rfl) (by kernel_rfl) (fun _ _ _ h => by cases h.1) (by kernel_rfl) (fun w0 hw0 => by first | rfl | kernel_rfl) S0 ?_
          simp only [Act.put, List.setIfInBounds_toArray, List.set_cons_zero, List.set_cons_succ]
          refine anyH_take (i := 3) (v := .pointer (some ⟨eb, eo + k * 10, none⟩)) rfl (some 36) rfl (by kernel_rfl) (by kernel_rfl) (by kernel_rfl) (fun _ _ _ h => by cases h.1) (by kernel_rfl) (fun _ _ => ex_idxEd rfl rfl rfl hkl) S0 ?_
          simp only [Act.put, List.setIfInBounds_toArray, List.set_cons_zero, List.set_cons_succ]
          refine anyH_take (i := 4) (v := .agg (edA x)) rfl (some 37) rfl (by kernel_rfl) (by kernel_rfl) (by kernel_rfl) (fun _ _ _ h => by cases h.1) (by kernel_rfl) (fun w0 hw0 => ex_load rfl rfl (load_edC (fun j h => (hw0.cell (p := ⟨eb, _, none⟩) vel).trans (vec j h)))) S0 ?_
          simp only [Act.put, List.setIfInBounds_toArray, List.set_cons_zero, List.set_cons_succ]
          refine anyH_two (i := 5) (j := 9) (by kernel_rfl) ?caa ?ala
          case caa =>
            refine op_call rfl (some 38) rfl (by kernel_rfl) #[.agg (ndA n u), .agg (edA x)] rfl (by simp [Act.eval]) (fun _ _ => rfl) (do_any n u x V0 vnm vg hfit) ?_
            rintro e V1 ⟨m, u, c, rfl, hC, hm1, b1, ho1⟩
            have S1 : Below V0.heap.size V0 V1 := b1
            refine ⟨_, rfl, S1, ?_⟩
            simp only [Act.put, List.setIfInBounds_toArray, List.set_cons_zero, List.set_cons_succ]
            refine anyH_take (i := 6) (v := .tuple #[.agg (ndA m u), .int .i64 c]) rfl (some 32) rfl (by kernel_rfl) (by kernel_rfl) (by kernel_rfl) (fun _ _ _ h => by cases h.1) (by kernel_rfl) (fun w0 hw0 => by first | rfl | kernel_rfl) S1 ?_
            simp only [Act.put, List.setIfInBounds_toArray, List.set_cons_zero, List.set_cons_succ]
            refine anyH_take (i := 7) (v := .agg (ndA m u)) rfl (some 39) rfl (by kernel_rfl) (by kernel_rfl) (by kernel_rfl) (fun _ _ _ h => by cases h.1) (by kernel_rfl) (fun w0 hw0 => by first | rfl | kernel_rfl) S1 ?_
            simp only [Act.put, List.setIfInBounds_toArray, List.set_cons_zero, List.set_cons_succ]
            refine anyH_take (i := 8) (v := .int .i64 c) rfl (some 40) rfl (by kernel_rfl) (by kernel_rfl) (by kernel_rfl) (fun _ _ _ h => by cases h.1) (by kernel_rfl) (fun w0 hw0 => by first | rfl | kernel_rfl) S1 ?_
            simp only [Act.put, List.setIfInBounds_toArray, List.set_cons_zero, List.set_cons_succ]
            have hD := doneAt1 hC hm1 b1 ho1
            have S2 := S1.alloc S1.size (.cells (ndA noN noW) 28)
            refine anyH_one (i := 9) (by kernel_rfl) ?_
            refine op_run rfl (some 9) rfl (by kernel_rfl) (ex_alloc rfl (zero_nd V1)) ?_
            refine ⟨S2, ?_⟩
            simp only [Act.put, List.setIfInBounds_toArray, List.set_cons_zero, List.set_cons_succ]
            refine anyH_one (i := 10) (by kernel_rfl) ?_
            refine op_store rfl rfl (by kernel_rfl) (ex_store (u := .agg (ndA m u)) rfl rfl rfl (store_nd (World.alloc_heap_new V1 _))) ?_
            refine ⟨hD.bel, ?_⟩
            simp only [Act.put]
            refine anyH_val (i := 11) (v := .int .i64 c) (by kernel_rfl) rfl (some 10) rfl (by kernel_rfl) (by first | rfl | kernel_rfl) hD.bel ?_
            simp only [Act.put, List.setIfInBounds_toArray, List.set_cons_zero, List.set_cons_succ]
            exact wpAnyH_done (by kernel_rfl) ⟨rfl, m, u, c, _, fill hD (by kernel_rfl)⟩ _
          case ala =>
            have S1 := S0.alloc S0.size (.cells (ndA noN noW) 28)
            refine op_run rfl (some 9) rfl (by kernel_rfl) (ex_alloc rfl (zero_nd V0)) ?_
            refine ⟨S1, ?_⟩
            simp only [Act.put, List.setIfInBounds_toArray, List.set_cons_zero, List.set_cons_succ]
            refine anyH_one (i := 5) (by kernel_rfl) ?_
            refine op_call rfl (some 38) rfl (by kernel_rfl) #[.agg (ndA n u), .agg (edA x)] rfl (by simp [Act.eval]) (fun _ _ => rfl) (do_any n u x (V0.alloc (.cells (ndA noN noW) 28)) (vnm.move S1) (vg.below S1) hfit) ?_
            rintro e V2 ⟨m, u, c, rfl, hC, hm1, b1, ho1⟩
            have S2 : Below V0.heap.size V0 V2 := S1.trans (b1.mono S1.size)
            refine ⟨_, rfl, S2, ?_⟩
            simp only [Act.put, List.setIfInBounds_toArray, List.set_cons_zero, List.set_cons_succ]
            refine anyH_take (i := 6) (v := .tuple #[.agg (ndA m u), .int .i64 c]) rfl (some 32) rfl (by kernel_rfl) (by kernel_rfl) (by kernel_rfl) (fun _ _ _ h => by cases h.1) (by kernel_rfl) (fun w0 hw0 => by first | rfl | kernel_rfl) S2 ?_
            simp only [Act.put, List.setIfInBounds_toArray, List.set_cons_zero, List.set_cons_succ]
            refine anyH_take (i := 7) (v := .agg (ndA m u)) rfl (some 39) rfl (by kernel_rfl) (by kernel_rfl) (by kernel_rfl) (fun _ _ _ h => by cases h.1) (by kernel_rfl) (fun w0 hw0 => by first | rfl | kernel_rfl) S2 ?_
            simp only [Act.put, List.setIfInBounds_toArray, List.set_cons_zero, List.set_cons_succ]
            refine anyH_take (i := 8) (v := .int .i64 c) rfl (some 40) rfl (by kernel_rfl) (by kernel_rfl) (by kernel_rfl) (fun _ _ _ h => by cases h.1) (by kernel_rfl) (fun w0 hw0 => by first | rfl | kernel_rfl) S2 ?_
            simp only [Act.put, List.setIfInBounds_toArray, List.set_cons_zero, List.set_cons_succ]
            obtain ⟨hD, hz2⟩ := doneAt2 hC hm1 b1 ho1
            refine anyH_one (i := 10) (by kernel_rfl) ?_
            refine op_store rfl rfl (by kernel_rfl) (ex_store (u := .agg (ndA m u)) rfl rfl rfl (store_nd hz2)) ?_
            refine ⟨hD.bel, ?_⟩
            simp only [Act.put]
            refine anyH_val (i := 11) (v := .int .i64 c) (by kernel_rfl) rfl (some 10) rfl (by kernel_rfl) (by first | rfl | kernel_rfl) hD.bel ?_
            simp only [Act.put, List.setIfInBounds_toArray, List.set_cons_zero, List.set_cons_succ]
            exact wpAnyH_done (by kernel_rfl) ⟨rfl, m, u, c, _, fill hD (by kernel_rfl)⟩ _
        case fina =>
          rintro a W ⟨m, u1, c, bq, xx, hD, rfl⟩
          have hnbV := (hD.bel.block _ vnl).trans vnb
          have B1 : Below w.heap.size w W := HR0.out.2.1.trans ((B0.trans (hD.bel.mono B0.size)).mono HR0.out.2.1.size)
          have HD := hide (And.intro hD (And.intro hnbV (And.intro (vnm.move hD.bel) (And.intro B1 (And.intro vnl (Array.getElem?_eq_some_iff.1 hD.box).1)))))
          clear hD hnbV B1 vnb vnm vg vel vec vnl hfit heb hec hg hnb hnm HE
          by_cases hc0 : c = 0
          · subst hc0
            have HSm := hide (done_stay (do_done HD.out.1.doc) HR0.out.1)
            go_wp2_with (refine l_load _ (load_nd HD.out.1.box) rfl rfl rfl ?_; refine stopNd ?_)
            unfold Hid
            refine l_store _ (store_nd (n := m) (u := u1) HD.out.2.1) rfl rfl rfl rfl ?_
            have hown := HD.out.1.own
            have hvl := HD.out.2.2.2.2.1
            have k0 : (setNd W nb m u1).heap[nb]? = some (.cells (ndA m u1) 28) := setNd_heap HD.out.2.1
            have k1 : NdM (setNd W nb m u1).heap.size (setNd W nb m u1) m u1 := ndM_far HD.out.1.mem setNd_size setNd_far ⟨fun a e => by have := hown.1 a e; omega, fun a e => by have := hown.2.1 a e; omega, fun a e => by have := hown.2.2 a e; omega⟩
            have k2 : Below w.heap.size w (setNd W nb m u1) := setNd_below HD.out.2.2.2.1 HS0.out.2.2.2.2
            have HK := hide (And.intro k0 (And.intro k1 k2))
            clear hown hvl k0 k1 k2
            go_wp2_with fail
            go_roundw
            case rel => exact ⟨k + 1, m, u1, by omega, by omega, by simp, HK.out.1, HK.out.2.1, HSm.out, HK.out.2.2⟩
            case measure => simp [intOf]; omega
          · have hc : (c == 0) = false := by rw [beq_eq_false_iff_ne]; exact hc0
            clear hc0
            go_wp2_with fail
            go_roundw
            case rel => exact ⟨k + 1, n, u, by omega, by omega, by simp, HD.out.2.1, HD.out.2.2.1, HR0.out.1, HD.out.2.2.2.1⟩
            case measure => simp [intOf]; omega
      · skip
        have HSu := hide (sub_any n u who wr hnm.ok)
        have HLd := hide (load_nd hnb)
        clear hnb hnm hst hbw
        go_wp2_with (refine l_load _ HLd.out rfl rfl rfl ?_)
        refine HSu.out.mono ?_
        rintro e w2 ⟨hfs, b2⟩
        obtain ⟨ya, yp, yd, b, rfl, hold⟩ := firstSub_ex hfs
        have bq := b2.alloc b2.size (.cells #[.string ya, .bool yp, .int .i64 yd] 39)
        have fq := World.alloc_heap_new w2 (.cells #[.string ya, .bool yp, .int .i64 yd] 39)
        obtain ⟨W2, hW2⟩ : ∃ W2, w2.alloc (.cells #[.string ya, .bool yp, .int .i64 yd] 39) = W2 := ⟨_, rfl⟩
        obtain ⟨q, hq⟩ : ∃ q, w2.heap.size = q := ⟨_, rfl⟩
        rw [hW2] at bq fq
        rw [hq] at fq
        have hnbl : nb < wr.heap.size := (Array.getElem?_eq_some_iff.1 HR0.out.2.2.1).1
        have HX := hide (And.intro ((bq.block _ hnbl).trans HR0.out.2.2.1) (And.intro (HR0.out.2.2.2.move bq) (And.intro fq (HR0.out.2.1.trans (bq.mono HR0.out.2.1.size)))))
        have HOLD := hide hold
        have HWq := hide (And.intro hW2 hq)
        clear hfs b2 hold bq fq hW2 hq hnbl HSu HLd
        go_wp2_with fail
        have hW2 := HWq.out.1
        have hq := HWq.out.2
        rw [hW2, hq]
        clear hW2 hq HWq
        obtain ⟨A, hA⟩ : ∃ A, n.affs.length = A := ⟨_, rfl⟩
        have hA16 : A ≤ 16 := by rw [← hA]; exact affs_right HR0.out.1.right
        have HA := hide hA
        clear hA
        go_loopw [13, 14] (fun ov iv wt => ∃ (j : Nat), j ≤ A ∧ iv = .int .i64 j ∧ ov = .string (ownL (n.affs.take j)) ∧ Below W2.heap.size W2 wt) (fun _ iv _ => A - (intOf iv).toNat)
        case atStart => exact ⟨0, Nat.zero_le _, rfl, rfl, Below.refl _ _⟩
        case round =>
          obtain ⟨j, hjA, rfl, rfl, hbt⟩ := hrel
          have kb := (hbt.block _ (Array.getElem?_eq_some_iff.1 HX.out.1).1).trans HX.out.1
          have kq := (hbt.block _ (Array.getElem?_eq_some_iff.1 HX.out.2.2.1).1).trans HX.out.2.2.1
          have km := HX.out.2.1.move hbt
          have HJ := hide (And.intro kb (And.intro kq (And.intro km (And.intro (HX.out.2.2.2.trans (hbt.mono HX.out.2.2.2.size)) hbt))))
          have c4 := (nd_box kb).2.2.2.2.1
          rw [HA.out] at c4
          by_cases hjl : (j : Int) < A
          · obtain ⟨y, hy⟩ : ∃ y, n.affs[j]? = some y := ⟨_, List.getElem?_eq_getElem (by have := HA.out; omega)⟩
            obtain ⟨sb, so, hsa, hsl, d0, d1⟩ := km.ok.1.2 j y hy
            have hmore := ownL_more hy
            obtain ⟨oj, hoj⟩ : ∃ oj, ownL (n.affs.take j) = oj := ⟨_, rfl⟩
            rw [hoj] at hmore ⊢
            have HM := hide hmore
            clear kb kq km hbt hmore hoj hy hsl
            rw [hsa] at c4
            by_cases hy5 : y.2 = 5
            · have hye : ((y.2 : Int) == 5) = true := by rw [hy5]; rfl
              have HY := hide hy5
              clear hy5
              go_wp2_with fail
              go_roundw
              case rel => exact ⟨j + 1, by omega, by simp, by rw [HM.out, if_pos HY.out], HJ.out.2.2.2.2⟩
              case measure => simp [intOf]; omega
            · have hye : ((y.2 : Int) == 5) = false := by rw [beq_eq_false_iff_ne]; omega
              have HY := hide hy5
              clear hy5
              go_wp2_with fail
              go_roundw
              case rel => exact ⟨j + 1, by omega, by simp, by rw [HM.out, if_neg HY.out], HJ.out.2.2.2.2⟩
              case measure => simp [intOf]; omega
          · have hjA' : j = A := by omega
            have hown : ownL (n.affs.take j) = ownL n.affs := by rw [List.take_of_length_le (by have := HA.out; omega)]
            rw [hown]
            obtain ⟨hro, y, hy, hye⟩ := ownL_mem HR0.out.1.right
            obtain ⟨ow, how⟩ : ∃ ow, ownL n.affs = ow := ⟨_, rfl⟩
            rw [how] at hro hye ⊢
            have HRo := hide hro
            have HDe := hide (decide_any n u ow who yes wr km (HL.out.2.1.below HJ.out.2.2.2.1) HL.out.2.2.2)
            have HLd := hide (load_nd kb)
            clear hown hro hy hye how kb kq km hbt hjA'
            go_wp2_with (refine l_load _ HLd.out rfl rfl rfl ?_)
            refine HDe.out.mono ?_
            rintro e w4 ⟨m, u2, c, rfl, hC, hm4, b4, ho4⟩
            have f4 := World.alloc_heap_new w4 (.cells (ndA m u2) 28)
            have b5 : Below w4.heap.size w4 (w4.alloc (.cells (ndA m u2) 28)) := (Below.refl _ w4).alloc (Nat.le_refl _) _
            obtain ⟨W4, hW4⟩ : ∃ W4, w4.alloc (.cells (ndA m u2) 28) = W4 := ⟨_, rfl⟩
            have hW4' : w4.alloc (.cells #[.string m.name, .bool m.coll, .int .u8 m.acc, .int .i64 m.max, .slice u2.aa m.affs.length u2.ac, .slice u2.sa m.subs.length u2.sc, .slice u2.ia m.items.length u2.ic, .string m.parent] 28) = W4 := hW4
            rw [hW4] at f4 b5
            obtain ⟨p, hp⟩ : ∃ p, w4.heap.size = p := ⟨_, rfl⟩
            have B4 : Below wr.heap.size wr W4 := b4.trans (b5.mono b4.size)
            have hm5 := hm4.move b5
            rw [hp] at f4
            have q4 := (B4.block _ (Array.getElem?_eq_some_iff.1 HJ.out.2.1).1).trans HJ.out.2.1
            have HK := hide (And.intro f4 (And.intro q4 (And.intro hm5 (HJ.out.2.2.2.1.trans (B4.mono HJ.out.2.2.2.1.size)))))
            have HWp := hide (And.intro hW4' hp)
            have HC := hide hC
            clear hC hm4 b4 ho4 f4 b5 hW4 hW4' hp B4 hm5 q4 HDe HLd c4
            rw [show (ndA m u2 : Array Value) = #[.string m.name, .bool m.coll, .int .u8 m.acc, .int .i64 m.max, .slice u2.aa m.affs.length u2.ac, .slice u2.sa m.subs.length u2.sc, .slice u2.ia m.items.length u2.ic, .string m.parent] from rfl]
            by_cases hpen : ∃ d, oldS n who = some (who, true, d)
            · obtain ⟨d, hd⟩ := hpen
              have hold1 : b = true ∧ yp = true ∧ yd = d := by
                rcases HOLD.out with ⟨h1, _, h3⟩ | ⟨_, h3, _⟩
                · unfold oldS at hd
                  rw [hd] at h3
                  cases h3
                  exact ⟨h1, rfl, rfl⟩
                · unfold oldS at hd
                  rw [hd] at h3
                  cases h3
              obtain ⟨rfl, rfl, rfl⟩ := hold1
              obtain ⟨rfl, hmm⟩ := dec_yes HR0.out.1.right HRo.out HC.out hd
              have hfm : m.subs.find? (fun x => decide (x.1 = who)) = if yes = true then some (who, false, yd) else none := by rw [hmm]; exact dec_find HR0.out.1.right
              have hrm : RightN m := by rw [hmm]; exact dec_right HR0.out.1.right hd
              have hom : roleL m.affs ow = 5 := by rw [hmm]; exact HRo.out
              have HM := hide (And.intro hfm (And.intro hrm hom))
              clear hfm hrm hom hmm hd
              obtain ⟨e0, e1, e2, _, _, _⟩ := cells_s HK.out.2.1
              have HSu := hide (sub_any m u2 who W4 HK.out.2.2.1.ok)
              have HLd := hide (load_nd HK.out.1)
              have hW4 := HWp.out.1
              have hp := HWp.out.2
              rw [← hW4] at e0 e1 e2
              have HLw := hide (load_nd HK.out.1)
              rw [← hW4] at HLw
              rw [← hp] at HLw
              clear hW4 hp
              go_wp2_with (refine l_load _ HLw.out rfl rfl rfl ?_; refine stopNd ?_)
              unfold Hid
              have hW4 := HWp.out.1
              have hp := HWp.out.2
              rw [hW4, hp]
              clear hW4 hp HWp HLw e0 e1 e2
              go_wp2_with fail
              refine HSu.out.mono ?_
              rintro e w5 ⟨hfs, b5⟩
              obtain ⟨ta, tp, td, tb, rfl, told⟩ := firstSub_ex hfs
              have bq := b5.alloc b5.size (.cells #[.string ta, .bool tp, .int .i64 td] 39)
              have ft := World.alloc_heap_new w5 (.cells #[.string ta, .bool tp, .int .i64 td] 39)
              obtain ⟨W5, hW5⟩ : ∃ W5, w5.alloc (.cells #[.string ta, .bool tp, .int .i64 td] 39) = W5 := ⟨_, rfl⟩
              obtain ⟨tq, htq⟩ : ∃ tq, w5.heap.size = tq := ⟨_, rfl⟩
              rw [hW5] at bq ft
              rw [htq] at ft
              have p5 := (bq.block _ (Array.getElem?_eq_some_iff.1 HK.out.1).1).trans HK.out.1
              have q5 := (bq.block _ (Array.getElem?_eq_some_iff.1 HK.out.2.1).1).trans HK.out.2.1
              have B5 := HK.out.2.2.2.trans (bq.mono HK.out.2.2.2.size)
              have HT := hide (And.intro ft (And.intro q5 (And.intro (HK.out.2.2.1.move bq) B5)))
              have HDe := hide (decide_any m u2 ow who yes W5 (HK.out.2.2.1.move bq) (HL.out.2.1.below B5) HL.out.2.2.2)
              have HLw := hide (load_nd p5)
              rw [← hW5] at HLw
              have HWt := hide (And.intro hW5 htq)
              have told1 : if yes = true then tb = true ∧ tp = false ∧ td = yd else tb = false ∧ tp = false := by
                have hf := HM.out.1
                cases yes with
                | true =>
                  rw [if_pos rfl] at hf ⊢
                  rcases told with ⟨h1, _, h3⟩ | ⟨_, h3, _⟩
                  · rw [hf] at h3
                    cases h3
                    exact ⟨h1, rfl, rfl⟩
                  · rw [hf] at h3
                    cases h3
                | false =>
                  rw [if_neg (by decide)] at hf ⊢
                  rcases told with ⟨_, _, h3⟩ | ⟨h1, _, _, h2, _⟩
                  · rw [hf] at h3
                    cases h3
                  · exact ⟨h1, h2⟩
              have HTO := hide told1
              clear hfs b5 told bq ft hW5 htq p5 q5 B5 told1 HSu HLd
              go_wp2_with (refine l_load _ HLw.out rfl rfl rfl ?_; refine stopNd ?_)
              unfold Hid
              have hW5 := HWt.out.1
              have htq := HWt.out.2
              rw [hW5, htq]
              clear hW5 htq HWt HLw
              go_wp2_with fail
              refine HDe.out.mono ?_
              rintro e w6 ⟨m6, u6, c6, rfl, hC6, hm6, b6, ho6⟩
              have hnp : ¬ ∃ d, oldS m who = some (who, true, d) := by
                rintro ⟨d, hd⟩
                unfold oldS at hd
                rw [HM.out.1] at hd
                cases yes <;> simp at hd
              obtain ⟨rfl, rfl⟩ := dec_no HM.out.2.1 HM.out.2.2 hC6 hnp
              have b7 : Below w6.heap.size w6 (w6.alloc (.cells (ndA noN u6) 28)) := (Below.refl _ w6).alloc (Nat.le_refl _) _
              have B7 := b6.trans (b7.mono b6.size)
              have t7 := (B7.block _ (Array.getElem?_eq_some_iff.1 HT.out.1).1).trans HT.out.1
              have q7 := (B7.block _ (Array.getElem?_eq_some_iff.1 HT.out.2.1).1).trans HT.out.2.1
              have bw7 := HT.out.2.2.2.trans (B7.mono HT.out.2.2.2.size)
              obtain ⟨W6, hW6⟩ : ∃ W6, w6.alloc (.cells (ndA noN u6) 28) = W6 := ⟨_, rfl⟩
              have hW6' : w6.alloc (.cells #[.string ⟨#[]⟩, .bool false, .int .u8 (0 : Nat), .int .i64 0, .slice u6.aa 0 u6.ac, .slice u6.sa 0 u6.sc, .slice u6.ia 0 u6.ic, .string ⟨#[]⟩] 28) = W6 := hW6
              rw [hW6] at t7 q7 bw7
              have HLi := hide (live11_any W6 (HL.out.2.1.below bw7))
              have H7 := hide (And.intro t7 (And.intro q7 bw7))
              rw [← hW6'] at HLi
              have HW6 := hide hW6'
              clear hC6 hm6 b6 ho6 hnp b7 B7 t7 q7 bw7 hW6 hW6' HDe
              rw [show (ndA noN u6 : Array Value) = #[.string ⟨#[]⟩, .bool false, .int .u8 (0 : Nat), .int .i64 0, .slice u6.aa 0 u6.ac, .slice u6.sa 0 u6.sc, .slice u6.ia 0 u6.ic, .string ⟨#[]⟩] from rfl]
              go_wp2_with fail
              refine HLi.out.mono ?_
              rintro e w8 ⟨rfl, b8⟩
              have b8' : Below W6.heap.size W6 w8 := by
                have h : _ = W6 := HW6.out
                rw [h] at b8
                exact b8
              have t8 := (b8'.block _ (Array.getElem?_eq_some_iff.1 H7.out.1).1).trans H7.out.1
              have q8 := (b8'.block _ (Array.getElem?_eq_some_iff.1 H7.out.2.1).1).trans H7.out.2.1
              have H8 := hide (H7.out.2.2.trans (b8'.mono H7.out.2.2.size))
              obtain ⟨e0, e1, e2, _, _, _⟩ := cells_s t8
              obtain ⟨g0, g1, g2, _, _, _⟩ := cells_s q8
              have hto := HTO.out
              clear b8 b8' t8 q8
              cases yes with
              | true =>
                obtain ⟨rfl, rfl, rfl⟩ := hto
                go_wp2_with fail
                go_ret
                exact ⟨rfl, H8.out⟩
              | false =>
                obtain ⟨rfl, rfl⟩ := hto
                go_wp2_with fail
                go_ret
                exact ⟨rfl, H8.out⟩
            · obtain ⟨rfl, rfl⟩ := dec_no HR0.out.1.right HRo.out HC.out hpen
              have hbp : b = false ∨ (b = true ∧ yp = false) := by
                rcases HOLD.out with ⟨h1, h2, h3⟩ | ⟨h1, _⟩
                · cases yp with
                  | false => exact .inr ⟨h1, rfl⟩
                  | true =>
                    exfalso
                    apply hpen
                    rw [h2] at h3
                    exact ⟨yd, h3⟩
                · exact .inl h1
              obtain ⟨e0, e1, e2, _, _, _⟩ := cells_s HK.out.2.1
              have HLi := hide (live11_any W4 (HL.out.2.1.below HK.out.2.2.2))
              have hW4 := HWp.out.1
              rw [← hW4] at e0 e1 e2 HLi
              clear hpen hW4
              rcases hbp with rfl | ⟨rfl, rfl⟩
              · clear e0 e1 e2
                go_wp2_with fail
                refine HLi.out.mono ?_
                rintro e w8 ⟨rfl, b8⟩
                have b8' : Below W4.heap.size W4 w8 := by
                  have h := HWp.out.1
                  rw [h] at b8
                  exact b8
                have hp := HWp.out.2
                have c0 := (nd_box ((b8'.block _ (Array.getElem?_eq_some_iff.1 HK.out.1).1).trans HK.out.1)).1
                rw [← hp] at c0
                have hne : noN.name.toList.isEmpty = true := by rw [show noN.name = ⟨#[]⟩ from rfl, Lib.toList_data]; rfl
                have H8 := hide (HK.out.2.2.2.trans (b8'.mono HK.out.2.2.2.size))
                clear b8 b8' hp
                go_wp2_with fail
                go_ret
                exact ⟨rfl, H8.out⟩
              · go_wp2_with fail
                clear e0 e1 e2
                refine HLi.out.mono ?_
                rintro e w8 ⟨rfl, b8⟩
                have b8' : Below W4.heap.size W4 w8 := by
                  have h := HWp.out.1
                  rw [h] at b8
                  exact b8
                have hp := HWp.out.2
                have c0 := (nd_box ((b8'.block _ (Array.getElem?_eq_some_iff.1 HK.out.1).1).trans HK.out.1)).1
                rw [← hp] at c0
                have hne : noN.name.toList.isEmpty = true := by rw [show noN.name = ⟨#[]⟩ from rfl, Lib.toList_data]; rfl
                have H8 := hide (HK.out.2.2.2.trans (b8'.mono HK.out.2.2.2.size))
                clear b8 b8' hp
                go_wp2_with fail
                go_ret
                exact ⟨rfl, H8.out⟩
    · skip
      have HSu := hide (sub_any n u who wr hnm.ok)
      have HLd := hide (load_nd hnb)
      clear hnb hnm hst hbw
      go_wp2_with (refine l_load _ HLd.out rfl rfl rfl ?_)
      refine HSu.out.mono ?_
      rintro e w2 ⟨hfs, b2⟩
      obtain ⟨ya, yp, yd, b, rfl, hold⟩ := firstSub_ex hfs
      have bq := b2.alloc b2.size (.cells #[.string ya, .bool yp, .int .i64 yd] 39)
      have fq := World.alloc_heap_new w2 (.cells #[.string ya, .bool yp, .int .i64 yd] 39)
      obtain ⟨W2, hW2⟩ : ∃ W2, w2.alloc (.cells #[.string ya, .bool yp, .int .i64 yd] 39) = W2 := ⟨_, rfl⟩
      obtain ⟨q, hq⟩ : ∃ q, w2.heap.size = q := ⟨_, rfl⟩
      rw [hW2] at bq fq
      rw [hq] at fq
      have hnbl : nb < wr.heap.size := (Array.getElem?_eq_some_iff.1 HR0.out.2.2.1).1
      have HX := hide (And.intro ((bq.block _ hnbl).trans HR0.out.2.2.1) (And.intro (HR0.out.2.2.2.move bq) (And.intro fq (HR0.out.2.1.trans (bq.mono HR0.out.2.1.size)))))
      have HOLD := hide hold
      have HWq := hide (And.intro hW2 hq)
      clear hfs b2 hold bq fq hW2 hq hnbl HSu HLd
      go_wp2_with fail
      have hW2 := HWq.out.1
      have hq := HWq.out.2
      rw [hW2, hq]
      clear hW2 hq HWq
      obtain ⟨A, hA⟩ : ∃ A, n.affs.length = A := ⟨_, rfl⟩
      have hA16 : A ≤ 16 := by rw [← hA]; exact affs_right HR0.out.1.right
      have HA := hide hA
      clear hA
      go_loopw [13, 14] (fun ov iv wt => ∃ (j : Nat), j ≤ A ∧ iv = .int .i64 j ∧ ov = .string (ownL (n.affs.take j)) ∧ Below W2.heap.size W2 wt) (fun _ iv _ => A - (intOf iv).toNat)
      case atStart => exact ⟨0, Nat.zero_le _, rfl, rfl, Below.refl _ _⟩
      case round =>
        obtain ⟨j, hjA, rfl, rfl, hbt⟩ := hrel
        have kb := (hbt.block _ (Array.getElem?_eq_some_iff.1 HX.out.1).1).trans HX.out.1
        have kq := (hbt.block _ (Array.getElem?_eq_some_iff.1 HX.out.2.2.1).1).trans HX.out.2.2.1
        have km := HX.out.2.1.move hbt
        have HJ := hide (And.intro kb (And.intro kq (And.intro km (And.intro (HX.out.2.2.2.trans (hbt.mono HX.out.2.2.2.size)) hbt))))
        have c4 := (nd_box kb).2.2.2.2.1
        rw [HA.out] at c4
        by_cases hjl : (j : Int) < A
        · obtain ⟨y, hy⟩ : ∃ y, n.affs[j]? = some y := ⟨_, List.getElem?_eq_getElem (by have := HA.out; omega)⟩
          obtain ⟨sb, so, hsa, hsl, d0, d1⟩ := km.ok.1.2 j y hy
          have hmore := ownL_more hy
          obtain ⟨oj, hoj⟩ : ∃ oj, ownL (n.affs.take j) = oj := ⟨_, rfl⟩
          rw [hoj] at hmore ⊢
          have HM := hide hmore
          clear kb kq km hbt hmore hoj hy hsl
          rw [hsa] at c4
          by_cases hy5 : y.2 = 5
          · have hye : ((y.2 : Int) == 5) = true := by rw [hy5]; rfl
            have HY := hide hy5
            clear hy5
            go_wp2_with fail
            go_roundw
            case rel => exact ⟨j + 1, by omega, by simp, by rw [HM.out, if_pos HY.out], HJ.out.2.2.2.2⟩
            case measure => simp [intOf]; omega
          · have hye : ((y.2 : Int) == 5) = false := by rw [beq_eq_false_iff_ne]; omega
            have HY := hide hy5
            clear hy5
            go_wp2_with fail
            go_roundw
            case rel => exact ⟨j + 1, by omega, by simp, by rw [HM.out, if_neg HY.out], HJ.out.2.2.2.2⟩
            case measure => simp [intOf]; omega
        · have hjA' : j = A := by omega
          have hown : ownL (n.affs.take j) = ownL n.affs := by rw [List.take_of_length_le (by have := HA.out; omega)]
          rw [hown]
          obtain ⟨hro, y, hy, hye⟩ := ownL_mem HR0.out.1.right
          obtain ⟨ow, how⟩ : ∃ ow, ownL n.affs = ow := ⟨_, rfl⟩
          rw [how] at hro hye ⊢
          have HRo := hide hro
          have HDe := hide (decide_any n u ow who yes wr km (HL.out.2.1.below HJ.out.2.2.2.1) HL.out.2.2.2)
          have HLd := hide (load_nd kb)
          clear hown hro hy hye how kb kq km hbt hjA'
          go_wp2_with (refine l_load _ HLd.out rfl rfl rfl ?_)
          refine HDe.out.mono ?_
          rintro e w4 ⟨m, u2, c, rfl, hC, hm4, b4, ho4⟩
          have f4 := World.alloc_heap_new w4 (.cells (ndA m u2) 28)
          have b5 : Below w4.heap.size w4 (w4.alloc (.cells (ndA m u2) 28)) := (Below.refl _ w4).alloc (Nat.le_refl _) _
          obtain ⟨W4, hW4⟩ : ∃ W4, w4.alloc (.cells (ndA m u2) 28) = W4 := ⟨_, rfl⟩
          have hW4' : w4.alloc (.cells #[.string m.name, .bool m.coll, .int .u8 m.acc, .int .i64 m.max, .slice u2.aa m.affs.length u2.ac, .slice u2.sa m.subs.length u2.sc, .slice u2.ia m.items.length u2.ic, .string m.parent] 28) = W4 := hW4
          rw [hW4] at f4 b5
          obtain ⟨p, hp⟩ : ∃ p, w4.heap.size = p := ⟨_, rfl⟩
          have B4 : Below wr.heap.size wr W4 := b4.trans (b5.mono b4.size)
          have hm5 := hm4.move b5
          rw [hp] at f4
          have q4 := (B4.block _ (Array.getElem?_eq_some_iff.1 HJ.out.2.1).1).trans HJ.out.2.1
          have HK := hide (And.intro f4 (And.intro q4 (And.intro hm5 (HJ.out.2.2.2.1.trans (B4.mono HJ.out.2.2.2.1.size)))))
          have HWp := hide (And.intro hW4' hp)
          have HC := hide hC
          clear hC hm4 b4 ho4 f4 b5 hW4 hW4' hp B4 hm5 q4 HDe HLd c4
          rw [show (ndA m u2 : Array Value) = #[.string m.name, .bool m.coll, .int .u8 m.acc, .int .i64 m.max, .slice u2.aa m.affs.length u2.ac, .slice u2.sa m.subs.length u2.sc, .slice u2.ia m.items.length u2.ic, .string m.parent] from rfl]
          by_cases hpen : ∃ d, oldS n who = some (who, true, d)
          · obtain ⟨d, hd⟩ := hpen
            have hold1 : b = true ∧ yp = true ∧ yd = d := by
              rcases HOLD.out with ⟨h1, _, h3⟩ | ⟨_, h3, _⟩
              · unfold oldS at hd
                rw [hd] at h3
                cases h3
                exact ⟨h1, rfl, rfl⟩
              · unfold oldS at hd
                rw [hd] at h3
                cases h3
            obtain ⟨rfl, rfl, rfl⟩ := hold1
            obtain ⟨rfl, hmm⟩ := dec_yes HR0.out.1.right HRo.out HC.out hd
            have hfm : m.subs.find? (fun x => decide (x.1 = who)) = if yes = true then some (who, false, yd) else none := by rw [hmm]; exact dec_find HR0.out.1.right
            have hrm : RightN m := by rw [hmm]; exact dec_right HR0.out.1.right hd
            have hom : roleL m.affs ow = 5 := by rw [hmm]; exact HRo.out
            have HM := hide (And.intro hfm (And.intro hrm hom))
            clear hfm hrm hom hmm hd
            obtain ⟨e0, e1, e2, _, _, _⟩ := cells_s HK.out.2.1
            have HSu := hide (sub_any m u2 who W4 HK.out.2.2.1.ok)
            have HLd := hide (load_nd HK.out.1)
            have hW4 := HWp.out.1
            have hp := HWp.out.2
            rw [← hW4] at e0 e1 e2
            have HLw := hide (load_nd HK.out.1)
            rw [← hW4] at HLw
            rw [← hp] at HLw
            clear hW4 hp
            go_wp2_with (refine l_load _ HLw.out rfl rfl rfl ?_; refine stopNd ?_)
            unfold Hid
            have hW4 := HWp.out.1
            have hp := HWp.out.2
            rw [hW4, hp]
            clear hW4 hp HWp HLw e0 e1 e2
            go_wp2_with fail
            refine HSu.out.mono ?_
            rintro e w5 ⟨hfs, b5⟩
            obtain ⟨ta, tp, td, tb, rfl, told⟩ := firstSub_ex hfs
            have bq := b5.alloc b5.size (.cells #[.string ta, .bool tp, .int .i64 td] 39)
            have ft := World.alloc_heap_new w5 (.cells #[.string ta, .bool tp, .int .i64 td] 39)
            obtain ⟨W5, hW5⟩ : ∃ W5, w5.alloc (.cells #[.string ta, .bool tp, .int .i64 td] 39) = W5 := ⟨_, rfl⟩
            obtain ⟨tq, htq⟩ : ∃ tq, w5.heap.size = tq := ⟨_, rfl⟩
            rw [hW5] at bq ft
            rw [htq] at ft
            have p5 := (bq.block _ (Array.getElem?_eq_some_iff.1 HK.out.1).1).trans HK.out.1
            have q5 := (bq.block _ (Array.getElem?_eq_some_iff.1 HK.out.2.1).1).trans HK.out.2.1
            have B5 := HK.out.2.2.2.trans (bq.mono HK.out.2.2.2.size)
            have HT := hide (And.intro ft (And.intro q5 (And.intro (HK.out.2.2.1.move bq) B5)))
            have HDe := hide (decide_any m u2 ow who yes W5 (HK.out.2.2.1.move bq) (HL.out.2.1.below B5) HL.out.2.2.2)
            have HLw := hide (load_nd p5)
            rw [← hW5] at HLw
            have HWt := hide (And.intro hW5 htq)
            have told1 : if yes = true then tb = true ∧ tp = false ∧ td = yd else tb = false ∧ tp = false := by
              have hf := HM.out.1
              cases yes with
              | true =>
                rw [if_pos rfl] at hf ⊢
                rcases told with ⟨h1, _, h3⟩ | ⟨_, h3, _⟩
                · rw [hf] at h3
                  cases h3
                  exact ⟨h1, rfl, rfl⟩
                · rw [hf] at h3
                  cases h3
              | false =>
                rw [if_neg (by decide)] at hf ⊢
                rcases told with ⟨_, _, h3⟩ | ⟨h1, _, _, h2, _⟩
                · rw [hf] at h3
                  cases h3
                · exact ⟨h1, h2⟩
            have HTO := hide told1
            clear hfs b5 told bq ft hW5 htq p5 q5 B5 told1 HSu HLd
            go_wp2_with (refine l_load _ HLw.out rfl rfl rfl ?_; refine stopNd ?_)
            unfold Hid
            have hW5 := HWt.out.1
            have htq := HWt.out.2
            rw [hW5, htq]
            clear hW5 htq HWt HLw
            go_wp2_with fail
            refine HDe.out.mono ?_
            rintro e w6 ⟨m6, u6, c6, rfl, hC6, hm6, b6, ho6⟩
            have hnp : ¬ ∃ d, oldS m who = some (who, true, d) := by
              rintro ⟨d, hd⟩
              unfold oldS at hd
              rw [HM.out.1] at hd
              cases yes <;> simp at hd
            obtain ⟨rfl, rfl⟩ := dec_no HM.out.2.1 HM.out.2.2 hC6 hnp
            have b7 : Below w6.heap.size w6 (w6.alloc (.cells (ndA noN u6) 28)) := (Below.refl _ w6).alloc (Nat.le_refl _) _
            have B7 := b6.trans (b7.mono b6.size)
            have t7 := (B7.block _ (Array.getElem?_eq_some_iff.1 HT.out.1).1).trans HT.out.1
            have q7 := (B7.block _ (Array.getElem?_eq_some_iff.1 HT.out.2.1).1).trans HT.out.2.1
            have bw7 := HT.out.2.2.2.trans (B7.mono HT.out.2.2.2.size)
            obtain ⟨W6, hW6⟩ : ∃ W6, w6.alloc (.cells (ndA noN u6) 28) = W6 := ⟨_, rfl⟩
            have hW6' : w6.alloc (.cells #[.string ⟨#[]⟩, .bool false, .int .u8 (0 : Nat), .int .i64 0, .slice u6.aa 0 u6.ac, .slice u6.sa 0 u6.sc, .slice u6.ia 0 u6.ic, .string ⟨#[]⟩] 28) = W6 := hW6
            rw [hW6] at t7 q7 bw7
            have HLi := hide (live11_any W6 (HL.out.2.1.below bw7))
            have H7 := hide (And.intro t7 (And.intro q7 bw7))
            rw [← hW6'] at HLi
            have HW6 := hide hW6'
            clear hC6 hm6 b6 ho6 hnp b7 B7 t7 q7 bw7 hW6 hW6' HDe
            rw [show (ndA noN u6 : Array Value) = #[.string ⟨#[]⟩, .bool false, .int .u8 (0 : Nat), .int .i64 0, .slice u6.aa 0 u6.ac, .slice u6.sa 0 u6.sc, .slice u6.ia 0 u6.ic, .string ⟨#[]⟩] from rfl]
            go_wp2_with fail
            refine HLi.out.mono ?_
            rintro e w8 ⟨rfl, b8⟩
            have b8' : Below W6.heap.size W6 w8 := by
              have h : _ = W6 := HW6.out
              rw [h] at b8
              exact b8
            have t8 := (b8'.block _ (Array.getElem?_eq_some_iff.1 H7.out.1).1).trans H7.out.1
            have q8 := (b8'.block _ (Array.getElem?_eq_some_iff.1 H7.out.2.1).1).trans H7.out.2.1
            have H8 := hide (H7.out.2.2.trans (b8'.mono H7.out.2.2.size))
            obtain ⟨e0, e1, e2, _, _, _⟩ := cells_s t8
            obtain ⟨g0, g1, g2, _, _, _⟩ := cells_s q8
            have hto := HTO.out
            clear b8 b8' t8 q8
            cases yes with
            | true =>
              obtain ⟨rfl, rfl, rfl⟩ := hto
              go_wp2_with fail
              go_ret
              exact ⟨rfl, H8.out⟩
            | false =>
              obtain ⟨rfl, rfl⟩ := hto
              go_wp2_with fail
              go_ret
              exact ⟨rfl, H8.out⟩
          · obtain ⟨rfl, rfl⟩ := dec_no HR0.out.1.right HRo.out HC.out hpen
            have hbp : b = false ∨ (b = true ∧ yp = false) := by
              rcases HOLD.out with ⟨h1, h2, h3⟩ | ⟨h1, _⟩
              · cases yp with
                | false => exact .inr ⟨h1, rfl⟩
                | true =>
                  exfalso
                  apply hpen
                  rw [h2] at h3
                  exact ⟨yd, h3⟩
              · exact .inl h1
            obtain ⟨e0, e1, e2, _, _, _⟩ := cells_s HK.out.2.1
            have HLi := hide (live11_any W4 (HL.out.2.1.below HK.out.2.2.2))
            have hW4 := HWp.out.1
            rw [← hW4] at e0 e1 e2 HLi
            clear hpen hW4
            rcases hbp with rfl | ⟨rfl, rfl⟩
            · clear e0 e1 e2
              go_wp2_with fail
              refine HLi.out.mono ?_
              rintro e w8 ⟨rfl, b8⟩
              have b8' : Below W4.heap.size W4 w8 := by
                have h := HWp.out.1
                rw [h] at b8
                exact b8
              have hp := HWp.out.2
              have c0 := (nd_box ((b8'.block _ (Array.getElem?_eq_some_iff.1 HK.out.1).1).trans HK.out.1)).1
              rw [← hp] at c0
              have hne : noN.name.toList.isEmpty = true := by rw [show noN.name = ⟨#[]⟩ from rfl, Lib.toList_data]; rfl
              have H8 := hide (HK.out.2.2.2.trans (b8'.mono HK.out.2.2.2.size))
              clear b8 b8' hp
              go_wp2_with fail
              go_ret
              exact ⟨rfl, H8.out⟩
            · go_wp2_with fail
              clear e0 e1 e2
              refine HLi.out.mono ?_
              rintro e w8 ⟨rfl, b8⟩
              have b8' : Below W4.heap.size W4 w8 := by
                have h := HWp.out.1
                rw [h] at b8
                exact b8
              have hp := HWp.out.2
              have c0 := (nd_box ((b8'.block _ (Array.getElem?_eq_some_iff.1 HK.out.1).1).trans HK.out.1)).1
              rw [← hp] at c0
              have hne : noN.name.toList.isEmpty = true := by rw [show noN.name = ⟨#[]⟩ from rfl, Lib.toList_data]; rfl
              have H8 := hide (HK.out.2.2.2.trans (b8'.mono HK.out.2.2.2.size))
              clear b8 b8' hp
              go_wp2_with fail
              go_ret
              exact ⟨rfl, H8.out⟩
end Go.Proofs.YtffjmkngdjbjlaaDoor
