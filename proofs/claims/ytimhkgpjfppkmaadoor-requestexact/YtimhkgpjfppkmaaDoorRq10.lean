/- What a payload has in it: read. -/
import Derived.Test.YtimhkgpjfppkmaaDoorRq10a
import Derived.Test.YtimhkgpjfppkmaaDoorGG
import Derived.Test.YtimhkgpjfppkmaaDoorRq4a
namespace Go.Proofs.YtimhkgpjfppkmaaDoor
open Go.RowKit Go.Shelf

/-- What a request is behind attributes. -/
def TakesR : Rq → List (ByteArray × ByteArray) → Rq → Prop
  | r, [], r' => r' = r
  | r, a :: l, r' => ∃ r1, TakeR r a r1 ∧ TakesR r1 l r'
theorem takes_snoc {a : ByteArray × ByteArray} {r1 r2 : Rq} (h2 : TakeR r1 a r2) : ∀ (l : List (ByteArray × ByteArray)) (r : Rq), TakesR r l r1 → TakesR r (l ++ [a]) r2
  | [], r, h => by
    have e : r1 = r := h
    subst e
    exact ⟨r2, h2, rfl⟩
  | b :: l, r, ⟨r0, h0, h⟩ => ⟨r0, h0, takes_snoc h2 l r0 h⟩
theorem take_fits {r r' : Rq} {a : ByteArray × ByteArray} (hf : RqFits r) (ha : a.2.size ≤ 9223372036854775807) (h : TakeR r a r') : RqFits r' := by
  obtain ⟨f1, f2, f3, f4, f5, f6, f7, f8, f9, f10, f11, f12⟩ := hf
  unfold TakeR at h
  split at h
  · subst h; exact ⟨f1, ha, f3, f4, f5, f6, f7, f8, f9, f10, f11, f12⟩
  split at h
  · subst h; exact ⟨f1, f2, ha, f4, f5, f6, f7, f8, f9, f10, f11, f12⟩
  split at h
  · subst h; exact ⟨f1, f2, f3, ha, f5, f6, f7, f8, f9, f10, f11, f12⟩
  split at h
  · obtain ⟨k, hk, _, rfl⟩ := h; exact ⟨f1, f2, f3, f4, show k ≤ 255 by omega, f6, f7, f8, f9, f10, f11, f12⟩
  split at h
  · obtain ⟨k, hk, _, rfl⟩ := h; exact ⟨f1, f2, f3, f4, f5, show k ≤ 255 by omega, f7, f8, f9, f10, f11, f12⟩
  split at h
  · obtain ⟨v, hv, rfl⟩ := h; exact ⟨f1, f2, f3, f4, f5, f6, hv.1.1, hv.1.2, f9, f10, f11, f12⟩
  split at h
  · obtain ⟨v, hv, rfl⟩ := h; exact ⟨f1, f2, f3, f4, f5, f6, f7, f8, hv.1.1, hv.1.2, f11, f12⟩
  split at h
  · subst h; exact ⟨f1, f2, f3, f4, f5, f6, f7, f8, f9, f10, ha, f12⟩
  split at h
  · obtain ⟨k, _, _, rfl⟩ := h; exact ⟨f1, f2, f3, f4, f5, f6, f7, f8, f9, f10, f11, f12⟩
  · subst h; exact ⟨f1, f2, f3, f4, f5, f6, f7, f8, f9, f10, f11, f12⟩
/-- What read answers. -/
def ReadP (ts : List Tok) (r : Rq) : Prop := (ts.length < 3 ∧ r = zeroRq) ∨ ∃ t1 t2 k, ts[1]? = some t1 ∧ ts[2]? = some t2 ∧ k < 16 ∧ FindR verbsL t1.name k ∧ TakesR { zeroRq with verb := k, text := t2.text } t1.attrs r
theorem stopR {p : Prop} (h : Hid p) : p := h
theorem results_rq {fn : Func} {tmps : Array Value} {w : World} {r : Nat} {x : Rq} (h : fn.results = #[.cell 2 26]) (hp : tmps[2]?.getD undef = .pointer (some ⟨r, 0, none⟩)) (hb : w.heap[r]? = some (.cells (rqA x) 26)) : (results fn tmps).run Tryd.prog w = .ok (.agg (rqA x)) w := by
  obtain ⟨c0, c1, c2, c3, c4, c5, c6, c7, c8, c9, c10⟩ := rq_box hb
  unfold rqA
  simp [results, h, hp, c0, c1, c2, c3, c4, c5, c6, c7, c8, c9, c10, go_sem, Tryd.isAgg26, Tryd.sizeOf26]
theorem ex_bldRq {o : Oper} {a : Act} {w : World} {x y : Operand} {k : Nat} {s : ByteArray} (ho : o.op = .build 26 #[(0, x), (10, y)]) (hx : a.eval x = .int .u8 k) (hy : a.eval y = .string s) : (execOp a.eval o).run Tryd.prog w = .ok (.value (.agg (rqA { zeroRq with verb := k, text := s }))) w := by
  have hr : (Instr.build 26 #[(0, .int .u8 k), (10, .string s)]).run Tryd.prog w = .ok (.agg (rqA { zeroRq with verb := k, text := s })) w := by kernel_rfl
  unfold execOp
  simp only [ho]
  simp [hx, hy, hr]
theorem ex_bldZ {o : Oper} {a : Act} {w : World} (ho : o.op = .build 26 #[]) : (execOp a.eval o).run Tryd.prog w = .ok (.value (.agg (rqA zeroRq))) w := by
  unfold execOp
  simp only [ho]
  kernel_rfl
theorem ex_convVerb {o : Oper} {a : Act} {w : World} {x : Operand} {k : Nat} (ho : o.op = .convert 3 22 x) (hx : a.eval x = .int .i64 k) (hk : k < 16) : (execOp a.eval o).run Tryd.prog w = .ok (.value (.int .u8 k)) w := by
  have hw : IntKind.u8.wrap (k : Int) = k := by show (k : Int) % 256 = k; omega
  unfold execOp
  simp only [ho, hx]
  go_simp
theorem infoRqZ : (Tryd.prog.info? 26).map (fun i => (i.zero, i.size, i.bytes)) = some (some (.agg (rqA zeroRq)), 11, 120) := by kernel_rfl
def zTok : Array Value := #[.int .u8 0, .string ⟨#[]⟩, .slice none 0 0, .string ⟨#[]⟩]
theorem infoTokZ : (Tryd.prog.info? 46).map (fun i => (i.zero, i.size, i.bytes)) = some (some (.agg zTok), 4, 64) := by kernel_rfl
set_option maxRecDepth 100000 in
set_option maxHeartbeats 4000000 in
theorem read_any (ao : Option Addr) (cap : Nat) (ts : List Tok) (av : Nat → Option Addr × Nat) (w : World) (hT : TokMem w.heap.size w ao ts av) (hsz : ∀ t ∈ ts, ∀ a ∈ t.attrs, a.2.size ≤ 281474976710656) (hg : GlobE w) :
    Calls Tryd.prog 19 #[.slice ao ts.length cap] w fun e w' => (∃ r, e = .returned (.agg (rqA r)) ∧ ReadP ts r ∧ RqFits r) ∧ Below w.heap.size w w' := by
  obtain ⟨W0, hW0⟩ : ∃ W0, w.alloc (.cells (rqA zeroRq) 26) = W0 := ⟨_, rfl⟩
  have b0 : Below w.heap.size w W0 := by rw [← hW0]; exact (Below.refl _ w).alloc (Nat.le_refl _) _
  have f0 : W0.heap[w.heap.size]? = some (.cells (rqA zeroRq) 26) := by rw [← hW0]; exact World.alloc_heap_new _ _
  have hfz : RqFits zeroRq := ⟨by decide, by decide, by decide, by decide, by decide, by decide, by decide, by decide, by decide, by decide, by decide, by decide⟩
  obtain ⟨n, hn⟩ : ∃ n, ts.length = n := ⟨_, rfl⟩
  have HT := hide (And.intro hT (And.intro hsz (And.intro hg hfz)))
  have HN := hide hn
  have H0 := hide (And.intro f0 b0)
  have hW0z : w.alloc (.cells #[.int .u8 0, .string ⟨#[]⟩, .string ⟨#[]⟩, .string ⟨#[]⟩, .int .u8 0, .int .u8 0, .int .i64 0, .int .i64 0, .string ⟨#[]⟩, .bool false, .string ⟨#[]⟩] 26) = W0 := hW0
  rw [hn]
  clear hT hsz hg hfz hn f0 b0 hW0
  by_cases h3 : (n : Int) < 3
  · go_enter Tryd.func19, Tryd.ntmps19
    go_wp2_with (refine l_val rfl _ (ex_bldZ rfl) ?_; refine stopR ?_)
    unfold Hid
    refine l_store _ (setRq_run zeroRq H0.out.1) rfl rfl rfl rfl ?_
    go_wp2_with fail
    exact bodyPost_ret (results_rq rfl rfl (setRq_heap zeroRq H0.out.1)) rfl ⟨⟨zeroRq, rfl, .inl ⟨by have := HN.out; omega, rfl⟩, HT.out.2.2.2⟩, setRq_below zeroRq H0.out.2 (Nat.le_refl _)⟩
  · obtain ⟨t1, h1⟩ : ∃ t, ts[1]? = some t := ⟨_, List.getElem?_eq_getElem (by have := HN.out; omega)⟩
    obtain ⟨t2, h2⟩ : ∃ t, ts[2]? = some t := ⟨_, List.getElem?_eq_getElem (by have := HN.out; omega)⟩
    obtain ⟨k1, n1, x1, A1, l1, b, off, hao, hbl, c0, c1, c2, c3⟩ := HT.out.1.2 1 t1 h1
    obtain ⟨k2, n2, x2, A2, l2, b', off', hao', hbl', d0, d1, d2, d3⟩ := HT.out.1.2 2 t2 h2
    obtain ⟨aa, ac, haa⟩ : ∃ aa ac, av 1 = (aa, ac) := ⟨_, _, rfl⟩
    obtain ⟨ca, cc, hca⟩ : ∃ aa ac, av 2 = (aa, ac) := ⟨_, _, rfl⟩
    rw [haa] at A1 c2
    rw [hca] at d2
    have hbb : b' = b ∧ off' = off := by
      rw [hao] at hao'
      injection hao' with e
      injection e with e1 e2
      exact ⟨e1.symm, e2.symm⟩
    obtain ⟨rfl, rfl⟩ := hbb
    subst hao
    clear hao' k1 n1 l1 k2 n2 A2 l2 haa hca
    have HA := hide (And.intro h1 (And.intro h2 (And.intro A1 (And.intro x1 x2))))
    have HC := hide (And.intro c0 (And.intro c1 (And.intro c2 c3)))
    have HD := hide (And.intro d0 (And.intro d1 (And.intro d2 d3)))
    clear h1 h2 A1 x1 x2 c0 c1 c2 c3 d0 d1 d2 d3
    go_enter Tryd.func19, Tryd.ntmps19
    go_wp2_with fail
    obtain ⟨V0, hV0⟩ : ∃ V, W0.drew = V := ⟨_, rfl⟩
    have hd : W0.drew.heap = W0.heap := rfl
    rw [hV0] at hd
    have z0 := H0.out.1
    rw [← hd] at z0
    have B0 : Below w.heap.size w V0 := by rw [← hV0]; exact H0.out.2.drew
    have hzl : w.heap.size < V0.heap.size := (Array.getElem?_eq_some_iff.1 z0).1
    refine region_relA (S := fun V => Below V0.heap.size V0 V) (fun a0 a W => ∃ (p q : Nat) (xx : Nat → Value), (W.heap[p]? = some (.cells #[.int .u8 t1.kind, .string t1.name, .slice aa t1.attrs.length ac, .string t1.text] 46) ∧ W.heap[q]? = some (.cells #[.int .u8 t2.kind, .string t2.name, .slice ca t2.attrs.length cc, .string t2.text] 46) ∧ W.heap[w.heap.size]? = some (.cells (rqA zeroRq) 26) ∧ w.heap.size < p ∧ w.heap.size < q ∧ Below w.heap.size w W) ∧ a = ⟨((putA a0.tmps [12, 13, 14, 15, 16, 17] xx).setIfInBounds 3 (.pointer (some ⟨p, 0, none⟩))).setIfInBounds 4 (.pointer (some ⟨q, 0, none⟩)), a0.defers⟩) (by kernel_rfl) ?any ?fin
    case any =>
      rw [hV0]
      clear hV0
      have S0 : Below V0.heap.size V0 V0 := Below.refl _ _
      refine anyH_take (i := 0) (v := .slice (some ⟨b', off', none⟩) n cap) rfl (some 12) rfl (by kernel_rfl) (by kernel_rfl) (by kernel_rfl) (fun _ _ _ h => by cases h.1) rfl (fun w0 hw0 => by first | rfl | kernel_rfl) S0 ?_
      simp only [Act.put, List.setIfInBounds_toArray, List.set_cons_zero, List.set_cons_succ]
      refine anyH_take (i := 1) (v := .pointer (some ⟨b', off' + 1 * 4, none⟩)) rfl (some 13) rfl (by kernel_rfl) (by kernel_rfl) (by kernel_rfl) (fun _ _ _ h => by cases h.1) rfl (fun w0 hw0 => ex_idxTok rfl rfl rfl (by omega)) S0 ?_
      simp only [Act.put, List.setIfInBounds_toArray, List.set_cons_zero, List.set_cons_succ]
      refine anyH_take (i := 2) (v := .agg #[.int .u8 t1.kind, .string t1.name, .slice aa t1.attrs.length ac, .string t1.text]) rfl (some 14) rfl (by kernel_rfl) (by kernel_rfl) (by kernel_rfl) (fun _ _ _ h => by cases h.1) rfl (fun w0 hw0 => ex_load rfl rfl (load_tok (((B0.trans (hw0.mono (Nat.le_of_lt hzl))).cell (p := ⟨b', _, none⟩) hbl').trans HC.out.1) (((B0.trans (hw0.mono (Nat.le_of_lt hzl))).cell (p := ⟨b', _, none⟩) hbl').trans HC.out.2.1) (((B0.trans (hw0.mono (Nat.le_of_lt hzl))).cell (p := ⟨b', _, none⟩) hbl').trans HC.out.2.2.1) (((B0.trans (hw0.mono (Nat.le_of_lt hzl))).cell (p := ⟨b', _, none⟩) hbl').trans HC.out.2.2.2))) S0 ?_
      simp only [Act.put, List.setIfInBounds_toArray, List.set_cons_zero, List.set_cons_succ]
      refine anyH_take (i := 3) (v := .slice (some ⟨b', off', none⟩) n cap) rfl (some 15) rfl (by kernel_rfl) (by kernel_rfl) (by kernel_rfl) (fun _ _ _ h => by cases h.1) rfl (fun w0 hw0 => by first | rfl | kernel_rfl) S0 ?_
      simp only [Act.put, List.setIfInBounds_toArray, List.set_cons_zero, List.set_cons_succ]
      refine anyH_take (i := 4) (v := .pointer (some ⟨b', off' + 2 * 4, none⟩)) rfl (some 16) rfl (by kernel_rfl) (by kernel_rfl) (by kernel_rfl) (fun _ _ _ h => by cases h.1) rfl (fun w0 hw0 => ex_idxTok rfl rfl rfl (by omega)) S0 ?_
      simp only [Act.put, List.setIfInBounds_toArray, List.set_cons_zero, List.set_cons_succ]
      refine anyH_take (i := 5) (v := .agg #[.int .u8 t2.kind, .string t2.name, .slice ca t2.attrs.length cc, .string t2.text]) rfl (some 17) rfl (by kernel_rfl) (by kernel_rfl) (by kernel_rfl) (fun _ _ _ h => by cases h.1) rfl (fun w0 hw0 => ex_load rfl rfl (load_tok (((B0.trans (hw0.mono (Nat.le_of_lt hzl))).cell (p := ⟨b', _, none⟩) hbl').trans HD.out.1) (((B0.trans (hw0.mono (Nat.le_of_lt hzl))).cell (p := ⟨b', _, none⟩) hbl').trans HD.out.2.1) (((B0.trans (hw0.mono (Nat.le_of_lt hzl))).cell (p := ⟨b', _, none⟩) hbl').trans HD.out.2.2.1) (((B0.trans (hw0.mono (Nat.le_of_lt hzl))).cell (p := ⟨b', _, none⟩) hbl').trans HD.out.2.2.2))) S0 ?_
      simp only [Act.put, List.setIfInBounds_toArray, List.set_cons_zero, List.set_cons_succ]
      obtain ⟨V1, hV1⟩ : ∃ V, V0.alloc (.cells zTok 46) = V := ⟨_, rfl⟩
      obtain ⟨V2, hV2⟩ : ∃ V, V1.alloc (.cells zTok 46) = V := ⟨_, rfl⟩
      have S1 : Below V0.heap.size V0 V1 := by rw [← hV1]; exact S0.alloc (Nat.le_refl _) _
      have s1 : V1.heap.size = V0.heap.size + 1 := by rw [← hV1]; simp
      have S2 : Below V0.heap.size V0 V2 := by rw [← hV2]; exact S1.alloc (by omega) _
      have p1 : V1.heap[V0.heap.size]? = some (.cells zTok 46) := by rw [← hV1]; exact World.alloc_heap_new _ _
      have p2 : V2.heap[V0.heap.size]? = some (.cells zTok 46) := by rw [← hV2]; exact keep_alloc p1
      have q2 : V2.heap[V1.heap.size]? = some (.cells zTok 46) := by rw [← hV2]; exact World.alloc_heap_new _ _
      have ra1 : (Instr.alloc 46 true (.tuple #[])).run Tryd.prog V0 = .ok (.pointer (some ⟨V0.heap.size, 0, none⟩)) V1 := by rw [← hV1]; exact run_alloc_long infoTokZ V0
      have ra2 : (Instr.alloc 46 true (.tuple #[])).run Tryd.prog V1 = .ok (.pointer (some ⟨V1.heap.size, 0, none⟩)) V2 := by rw [← hV2]; exact run_alloc_long infoTokZ V1
      unfold zTok at p2 q2
      clear hV1 hV2 p1
      refine anyH_two (i := 6) (j := 7) (by kernel_rfl) ?first ?second
      case first =>
        refine op_run rfl (some 3) rfl rfl (ex_alloc rfl ra1) ⟨S1, ?_⟩
        simp only [Act.put, List.setIfInBounds_toArray, List.set_cons_zero, List.set_cons_succ]
        refine anyH_one (i := 7) (by kernel_rfl) (op_run rfl (some 4) rfl rfl (ex_alloc rfl ra2) ⟨S2, ?_⟩)
        simp only [Act.put, List.setIfInBounds_toArray, List.set_cons_zero, List.set_cons_succ]
        have u3 := setTk_run t1 aa ac p2
        have S3 : Below V0.heap.size V0 (setTk V2 V0.heap.size t1 aa ac) := setTk_below t1 aa ac S2 (by omega)
        have k3 := setTk_heap t1 aa ac p2
        have j3 := (setTk_far (w := V2) (b := V0.heap.size) t1 aa ac V1.heap.size (by omega)).trans q2
        obtain ⟨V3, hV3⟩ : ∃ V, setTk V2 V0.heap.size t1 aa ac = V := ⟨_, rfl⟩
        rw [hV3] at u3 S3 k3 j3
        have u4 := setTk_run t2 ca cc j3
        have S4 : Below V0.heap.size V0 (setTk V3 V1.heap.size t2 ca cc) := setTk_below t2 ca cc S3 (by omega)
        have k4 := setTk_heap t2 ca cc j3
        have j4 := (setTk_far (w := V3) (b := V1.heap.size) t2 ca cc V0.heap.size (by omega)).trans k3
        obtain ⟨V4, hV4⟩ : ∃ V, setTk V3 V1.heap.size t2 ca cc = V := ⟨_, rfl⟩
        rw [hV4] at u4 S4 k4 j4
        refine anyH_one (i := 8) (by kernel_rfl) (op_store rfl rfl rfl (ex_store rfl rfl rfl u3) ⟨S3, ?_⟩)
        simp only [Act.put]
        refine anyH_one (i := 9) (by kernel_rfl) (op_store rfl rfl rfl (ex_store rfl rfl rfl u4) ⟨S4, ?_⟩)
        simp only [Act.put]
        exact wpAnyH_done (by kernel_rfl) ⟨rfl, V0.heap.size, V1.heap.size, fill ⟨j4, k4, (S4.block _ hzl).trans z0, by omega, by omega, B0.trans (S4.mono (Nat.le_of_lt hzl))⟩ (by kernel_rfl)⟩ _
      case second =>
        refine op_run rfl (some 4) rfl rfl (ex_alloc rfl ra1) ⟨S1, ?_⟩
        simp only [Act.put, List.setIfInBounds_toArray, List.set_cons_zero, List.set_cons_succ]
        refine anyH_one (i := 6) (by kernel_rfl) (op_run rfl (some 3) rfl rfl (ex_alloc rfl ra2) ⟨S2, ?_⟩)
        simp only [Act.put, List.setIfInBounds_toArray, List.set_cons_zero, List.set_cons_succ]
        have u3 := setTk_run t1 aa ac q2
        have S3 : Below V0.heap.size V0 (setTk V2 V1.heap.size t1 aa ac) := setTk_below t1 aa ac S2 (by omega)
        have k3 := setTk_heap t1 aa ac q2
        have j3 := (setTk_far (w := V2) (b := V1.heap.size) t1 aa ac V0.heap.size (by omega)).trans p2
        obtain ⟨V3, hV3⟩ : ∃ V, setTk V2 V1.heap.size t1 aa ac = V := ⟨_, rfl⟩
        rw [hV3] at u3 S3 k3 j3
        have u4 := setTk_run t2 ca cc j3
        have S4 : Below V0.heap.size V0 (setTk V3 V0.heap.size t2 ca cc) := setTk_below t2 ca cc S3 (by omega)
        have k4 := setTk_heap t2 ca cc j3
        have j4 := (setTk_far (w := V3) (b := V0.heap.size) t2 ca cc V1.heap.size (by omega)).trans k3
        obtain ⟨V4, hV4⟩ : ∃ V, setTk V3 V0.heap.size t2 ca cc = V := ⟨_, rfl⟩
        rw [hV4] at u4 S4 k4 j4
        refine anyH_one (i := 8) (by kernel_rfl) (op_store rfl rfl rfl (ex_store rfl rfl rfl u3) ⟨S3, ?_⟩)
        simp only [Act.put]
        refine anyH_one (i := 9) (by kernel_rfl) (op_store rfl rfl rfl (ex_store rfl rfl rfl u4) ⟨S4, ?_⟩)
        simp only [Act.put]
        exact wpAnyH_done (by kernel_rfl) ⟨rfl, V1.heap.size, V0.heap.size, fill ⟨j4, k4, (S4.block _ hzl).trans z0, by omega, by omega, B0.trans (S4.mono (Nat.le_of_lt hzl))⟩ (by kernel_rfl)⟩ _
    rintro a W3 ⟨p, q, xx, ⟨hp, hq, hz, hlp, hlq, hB⟩, rfl⟩
    clear hV0 hd z0 B0 hzl V0
    simp only [putA, List.foldl_cons, List.foldl_nil, List.setIfInBounds_toArray, List.set_cons_zero, List.set_cons_succ]
    have H3 := hide (And.intro hp (And.intro hq (And.intro hz (And.intro hB True.intro))))
    clear hp hq hz hB
    go_wp2_with fail
    obtain ⟨V0, hV0⟩ : ∃ V, W3.drew = V := ⟨_, rfl⟩
    have hd : W3.drew.heap = W3.heap := rfl
    rw [hV0] at hd
    have fp0 := H3.out.1
    have fq0 := H3.out.2.1
    have z0 := H3.out.2.2.1
    rw [← hd] at fp0 fq0 z0
    have B0 : Below w.heap.size w V0 := by rw [← hV0]; exact H3.out.2.2.2.1.drew
    refine region_relA (S := fun V => V.heap[p]? = some (.cells #[.int .u8 t1.kind, .string t1.name, .slice aa t1.attrs.length ac, .string t1.text] 46) ∧ V.heap[q]? = some (.cells #[.int .u8 t2.kind, .string t2.name, .slice ca t2.attrs.length cc, .string t2.text] 46)) (fun a0 a W => ∃ (s k : Nat) (xx : Nat → Value), ((k < 16 ∧ FindR verbsL t1.name k) ∧ W.heap[s]? = some (.cells (rqA { zeroRq with verb := k, text := t2.text }) 26) ∧ W.heap[p]? = some (.cells #[.int .u8 t1.kind, .string t1.name, .slice aa t1.attrs.length ac, .string t1.text] 46) ∧ W.heap[w.heap.size]? = some (.cells (rqA zeroRq) 26) ∧ w.heap.size < s ∧ s ≠ p ∧ Below w.heap.size w W) ∧ a = ⟨(putA a0.tmps [18, 19, 20, 21, 22, 23, 24, 25] xx).setIfInBounds 5 (.pointer (some ⟨s, 0, none⟩)), a0.defers⟩) (by kernel_rfl) ?any4 ?fin4
    case any4 =>
      rw [hV0]
      clear hV0 hd
      refine anyH_take (i := 1) (v := .pointer (some ⟨p, 1, none⟩)) rfl (some 19) rfl (by kernel_rfl) (by kernel_rfl) (by kernel_rfl) (fun _ _ _ h => by cases h.1) rfl (fun w0 hw0 => by first | rfl | kernel_rfl) ⟨fp0, fq0⟩ ?_
      simp only [Act.put, List.setIfInBounds_toArray, List.set_cons_zero, List.set_cons_succ]
      refine anyH_take (i := 2) (v := .string t1.name) rfl (some 20) rfl (by kernel_rfl) (by kernel_rfl) (by kernel_rfl) (fun _ _ _ h => by cases h.1) rfl (fun w0 hw0 => ex_load rfl rfl (ldS (by simp [World.cell?, hw0.1]))) ⟨fp0, fq0⟩ ?_
      simp only [Act.put, List.setIfInBounds_toArray, List.set_cons_zero, List.set_cons_succ]
      refine anyH_take (i := 5) (v := .pointer (some ⟨q, 3, none⟩)) rfl (some 23) rfl (by kernel_rfl) (by kernel_rfl) (by kernel_rfl) (fun _ _ _ h => by cases h.1) rfl (fun w0 hw0 => by first | rfl | kernel_rfl) ⟨fp0, fq0⟩ ?_
      simp only [Act.put, List.setIfInBounds_toArray, List.set_cons_zero, List.set_cons_succ]
      refine anyH_take (i := 6) (v := .string t2.text) rfl (some 24) rfl (by kernel_rfl) (by kernel_rfl) (by kernel_rfl) (fun _ _ _ h => by cases h.1) rfl (fun w0 hw0 => ex_load rfl rfl (ldS (by simp [World.cell?, hw0.2]))) ⟨fp0, fq0⟩ ?_
      simp only [Act.put, List.setIfInBounds_toArray, List.set_cons_zero, List.set_cons_succ]
      refine anyH_two (i := 0) (j := 8) (by kernel_rfl) ?first ?second
      case second =>
        obtain ⟨V1, hV⟩ : ∃ V, V0.alloc (.cells (rqA zeroRq) 26) = V := ⟨_, rfl⟩
        have c1 : Below V0.heap.size V0 V1 := by rw [← hV]; exact (Below.refl _ _).alloc (Nat.le_refl _) _
        have ra : (Instr.alloc 26 true (.tuple #[])).run Tryd.prog V0 = .ok (.pointer (some ⟨V0.heap.size, 0, none⟩)) V1 := by rw [← hV]; exact run_alloc_long infoRqZ V0
        have fs1 : V1.heap[V0.heap.size]? = some (.cells (rqA zeroRq) 26) := by rw [← hV]; exact World.alloc_heap_new _ _
        clear hV
        obtain ⟨s, hs⟩ : ∃ s, V0.heap.size = s := ⟨_, rfl⟩
        have hsz : w.heap.size < s := by rw [← hs]; exact (Array.getElem?_eq_some_iff.1 z0).1
        have hsp : s ≠ p := by have := (Array.getElem?_eq_some_iff.1 fp0).1; omega
        have fp1 := (c1.block _ (Array.getElem?_eq_some_iff.1 fp0).1).trans fp0
        have fq1 := (c1.block _ (Array.getElem?_eq_some_iff.1 fq0).1).trans fq0
        have z1 := (c1.block _ (Array.getElem?_eq_some_iff.1 z0).1).trans z0
        have B1 := B0.trans (c1.mono B0.size)
        rw [hs] at ra fs1
        clear hs
        refine op_run rfl (some 5) rfl rfl (ex_alloc rfl ra) ⟨⟨fp1, fq1⟩, ?_⟩
        simp only [Act.put, List.setIfInBounds_toArray, List.set_cons_zero, List.set_cons_succ]
        refine anyH_one (i := 0) (by kernel_rfl) ?_
        refine op_call rfl (some 18) rfl rfl #[] rfl (by simp) (fun _ _ => rfl) (verbs_any V1) ?_
        rintro e V2 ⟨rfl, c2⟩
        have fp2 := (c2.block _ (Array.getElem?_eq_some_iff.1 fp1).1).trans fp1
        have fq2 := (c2.block _ (Array.getElem?_eq_some_iff.1 fq1).1).trans fq1
        have z2 := (c2.block _ (Array.getElem?_eq_some_iff.1 z1).1).trans z1
        have B2 := B1.trans (c2.mono B1.size)
        have fs2 := (c2.block _ (Array.getElem?_eq_some_iff.1 fs1).1).trans fs1
        refine ⟨_, rfl, ⟨fp2, fq2⟩, ?_⟩
        simp only [Act.put, List.setIfInBounds_toArray, List.set_cons_zero, List.set_cons_succ]
        refine anyH_one (i := 3) (by kernel_rfl) ?_
        refine op_call rfl (some 21) rfl rfl #[.agg (w16 verbsL), .string t1.name] rfl (by simp [Act.eval]) (fun _ _ => rfl) (find_any verbsL rfl t1.name V2) ?_
        rintro e V3 ⟨⟨k, hk, hF, rfl⟩, c3⟩
        have fp3 := (c3.block _ (Array.getElem?_eq_some_iff.1 fp2).1).trans fp2
        have fq3 := (c3.block _ (Array.getElem?_eq_some_iff.1 fq2).1).trans fq2
        have z3 := (c3.block _ (Array.getElem?_eq_some_iff.1 z2).1).trans z2
        have B3 := B2.trans (c3.mono B2.size)
        have fs3 := (c3.block _ (Array.getElem?_eq_some_iff.1 fs2).1).trans fs2
        refine ⟨_, rfl, ⟨fp3, fq3⟩, ?_⟩
        simp only [Act.put, List.setIfInBounds_toArray, List.set_cons_zero, List.set_cons_succ]
        refine anyH_take (i := 4) (v := .int .u8 k) rfl (some 22) rfl (by kernel_rfl) (by kernel_rfl) (by kernel_rfl) (fun _ _ _ h => by cases h.1) rfl (fun w0 hw0 => ex_convVerb rfl rfl hk) ⟨fp3, fq3⟩ ?_
        simp only [Act.put, List.setIfInBounds_toArray, List.set_cons_zero, List.set_cons_succ]
        refine anyH_take (i := 7) (v := .agg (rqA { zeroRq with verb := k, text := t2.text })) rfl (some 25) rfl (by kernel_rfl) (by kernel_rfl) (by kernel_rfl) (fun _ _ _ h => by cases h.1) rfl (fun w0 hw0 => ex_bldRq rfl rfl rfl) ⟨fp3, fq3⟩ ?_
        simp only [Act.put, List.setIfInBounds_toArray, List.set_cons_zero, List.set_cons_succ]
        have u := setRq_run { zeroRq with verb := k, text := t2.text } fs3
        have e1 := setRq_heap { zeroRq with verb := k, text := t2.text } fs3
        have e2 := (setRq_far (w := V3) (b := s) { zeroRq with verb := k, text := t2.text } p (fun e => hsp e.symm)).trans fp3
        have hsq : s ≠ q := fun e => by rw [e, fq3] at fs3; injection fs3 with h; injection h with _ h; exact absurd h (by decide)
        have e3 := (setRq_far (w := V3) (b := s) { zeroRq with verb := k, text := t2.text } q (fun e => hsq e.symm)).trans fq3
        have e4 := (setRq_far (w := V3) (b := s) { zeroRq with verb := k, text := t2.text } w.heap.size (by omega)).trans z3
        have e5 := setRq_below { zeroRq with verb := k, text := t2.text } B3 (Nat.le_of_lt hsz)
        obtain ⟨V9, hV9⟩ : ∃ V, setRq V3 s { zeroRq with verb := k, text := t2.text } = V := ⟨_, rfl⟩
        rw [hV9] at u e1 e2 e3 e4 e5
        refine anyH_one (i := 9) (by kernel_rfl) (op_store rfl rfl rfl (ex_store rfl rfl rfl u) ⟨⟨e2, e3⟩, ?_⟩)
        simp only [Act.put]
        exact wpAnyH_done (by kernel_rfl) ⟨rfl, s, k, fill ⟨⟨hk, hF⟩, e1, e2, e4, hsz, hsp, e5⟩ (by kernel_rfl)⟩ _
      case first =>
        refine op_call rfl (some 18) rfl rfl #[] rfl (by simp) (fun _ _ => rfl) (verbs_any V0) ?_
        rintro e V1 ⟨rfl, c1⟩
        have fp1 := (c1.block _ (Array.getElem?_eq_some_iff.1 fp0).1).trans fp0
        have fq1 := (c1.block _ (Array.getElem?_eq_some_iff.1 fq0).1).trans fq0
        have z1 := (c1.block _ (Array.getElem?_eq_some_iff.1 z0).1).trans z0
        have B1 := B0.trans (c1.mono B0.size)
        refine ⟨_, rfl, ⟨fp1, fq1⟩, ?_⟩
        simp only [Act.put, List.setIfInBounds_toArray, List.set_cons_zero, List.set_cons_succ]
        refine anyH_two (i := 3) (j := 8) (by kernel_rfl) ?ff ?fs
        case ff =>
          refine op_call rfl (some 21) rfl rfl #[.agg (w16 verbsL), .string t1.name] rfl (by simp [Act.eval]) (fun _ _ => rfl) (find_any verbsL rfl t1.name V1) ?_
          rintro e V2 ⟨⟨k, hk, hF, rfl⟩, c2⟩
          have fp2 := (c2.block _ (Array.getElem?_eq_some_iff.1 fp1).1).trans fp1
          have fq2 := (c2.block _ (Array.getElem?_eq_some_iff.1 fq1).1).trans fq1
          have z2 := (c2.block _ (Array.getElem?_eq_some_iff.1 z1).1).trans z1
          have B2 := B1.trans (c2.mono B1.size)
          refine ⟨_, rfl, ⟨fp2, fq2⟩, ?_⟩
          simp only [Act.put, List.setIfInBounds_toArray, List.set_cons_zero, List.set_cons_succ]
          refine anyH_take (i := 4) (v := .int .u8 k) rfl (some 22) rfl (by kernel_rfl) (by kernel_rfl) (by kernel_rfl) (fun _ _ _ h => by cases h.1) rfl (fun w0 hw0 => ex_convVerb rfl rfl hk) ⟨fp2, fq2⟩ ?_
          simp only [Act.put, List.setIfInBounds_toArray, List.set_cons_zero, List.set_cons_succ]
          refine anyH_take (i := 7) (v := .agg (rqA { zeroRq with verb := k, text := t2.text })) rfl (some 25) rfl (by kernel_rfl) (by kernel_rfl) (by kernel_rfl) (fun _ _ _ h => by cases h.1) rfl (fun w0 hw0 => ex_bldRq rfl rfl rfl) ⟨fp2, fq2⟩ ?_
          simp only [Act.put, List.setIfInBounds_toArray, List.set_cons_zero, List.set_cons_succ]
          obtain ⟨V3, hV⟩ : ∃ V, V2.alloc (.cells (rqA zeroRq) 26) = V := ⟨_, rfl⟩
          have c3 : Below V2.heap.size V2 V3 := by rw [← hV]; exact (Below.refl _ _).alloc (Nat.le_refl _) _
          have ra : (Instr.alloc 26 true (.tuple #[])).run Tryd.prog V2 = .ok (.pointer (some ⟨V2.heap.size, 0, none⟩)) V3 := by rw [← hV]; exact run_alloc_long infoRqZ V2
          have fs3 : V3.heap[V2.heap.size]? = some (.cells (rqA zeroRq) 26) := by rw [← hV]; exact World.alloc_heap_new _ _
          clear hV
          obtain ⟨s, hs⟩ : ∃ s, V2.heap.size = s := ⟨_, rfl⟩
          have hsz : w.heap.size < s := by rw [← hs]; exact (Array.getElem?_eq_some_iff.1 z2).1
          have hsp : s ≠ p := by have := (Array.getElem?_eq_some_iff.1 fp2).1; omega
          have fp3 := (c3.block _ (Array.getElem?_eq_some_iff.1 fp2).1).trans fp2
          have fq3 := (c3.block _ (Array.getElem?_eq_some_iff.1 fq2).1).trans fq2
          have z3 := (c3.block _ (Array.getElem?_eq_some_iff.1 z2).1).trans z2
          have B3 := B2.trans (c3.mono B2.size)
          rw [hs] at ra fs3
          clear hs
          refine anyH_one (i := 8) (by kernel_rfl) ?_
          refine op_run rfl (some 5) rfl rfl (ex_alloc rfl ra) ⟨⟨fp3, fq3⟩, ?_⟩
          simp only [Act.put, List.setIfInBounds_toArray, List.set_cons_zero, List.set_cons_succ]
          have u := setRq_run { zeroRq with verb := k, text := t2.text } fs3
          have e1 := setRq_heap { zeroRq with verb := k, text := t2.text } fs3
          have e2 := (setRq_far (w := V3) (b := s) { zeroRq with verb := k, text := t2.text } p (fun e => hsp e.symm)).trans fp3
          have hsq : s ≠ q := fun e => by rw [e, fq3] at fs3; injection fs3 with h; injection h with _ h; exact absurd h (by decide)
          have e3 := (setRq_far (w := V3) (b := s) { zeroRq with verb := k, text := t2.text } q (fun e => hsq e.symm)).trans fq3
          have e4 := (setRq_far (w := V3) (b := s) { zeroRq with verb := k, text := t2.text } w.heap.size (by omega)).trans z3
          have e5 := setRq_below { zeroRq with verb := k, text := t2.text } B3 (Nat.le_of_lt hsz)
          obtain ⟨V9, hV9⟩ : ∃ V, setRq V3 s { zeroRq with verb := k, text := t2.text } = V := ⟨_, rfl⟩
          rw [hV9] at u e1 e2 e3 e4 e5
          refine anyH_one (i := 9) (by kernel_rfl) (op_store rfl rfl rfl (ex_store rfl rfl rfl u) ⟨⟨e2, e3⟩, ?_⟩)
          simp only [Act.put]
          exact wpAnyH_done (by kernel_rfl) ⟨rfl, s, k, fill ⟨⟨hk, hF⟩, e1, e2, e4, hsz, hsp, e5⟩ (by kernel_rfl)⟩ _
        case fs =>
          obtain ⟨V2, hV⟩ : ∃ V, V1.alloc (.cells (rqA zeroRq) 26) = V := ⟨_, rfl⟩
          have c2 : Below V1.heap.size V1 V2 := by rw [← hV]; exact (Below.refl _ _).alloc (Nat.le_refl _) _
          have ra : (Instr.alloc 26 true (.tuple #[])).run Tryd.prog V1 = .ok (.pointer (some ⟨V1.heap.size, 0, none⟩)) V2 := by rw [← hV]; exact run_alloc_long infoRqZ V1
          have fs2 : V2.heap[V1.heap.size]? = some (.cells (rqA zeroRq) 26) := by rw [← hV]; exact World.alloc_heap_new _ _
          clear hV
          obtain ⟨s, hs⟩ : ∃ s, V1.heap.size = s := ⟨_, rfl⟩
          have hsz : w.heap.size < s := by rw [← hs]; exact (Array.getElem?_eq_some_iff.1 z1).1
          have hsp : s ≠ p := by have := (Array.getElem?_eq_some_iff.1 fp1).1; omega
          have fp2 := (c2.block _ (Array.getElem?_eq_some_iff.1 fp1).1).trans fp1
          have fq2 := (c2.block _ (Array.getElem?_eq_some_iff.1 fq1).1).trans fq1
          have z2 := (c2.block _ (Array.getElem?_eq_some_iff.1 z1).1).trans z1
          have B2 := B1.trans (c2.mono B1.size)
          rw [hs] at ra fs2
          clear hs
          refine op_run rfl (some 5) rfl rfl (ex_alloc rfl ra) ⟨⟨fp2, fq2⟩, ?_⟩
          simp only [Act.put, List.setIfInBounds_toArray, List.set_cons_zero, List.set_cons_succ]
          refine anyH_one (i := 3) (by kernel_rfl) ?_
          refine op_call rfl (some 21) rfl rfl #[.agg (w16 verbsL), .string t1.name] rfl (by simp [Act.eval]) (fun _ _ => rfl) (find_any verbsL rfl t1.name V2) ?_
          rintro e V3 ⟨⟨k, hk, hF, rfl⟩, c3⟩
          have fp3 := (c3.block _ (Array.getElem?_eq_some_iff.1 fp2).1).trans fp2
          have fq3 := (c3.block _ (Array.getElem?_eq_some_iff.1 fq2).1).trans fq2
          have z3 := (c3.block _ (Array.getElem?_eq_some_iff.1 z2).1).trans z2
          have B3 := B2.trans (c3.mono B2.size)
          have fs3 := (c3.block _ (Array.getElem?_eq_some_iff.1 fs2).1).trans fs2
          refine ⟨_, rfl, ⟨fp3, fq3⟩, ?_⟩
          simp only [Act.put, List.setIfInBounds_toArray, List.set_cons_zero, List.set_cons_succ]
          refine anyH_take (i := 4) (v := .int .u8 k) rfl (some 22) rfl (by kernel_rfl) (by kernel_rfl) (by kernel_rfl) (fun _ _ _ h => by cases h.1) rfl (fun w0 hw0 => ex_convVerb rfl rfl hk) ⟨fp3, fq3⟩ ?_
          simp only [Act.put, List.setIfInBounds_toArray, List.set_cons_zero, List.set_cons_succ]
          refine anyH_take (i := 7) (v := .agg (rqA { zeroRq with verb := k, text := t2.text })) rfl (some 25) rfl (by kernel_rfl) (by kernel_rfl) (by kernel_rfl) (fun _ _ _ h => by cases h.1) rfl (fun w0 hw0 => ex_bldRq rfl rfl rfl) ⟨fp3, fq3⟩ ?_
          simp only [Act.put, List.setIfInBounds_toArray, List.set_cons_zero, List.set_cons_succ]
          have u := setRq_run { zeroRq with verb := k, text := t2.text } fs3
          have e1 := setRq_heap { zeroRq with verb := k, text := t2.text } fs3
          have e2 := (setRq_far (w := V3) (b := s) { zeroRq with verb := k, text := t2.text } p (fun e => hsp e.symm)).trans fp3
          have hsq : s ≠ q := fun e => by rw [e, fq3] at fs3; injection fs3 with h; injection h with _ h; exact absurd h (by decide)
          have e3 := (setRq_far (w := V3) (b := s) { zeroRq with verb := k, text := t2.text } q (fun e => hsq e.symm)).trans fq3
          have e4 := (setRq_far (w := V3) (b := s) { zeroRq with verb := k, text := t2.text } w.heap.size (by omega)).trans z3
          have e5 := setRq_below { zeroRq with verb := k, text := t2.text } B3 (Nat.le_of_lt hsz)
          obtain ⟨V9, hV9⟩ : ∃ V, setRq V3 s { zeroRq with verb := k, text := t2.text } = V := ⟨_, rfl⟩
          rw [hV9] at u e1 e2 e3 e4 e5
          refine anyH_one (i := 9) (by kernel_rfl) (op_store rfl rfl rfl (ex_store rfl rfl rfl u) ⟨⟨e2, e3⟩, ?_⟩)
          simp only [Act.put]
          exact wpAnyH_done (by kernel_rfl) ⟨rfl, s, k, fill ⟨⟨hk, hF⟩, e1, e2, e4, hsz, hsp, e5⟩ (by kernel_rfl)⟩ _
    rintro a W4 ⟨s, k, xx, ⟨hk, hs, hp4, hz4, hls, hsp, hB4⟩, rfl⟩
    clear hV0 hd fp0 fq0 z0 B0 V0
    simp only [putA, List.foldl_cons, List.foldl_nil, List.setIfInBounds_toArray, List.set_cons_zero, List.set_cons_succ]
    have cp : W4.cell? ⟨p, 2, none⟩ = some (.slice aa t1.attrs.length ac) := by simp [World.cell?, hp4]
    have H4 := hide (And.intro hk (And.intro hs (And.intro hz4 (And.intro hB4 True.intro))))
    obtain ⟨m, hm⟩ : ∃ m, t1.attrs.length = m := ⟨_, rfl⟩
    have HM := hide hm
    have hmb : m ≤ 4398046510976 := by rw [← hm]; exact HA.out.2.2.1.1
    rw [hm] at cp
    clear hk hs hp4 hz4 hB4 hm
    go_wp2_with fail
    go_loopw [29] (fun iv wr => ∃ (i : Nat) (r : Rq), i ≤ m ∧ iv = .int .i64 i ∧ TakesR { zeroRq with verb := k, text := t2.text } (t1.attrs.take i) r ∧ RqFits r ∧ wr.heap[s]? = some (.cells (rqA r) 26) ∧ wr.heap[w.heap.size]? = some (.cells (rqA zeroRq) 26) ∧ Below w.heap.size w wr) (fun iv _ => m - (intOf iv).toNat)
    case atStart =>
      have hz := HT.out.2.2.2
      exact ⟨0, { zeroRq with verb := k, text := t2.text }, Nat.zero_le _, rfl, by simp [TakesR], ⟨show k ≤ 255 by have := H4.out.1.1; omega, hz.node, hz.item, hz.jid, hz.role, hz.acc, hz.max0, hz.max1, hz.depth0, hz.depth1, hz.parent, HA.out.2.2.2.2⟩, H4.out.2.1, H4.out.2.2.1, H4.out.2.2.2.1⟩
    case round =>
      obtain ⟨i, r, him, rfl, hTk, hfit, hbs, hbz, hbel⟩ := hrel
      have HR := hide (And.intro hTk (And.intro hfit (And.intro hbs (And.intro hbz hbel))))
      clear hTk hfit hbs hbz hbel
      by_cases hlt : (i : Int) < m
      · obtain ⟨x, hx⟩ : ∃ x, t1.attrs[i]? = some x := ⟨_, List.getElem?_eq_getElem (by have := HM.out; omega)⟩
        obtain ⟨g, go, hga, hgl, g0, g1⟩ := HA.out.2.2.1.2.2 i x hx
        subst hga
        have e0 := (HR.out.2.2.2.2.cell (p := ⟨g, _, none⟩) hgl).trans g0
        have e1 := (HR.out.2.2.2.2.cell (p := ⟨g, _, none⟩) hgl).trans g1
        obtain ⟨Wb, hWb⟩ : ∃ W, wr.alloc (.cells #[.string x.1, .string x.2] 49) = W := ⟨_, rfl⟩
        have bb : Below wr.heap.size wr Wb := by rw [← hWb]; exact (Below.refl _ _).alloc (Nat.le_refl _) _
        have fb : Wb.heap[wr.heap.size]? = some (.cells #[.string x.1, .string x.2] 49) := by rw [← hWb]; exact World.alloc_heap_new _ _
        have hmem := List.mem_of_getElem? hx
        have hm1 := List.mem_of_getElem? HA.out.1
        have fs1 := (bb.block _ (Array.getElem?_eq_some_iff.1 HR.out.2.2.1).1).trans HR.out.2.2.1
        have BW : Below w.heap.size w Wb := HR.out.2.2.2.2.trans (bb.mono HR.out.2.2.2.2.size)
        have HTk := hide (take_any s r x.1 x.2 Wb fs1 (HT.out.2.1 t1 hm1 x hmem) (HT.out.2.2.1.below BW))
        have y0 : Wb.cell? ⟨wr.heap.size, 0, none⟩ = some (.string x.1) := by simp [World.cell?, fb]
        have y1 : Wb.cell? ⟨wr.heap.size, 1, none⟩ = some (.string x.2) := by simp [World.cell?, fb]
        have HX := hide (And.intro hx (And.intro (HA.out.2.2.1.2.1 x hmem).2 (And.intro bb BW)))
        clear hx hgl g0 g1 bb fb hmem hm1 fs1 BW
        go_wp2_with fail
        clear e0 e1 y0 y1 hWb
        refine HTk.out.mono ?_
        rintro e Wc ⟨rfl, ⟨r', hr', hbr⟩, hgr⟩
        have hbz2 : Wc.heap[w.heap.size]? = some (.cells (rqA zeroRq) 26) := by
          have h1 := (HX.out.2.2.1.block _ (Array.getElem?_eq_some_iff.1 HR.out.2.2.2.1).1).trans HR.out.2.2.2.1
          exact (hgr.block _ (Array.getElem?_eq_some_iff.1 h1).1 (fun e => by injection e with e; omega)).trans h1
        have hbel2 : Below w.heap.size w Wc := HX.out.2.2.2.grown hgr HX.out.2.2.2.size (fun k e => by injection e with e; omega)
        have HY := hide (And.intro hr' (And.intro hbr (And.intro hbz2 hbel2)))
        clear hr' hbr hgr hbz2 hbel2
        go_wp2_with fail
        go_roundw
        case rel => exact ⟨i + 1, r', by omega, by simp, by rw [List.take_add_one, HX.out.1]; exact takes_snoc HY.out.1 _ _ HR.out.1, take_fits HR.out.2.1 HX.out.2.1 HY.out.1, HY.out.2.1, HY.out.2.2.1, HY.out.2.2.2⟩
        case measure => simp [intOf]; omega
      · obtain rfl : m = i := by omega
        have hfin := HR.out.1
        rw [List.take_of_length_le (by have := HM.out; omega)] at hfin
        have HFin := hide hfin
        clear hfin
        have hld := load_rq HR.out.2.2.1
        go_wp2_with (refine l_load _ hld rfl rfl rfl ?_; refine stopR ?_)
        unfold Hid
        refine l_store _ (setRq_run r HR.out.2.2.2.1) rfl rfl rfl rfl ?_
        clear hld
        go_wp2_with fail
        exact bodyPost_ret (results_rq rfl rfl (setRq_heap r HR.out.2.2.2.1)) rfl ⟨⟨r, rfl, .inr ⟨t1, t2, k, HA.out.1, HA.out.2.1, H4.out.1.1, H4.out.1.2, HFin.out⟩, HR.out.2.1⟩, setRq_below r HR.out.2.2.2.2 (Nat.le_refl _)⟩
end Go.Proofs.YtimhkgpjfppkmaaDoor
