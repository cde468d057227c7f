/- The sort, and whether a text begins so. rising: the pairs whose keys begin so, one by one. Scan: the pairs whose keys begin so, as a list. -/
import Derived.Test.YtnbemfddcjhcaaaKB
import Derived.Test.YtnbemfddcjhcaaaKLay
import Derived.Shelf.Slices.In.SortAlone
import Derived.Shelf.Slices.In.SortNone
import Derived.Sort.EveryDepth
import Derived.Sort.OwnSorted
import Derived.Maps.AppendAt
import Derived.Deep.RegionHeld3
namespace Go.Proofs.Ytnbemfddcjhcaaa.Kv
open Go.RowKit Go.Sort Go.Shelf

def strC (l : List ByteArray) : List Value := l.map Value.string
theorem info9 : (Try.prog.info? 9).map (fun i => (i.zero, i.size, i.bytes)) = some (some (.string ⟨#[]⟩), 1, 16) := by kernel_rfl
def ofS (l : Str) : ByteArray := ⟨l.toArray⟩
theorem ofS_toList (a : ByteArray) : ofS a.toList = a := ba_ext (by rw [ByteArray.toList_eq, ByteArray.toList_eq]; simp [ofS])
theorem toList_ofS (l : Str) : (ofS l).toList = l := by rw [ByteArray.toList_eq]; simp [ofS]
/-- Texts, sorted. -/
def sortS (ks : List ByteArray) : List ByteArray := ((ks.map ByteArray.toList).mergeSort fun x y => decide (x ≤ y)).map ofS
theorem sortS_len (ks : List ByteArray) : (sortS ks).length = ks.length := by simp [sortS]
theorem strC_enc (ks : List ByteArray) : strC ks = (ks.map ByteArray.toList).map encStr := by
  unfold strC
  rw [List.map_map]
  apply List.map_congr_left
  intro x _
  show Value.string x = Value.string (ofS x.toList)
  rw [ofS_toList]
theorem sort_any (base : Nat) (v : Value) (ks : List ByteArray) (w : World) (h : w.ownsRow base 9 1 v ks.length (strC ks)) (hs : ks.length ≤ 1000000) :
    Calls Try.prog 39 #[v] w fun e w' => e = .returned (.tuple #[]) ∧ w'.ownsRow base 9 1 v ks.length (strC (sortS ks)) ∧ w.grownBy w' v.ownBlock := by
  obtain ⟨h1, ⟨rfl, h2⟩ | ⟨g, cap, cur, rfl, x1, x2, x3, x4, x5, x6⟩⟩ := h
  · have hk : ks = [] := List.eq_nil_of_length_eq_zero h2
    subst hk
    refine (calls_of_every_depth fun D => AnyS.slices_Sort_string_none_alone lays190 D none 0 w).mono ?_
    rintro e w' ⟨rfl, rfl⟩
    refine ⟨rfl, ?_, World.grownBy.refl _ _⟩
    rw [show sortS [] = [] by simp [sortS]]
    exact World.ownsRow_nil _ _ _ _
  · have hl : (ks.map ByteArray.toList).length = ks.length := by simp
    have hH : Holds encStr w g 0 (ks.map ByteArray.toList).toArray := holds_of_block x2 (by
      rw [hl, ← strC_enc, ← x6, Nat.mul_one])
    have hc := calls_of_every_depth fun D => AnyS.slices_Sort_string_alone lays190 D g 0 cap (ks.map ByteArray.toList) w hH (hp_lt x2) (by rw [hl]; omega)
    rw [hl] at hc
    refine Calls.mono hc ?_
    rintro e w' ⟨rfl, n, os, rfl⟩
    have ho := ownsRow_sorted (w := w) (base := base) (g := g) (cap := cap) (n := n) (e := 9) (os := os) (cur := cur) (ss := ks.map ByteArray.toList) (ts := (ks.map ByteArray.toList).mergeSort fun x y => decide (x ≤ y)) (by simp) x1 x2 (by rw [hl]; exact x3) x4 x5
    rw [hl] at ho
    refine ⟨rfl, ?_, grownBy_sorted _⟩
    have he : strC (sortS ks) = ((ks.map ByteArray.toList).mergeSort fun x y => decide (x ≤ y)).map encStr := by
      unfold strC sortS
      rw [List.map_map]
      rfl
    rw [he]
    exact ho
/-- Does a text begin so? -/
def begB (p k : ByteArray) : Bool := decide (p.size ≤ k.size) && ((k.extract 0 p.size).toList == p.toList)
theorem begins_any (k p : ByteArray) (w : World) : Calls Try.prog 48 #[.string k, .string p] w fun e w' => e = .returned (.bool (begB p k)) ∧ w' = w := by
  unfold begB
  by_cases h : p.size ≤ k.size
  · have hi : (p.size : Int) ≤ k.size := by omega
    rw [decide_eq_true h, Bool.true_and]
    go_enter Try.func48, Try.ntmps48
    go_wp2_with fail
    go_ret
    exact ⟨rfl, rfl⟩
  · have hi : ¬ ((p.size : Int) ≤ k.size) := by omega
    rw [decide_eq_false h, Bool.false_and]
    go_enter Try.func48, Try.ntmps48
    go_wp2_with fail
    go_ret
    exact ⟨rfl, rfl⟩
theorem hasPrefix_any (k p : ByteArray) (w : World) : Calls Try.prog 38 #[.string k, .string p] w fun e w' => e = .returned (.bool (begB p k)) ∧ w' = w := by
  obtain ⟨r, hr⟩ : ∃ r, begB p k = r := ⟨_, rfl⟩
  have H := hide (begins_any k p w)
  rw [hr] at H ⊢
  clear hr
  go_enter Try.func38, Try.ntmps38
  go_wp2_with (go_at_call 48; refine H.out.mono ?_; rintro e w' ⟨rfl, hw⟩; rw [hw]; clear hw)
  go_ret
  exact ⟨rfl, rfl⟩
/-- The pairs whose keys begin so. -/
def scanM (L : List Pr) (p : ByteArray) : List Pr := L.filter fun x => begB p x.1
/-- Keys of entries that begin so, in whatever order, sorted: those of the pairs, rising. -/
theorem sorted_keys {L : List Pr} {D : List En} {l : List En} {c : Nat} {p : ByteArray} (hR : Rising L) (ho : MOk l c) (hp : ∀ x, x ∈ prs l ↔ x ∈ L) (hD : D.Perm l) : sortS ((D.filter fun x => begB p x.k).map (·.k)) = (scanM L p).map (·.1) := by
  have hpm : ((D.filter fun x => begB p x.k).map (·.k)).Perm ((scanM L p).map (·.1)) := by
    have h1 : ((D.filter fun x => begB p x.k).map (·.k)).Perm ((l.filter fun x => begB p x.k).map (·.k)) := (hD.filter _).map _
    have h2 : (l.filter fun x => begB p x.k).map (·.k) = ((prs l).filter fun x => begB p x.1).map (·.1) := by
      unfold prs
      rw [List.filter_map, List.map_map]
      rfl
    rw [h2] at h1
    exact h1.trans (((prs_perm ho hR hp).filter _).map _)
  have hsr : (((scanM L p).map (·.1)).map ByteArray.toList).Pairwise (fun a b => a ≤ b) := by
    rw [List.map_map, List.pairwise_map]
    exact (rising_filter hR _).imp (fun h => List.le_of_lt h)
  unfold sortS
  have hpl := hpm.map ByteArray.toList
  have he : (((D.filter fun x => begB p x.k).map (·.k)).map ByteArray.toList).mergeSort (fun x y => decide (x ≤ y)) = ((scanM L p).map (·.1)).map ByteArray.toList := by
    refine List.Perm.eq_of_pairwise (le := fun a b => a ≤ b) (fun a b _ _ h1 h2 => List.le_antisymm h1 h2) ?_ hsr ((List.mergeSort_perm _ _).trans hpl)
    have := List.pairwise_mergeSort (le := fun (x y : Str) => decide (x ≤ y)) (fun a b c h1 h2 => by simp at *; exact List.le_trans h1 h2) (fun a b => by simp; exact List.le_total a b) (((D.filter fun x => begB p x.k).map (·.k)).map ByteArray.toList)
    exact this.imp (fun h => by simpa using h)
  rw [he, List.map_map]
  conv => rhs; rw [← List.map_id ((scanM L p).map (·.1))]
  apply List.map_congr_left
  intro x _
  exact ofS_toList x
end Go.Proofs.Ytnbemfddcjhcaaa.Kv
namespace Go.Proofs.Ytnbemfddcjhcaaa.Kv
open Go.RowKit Go.Shelf
open Go.ChangeMaps (setBlock)
attribute [local go_sem] Oper.semAt_some

/-- append, in a fence. -/
theorem i_append {F : Fence} {n : Nat} {w w' : World} {ops : Array Oper} {rest : List Oper} {o : Oper} {a : Act} {Q : Exit → Act → World → Prop} {s x : Operand} {t t' : TypeId} {u v r : Value} (hg : o.guard = none) (ho : o.op = .call { callee := .builtin .append, args := #[s, x], argTypes := #[t, t'] }) (hs : a.eval s = u) (hx : a.eval x = v) (hr : (Builtin.append_ #[t, t'] o.type #[u, v]).run Try.prog w = .ok r w') (h : wpListIn F n Try.prog ops Q rest (a.put o.dst r) w') : wpListIn F n Try.prog ops Q (o :: rest) a w := by
  refine wpListIn_plain hg fun K hK' => ?_
  unfold Oper.wpIn
  refine ⟨by simp [Oper.about, ho, resolve, Target.leads, Sem.run_pure], ?_⟩
  rw [Oper.semAt_plain F _ _ (by rw [ho]; intro c hc'; cases hc')]
  simp [execOp, ho, resolve, invoke, builtin, hs, hx, hr, Result.andThen]
  exact hK' _ _ h
def pairV (S : List Pr) (k : Nat) : Value :=
  match S[k]? with
  | none => undef
  | some x => .agg #[.string x.1, .string x.2]
/-- The blocks that are its own: variables that hold a map, or a text. -/
def GK (o : Obj) : Prop := ∃ cs T, o = .cells cs T ∧ (T = 23 ∨ T = 9)
def fk (pre : ByteArray) (D : List En) : List ByteArray := (D.filter fun x => begB pre x.k).map (·.k)
theorem fk_yes {pre : ByteArray} {D : List En} {x : En} (h : begB pre x.k = true) : fk pre (D ++ [x]) = fk pre D ++ [x.k] := by simp [fk, h]
theorem fk_no {pre : ByteArray} {D : List En} {x : En} (h : begB pre x.k = false) : fk pre (D ++ [x]) = fk pre D := by simp [fk, h]
theorem fk_len (pre : ByteArray) (D : List En) : (fk pre D).length ≤ D.length := by
  unfold fk
  rw [List.length_map]
  exact List.length_filter_le _ _
theorem row_ne_it {w : World} {base r c n : Nat} {m : Option Nat} {s : Array Nat} {v : Value} {xs : List Value} (h : w.ownsRow base 9 1 v n xs) (hr : w.heap[r]? = some (.mapIter m c s c)) : v.ownBlock ≠ some r := by
  intro e
  obtain ⟨_, ⟨rfl, _⟩ | ⟨g, cap, cur, rfl, _, x2, _⟩⟩ := h
  · cases e
  · cases e
    rw [hr] at x2
    cases x2
theorem set_own {w : World} {base r n : Nat} {o : Obj} {v : Value} {xs : List Value} (h : w.ownsRow base 9 1 v n xs) (hr : v.ownBlock ≠ some r) : (setBlock w r o).ownsRow base 9 1 v n xs := own_same h (fun g e => setBlock_other w r g o (fun x => hr (x ▸ e)))
theorem drew_own {w w1 : World} {base n : Nat} {v : Value} {xs : List Value} (h : w.ownsRow base 9 1 v n xs) (hw : w1.heap = w.heap) : w1.ownsRow base 9 1 v n xs := own_same h (fun g _ => by rw [hw])
theorem one_cell {W : World} {b : Nat} {v : Value} {T : TypeId} (h : W.heap[b]? = some (.cells #[v] T)) : W.cell? ⟨b, 0, none⟩ = some v := by simp [World.cell?, h]
set_option maxRecDepth 100000 in
set_option maxHeartbeats 4000000 in
theorem rising_seq (n n₀ base p b : Nat) (L : List Pr) (pre : ByteArray) (b1 b2 : Nat) (w : World) (h : IsM base p b L w) (hL : L.length ≤ 128) (hlo : p < n₀ ∧ b < n₀) (g1 : w.heap[b1]? = some (.cells #[.pointer (some ⟨p, 0, none⟩)] 23)) (g2 : w.heap[b2]? = some (.cells #[.string pre] 9)) (hb : n₀ ≤ b1 ∧ n₀ ≤ b2) :
    SeqOwn Fence.wide n Try.prog 37 #[] #[.pointer (some ⟨b1, 0, none⟩), .pointer (some ⟨b2, 0, none⟩)] (fun k => #[pairV (scanM L pre) k]) n₀ (scanM L pre).length (fun j => j = b1 ∨ j = b2) GK w := fun lp J Jx W hW hnw hJ hY h0 => by
  have hMW := h.below hW
  have q1 := (hW.block b1 (hp_lt g1)).trans g1
  have q2 := (hW.block b2 (hp_lt g2)).trans g2
  have c1 := one_cell q1
  have c2 := one_cell q2
  have c0 := hMW.cell
  obtain ⟨l, c, hb', ho, hp, hl⟩ := hMW.held
  have hbl := hp_lt hb'
  have hrg := run_range_map (P := Try.prog) W _ _ _ b (enA l) c undM hb'
  have hro : Fence.wide.round = none := rfl
  have hpl : p < W.heap.size := hp_lt hMW.here
  have HH := hide (And.intro hMW (And.intro q1 (And.intro q2 (And.intro hb' (And.intro ho hp)))))
  have HJ := hide (And.intro hJ h0)
  have HY := hide hY
  clear hMW q1 q2 hb' ho hp hJ h0 hY h g1 g2
  refine callsIn_of_wp Try.func37 rfl trivial ?_ hro
  simp only [Try.ntmps37, List.size_toArray, List.length_cons, List.length_nil, Nat.reduceAdd, Nat.reduceSub, Array.replicate_succ, Array.replicate_zero, List.push_toArray, List.append_toArray, List.nil_append, List.cons_append]
  gi_wp2_with fail
  gi_loopw [4] (fun ks wr => ∃ D : List En, D.Nodup ∧ (∀ x ∈ D, x ∈ l) ∧ wr.heap[W.heap.size]? = some (.mapIter (some b) c (bornA D) c) ∧ wr.ownsRow W.heap.size 9 1 ks (fk pre D).length (strC (fk pre D)) ∧ Below W.heap.size W wr) (fun _ wr => l.length - (wr.iterSeen W.heap.size).size)
  case atStart => exact ⟨[], List.nodup_nil, by simp, heap_alloc_new W _, World.ownsRow_nil _ _ _ _, (Below.refl _ W).alloc (Nat.le_refl _) _⟩
  case round =>
    obtain ⟨D, hD, hDl, hr, hrow, hbw⟩ := hrel
    have hbr := (hbw.block b hbl).trans HH.out.2.2.2.1
    have hsr := hp_lt hr
    have hl1 := nodup_len hD hDl
    rcases run_next (T := 0) HH.out.2.2.2.2.1 hr hbr hD hDl with ⟨hpm, hnx⟩ | ⟨x, hx, hxD, w1, hw1, hnx⟩
    · obtain ⟨S, hS⟩ : ∃ S, scanM L pre = S := ⟨_, rfl⟩
      have hks : sortS (fk pre D) = S.map (·.1) := by rw [← hS]; exact sorted_keys HH.out.1.rise HH.out.2.2.2.2.1 HH.out.2.2.2.2.2 hpm
      have hkl : (fk pre D).length = S.length := by
        have h1 := sortS_len (fk pre D)
        rw [hks] at h1
        simpa using h1.symm
      have hSl : S.length ≤ 128 := by
        rw [← hS]
        exact Nat.le_trans (List.length_filter_le _ _) hL
      have HS := hide (sort_any W.heap.size u4 (fk pre D) wr hrow (by omega))
      rw [hks, hkl] at HS
      rw [hS] at HY
      rw [hkl] at hrow
      have hwz := hbw.size
      have HB := hide (And.intro hbw hrow)
      have HSm := hide hS
      obtain ⟨m4, hm4⟩ : ∃ m4, S.length = m4 := ⟨_, rfl⟩
      have hs4 := own_shape hrow
      rw [hm4] at hs4
      obtain ⟨ga4, gc4, rfl⟩ := hs4
      have HM4 := hide hm4
      have HLn := hide (show (scanM L pre).length = m4 by rw [hS, hm4])
      have hm128 : m4 ≤ 128 := by omega
      clear hbw hrow hr hbr hsr hD hDl hl1 hpm hks hkl hS hm4 hSl hrg
      gi_wp2_with fail
      refine ⟨trivial, fun h => by simp [Fence.wide] at h, (callsIn_wide.2 HS.out).mono ?_⟩
      rintro e w2 ⟨rfl, y1, y2⟩
      have hBw : Below W.heap.size W w2 := HB.out.1.grown y2 hwz (fun k e => own_base HB.out.2 k e)
      have h2z := hBw.size
      obtain ⟨M1, hM1⟩ : ∃ M1 : Blk, M1 = (fun j => (j = b1 ∨ j = b2) ∨ (Value.slice ga4 m4 gc4).ownBlock = some j) := ⟨_, rfl⟩
      have hnW : n₀ ≤ W.heap.size := Nat.le_trans hnw hW.size
      have hJ0 : J M1 0 w2 := HJ.out.1 _ _ _ _ _ HJ.out.2 (hBw.mono hnW) (fun j hj _ => hBw.block j hj) (fun j hj hm => by
        rw [hM1] at hm
        rcases hm with hm | hm
        · exact hm
        · have := own_base y1 j hm
          omega)
      have hlt1 := hp_lt HH.out.2.1
      have hlt2 := hp_lt HH.out.2.2.1
      have hMb : ∀ j, M1 j → n₀ ≤ j ∧ ∃ o, w2.heap[j]? = some o ∧ GK o := fun j hm => by
        rw [hM1] at hm
        rcases hm with (rfl | rfl) | hm
        · exact ⟨hb.1, _, (hBw.block _ hlt1).trans HH.out.2.1, _, _, rfl, .inl rfl⟩
        · exact ⟨hb.2, _, (hBw.block _ hlt2).trans HH.out.2.2.1, _, _, rfl, .inr rfl⟩
        · obtain ⟨_, ⟨e1, _⟩ | ⟨g, cap, cur, e1, x1, x2, _⟩⟩ := y1
          · rw [e1] at hm
            cases hm
          · rw [e1] at hm
            cases hm
            exact ⟨Nat.le_trans hnW x1, _, x2, _, _, rfl, .inr rfl⟩
      have HN := hide (And.intro y1 (And.intro hBw (And.intro hJ0 hMb)))
      clear y1 y2 hBw hJ0 hMb HS HB
      gi_wp2_with fail
      gi_loopw [28] (fun i wx => ∃ k : Nat, k ≤ m4 ∧ i = .int .i64 k ∧ J M1 k wx ∧ Below n₀ w2 wx ∧ ∀ j, M1 j → wx.heap[j]? = w2.heap[j]?) (fun i _ => m4 - (intOf i).toNat)
      case atStart => exact ⟨0, Nat.zero_le _, rfl, HN.out.2.2.1, Below.refl _ _, fun _ _ => rfl⟩
      case round =>
        obtain ⟨k, hk, rfl, hJk, hbx, hsB⟩ := hrel
        have hw1 : IntKind.i64.wrap ((k : Int) + 1) = k + 1 := by rw [IntKind.wrap_i64]; omega
        by_cases hlt : k < m4
        · have hkS : k < S.length := by rw [HM4.out]; exact hlt
          obtain ⟨x, hx⟩ : ∃ x, S[k]? = some x := ⟨S[k], by simp [hkS]⟩
          have hkx : (S.map (·.1))[k]? = some x.1 := by simp [hx]
          obtain ⟨h1, ⟨e1, e2⟩ | ⟨g, cap, cur, e1, x1, x2, x3, x4, x5, x6⟩⟩ := id HN.out.1
          · omega
          cases e1
          have m1 : M1 b1 := by rw [hM1]; exact .inl (.inl rfl)
          have mg : M1 g := by rw [hM1]; exact .inr rfl
          have hgx := (hsB g mg).trans x2
          have hcg : wr.cell? ⟨g, 0 + k, none⟩ = some (.string x.1) := by
            have hxx : (strC (S.map (·.1)))[k]? = some (.string x.1) := by simp [strC, hx]
            rw [← x6, List.getElem?_take_of_lt (by omega)] at hxx
            simp [World.cell?, hgx]
            simpa using hxx
          rw [Nat.zero_add] at hcg
          have hc1 : wr.cell? ⟨b1, 0, none⟩ = some (.pointer (some ⟨p, 0, none⟩)) := one_cell ((hsB b1 m1).trans ((HN.out.2.1.block b1 hlt1).trans HH.out.2.1))
          have hpx : wr.heap[p]? = W.heap[p]? := (hbx.block p hlo.1).trans (HN.out.2.1.block p hpl)
          have hbxx : wr.heap[b]? = W.heap[b]? := (hbx.block b hlo.2).trans (HN.out.2.1.block b hbl)
          have hc0 : wr.cell? ⟨p, 0, none⟩ = some (.map (some b)) := (World.cell?_of_block hpx).trans c0
          have hlk := run_lookup1 x.1 (hbxx.trans HH.out.2.2.2.1) HH.out.1.rise HH.out.2.2.2.2.2
          have hxL : x ∈ L := (List.mem_filter.1 (by rw [show L.filter (fun x => begB pre x.1) = S from HSm.out]; exact List.mem_of_getElem? hx)).1
          rw [getM_mem HH.out.1.rise (show (x.1, x.2) ∈ L from hxL), Option.getD_some] at hlk
          have hfl : ∀ w, (Instr.field 46 (.agg #[.string x.2]) 0).run Try.prog w = .ok (.string x.2) w := fun w => by kernel_rfl
          have hpv : pairV S k = .agg #[.string x.1, .string x.2] := by simp [pairV, hx]
          have hfin := (HY.out M1 k wr hJk hkS (fun j hj => ⟨(HN.out.2.2.2 j hj).1, by
            obtain ⟨_, o, ho, hG⟩ := HN.out.2.2.2 j hj
            exact ⟨o, (hsB j hj).trans ho, hG⟩⟩)).mono (R' := fun e W6 => (e = .returned (.bool true) ∧ J M1 (k + 1) W6 ∧ Below n₀ w2 W6 ∧ ∀ j, M1 j → W6.heap[j]? = w2.heap[j]?) ∨ (e = .returned (.bool false) ∧ Jx (k + 1) W6)) (by
            rintro e W6 (⟨rfl, h1, h2, h3⟩ | h)
            · exact .inl ⟨rfl, h1, hbx.trans h3, fun j hj => (h2 j hj).trans (hsB j hj)⟩
            · exact .inr h)
          obtain ⟨fn, tmps, assign, body, hy, hR⟩ := hfin
          rw [hpv] at hy
          have HRR := hide hR
          clear hR hJk hbx hsB hgx x2 x3 x4 x5 x6 hpx hbxx hpv hxL hkx
          gi_wp2_with fail
          refine ⟨fun h => by simp [Fence.wide] at h, HRR.out.mono ?_⟩
          rintro e W6 (⟨rfl, j1, j2, j3⟩ | ⟨rfl, j1⟩)
          · gi_wp2_with fail
            go_roundw
            case rel => exact ⟨k + 1, by omega, by simp, j1, j2, j3⟩
            case measure => simp [intOf]; omega
          · gi_wp2_with fail
            refine bodyPost_ret (results_none rfl _ _ _) rfl ?_
            exact ⟨⟨_, rfl⟩, .inr ⟨_, by rw [HLn.out]; omega, j1⟩⟩
        · obtain rfl : k = m4 := by omega
          have hlt' : ¬ ((k : Int) < k) := by omega
          gi_wp2_with fail
          go_end0
          exact ⟨⟨_, rfl⟩, .inl ⟨_, by rw [HLn.out]; exact hJk⟩⟩
    · obtain ⟨hbd, hheap⟩ := drew_cases hw1
      obtain ⟨W2, hW2⟩ : ∃ W2, setBlock w1 W.heap.size (.mapIter (some b) c (bornA (D ++ [x])) c) = W2 := ⟨_, rfl⟩
      have hr2 : W2.heap[W.heap.size]? = some (.mapIter (some b) c (bornA (D ++ [x])) c) := by
        rw [← hW2]
        exact setBlock_same w1 _ _ (by rw [hheap]; exact hsr)
      have hB2 : Below W.heap.size W W2 := by
        rw [← hW2]
        exact below_setBlock (hbw.trans (hbd.mono hbw.size)) (Nat.le_refl _) _
      have hrow2 : W2.ownsRow W.heap.size 9 1 u4 (fk pre D).length (strC (fk pre D)) := by
        rw [← hW2]
        exact set_own (drew_own hrow hheap) (row_ne_it hrow hr)
      have hen := run_entry HH.out.2.2.2.2.1 hr2 ((hB2.block b hbl).trans HH.out.2.2.2.1) hx
      rw [hW2] at hnx
      have hDn := snoc_nodup hD hxD
      have hDs : ∀ y ∈ D ++ [x], y ∈ l := fun y hy => by
        rcases List.mem_append.1 hy with h | h
        · exact hDl y h
        · simp at h
          subst h
          exact hx
      have hlen := nodup_len hDn hDs
      rw [List.length_append] at hlen
      simp at hlen
      have hsz1 : (wr.iterSeen W.heap.size).size = D.length := by rw [iter_at hr, bornA_size]
      have hfl := fk_len pre D
      have d2 := (hB2.cell (p := ⟨b2, 0, none⟩) (hp_lt HH.out.2.2.1)).trans c2
      have hz2 : W.heap.size < W2.heap.size := hp_lt hr2
      have HP := hide (hasPrefix_any x.k pre W2)
      cases hbeg : begB pre x.k with
      | false =>
        rw [hbeg] at HP
        have hfk := fk_no (D := D) hbeg
        have HB := hide (And.intro hB2 (And.intro hr2 (And.intro hDn (And.intro hDs (And.intro hrow2 (And.intro hsz1 (And.intro hlen hfk)))))))
        clear hB2 hr2 hbw hr hbr hDn hDs hD hDl hW2 hbd hheap hw1 hsz1 hlen hx hxD hrow hrow2 hl1 hfl hbeg hfk
        gi_wp2_with fail
        refine ⟨trivial, fun h => by simp [Fence.wide] at h, (callsIn_wide.2 HP.out).mono ?_⟩
        rintro e w' ⟨rfl, hw⟩
        rw [hw]
        clear hw
        gi_wp2_with fail
        go_roundw
        case rel => exact ⟨D ++ [x], HB.out.2.2.1, HB.out.2.2.2.1, HB.out.2.1, by rw [HB.out.2.2.2.2.2.2.2]; exact HB.out.2.2.2.2.1, HB.out.1⟩
        case measure =>
          rw [HB.out.2.2.2.2.2.1, iter_at HB.out.2.1, bornA_size]
          have := HB.out.2.2.2.2.2.2.1
          simp
          omega
      | true =>
        rw [hbeg] at HP
        have hfk := fk_yes (D := D) hbeg
        obtain ⟨ti, t1, t2, t3, t4⟩ := info_parts info9
        obtain ⟨W3, hW3⟩ : ∃ W3, W2.alloc (.cells #[.string x.k] 9) = W3 := ⟨_, rfl⟩
        have hB3 : Below W2.heap.size W2 W3 := by rw [← hW3]; exact (Below.refl _ W2).alloc (Nat.le_refl _) _
        have hz3 : W2.heap.size ≤ W3.heap.size := hB3.size
        have hc3 := cell_one_new W2 (.string x.k) 9
        rw [hW3] at hc3
        obtain ⟨v', w4, hap, y1, y2, _, y4⟩ := run_append_own_at (P := Try.prog) W3 W.heap.size 90 90 9 ti _ 1 16 Try.underlying90 t1 t2 t3 t4 rfl (by omega) u4 (fk pre D).length (strC (fk pre D)) (own_same hrow2 (fun g e => hB3.block g (own_lt hrow2 g e))) ⟨W2.heap.size, 0, none⟩ 1 1 [.string x.k] rfl hc3 (by simp [Value.oneCell']) (by unfold maxLen; omega) (by omega) (by omega)
        have hne := row_ne_it hrow2 hr2
        have hB4 : Below W.heap.size W w4 := (hB2.trans (hB3.mono (by omega))).grown y2 (by omega) (fun k e => own_base hrow2 k e)
        have hr4 : w4.heap[W.heap.size]? = some (.mapIter (some b) c (bornA (D ++ [x])) c) := (y2.block _ (by omega) (fun e => hne e.symm)).trans ((hB3.block _ hz2).trans hr2)
        have hrow4 : w4.ownsRow W.heap.size 9 1 v' (fk pre (D ++ [x])).length (strC (fk pre (D ++ [x]))) := by
          rw [hfk, List.length_append, show strC (fk pre D ++ [x.k]) = strC (fk pre D) ++ [Value.string x.k] by simp [strC]]
          exact y1
        have HB := hide (And.intro hB4 (And.intro hr4 (And.intro hDn (And.intro hDs (And.intro hrow4 (And.intro hsz1 hlen))))))
        have HA := hide hap
        have hs4 := own_shape hrow2
        obtain ⟨m4, hm4⟩ : ∃ m4, (fk pre D).length = m4 := ⟨_, rfl⟩
        rw [hm4] at hs4
        obtain ⟨ga4, gc4, rfl⟩ := hs4
        have hs5 := own_shape y1
        obtain ⟨m5, hm5⟩ : ∃ m5, (fk pre D).length + 1 = m5 := ⟨_, rfl⟩
        rw [hm5] at hs5
        obtain ⟨ga5, gc5, rfl⟩ := hs5
        clear hB2 hr2 hbw hr hbr hDn hDs hD hDl hW2 hbd hheap hw1 hsz1 hlen hx hxD hrow hrow2 hl1 hfl hbeg hfk hB3 hap y1 y2 y4 hne hB4 hr4 hrow4 hc3 t1 t2 t3 t4 hm4 hm5
        gi_wp2_with fail
        refine ⟨trivial, fun h => by simp [Fence.wide] at h, (callsIn_wide.2 HP.out).mono ?_⟩
        rintro e w' ⟨rfl, hw⟩
        rw [hw]
        clear hw
        gi_wp2_with (refine i_append (t := 90) (t' := 90) rfl rfl rfl rfl HA.out ?_)
        go_roundw
        case rel => exact ⟨D ++ [x], HB.out.2.2.1, HB.out.2.2.2.1, HB.out.2.1, HB.out.2.2.2.2.1, HB.out.1⟩
        case measure =>
          rw [HB.out.2.2.2.2.2.1, iter_at HB.out.2.1, bornA_size]
          have := HB.out.2.2.2.2.2.2
          simp
          omega
end Go.Proofs.Ytnbemfddcjhcaaa.Kv
namespace Go.Proofs.Ytnbemfddcjhcaaa.Kv
open Go.RowKit Go.Shelf
open Go.ChangeMaps (setBlock)
attribute [local go_sem] Oper.semAt_some

def pairC1 (x : Pr) : List Value := [.string x.1, .string x.2]
def pairC (S : List Pr) : List Value := S.flatMap pairC1
theorem pairC_len (S : List Pr) : (pairC S).length = S.length * 2 := by
  induction S with
  | nil => rfl
  | cons x S ih =>
    simp only [pairC, List.flatMap_cons, List.length_append, List.length_cons] at ih ⊢
    rw [ih]
    simp [pairC1]
    omega
def obA (S : List Pr) (k : Nat) : Array Value :=
  match S[k]? with
  | none => #[]
  | some x => #[.string x.1, .string x.2]
theorem infoPair : (Try.prog.info? 26).map (fun i => (i.zero, i.size, i.bytes)) = some (some (.agg #[.string ⟨#[]⟩, .string ⟨#[]⟩]), 2, 32) := by kernel_rfl
theorem hmf (fn : Fn) (first cap : Array Value) (w : World) : (Instr.makeFunc fn first cap).run Try.prog w = .ok (.func fn first cap) w := rfl
def riseV (b1 b2 : Nat) : Value := .func (.func 37) #[] #[.pointer (some ⟨b1, 0, none⟩), .pointer (some ⟨b2, 0, none⟩)]
theorem rising_any (p : Nat) (pre : ByteArray) (w : World) : Calls Try.prog 21 #[.pointer (some ⟨p, 0, none⟩), .string pre] w fun e w' => e = .returned (riseV w.heap.size (w.heap.size + 1)) ∧ w'.heap[w.heap.size]? = some (.cells #[.pointer (some ⟨p, 0, none⟩)] 23) ∧ w'.heap[w.heap.size + 1]? = some (.cells #[.string pre] 9) ∧ w'.heap.size = w.heap.size + 2 ∧ Below w.heap.size w w' := by
  have hm := hmf
  have h1 := heap_alloc_new w (.cells #[.pointer (some ⟨p, 0, none⟩)] 23)
  have h2 := heap_alloc_new (w.alloc (.cells #[.pointer (some ⟨p, 0, none⟩)] 23)) (.cells #[.string pre] 9)
  have HH := hide (And.intro h1 h2)
  clear h1 h2
  go_enter Try.func21, Try.ntmps21
  go_wp2_with fail
  go_ret
  have hs : (w.alloc (.cells #[.pointer (some ⟨p, 0, none⟩)] 23)).heap.size = w.heap.size + 1 := by simp
  refine ⟨rfl, (Below.heap_alloc _ _ _ (by omega)).trans HH.out.1, ?_, by simp, ((Below.refl _ w).alloc (Nat.le_refl _) _).alloc (by omega) _⟩
  rw [← hs]
  exact HH.out.2
set_option maxRecDepth 100000 in
set_option maxHeartbeats 4000000 in
theorem appendSeq_any (n₀ base p b : Nat) (L : List Pr) (pre : ByteArray) (b1 b2 : Nat) (w : World) (h : IsM base p b L w) (hL : L.length ≤ 128) (hlo : p < n₀ ∧ b < n₀) (g1 : w.heap[b1]? = some (.cells #[.pointer (some ⟨p, 0, none⟩)] 23)) (g2 : w.heap[b2]? = some (.cells #[.string pre] 9)) (hb : n₀ ≤ b1 ∧ n₀ ≤ b2) (hn : n₀ ≤ w.heap.size) :
    Calls Try.prog 42 #[.slice none 0 0, riseV b1 b2] w fun e w' => ∃ v, e = .returned v ∧ w'.ownsRow w.heap.size 26 2 v (scanM L pre).length (pairC (scanM L pre)) ∧ Below n₀ w w' := by
  obtain ⟨Wa, hWa⟩ : ∃ Wa, w.alloc (.cells #[.slice none 0 0] 22) = Wa := ⟨_, rfl⟩
  have fa : Wa.heap[w.heap.size]? = some (.cells #[.slice none 0 0] 22) := by rw [← hWa]; exact heap_alloc_new w _
  have za : Wa.heap.size = w.heap.size + 1 := by rw [← hWa]; simp
  have hBa : Below w.heap.size w Wa := by rw [← hWa]; exact (Below.refl _ w).alloc (Nat.le_refl _) _
  have hl1 := hp_lt g1
  have hl2 := hp_lt g2
  have hseq := rising_seq (3 - 1) n₀ base p b L pre b1 b2 Wa (h.below hBa) hL hlo ((hBa.block b1 hl1).trans g1) ((hBa.block b2 hl2).trans g2) hb
  obtain ⟨S, hS⟩ : ∃ S, scanM L pre = S := ⟨_, rfl⟩
  have hSl : S.length ≤ 128 := by rw [← hS]; exact Nat.le_trans (List.length_filter_le _ _) hL
  rw [hS] at hseq ⊢
  have HQ := hide hseq
  have HA := hide (And.intro fa hBa)
  clear hseq h g1 g2 fa hBa hS
  refine (callsIn_wide (n := 3)).1 ?_
  refine callsIn_of_wp_marks Try.func42 rfl trivial ?_ rfl
  simp only [Try.ntmps42, List.size_toArray, List.length_cons, List.length_nil, Nat.reduceAdd, Nat.reduceSub, Array.replicate_succ, Array.replicate_zero, List.push_toArray, List.append_toArray, List.nil_append, List.cons_append]
  gi_wp2_with fail
  refine range_own (it := 37) (pre := #[]) (held := #[.pointer (some ⟨b1, 0, none⟩), .pointer (some ⟨b2, 0, none⟩)]) (by omega) rfl trivial rfl (enters_of Try.func37 (by kernel_rfl) rfl) (n₀ := n₀) (by omega) (Below.refl _ _)
    (fun j hj => by rcases hj with rfl | rfl <;> omega) HQ.out (fun _ => rfl)
    (fun M k W => ∃ v, W.heap[w.heap.size]? = some (.cells #[v] 22) ∧ W.ownsRow w.heap.size 26 2 v k (pairC (S.take k)) ∧ (∀ j, v.ownBlock = some j → ¬ M j) ∧ ¬ M w.heap.size ∧ Below n₀ w W)
    (fun _ _ => False)
    ?hI ?hIx ?h0 (fun k => .cells (obA S k) 26)
    (fun k bs => { tmps := #[.slice none 0 0, riseV b1 b2, .pointer (some ⟨w.heap.size, 0, none⟩), undef, .slice none 0 0, .pointer (some ⟨bs, 0, none⟩), riseV b1 b2, pairV S k, undef, undef, undef, undef, undef], defers := [] })
    ?assign ?body ?done ?stop
  case hI =>
    rintro M M' k A B ⟨v, i0, i1, i2, i3, i4⟩ hb hc hm
    refine ⟨v, hc _ _ i0 (.inl rfl) i3, own_same i1 (fun g e => ?_), fun j e hj => i2 j e (hm j (own_lt i1 j e) hj), fun h => i3 (hm _ (hp_lt i0) h), i4.trans hb⟩
    obtain ⟨_, ⟨rfl, _⟩ | ⟨g', cap, cur, rfl, x1, x2, _⟩⟩ := i1
    · cases e
    · cases e
      exact (hc g' _ x2 (.inl rfl) (i2 g' rfl)).trans x2.symm
  case hIx => exact fun k A B h => h.elim
  case h0 => exact ⟨_, HA.out.1, World.ownsRow_nil _ _ _ _, fun j e => (by cases e), fun h => (by rcases h with h | h <;> omega), HA.out.2.mono hn⟩
  case assign =>
    intro l k W K hk hK
    obtain ⟨x, hx⟩ : ∃ x, S[k]? = some x := ⟨S[k], by simp [hk]⟩
    have hv : pairV S k = .agg #[.string x.1, .string x.2] := by simp [pairV, hx]
    have ho : obA S k = #[.string x.1, .string x.2] := by simp [obA, hx]
    rw [hv, ho] at hK
    rw [hv]
    gi_wp2_with fail
    exact hK
  case body =>
    rintro l M k bs W ⟨v, i0, i1, i2, i3, i4⟩ hk hM hbs hle
    obtain ⟨x, hx⟩ : ∃ x, S[k]? = some x := ⟨S[k], by simp [hk]⟩
    have hv : pairV S k = .agg #[.string x.1, .string x.2] := by simp [pairV, hx]
    have ho : obA S k = #[.string x.1, .string x.2] := by simp [obA, hx]
    rw [ho] at hbs
    have hc0 : W.cell? ⟨w.heap.size, 0, none⟩ = some v := one_cell i0
    have hf0 : W.frozen? ⟨w.heap.size, 0, none⟩ = false := by simp [World.frozen?, i0]
    have hcb : W.cell? ⟨bs, 0, none⟩ = some (.string x.1) ∧ W.cell? ⟨bs, 0 + 1, none⟩ = some (.string x.2) := by simp [World.cell?, hbs]
    obtain ⟨cb0, cb1⟩ := hcb
    obtain ⟨W3, hW3⟩ : ∃ W3, W.alloc (.cells #[.string x.1, .string x.2] 26) = W3 := ⟨_, rfl⟩
    have hB3 : Below W.heap.size W W3 := by rw [← hW3]; exact (Below.refl _ W).alloc (Nat.le_refl _) _
    have f3 : W3.heap[W.heap.size]? = some (.cells #[.string x.1, .string x.2] 26) := by rw [← hW3]; exact heap_alloc_new W _
    obtain ⟨ti, t1, t2, t3, t4⟩ := info_parts infoPair
    have hWz : w.heap.size ≤ W.heap.size := i4.size
    have hbz := hB3.size
    obtain ⟨v', w4, hap, y1, y2, _, y4⟩ := run_append_own_at (P := Try.prog) W3 w.heap.size 22 22 26 ti _ 2 32 Try.underlying22 t1 t2 t3 t4 rfl (by omega) v k (pairC (S.take k)) (own_same i1 (fun g e => hB3.block g (own_lt i1 g e))) ⟨W.heap.size, 0, none⟩ 1 1 (pairC1 x) rfl (fun j u hj => by
      rw [Addr.add_mid, cell_of_row W3 W.heap.size (0 + j) _ _ _ f3]
      simpa [pairC1] using hj) (by simp [pairC1, Value.oneCell']) (by unfold maxLen; omega) (by omega) (by omega)
    have hvb : ∀ j, v.ownBlock = some j → j ≠ w.heap.size := fun j e => own_ne0 i1 i0 (by decide) j e
    have hlt0 := hp_lt i0
    have hb4 : w4.heap[w.heap.size]? = some (.cells #[v] 22) := (y2.block _ (by omega) (fun e => hvb _ e.symm rfl)).trans ((hB3.block _ hlt0).trans i0)
    have hd0 : w4.cell? ⟨w.heap.size, 0, none⟩ = some v := one_cell hb4
    have hdf : w4.frozen? ⟨w.heap.size, 0, none⟩ = false := by simp [World.frozen?, hb4]
    have hv' : ∀ j, v'.ownBlock = some j → v.ownBlock = some j ∨ W.heap.size ≤ j := fun j e => by
      rcases y4 with z | z
      · exact .inl (z ▸ e)
      · rw [z] at e
        cases e
        exact .inr hbz
    have hMl : ∀ j, M j → n₀ ≤ j ∧ j < W.heap.size := fun j hj => by
      obtain ⟨h1, _, o, ho, _⟩ := hM j hj
      exact ⟨h1, hp_lt ho⟩
    have hfin : roundEnds Wa.heap.size n₀ M (fun M k W => ∃ v, W.heap[w.heap.size]? = some (.cells #[v] 22) ∧ W.ownsRow w.heap.size 26 2 v k (pairC (S.take k)) ∧ (∀ j, v.ownBlock = some j → ¬ M j) ∧ ¬ M w.heap.size ∧ Below n₀ w W) (fun _ _ => False) (k + 1) W .normal ⟨#[], []⟩ (w4.setCell ⟨w.heap.size, 0, none⟩ v') := by
      have hBn : Below n₀ W (w4.setCell ⟨w.heap.size, 0, none⟩ v') := (((hB3.mono (by omega)).grown y2 (by omega) (fun j e => by have := own_base i1 j e; omega)).setCell (p := ⟨w.heap.size, 0, none⟩) hn _)
      refine ⟨⟨hBn.size, fun j o hj ho hc => ?_⟩, fun j hj => ?_, hBn, v', heap_setCell_same _ _ 0 _ _ _ hb4, ?_, fun j e hj => ?_, i3, i4.trans hBn⟩
      · have hjl := hp_lt ho
        have hj1 : j ≠ w.heap.size := fun e => by rw [e, i0] at ho; cases ho; cases hc
        have hj2 : v.ownBlock ≠ some j := fun e => by
          obtain ⟨_, ⟨rfl, _⟩ | ⟨g', cap, cur, rfl, z1, z2, _⟩⟩ := i1
          · cases e
          · cases e
            rw [z2] at ho
            cases ho
            cases hc
        exact (Below.heap_setCell _ _ _ _ hj1).trans ((y2.block j (by omega) (fun e => hj2 e.symm)).trans ((hB3.block j hjl).trans ho))
      · have hjl := (hMl j hj).2
        have hj1 : j ≠ w.heap.size := fun e => i3 (by rw [← e]; exact hj)
        exact (Below.heap_setCell _ _ _ _ hj1).trans ((y2.block j (by omega) (fun e => i2 j e.symm hj)).trans (hB3.block j hjl))
      · rw [List.take_add_one, hx]
        have he : pairC (S.take k ++ [x]) = pairC (S.take k) ++ pairC1 x := by simp [pairC]
        show World.ownsRow _ _ _ _ _ _ (pairC (S.take k ++ [x]))
        rw [he]
        exact own_same y1 (fun g e => Below.heap_setCell _ _ _ _ (by
          rcases hv' g e with z | z
          · exact hvb g z
          · show g ≠ w.heap.size
            omega))
      · rcases hv' j e with z | z
        · exact i2 j z hj
        · have := (hMl j hj).2
          omega
    have HAp := hide hap
    have HF := hide hfin
    obtain ⟨ga, gc, rfl⟩ := own_shape i1
    obtain ⟨k1, hk1⟩ : ∃ k1, k + 1 = k1 := ⟨_, rfl⟩
    have hs5 := own_shape y1
    rw [hk1] at hs5
    obtain ⟨ga', gc', rfl⟩ := hs5
    clear hap hfin y1 y2 y4 hB3 i1 i2 i3 i4 hM hMl hv' hvb hb4 t1 t2 t3 t4 f3 hk1
    rw [hv]
    gi_wp2_with (refine i_append (t := 22) (t' := 22) rfl rfl rfl rfl HAp.out ?_)
    exact HF.out
  case done =>
    rintro D M W hD ⟨v, i0, i1, i2, i3, i4⟩ hK
    have hc0 : W.cell? ⟨w.heap.size, 0, none⟩ = some v := one_cell i0
    rw [List.take_length] at i1
    obtain ⟨m, hm⟩ : ∃ m, S.length = m := ⟨_, rfl⟩
    rw [hm] at i1
    obtain ⟨ga, gc, rfl⟩ := own_shape i1
    have HE := hide (And.intro i1 (And.intro i4 (And.intro hK hm)))
    clear i0 i1 i2 i3 i4 hK hm
    gi_wp2_with fail
    obtain ⟨i1, i4, hK, hm⟩ := HE.out
    refine ⟨by simp, .inl ⟨_, _, rfl, run_takeDeferred hK, ?_⟩⟩
    have hgD : ∀ g, (Value.slice ga m gc).ownBlock = some g → g ≠ D := fun g e e2 => by
      obtain ⟨_, ⟨z1, _⟩ | ⟨g', cap, cur, z1, _, z2, _⟩⟩ := i1
      · rw [z1] at e
        cases e
      · rw [z1] at e
        cases e
        have e3 : g' = D := e2
        rw [e3, hK] at z2
        cases z2
    refine ⟨_, results_tmp rfl _ _ _, _, rfl, ?_, i4.trans (below_put _ _ (by omega))⟩
    rw [hm]
    exact own_same i1 (fun g e => World.putObj_heap_other (hgD g e))
  case stop => exact fun D k W hD hk h => h.elim
set_option maxRecDepth 100000 in
theorem collect_any (n₀ base p b : Nat) (L : List Pr) (pre : ByteArray) (b1 b2 : Nat) (w : World) (h : IsM base p b L w) (hL : L.length ≤ 128) (hlo : p < n₀ ∧ b < n₀) (g1 : w.heap[b1]? = some (.cells #[.pointer (some ⟨p, 0, none⟩)] 23)) (g2 : w.heap[b2]? = some (.cells #[.string pre] 9)) (hb : n₀ ≤ b1 ∧ n₀ ≤ b2) (hn : n₀ ≤ w.heap.size) :
    Calls Try.prog 25 #[riseV b1 b2] w fun e w' => ∃ v, e = .returned v ∧ w'.ownsRow w.heap.size 26 2 v (scanM L pre).length (pairC (scanM L pre)) ∧ Below n₀ w w' := by
  have HA := hide (appendSeq_any n₀ base p b L pre b1 b2 w h hL hlo g1 g2 hb hn)
  obtain ⟨S, hS⟩ : ∃ S, scanM L pre = S := ⟨_, rfl⟩
  rw [hS] at HA ⊢
  clear h g1 g2 hS
  go_enter Try.func25, Try.ntmps25
  go_wp2_with (go_at_call 42; refine HA.out.mono ?_; rintro e w1 ⟨v, rfl, y1, y2⟩)
  go_ret
  exact ⟨_, rfl, y1, y2⟩
set_option maxRecDepth 100000 in
theorem scan_any (base p b : Nat) (L : List Pr) (pre : ByteArray) (w : World) (h : IsM base p b L w) (hL : L.length ≤ 128) :
    Calls Try.prog 14 #[.pointer (some ⟨p, 0, none⟩), .string pre] w fun e w' => ∃ v, e = .returned v ∧ w'.ownsRow w.heap.size 26 2 v (scanM L pre).length (pairC (scanM L pre)) ∧ Below w.heap.size w w' := by
  have hlo : p < w.heap.size ∧ b < w.heap.size := ⟨(h.lt (.inl rfl)).2, (h.lt (.inr rfl)).2⟩
  have HH := hide h
  clear h
  go_enter Try.func14, Try.ntmps14
  go_wp2_with (first
    | (go_at_call 21; refine (rising_any p pre w).mono ?_; rintro e w1 ⟨rfl, f1, f2, z1, b1⟩; have H1 := hide (And.intro f1 (And.intro f2 b1)); clear f1 f2 b1)
    | (go_at_call 25; refine (collect_any w.heap.size base p b L pre w.heap.size (w.heap.size + 1) w1 (HH.out.below H1.out.2.2) hL hlo H1.out.1 H1.out.2.1 ⟨Nat.le_refl _, by omega⟩ (by omega)).mono ?_; rintro e w2 ⟨v, rfl, y1, y2⟩))
  go_ret
  exact ⟨_, rfl, own_less y1 (by omega), H1.out.2.2.trans y2⟩
end Go.Proofs.Ytnbemfddcjhcaaa.Kv
