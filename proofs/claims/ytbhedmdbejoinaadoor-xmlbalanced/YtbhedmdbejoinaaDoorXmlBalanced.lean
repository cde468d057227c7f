/- XmlBalanced: what is told is balanced: whatever the bytes. -/
import Derived.Test.YtbhedmdbejoinaaDoorBalM
namespace Go.Proofs.YtbhedmdbejoinaaDoor
open Go.RowKit

/-- One name more in a row of the call's own. -/
theorem append_nm (w : World) {ops : Array Oper} {rest : List Oper} {o : Oper} {a : Act} {Q : Exit → Act → World → Prop} (hg : o.guard = none) (s x : Operand)
    (hop : o.op = Op.call { callee := Callee.builtin Builtin.append, args := #[s, x], argTypes := #[34, 34] }) (base : Nat) (v : Value) (op : List ByteArray) (hs : a.eval s = v) (hE : w.ownsRow base 9 1 v op.length (nameCells op)) (u : ByteArray) (bx : Nat)
    (hx : a.eval x = .slice (some ⟨bx, 0, none⟩) 1 1) (hc : w.heap[bx]? = some (.cells #[.string u] 9)) (hl : op.length ≤ 100000) (hb : base ≤ w.heap.size)
    (hK : ∀ v' w', w'.ownsRow base 9 1 v' (op ++ [u]).length (nameCells (op ++ [u])) → w.grownBy w' v.ownBlock → wpList Tryd.prog ops Q rest (a.put o.dst v') w') : wpList Tryd.prog ops Q (o :: rest) a w := by
  obtain ⟨i, hi, hz0, hz1, hz2⟩ := info_parts infoString
  obtain ⟨v', w', hrun, r1, r2, _, r4⟩ := run_append_own_at (P := Tryd.prog) w base 34 o.type 9 i _ 1 16 Tryd.underlying34 hi hz0 hz1 hz2 rfl (by decide) v op.length (nameCells op) hE ⟨bx, 0, none⟩ 1 1 [.string u] rfl (fun j z hj => by
    match j, hj with
    | 0, hj => simp at hj; subst hj; simp [Addr.add, World.cell?, hc]) (by simp [Value.oneCell']) (by unfold maxLen; omega) (by omega) hb
  refine wpList_plain hg fun K hK' => ?_
  unfold Oper.wp
  simp [execOp, hop, resolve, invoke, builtin, hs, hx, hrun, Result.andThen]
  have h2 : nameCells (op ++ [u]) = nameCells op ++ [.string u] := by simp [nameCells]
  exact hK' _ _ (hK v' w' (by rw [h2, List.length_append]; exact r1) r2)
theorem feedF_len : ∀ (l : List UInt8) (st : PS), Inv st → (feedF st l).2.length ≤ 2 * l.length
  | [], st, _ => by simp [feedF]
  | c :: l, st, hI => by
    cases hp : putF st c with
    | error e =>
      rw [feedF_err l hp]
      simp
    | ok x =>
      have hk := putF_keeps (st' := x.1) (t' := x.2) hp hI
      have ih := feedF_len l x.1 hk.1
      rw [feedF_ok (st' := x.1) (t := x.2) l hp]
      show (x.2 ++ (feedF x.1 l).2).length ≤ _
      rw [List.length_append, List.length_cons]
      have := hk.2.2
      omega
theorem open_succ {ts : List Tok} {k : Nat} {t : Tok} (h : ts[k]? = some t) : openAt ts (k + 1) = opens (openAt ts k) t := by
  unfold openAt
  rw [List.take_add_one, h, List.foldl_append]
  rfl

set_option maxRecDepth 100000 in
set_option maxHeartbeats 4000000 in
theorem xmlBalanced_any (a1 : Option Addr) (c1 : Nat) (l1 : List UInt8) (w : World) (h1 : l1.length ≤ c1) (hm1 : ByteMem w.heap.size w a1 l1) (hE : Env w) (h4 : 4 ≤ w.heap.size) :
    Calls Tryd.prog 4 #[.slice a1 l1.length c1] w fun e w' => e = .returned (.bool true) ∧ Below w.heap.size w w' := by
  have HM := hide (And.intro hm1 hE)
  clear hm1 hE
  go_enter Tryd.func4, Tryd.ntmps4
  go_wp2_with fail
  refine (new_any w).mono ?_
  rintro e w1 ⟨rfl, hP1, hz1, hb1⟩
  have hM1 := HM.out.1.below hb1
  have hE1 := HM.out.2.below hb1 h4
  have hfw := xfew_any w.heap.size a1 c1 l1 w1 hM1 h1
  have hfe := Feed_any w.heap.size w.heap.size st0 _ _ a1 c1 (l1.take 3000) w1 hP1 inv0 hE1 h4 h4 ((hM1.take 3000).bytes hP1 (Nat.le_refl _)) (by rw [List.length_take]; omega)
  rw [FeedF_of (st := st0) rfl] at hfe
  have hbal := feedF_bal (l1.take 3000) st0 false (fun h => by cases h)
  have hlen := feedF_len (l1.take 3000) st0 inv0
  have hl3000 : (l1.take 3000).length ≤ 3000 := by rw [List.length_take]; omega
  obtain ⟨n1, hn1⟩ : ∃ n1, (l1.take 3000).length = n1 := ⟨_, rfl⟩
  obtain ⟨ff, hff⟩ : ∃ ff, feedF st0 (l1.take 3000) = ff := ⟨_, rfl⟩
  rw [hff] at hfe hbal hlen
  rw [hn1] at hfw hfe hlen hl3000
  clear hn1 hff
  have H1 := hide (And.intro hfw (And.intro hfe (And.intro hbal (And.intro hP1 (And.intro hb1 hE1)))))
  clear hM1 hE1 hfw hfe hbal hP1 hb1 hz1
  go_wp2_with fail
  refine H1.out.1.mono ?_
  rintro e w2 ⟨rfl, hw⟩
  subst hw
  go_wp2_with fail
  refine H1.out.2.1.mono ?_
  rintro e w3 ⟨st3, v3, l3, vw3, vo3, rfl, q1, q2, q3, q4⟩
  have hb3 := Run.under H1.out.2.2.2.1 q3
  have hbw3 := H1.out.2.2.2.2.1.trans hb3
  have hE3 := H1.out.2.2.2.2.2.below hb3 h4
  have hs3 := hbw3.size
  have hll : l3.length = ff.2.length := by rw [← q1, List.length_map]
  have hop : st3.broken = 0 → st3.op.length = (openAt ff.2 l3.length).length := fun h0 => by
    have e : st3 = ff.1 := q4.ok (by rw [← Sim.broken q4]; exact h0)
    have e2 := H1.out.2.2.1.2
    rw [e, e2]
    unfold openAt
    rw [hll, List.take_length]
    rfl
  obtain ⟨ga3, gc3, hv3⟩ := own_shape q2.1
  obtain ⟨br, hbr⟩ : ∃ br, st3.broken = br := ⟨_, rfl⟩
  rw [hbr] at hop ⊢
  have H3 := hide (And.intro q1 (And.intro q2 (And.intro q3.isP (And.intro hbw3 (And.intro hE3 (And.intro hop H1.out.2.2.1.1))))))
  subst hv3
  clear hb3 hbw3 hE3 q1 q2 q3 q4 hbr hop
  go_wp2_with fail
  go_loopw [6, 7] (fun v i wr => ∃ k : Nat, k ≤ l3.length ∧ i = .int .i64 k ∧ wr.ownsRow w3.heap.size 9 1 v (openAt ff.2 k).length (nameCells (openAt ff.2 k)) ∧ Below w3.heap.size w3 wr) (fun _ i _ => l3.length - (intOf i).toNat)
  case atStart => exact ⟨0, Nat.zero_le _, rfl, World.ownsRow_nil _ _ _ _, Below.refl _ _⟩
  case round =>
    obtain ⟨k, hk, rfl, hown, hbw⟩ := hrel
    have hzr := hbw.size
    have hok : (openAt ff.2 k).length ≤ 6000 := by have := openAt_le ff.2 k; omega
    by_cases hlt : (k : Int) < l3.length
    · obtain ⟨x, hx⟩ : ∃ x, l3[k]? = some x := ⟨_, List.getElem?_eq_getElem (by omega)⟩
      obtain ⟨g, cap, hv, hcap, y0, y1, y3⟩ := row_cells H3.out.2.1 hx
      have hgl : g < w3.heap.size := lt_of_cell y0
      have hxt : ff.2[k]? = some x.1 := by rw [← H3.out.1, List.getElem?_map, hx]; rfl
      have htok := Bal_at ff.2 [] false k x.1 H3.out.2.2.2.2.2.2 hxt
      have hsucc := open_succ hxt
      cases hv
      have z0 : wr.cell? ⟨g, k * 4, none⟩ = some (.int .u8 x.1.kind) := (hbw.cell (p := ⟨g, _, none⟩) hgl).trans y0
      have z1 : wr.cell? ⟨g, k * 4 + 1, none⟩ = some (.string x.1.name) := (hbw.cell (p := ⟨g, _, none⟩) hgl).trans y1
      have z3 : wr.cell? ⟨g, k * 4 + 3, none⟩ = some (.string x.1.text) := (hbw.cell (p := ⟨g, _, none⟩) hgl).trans y3
      clear y0 y1 y3
      rcases htok with hk1 | ⟨hk2, hlast⟩ | ⟨hk3, hne, htx, hlc⟩
      · rw [hk1] at z0
        have HO := hide (And.intro hown (And.intro hbw (show openAt ff.2 (k + 1) = openAt ff.2 k ++ [x.1.name] by rw [hsucc]; unfold opens; rw [if_pos hk1])))
        clear hown hbw hsucc hx hxt hk1 z3
        go_wp2_with (at_builtin; refine stopHere ?_)
        unfold Hid
        refine append_nm _ rfl _ _ rfl w3.heap.size _ (openAt ff.2 k) rfl (own_same HO.out.1 (fun g hg => Below.heap_alloc _ _ _ (own_lt HO.out.1 g hg))) x.1.name wr.heap.size rfl (World.alloc_heap_new wr _) (by omega) (by simp; omega) ?_
        intro v' w' ho hgr
        have hb' : Below w3.heap.size w3 w' := (HO.out.2.1.alloc (by omega) _).grown hgr (by simp; omega) (fun g hg => own_base HO.out.1 g hg)
        have H5 := hide (And.intro ho hb')
        clear ho hb' hgr
        go_wp2_with fail
        go_roundw
        case rel => exact ⟨k + 1, by omega, by simp, by rw [HO.out.2.2]; exact H5.out.1, H5.out.2⟩
        case measure => simp [intOf]; omega
      · rw [hk2] at z0
        have hlast' : (openAt ff.2 k).getLast? = some x.1.name := hlast
        rcases List.eq_nil_or_concat (openAt ff.2 k) with hop | ⟨op', y, hop⟩
        · rw [hop] at hlast'
          cases hlast'
        · rw [List.concat_eq_append] at hop
          rw [hop] at hlast'
          have hy : y = x.1.name := by simpa using hlast'
          subst hy
          have hs2 : openAt ff.2 (k + 1) = op' := by rw [hsucc, hop]; unfold opens; rw [if_neg (by rw [hk2]; decide), if_pos hk2]; simp
          obtain ⟨m, hm⟩ : ∃ m, op'.length = m := ⟨_, rfl⟩
          have hol2 : (openAt ff.2 k).length = m + 1 := by rw [hop, ← hm]; simp
          have hnc : nameCells (openAt ff.2 k) = nameCells op' ++ [.string x.1.name] := by rw [hop]; simp [nameCells]
          obtain ⟨ga, gc, rfl⟩ := own_shape hown
          rw [hnc, hol2] at hown
          obtain ⟨go, hga, hmc, hcx⟩ := own_last hown
          have hpop := own_pop hown
          subst hga
          have HO := hide (And.intro hpop (And.intro hbw (And.intro hs2 hm)))
          rw [hol2] at hok ⊢
          have hwm : IntKind.i64.wrap ((m : Int) + 1 - 1) = m := by rw [show (m : Int) + 1 - 1 = m by omega]; exact wrap_id _ (by omega) (by omega)
          have hm0 : (((m : Int) + 1) == 0) = false := by rw [beq_eq_false_iff_ne]; omega
          have hm1 : ((((m + 1 : Nat)) : Int) == 0) = false := by rw [beq_eq_false_iff_ne]; omega
          clear hown hbw hsucc hx hxt hk2 hpop hs2 hlast hlast' hop hnc hol2 z3 hm
          go_wp2_with fail
          go_region
          all_goals
            go_wp2_with fail
            go_roundw
            case rel => exact ⟨k + 1, by omega, by simp, by rw [HO.out.2.2.1, HO.out.2.2.2]; exact HO.out.1, HO.out.2.1.drew⟩
            case measure => simp [intOf]; omega
      · rw [hk3] at z0
        have hol : 0 < (openAt ff.2 k).length := List.length_pos_iff.2 hne
        have htx' : x.1.text.toList.isEmpty = false := by
          rw [ByteArray.toList_eq]
          cases hl : x.1.text.data.toList with
          | nil => exact absurd (by rw [← size_list, hl]; rfl) htx
          | cons a l => rfl
        have hs2 : openAt ff.2 (k + 1) = openAt ff.2 k := by rw [hsucc]; unfold opens; rw [if_neg (by rw [hk3]; decide), if_neg (by rw [hk3]; decide)]
        obtain ⟨ga, gc, rfl⟩ := own_shape hown
        obtain ⟨on, hon⟩ : ∃ on, (openAt ff.2 k).length = on := ⟨_, rfl⟩
        have HO := hide (And.intro hown (And.intro hbw (And.intro hs2 hon)))
        rw [hon] at hol hok ⊢
        have hon0 : ((on : Int) == 0) = false := by rw [beq_eq_false_iff_ne]; omega
        cases k with
        | zero =>
          clear hown hbw hsucc hx hxt hk3 hs2 hon z1 htx hne hlc
          go_wp2_with fail
          go_roundw
          case rel => exact ⟨1, by omega, by simp, by rw [HO.out.2.2.1, HO.out.2.2.2]; have h := HO.out.1; rw [HO.out.2.2.2] at h; exact h, HO.out.2.1⟩
          case measure => simp [intOf]; omega
        | succ k =>
          obtain ⟨y, hy⟩ : ∃ y, l3[k]? = some y := ⟨_, List.getElem?_eq_getElem (by omega)⟩
          obtain ⟨g', cap', hv', _, u0, _, _⟩ := row_cells H3.out.2.1 hy
          cases hv'
          have u0' : wr.cell? ⟨g, k * 4, none⟩ = some (.int .u8 y.1.kind) := (hbw.cell (p := ⟨g, _, none⟩) hgl).trans u0
          have hyt : ff.2[k]? = some y.1 := by rw [← H3.out.1, List.getElem?_map, hy]; rfl
          have hlc' := (lastC_take hyt false).symm.trans hlc
          have hyk : ((y.1.kind : Int) == 3) = false := by
            rw [beq_eq_false_iff_ne]
            intro e
            exact absurd (decide_eq_true (show y.1.kind = 3 by omega)) (by rw [hlc']; decide)
          have hk0 : (0 : Int) < ((k + 1 : Nat) : Int) := by omega
          have hkm : IntKind.i64.wrap (((k + 1 : Nat) : Int) - 1) = k := by rw [show ((k + 1 : Nat) : Int) - 1 = k by omega]; exact wrap_id _ (by omega) (by omega)
          clear hown hbw hsucc hx hxt hk3 hs2 hon z1 htx hne hlc u0 hy hyt hlc'
          go_wp2_with fail
          refine ⟨⟨k + 1 + 1, by omega, by simp, ?_, HO.out.2.1⟩, by simp [intOf]; omega⟩
          rw [HO.out.2.2.1, HO.out.2.2.2]
          have h := HO.out.1
          rw [HO.out.2.2.2] at h
          exact h
    · have hkl : k = l3.length := by omega
      subst hkl
      have H2 := hide (And.intro hown hbw)
      obtain ⟨ga, gc, rfl⟩ := own_shape hown
      have hbr := H3.out.2.2.2.2.2.1
      have hEr := H3.out.2.2.2.2.1.below hbw (by omega)
      have HEr := hide hEr
      obtain ⟨on, hon⟩ : ∃ on, (openAt ff.2 l3.length).length = on := ⟨_, rfl⟩
      rw [hon] at hbr hok ⊢
      clear hown hbw hEr hon
      go_wp2_with fail
      refine (live_any wr HEr.out (by omega)).mono ?_
      rintro e w5 ⟨rfl, hb5⟩
      have hde := depth_any _ _ _ _ _ w5 ((H3.out.2.2.1.below H2.out.2).below hb5)
      have hbf : Below w.heap.size w w5 := (H3.out.2.2.2.1.trans (H2.out.2.mono (by omega))).trans (hb5.mono (by omega))
      have H5 := hide hbf
      have HD := hide hde
      clear hb5 hde hbf
      by_cases h0 : br = 0
      · have e := hbr h0
        rw [e] at HD
        subst h0
        clear hbr e
        go_wp2_with fail
        refine HD.out.mono ?_
        rintro e w6 ⟨rfl, hw⟩
        subst hw
        go_wp2_with fail
        go_ret
        exact ⟨rfl, H5.out⟩
      · have h0' : (br == 0) = false := by rw [beq_eq_false_iff_ne]; exact h0
        clear hbr
        go_wp2_with fail
        go_ret
        exact ⟨rfl, H5.out⟩
end Go.Proofs.YtbhedmdbejoinaaDoor
