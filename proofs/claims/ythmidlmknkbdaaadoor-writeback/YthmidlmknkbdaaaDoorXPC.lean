/- A parser: it is broken off; what recovers. Rows of tokens are put one behind the other. A parser: bytes are fed. A parser: its methods. -/
import Derived.Test.YthmidlmknkbdaaaDoorXp7
import Derived.Defers
import Derived.Recover
import Derived.Laws.Pointers
import Derived.Test.YthmidlmknkbdaaaDoorXp8
namespace Go.Proofs.YthmidlmknkbdaaaDoor.Xm
open Go.RowKit

set_option maxRecDepth 100000 in
theorem breakOff_any (base p : Nat) (st : PS) (vw vo : Value) (err : Int) (w : World) (hP : IsP base p st vw vo w) :
    Calls Tryd.prog 51 #[.pointer (some ⟨p, 0, none⟩), .int .i64 err] w fun e w' => e = .returned (.tuple #[]) ∧ IsP base p { st with broken := err, wait := [], quote := 0 } (.slice none 0 0) vo w' ∧ Only p w w' := by
  obtain ⟨c0, c1, _, _, _, c5, cf⟩ := hP.cells
  have cf0 := cf 0 (by omega)
  have cf1 := cf 1 (by omega)
  have cf5 := cf 5 (by omega)
  have HP := hide hP
  clear hP cf
  go_enter Tryd.func51, Tryd.ntmps51
  go_wp2_with fail
  go_end0
  refine ⟨rfl, ?_, (((Only.refl p w).set _).set _).set _⟩
  obtain ⟨h0, h1, h2, h3⟩ := HP.out
  have hk : (w.setCell ⟨p, 5, none⟩ (.int .i64 err)).heap[p]? = _ := heap_setCell_same _ _ 5 _ _ _ h1
  have hk2 : ((w.setCell ⟨p, 5, none⟩ (.int .i64 err)).setCell ⟨p, 0, none⟩ (.slice none 0 0)).heap[p]? = _ := heap_setCell_same _ _ 0 _ _ _ hk
  have hk3 : (((w.setCell ⟨p, 5, none⟩ (.int .i64 err)).setCell ⟨p, 0, none⟩ (.slice none 0 0)).setCell ⟨p, 1, none⟩ (.int .u8 0)).heap[p]? = _ := heap_setCell_same _ _ 1 _ _ _ hk2
  refine ⟨h0, hk3, World.ownsRow_nil _ _ _ _, own_same h3 (fun g hg => ?_)⟩
  have hne := own_ne0 h3 h1 (by decide) g hg
  exact (Below.heap_setCell _ _ _ _ hne).trans ((Below.heap_setCell _ _ _ _ hne).trans (Below.heap_setCell _ _ _ _ hne))

set_option maxRecDepth 100000 in
theorem catch_idle (q : Nat) (w : World) :
    CallsD Tryd.prog 50 #[.pointer (some ⟨q, 0, none⟩)] .returning w fun e u' w' => e = .returned (.tuple #[]) ∧ u' = .returning ∧ w' = w := by
  refine callsD_of_wpS Tryd.func50 rfl fun c₀ cs hu => ?_
  apply wpS_seq
  apply wpS_region
  simp [wpOpsS, go_sem, recoverD, hu, Tryd.ntmps50, Exit.thenS]
  refine wpS_of_wp ?_
  go_wp2_with fail
  cases c₀
  simp_all [bodyPostS, results, Tryd.results50]

theorem stop_assert (v : Value) (xT : TypeId) (w : World) : (Instr.typeAssert (.iface 91 v) xT 91 true).run Tryd.prog w = .ok (.tuple #[v, .bool true]) w := by
  simp [Instr.typeAssert, run_underlying Tryd.underlying91, go_sem, Result.andThen]
set_option maxRecDepth 100000 in
theorem catch_stop (base p q : Nat) (st : PS) (vw vo : Value) (err : Int) (older : List PanicEntry) (w : World) (hP : IsP base p st vw vo w) (hq : w.cell? ⟨q, 0, none⟩ = some (.pointer (some ⟨p, 0, none⟩))) :
    CallsD Tryd.prog 50 #[.pointer (some ⟨q, 0, none⟩)] (.panicking ({ v := .iface 91 (.agg #[.int .i64 err]), recovered := false } :: older)) w fun e u' w' =>
      e = .returned (.tuple #[]) ∧ u' = .panicking ({ v := .iface 91 (.agg #[.int .i64 err]), recovered := true } :: older) ∧ IsP base p { st with broken := err, wait := [], quote := 0 } (.slice none 0 0) vo w' ∧ Only p w w' := by
  have hql : q < w.heap.size := block_lt_of_cell hq
  refine callsD_of_wpS Tryd.func50 rfl fun c₀ cs hu => ?_
  apply wpS_seq
  apply wpS_region
  simp [wpOpsS, go_sem, recoverD, hu, Tryd.ntmps50, Exit.thenS]
  refine wpS_of_wp ?_
  have hta := stop_assert (.agg #[.int .i64 err]) 20 w
  have HB := hide hP
  clear hP
  simp only [Array.replicate_succ, Array.replicate_zero, List.push_toArray, List.nil_append, List.cons_append, List.setIfInBounds_toArray, List.set_cons_succ, List.set_cons_zero, List.append_toArray]
  go_wp2_with fail
  refine (breakOff_any base p st vw vo err _ (HB.out.below ((Below.refl _ w).alloc (Nat.le_refl _) _))).mono ?_
  rintro e w2 ⟨rfl, hP2, hO2⟩
  have H2 := hide (And.intro hP2 hO2)
  clear hP2 hO2
  go_wp2_with fail
  simp [bodyPostS, results, Tryd.results50]
  exact ⟨H2.out.1, (Only.of_below ((Below.refl _ w).alloc (Nat.le_refl _) _) (Nat.le_of_lt HB.out.lt)).trans H2.out.2⟩
end Go.Proofs.YthmidlmknkbdaaaDoor.Xm
namespace Go.Proofs.YthmidlmknkbdaaaDoor.Xm
open Go.RowKit

theorem run_append_none {P : Program} (w : World) (t ty e : TypeId) (i : TypeInfo) (ht : P.underlying t = some (.slice e)) (hi : P.info? e = some i) (b : Option Addr) (n c : Nat) (hb : b = none → n = 0 ∧ c = 0) (hc : n ≤ c) :
    (Builtin.append_ #[t, t] ty #[.slice b n c, .slice none 0 0]).run P w = .ok (.slice b n c) w := by
  cases b with
  | none =>
    obtain ⟨rfl, rfl⟩ := hb rfl
    simp [Builtin.append_, run_underlying ht, sizeOf, typeInfo, hi, Builtin.lenOf, run_firstCells_none]
  | some a => simp [Builtin.append_, run_underlying ht, sizeOf, typeInfo, hi, Builtin.lenOf, run_firstCells_none, hc, storeCells]
theorem tokC_one (l : List TokV) : ∀ u ∈ l.flatMap tokC, u.oneCell' = true := by
  intro u hu
  obtain ⟨x, _, h⟩ := List.mem_flatMap.1 hu
  simp [tokC] at h
  rcases h with rfl | rfl | rfl | rfl <;> rfl
theorem cellsTok_length (l : List TokV) : (l.flatMap tokC).length = l.length * 4 := by
  induction l with
  | nil => rfl
  | cons a l ih => simp only [List.flatMap_cons, List.length_append, tokC, List.length_cons, List.length_nil] at ih ⊢; omega
/-- Rows of tokens are put one behind the other. -/
theorem append_rows (w : World) {ops : Array Oper} {rest : List Oper} {o : Oper} {a : Act} {Q : Exit → Act → World → Prop} (hg : o.guard = none) (s x : Operand)
    (hop : o.op = Op.call { callee := Callee.builtin Builtin.append, args := #[s, x], argTypes := #[22, 22] }) (base : Nat) (v v2 : Value) (l l2 : List TokV) (hs : a.eval s = v) (hx : a.eval x = v2) (hE : ElRow base w v l) (hE2 : ElRow base w v2 l2)
    (hl : l.length ≤ 100000000) (hl2 : l2.length ≤ 100000000) (hb : base ≤ w.heap.size)
    (hK : ∀ v' w', ElRow base w' v' (l ++ l2) → w.grownBy w' v.ownBlock → wpList Tryd.prog ops Q rest (a.put o.dst v') w') : wpList Tryd.prog ops Q (o :: rest) a w := by
  obtain ⟨i, hi, hz0, hz1, hz2⟩ := info_parts infoTok
  obtain ⟨h21, ⟨e2, hn2⟩ | ⟨g, cap, cur, e2, hbg, hgg, hcc, hm, hsz, htk⟩⟩ := id hE2.1
  · have hl0 : l2 = [] := List.eq_nil_of_length_eq_zero hn2
    subst hl0
    subst e2
    obtain ⟨b, c, rfl⟩ := own_shape hE.1
    have hcap : (b = none → l.length = 0 ∧ c = 0) ∧ l.length ≤ c := by
      obtain ⟨_, ⟨e1, hn1⟩ | ⟨g, cap, cur, e1, _, _, hcc, _⟩⟩ := id hE.1
      · have e1' : b = none ∧ l.length = 0 ∧ c = 0 := by simpa using e1
        exact ⟨fun _ => e1'.2, by omega⟩
      · have e1' : b = some ⟨g, 0, none⟩ ∧ c = cap := by simpa using e1
        exact ⟨fun h => absurd (e1'.1.symm.trans h) (by simp), by rw [e1'.2]; exact hcc⟩
    have hrun := run_append_none (P := Tryd.prog) w 22 o.type 55 i Tryd.underlying22 hi b l.length c hcap.1 hcap.2
    refine wpList_plain hg fun K hK' => ?_
    unfold Oper.wp
    simp [execOp, hop, resolve, invoke, builtin, hs, hx, hrun, Result.andThen]
    exact hK' _ _ (hK _ w (by simpa using hE) ⟨rfl, rfl, rfl, Nat.le_refl _, fun _ _ _ => rfl⟩)
  · subst e2
    refine wpList_append_own w hg s x 22 hop base 55 i _ 4 64 Tryd.underlying22 hi hz0 hz1 hz2 rfl (by decide) v l.length (l.flatMap tokC) hs hE.1 ⟨g, 0, none⟩ l2.length cap (l2.flatMap tokC) hx (cellsTok_length l2) (hE2.1.cells rfl) (tokC_one l2) (by unfold maxLen; omega) (by omega) hb ?_
    intro v' w' ho hgr _
    refine hK v' w' ⟨by rw [List.length_append, List.flatMap_append]; exact ho, fun y hy => ?_⟩ hgr
    have hy' : w.ownsRow base 65 2 (.slice y.2.1 y.1.attrs.length y.2.2) y.1.attrs.length (attrCells y.1.attrs) ∧ Sized y.1 := by
      rcases List.mem_append.1 hy with hy | hy
      · exact hE.2 y hy
      · exact hE2.2 y hy
    exact ⟨own_same hy'.1 (fun k hk => hgr.block k (own_lt hy'.1 k hk) (own_types hy'.1 hE.1 (by decide) k hk)), hy'.2⟩
/-- What bytes do, one behind the other. -/
noncomputable def feedF (st : PS) : List UInt8 → PS × List Tok
  | [] => (st, [])
  | c :: l => match putF st c with
    | .error e => ({ st with broken := e, wait := [], quote := 0 }, [])
    | .ok x => ((feedF x.1 l).1, x.2 ++ (feedF x.1 l).2)
theorem textL_err {st : PS} {s : List UInt8} {e : Int} (h : textL st s = .error e) : e = 6 := by
  unfold textL at h
  split at h
  · cases h
  · split at h
    · cases h; rfl
    · split at h
      · split at h
        · cases h
        · split at h
          · cases h
          · cases h; rfl
      · cases h; rfl
theorem endP_err {st : PS} {n : ByteArray} {e : Int} (h : endP st n = .error e) : e = 6 := by
  unfold endP at h
  split at h
  · cases h
  · cases h; rfl
theorem beginP_err {st : PS} {n : ByteArray} {al : List (ByteArray × ByteArray)} {ends : Bool} {e : Int} (h : beginP st n al ends = .error e) : e = 5 ∨ e = 6 := by
  unfold beginP at h
  split at h
  · cases h; exact .inr rfl
  · split at h
    · cases h; exact .inl rfl
    · split at h
      · cases h; exact .inr rfl
      · split at h
        · cases h; exact .inl rfl
        · split at h <;> cases h
theorem tagL_err {st : PS} {s : List UInt8} {e : Int} (h : tagL st s = .error e) : e = 5 ∨ e = 6 ∨ e = 7 := by
  unfold tagL at h
  split at h
  · split at h
    · cases h
    · split at h
      · cases h; simp
      · split at h
        · cases h; simp
        · split at h
          · split at h
            · cases h; simp
            · exact .inr (.inl (endP_err h))
          · split at h
            · cases h; simp
            · rcases beginP_err h with h | h <;> simp [h]
  · cases h; simp
theorem put2_err {st : PS} {t : List Tok} {c : UInt8} {e : Int} (h : put2 st t c = .error e) : e = 5 ∨ e = 6 ∨ e = 7 := by
  unfold put2 at h
  split at h
  · cases h; simp
  · split at h
    · split at h
      · exact tagL_err h
      · cases h
    · cases h
theorem putF_err {st : PS} {c : UInt8} {e : Int} (h : putF st c = .error e) : e = 5 ∨ e = 6 ∨ e = 7 := by
  unfold putF at h
  split at h
  · split at h
    · rename_i e' he
      cases h
      exact .inr (.inl (textL_err he))
    · exact put2_err h
  · exact put2_err h
theorem put2_keeps {st st' : PS} {t t' : List Tok} {c : UInt8} (h : put2 st t c = .ok (st', t')) (hI : Inv st) (ht : t.length ≤ 2) : Inv st' ∧ st'.broken = st.broken ∧ t'.length ≤ 2 := by
  unfold put2 at h
  split at h
  · cases h
  · rename_i hm
    have hw : (st.wait ++ [c]).length ≤ 2048 := by
      have hmo : mostL (st.wait ++ [c]) ≤ 2048 := by unfold mostL; split <;> omega
      omega
    split at h
    · split at h
      · have hk := tagL_keeps h hI.op
        refine ⟨⟨?_, hk.2.1, ?_⟩, hk.2.2.2.1, hk.2.2.2.2⟩
        · rw [hk.1]; exact Nat.zero_le _
        · rw [hk.2.2.1]; exact quoteL_lt c hI.quote
      · cases h
        exact ⟨⟨hw, hI.op, quoteL_lt c hI.quote⟩, rfl, ht⟩
    · cases h
      exact ⟨⟨hw, hI.op, hI.quote⟩, rfl, ht⟩
theorem putF_keeps {st st' : PS} {t' : List Tok} {c : UInt8} (h : putF st c = .ok (st', t')) (hI : Inv st) : Inv st' ∧ st'.broken = st.broken ∧ t'.length ≤ 2 := by
  unfold putF at h
  split at h
  · split at h
    · cases h
    · rename_i x hx
      have hk := textL_keeps (st' := x.1) (t := x.2) hx
      have := put2_keeps h ⟨by rw [hk.1]; exact Nat.zero_le _, by rw [hk.2.1]; exact hI.op, by rw [hk.2.2.1]; exact hI.quote⟩ (by have := hk.2.2.2.2; omega)
      exact ⟨this.1, this.2.1.trans hk.2.2.2.1, this.2.2⟩
  · exact put2_keeps h hI (by simp)
/-- A state as it is told: a broken one by its names, its error and that nothing waits. -/
def Sim (a b : PS) : Prop := a = b ∨ (b.broken ≠ 0 ∧ a.op = b.op ∧ a.wait = b.wait ∧ a.quote = b.quote ∧ a.broken = b.broken)
end Go.Proofs.YthmidlmknkbdaaaDoor.Xm
namespace Go.Proofs.YthmidlmknkbdaaaDoor.Xm
open Go.RowKit

/-- Bytes that lie apart from a parser. -/
structure Bytes (w : World) (p : Nat) (vw vo : Value) (ba : Option Addr) (l : List UInt8) : Prop where
  at_ : ∀ j c, l[j]? = some c → ∃ b o, ba = some ⟨b, o, none⟩ ∧ b < w.heap.size ∧ b ≠ p ∧ some b ≠ vw.ownBlock ∧ some b ≠ vo.ownBlock ∧ w.cell? ⟨b, o + j, none⟩ = some (.int .u8 c.toNat)
theorem Bytes.run {base p : Nat} {w w' : World} {vw vo vw' vo' : Value} {st' : PS} {ba : Option Addr} {l : List UInt8} (h : Bytes w p vw vo ba l) (g : Run base p w vw vo st' w' vw' vo') : Bytes w' p vw' vo' ba l :=
  ⟨fun j c hj => by
    obtain ⟨b, o, rfl, h1, h2, h3, h4, h5⟩ := h.at_ j c hj
    refine ⟨b, o, rfl, Nat.lt_of_lt_of_le h1 g.below.size, h2, g.fw.off h1 h3, g.fo.off h1 h4, ?_⟩
    have hk := g.block b h1 h2 h3 h4
    have hc : w'.cell? ⟨b, o + j, none⟩ = w.cell? ⟨b, o + j, none⟩ := by simp [World.cell?, hk]
    rw [hc]
    exact h5⟩
theorem Bytes.only {p : Nat} {w w' : World} {vw vo : Value} {ba : Option Addr} {l : List UInt8} (h : Bytes w p vw vo ba l) (hk : ∀ j, j < w.heap.size → w'.heap[j]? = w.heap[j]?) (hs : w.heap.size ≤ w'.heap.size) : Bytes w' p vw vo ba l :=
  ⟨fun j c hj => by
    obtain ⟨b, o, rfl, h1, h2, h3, h4, h5⟩ := h.at_ j c hj
    refine ⟨b, o, rfl, Nat.lt_of_lt_of_le h1 hs, h2, h3, h4, ?_⟩
    have hk' := hk b h1
    have hc : w'.cell? ⟨b, o + j, none⟩ = w.cell? ⟨b, o + j, none⟩ := by simp [World.cell?, hk']
    rw [hc]
    exact h5⟩
theorem Run.new {base p : Nat} {st : PS} {w w' : World} {vw vo : Value} (h : IsP base p st vw vo w) (hb : Below w.heap.size w w') : Run base p w vw vo st w' vw vo :=
  ⟨h.below hb, .inl rfl, .inl rfl, hb.mono (Nat.zero_le _), fun j hj _ _ _ => hb.block j hj⟩

theorem Run.under {base p : Nat} {st st' : PS} {w w' : World} {vw vo vw' vo' : Value} (h : IsP base p st vw vo w) (g : Run base p w vw vo st' w' vw' vo') : Below base w w' :=
  ⟨g.below.os, g.below.tape, g.below.output, g.below.size, fun k hk => g.block k (by have := h.1; have := h.lt; omega) (by have := h.1; omega) (fun e => absurd (own_base h.2.2.1 k e.symm) (by omega)) (fun e => absurd (own_base h.2.2.2 k e.symm) (by omega))⟩
theorem Run.grown {base p : Nat} {st' : PS} {w w2 w3 : World} {vw vo vw' vo' v : Value} {l : List TokV} (h : Run base p w vw vo st' w2 vw' vo') (hE : ElRow w.heap.size w2 v l) (hg : w2.grownBy w3 v.ownBlock) : Run base p w vw vo st' w3 vw' vo' :=
  ⟨⟨h.isP.1, (hg.block p h.isP.lt (fun e => own_ne0 hE.1 h.isP.2.1 (by decide) p e.symm rfl)).trans h.isP.2.1, own_same h.isP.2.2.1 (fun g hg' => hg.block g (own_lt h.isP.2.2.1 g hg') (own_types h.isP.2.2.1 hE.1 (by decide) g hg')), own_same h.isP.2.2.2 (fun g hg' => hg.block g (own_lt h.isP.2.2.2 g hg') (own_types h.isP.2.2.2 hE.1 (by decide) g hg'))⟩,
   h.fw, h.fo, h.below.grown hg (Nat.zero_le _) (fun _ _ => Nat.zero_le _), fun j hj hp h1 h2 => (hg.block j (Nat.lt_of_lt_of_le hj h.below.size) (fun e => absurd (own_base hE.1 j e.symm) (by omega))).trans (h.block j hj hp h1 h2)⟩
theorem Bytes.cell {w : World} {p : Nat} {vw vo : Value} {ba : Option Addr} {l : List UInt8} (h : Bytes w p vw vo ba l) {j : Nat} {c : UInt8} (hj : l[j]? = some c) : ∃ b o, ba = some ⟨b, o, none⟩ ∧ w.cell? ⟨b, o + j, none⟩ = some (.int .u8 c.toNat) := by
  obtain ⟨b, o, h0, _, _, _, _, h5⟩ := h.at_ j c hj
  exact ⟨b, o, h0, h5⟩

theorem feedF_ok {st st' : PS} {c : UInt8} {t : List Tok} (l : List UInt8) (h : putF st c = .ok (st', t)) : feedF st (c :: l) = ((feedF st' l).1, t ++ (feedF st' l).2) := by
  rw [feedF, h]
theorem feedF_err {st : PS} {c : UInt8} {e : Int} (l : List UInt8) (h : putF st c = .error e) : feedF st (c :: l) = ({ st with broken := e, wait := [], quote := 0 }, []) := by
  rw [feedF, h]

set_option maxRecDepth 100000 in
set_option maxHeartbeats 4000000 in
theorem feed_any (base p : Nat) (st : PS) (vw vo : Value) (ba : Option Addr) (bc : Nat) (bs : List UInt8) (w : World) (hP : IsP base p st vw vo w) (hI : Inv st) (hE : Env w) (h4 : 4 ≤ p) (hb4 : 4 ≤ base) (hB : Bytes w p vw vo ba bs) (hbl : bs.length ≤ 8000000) :
    Calls Tryd.prog 33 #[.pointer (some ⟨p, 0, none⟩), .slice ba bs.length bc] w fun e w' => ∃ st' v l vw' vo', e = .returned v ∧ l.map (·.1) = (feedF st bs).2 ∧ ElRow w.heap.size w' v l ∧ Run base p w vw vo st' w' vw' vo' ∧ Sim st' (feedF st bs).1 := by
  have hmf : ∀ (fn : Fn) (first cap : Array Value) (w : World), (Instr.makeFunc fn first cap).run Tryd.prog w = .ok (.func fn first cap) w := fun _ _ _ _ => rfl
  obtain ⟨W1, hW1⟩ : ∃ W1, w.alloc (.cells #[.pointer (some ⟨p, 0, none⟩)] 41) = W1 := ⟨_, rfl⟩
  have hb1 : Below w.heap.size w W1 := by rw [← hW1]; exact (Below.refl _ w).alloc (Nat.le_refl _) _
  have f1 : W1.heap[w.heap.size]? = some (.cells #[.pointer (some ⟨p, 0, none⟩)] 41) := by rw [← hW1]; exact World.alloc_heap_new w _
  have z1 : W1.heap.size = w.heap.size + 1 := by rw [← hW1]; simp
  have hr1 := Run.new hP hb1
  have hpl := hP.lt
  have HH := hide (And.intro hr1 (And.intro hI (And.intro (hE.below hb1 (by omega)) (And.intro hB (And.intro f1 hP)))))
  have HW1 := hide hW1
  clear hr1 hI hE hB f1 hb1 hW1 hP
  obtain ⟨ff, hff⟩ : ∃ ff, feedF st bs = ff := ⟨_, rfl⟩
  rw [hff]
  have HFF := hide hff
  clear hff
  go_enter_defers Tryd.func33, Tryd.ntmps33
  go_wp2_with fail
  rw [HW1.out]
  go_loopw [4, 10] (fun told i wr => ∃ (k : Nat) (stk : PS) (vwk vok : Value) (l : List TokV), k ≤ bs.length ∧ i = .int .i64 k ∧ l.map (·.1) ++ (feedF stk (bs.drop k)).2 = ff.2 ∧ (feedF stk (bs.drop k)).1 = ff.1 ∧ ElRow w.heap.size wr told l ∧ l.length ≤ 2 * k ∧ Run base p w vw vo stk wr vwk vok ∧ Inv stk ∧ Env wr ∧ Bytes wr p vwk vok ba bs ∧ wr.heap[w.heap.size]? = some (.cells #[.pointer (some ⟨p, 0, none⟩)] 41)) (fun _ i _ => bs.length - (intOf i).toNat)
  case atStart =>
    exact ⟨0, st, vw, vo, [], Nat.zero_le _, rfl, by rw [← HFF.out]; rfl, by rw [← HFF.out]; rfl, ⟨World.ownsRow_nil _ _ _ _, fun x hx => by simp at hx⟩, Nat.zero_le _, HH.out.1, HH.out.2.1, HH.out.2.2.1, HH.out.2.2.2.1.run HH.out.1, HH.out.2.2.2.2.1⟩
  case round =>
    obtain ⟨k, stk, vwk, vok, l, hk, rfl, e1, e2, hEl, hll, hrun, hIk, hEv, hBy, hbox⟩ := hrel
    have HI := hide (And.intro e1 (And.intro e2 (And.intro hEl (And.intro hrun (And.intro hIk (And.intro hEv (And.intro hBy hbox)))))))
    have y0 : wr.cell? ⟨w.heap.size, 0, none⟩ = some (.pointer (some ⟨p, 0, none⟩)) := by simp [World.cell?, hbox]
    clear e1 e2 hEl hrun hIk hEv hBy hbox
    by_cases hlt : (k : Int) < bs.length
    · obtain ⟨c, hc⟩ : ∃ c, bs[k]? = some c := ⟨_, List.getElem?_eq_getElem (by omega)⟩
      obtain ⟨b, o, hbe, hcell⟩ := HI.out.2.2.2.2.2.2.1.cell hc
      have hzr := HI.out.2.2.2.1.below.size
      have hput := put_any base p w.heap.size stk vwk vok c wr HI.out.2.2.2.1.isP HI.out.2.2.2.2.1 HI.out.2.2.2.2.2.1 h4 hb4 hzr
      have HC := hide (And.intro hc hput)
      clear hc hput
      subst hbe
      go_wp2_with fail
      refine HC.out.2.mono ?_
      rintro e w2 (⟨st2, t2, v2, l2, vw2, vo2, q1, rfl, q3, q4, q5⟩ | ⟨err, st2, vw2, vo2, q1, rfl, q3, q5⟩)
      · have hEl2 := HI.out.2.2.1.run HI.out.2.2.2.1.isP q5
        have hkp := putF_keeps q1 HI.out.2.2.2.2.1
        have hl2 : l2.length ≤ 2 := by
          have h := congrArg List.length q3
          rw [List.length_map] at h
          have := hkp.2.2
          omega
        have hdr : bs.drop k = c :: bs.drop (k + 1) := by
          rw [List.drop_eq_getElem_cons (by omega)]
          have h := HC.out.1
          rw [List.getElem?_eq_getElem (by omega)] at h
          cases h
          rfl
        have hff2 := feedF_ok (bs.drop (k + 1)) q1
        rw [← hdr] at hff2
        have hbox2 : w2.heap[w.heap.size]? = some (.cells #[.pointer (some ⟨p, 0, none⟩)] 41) := (q5.block w.heap.size (Array.getElem?_eq_some_iff.1 HI.out.2.2.2.2.2.2.2).1 (by omega) (fun e => own_ne0 HI.out.2.2.2.1.isP.2.2.1 HI.out.2.2.2.2.2.2.2 (by decide) w.heap.size e.symm rfl) (fun e => own_ne0 HI.out.2.2.2.1.isP.2.2.2 HI.out.2.2.2.2.2.2.2 (by decide) w.heap.size e.symm rfl)).trans HI.out.2.2.2.2.2.2.2
        have hEv2 := HI.out.2.2.2.2.2.1.below (Run.under HI.out.2.2.2.1.isP q5) hb4
        have hz2 := q5.below.size
        have H2 := hide (And.intro hEl2 (And.intro q4 (And.intro hkp (And.intro hff2 (And.intro hbox2 (And.intro hEv2 (And.intro q5 q3)))))))
        clear hEl2 q4 hkp hff2 hbox2 hEv2 q5 q3 q1 hdr
        go_wp2_with (at_builtin; refine stopHere ?_)
        unfold Hid
        refine append_rows _ rfl _ _ rfl w.heap.size _ _ l l2 rfl rfl H2.out.1 H2.out.2.1 (by omega) (by omega) (by omega) ?_
        intro v3 w3 hE3 hgr3
        have hr3 := (HI.out.2.2.2.1.then H2.out.2.2.2.2.2.2.1).grown H2.out.1 hgr3
        have hEv3 : Env w3 := H2.out.2.2.2.2.2.1.below (((Below.refl 4 w2).grown hgr3 (by omega) (fun k hk => by have := own_base H2.out.1.1 k hk; omega))) (Nat.le_refl _)
        have hbox3 := (hgr3.block w.heap.size (Array.getElem?_eq_some_iff.1 H2.out.2.2.2.2.1).1 (fun e => own_ne0 H2.out.1.1 H2.out.2.2.2.2.1 (by decide) w.heap.size e.symm rfl)).trans H2.out.2.2.2.2.1
        have H3 := hide (And.intro hE3 (And.intro hr3 (And.intro hEv3 hbox3)))
        clear hE3 hgr3 hr3 hEv3 hbox3
        go_wp2_with fail
        go_roundw
        case rel =>
          refine ⟨k + 1, st2, vw2, vo2, l ++ l2, by omega, by simp, ?_, ?_, H3.out.1, by rw [List.length_append]; omega, H3.out.2.1, H2.out.2.2.1.1, H3.out.2.2.1, HH.out.2.2.2.1.run H3.out.2.1, H3.out.2.2.2⟩
          · have h := HI.out.1
            rw [H2.out.2.2.2.1] at h
            rw [List.map_append, H2.out.2.2.2.2.2.2.2, List.append_assoc]
            exact h
          · have h := HI.out.2.1
            rw [H2.out.2.2.2.1] at h
            exact h
        case measure => simp [intOf]; omega
      · have hdr : bs.drop k = c :: bs.drop (k + 1) := by
          rw [List.drop_eq_getElem_cons (by omega)]
          have h := HC.out.1
          rw [List.getElem?_eq_getElem (by omega)] at h
          cases h
          rfl
        have hff2 := feedF_err (bs.drop (k + 1)) q1
        rw [← hdr] at hff2
        have hEl2 := HI.out.2.2.1.run HI.out.2.2.2.1.isP q5
        have hbox2 : w2.heap[w.heap.size]? = some (.cells #[.pointer (some ⟨p, 0, none⟩)] 41) := (q5.block w.heap.size (Array.getElem?_eq_some_iff.1 HI.out.2.2.2.2.2.2.2).1 (by omega) (fun e => own_ne0 HI.out.2.2.2.1.isP.2.2.1 HI.out.2.2.2.2.2.2.2 (by decide) w.heap.size e.symm rfl) (fun e => own_ne0 HI.out.2.2.2.1.isP.2.2.2 HI.out.2.2.2.2.2.2.2 (by decide) w.heap.size e.symm rfl)).trans HI.out.2.2.2.2.2.2.2
        have hq2 : w2.cell? ⟨w.heap.size, 0, none⟩ = some (.pointer (some ⟨p, 0, none⟩)) := by simp [World.cell?, hbox2]
        have hne := putF_err q1
        refine leaves_cons (f := 50) (args := #[.pointer (some ⟨w.heap.size, 0, none⟩)]) (by simp) (by simp [go_sem]) ?_
        refine (catch_stop base p w.heap.size st2 vw2 vo2 err [] w2 q5.isP hq2).mono ?_
        rintro e u' w9 ⟨rfl, rfl, hP9, hO9⟩
        have hr9 : Run base p w2 vw2 vo2 { st2 with broken := err, wait := [], quote := 0 } w9 (.slice none 0 0) vo2 := ⟨hP9, .inr (fun g h => by cases h), .inl rfl, hO9.below.mono (Nat.zero_le _), fun j hj hp _ _ => hO9.block j hj hp⟩
        simp [Leaves, settle, results, Tryd.results33, go_sem]
        refine ⟨{ st2 with broken := err, wait := [], quote := 0 }, l, ?_, hEl2.run q5.isP hr9, ⟨_, _, (HI.out.2.2.2.1.then q5).then hr9⟩, ?_⟩
        · have h := HI.out.1
          rw [hff2] at h
          simpa using h
        · have h := HI.out.2.1
          rw [hff2] at h
          rw [← h]
          exact .inr ⟨by rcases hne with h | h | h <;> simp [h], q3, rfl, rfl, rfl⟩
    · have hkl : k = bs.length := by omega
      have hdr : bs.drop k = [] := by rw [hkl]; exact List.drop_length
      have HD := hide hdr
      clear hdr hkl
      go_wp2_with fail
      refine leaves_cons (f := 50) (args := #[.pointer (some ⟨w.heap.size, 0, none⟩)]) (by simp) (by simp [go_sem]) ?_
      refine (catch_idle w.heap.size wr).mono ?_
      rintro e u' w9 ⟨rfl, rfl, hw⟩
      subst hw
      simp [Leaves, settle, results, Tryd.results33, go_sem]
      refine ⟨stk, l, ?_, HI.out.2.2.1, ⟨_, _, HI.out.2.2.2.1⟩, ?_⟩
      · have h := HI.out.1
        rw [HD.out] at h
        simpa [feedF] using h
      · have h := HI.out.2.1
        rw [HD.out] at h
        exact .inl (by simpa [feedF] using h)
end Go.Proofs.YthmidlmknkbdaaaDoor.Xm
namespace Go.Proofs.YthmidlmknkbdaaaDoor.Xm
open Go.RowKit

/-- A parser at the beginning. -/
def st0 : PS := ⟨[], 0, [], false, false, 0⟩
theorem inv0 : Inv st0 := ⟨Nat.zero_le _, Nat.zero_le _, by decide⟩
theorem new_any (w : World) : Calls Tryd.prog 17 #[] w fun e w' => e = .returned (.pointer (some ⟨w.heap.size, 0, none⟩)) ∧ IsP w.heap.size w.heap.size st0 (.slice none 0 0) (.slice none 0 0) w' ∧ w'.heap.size = w.heap.size + 1 ∧ Below w.heap.size w w' := by
  go_enter Tryd.func17, Tryd.ntmps17
  go_wp2_with fail
  go_ret
  exact ⟨rfl, ⟨Nat.le_refl _, World.alloc_heap_new w _, World.ownsRow_nil _ _ _ _, World.ownsRow_nil _ _ _ _⟩, by simp, (Below.refl _ w).alloc (Nat.le_refl _) _⟩
/-- What bytes do that are fed: a broken parser takes none. -/
noncomputable def FeedF (st : PS) (l : List UInt8) : PS × List Tok := if st.broken = 0 then feedF st l else (st, [])
set_option maxRecDepth 100000 in
theorem Feed_any (base p : Nat) (st : PS) (vw vo : Value) (ba : Option Addr) (bc : Nat) (bs : List UInt8) (w : World) (hP : IsP base p st vw vo w) (hI : Inv st) (hE : Env w) (h4 : 4 ≤ p) (hb4 : 4 ≤ base) (hB : Bytes w p vw vo ba bs) (hbl : bs.length ≤ 8000000) :
    Calls Tryd.prog 18 #[.pointer (some ⟨p, 0, none⟩), .slice ba bs.length bc] w fun e w' => ∃ st' v l vw' vo', e = .returned (.tuple #[v, .int .i64 st'.broken]) ∧ l.map (·.1) = (FeedF st bs).2 ∧ ElRow w.heap.size w' v l ∧ Run base p w vw vo st' w' vw' vo' ∧ Sim st' (FeedF st bs).1 := by
  have hfe := feed_any base p st vw vo ba bc bs w hP hI hE h4 hb4 hB hbl
  obtain ⟨_, _, _, _, _, c5, _⟩ := hP.cells
  unfold FeedF
  by_cases h0 : st.broken = 0
  · rw [if_pos h0]
    rw [h0] at c5
    obtain ⟨ff, hff⟩ : ∃ ff, feedF st bs = ff := ⟨_, rfl⟩
    rw [hff] at hfe ⊢
    have HF := hide hfe
    clear hfe hff hP hI hE hB h0
    go_enter Tryd.func18, Tryd.ntmps18
    go_wp2_with fail
    refine HF.out.mono ?_
    rintro e w2 ⟨st2, v, l, vw2, vo2, rfl, q1, q2, q3, q4⟩
    obtain ⟨_, _, _, _, _, d5, _⟩ := q3.isP.cells
    have H2 := hide (And.intro q1 (And.intro q2 (And.intro q3 q4)))
    clear q1 q2 q3 q4
    go_wp2_with fail
    go_region
    all_goals
      go_wp2_with fail
      go_ret2
      exact ⟨st2, v, l, vw2, vo2, rfl, H2.out.1, H2.out.2.1, H2.out.2.2.1.drew, H2.out.2.2.2⟩
  · rw [if_neg h0]
    have HP := hide (And.intro hP h0)
    have h0' : (st.broken == 0) = false := by rw [beq_eq_false_iff_ne]; exact h0
    clear hfe hP hI hE hB h0
    go_enter Tryd.func18, Tryd.ntmps18
    go_wp2_with fail
    go_region
    all_goals
      go_wp2_with fail
      go_ret2
      exact ⟨st, _, [], vw, vo, rfl, rfl, ⟨World.ownsRow_nil _ _ _ _, fun x hx => by simp at hx⟩, (Run.refl HP.out.1).drew, .inl rfl⟩
end Go.Proofs.YthmidlmknkbdaaaDoor.Xm
