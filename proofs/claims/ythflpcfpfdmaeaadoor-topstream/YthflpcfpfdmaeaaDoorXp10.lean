/- Rows of tokens are put one behind the other. -/
import Derived.Test.YthflpcfpfdmaeaaDoorXp8
import Derived.Test.YthflpcfpfdmaeaaDoorXp9
namespace Go.Proofs.YthflpcfpfdmaeaaDoor.Xm
open Go.RowKit

theorem run_append_none {P : Program} (w : World) (t ty e : TypeId) (i : TypeInfo) (ht : P.underlying t = some (.slice e)) (hi : P.info? e = some i) (b : Option Addr) (n c : Nat) (hb : b = none → n = 0 ∧ c = 0) (hc : n ≤ c) :
    (Builtin.append_ #[t, t] ty #[.slice b n c, .slice none 0 0]).run P w = .ok (.slice b n c) w := by
  cases b with
  | none =>
    obtain ⟨rfl, rfl⟩ := hb rfl
    simp [Builtin.append_, run_underlying ht, sizeOf, typeInfo, hi, Builtin.lenOf, run_firstCells_none]
  | some a => simp [Builtin.append_, run_underlying ht, sizeOf, typeInfo, hi, Builtin.lenOf, run_firstCells_none, hc, storeCells]
theorem tokC_one (l : List TokV) : ∀ u ∈ l.flatMap tokC, u.oneCell' = true := by
  intro u hu
  obtain ⟨x, _, h⟩ := List.mem_flatMap.1 hu
  simp [tokC] at h
  rcases h with rfl | rfl | rfl | rfl <;> rfl
theorem cellsTok_length (l : List TokV) : (l.flatMap tokC).length = l.length * 4 := by
  induction l with
  | nil => rfl
  | cons a l ih => simp only [List.flatMap_cons, List.length_append, tokC, List.length_cons, List.length_nil] at ih ⊢; omega
/-- Rows of tokens are put one behind the other. -/
theorem append_rows (w : World) {ops : Array Oper} {rest : List Oper} {o : Oper} {a : Act} {Q : Exit → Act → World → Prop} (hg : o.guard = none) (s x : Operand)
    (hop : o.op = Op.call { callee := Callee.builtin Builtin.append, args := #[s, x], argTypes := #[22, 22] }) (base : Nat) (v v2 : Value) (l l2 : List TokV) (hs : a.eval s = v) (hx : a.eval x = v2) (hE : ElRow base w v l) (hE2 : ElRow base w v2 l2)
    (hl : l.length ≤ 100000) (hl2 : l2.length ≤ 100000) (hb : base ≤ w.heap.size)
    (hK : ∀ v' w', ElRow base w' v' (l ++ l2) → w.grownBy w' v.ownBlock → wpList Tryd.prog ops Q rest (a.put o.dst v') w') : wpList Tryd.prog ops Q (o :: rest) a w := by
  obtain ⟨i, hi, hz0, hz1, hz2⟩ := info_parts infoTok
  obtain ⟨h21, ⟨e2, hn2⟩ | ⟨g, cap, cur, e2, hbg, hgg, hcc, hm, hsz, htk⟩⟩ := id hE2.1
  · have hl0 : l2 = [] := List.eq_nil_of_length_eq_zero hn2
    subst hl0
    subst e2
    obtain ⟨b, c, rfl⟩ := own_shape hE.1
    have hcap : (b = none → l.length = 0 ∧ c = 0) ∧ l.length ≤ c := by
      obtain ⟨_, ⟨e1, hn1⟩ | ⟨g, cap, cur, e1, _, _, hcc, _⟩⟩ := id hE.1
      · have e1' : b = none ∧ l.length = 0 ∧ c = 0 := by simpa using e1
        exact ⟨fun _ => e1'.2, by omega⟩
      · have e1' : b = some ⟨g, 0, none⟩ ∧ c = cap := by simpa using e1
        exact ⟨fun h => absurd (e1'.1.symm.trans h) (by simp), by rw [e1'.2]; exact hcc⟩
    have hrun := run_append_none (P := Tryd.prog) w 22 o.type 29 i Tryd.underlying22 hi b l.length c hcap.1 hcap.2
    refine wpList_plain hg fun K hK' => ?_
    unfold Oper.wp
    simp [execOp, hop, resolve, invoke, builtin, hs, hx, hrun, Result.andThen]
    exact hK' _ _ (hK _ w (by simpa using hE) ⟨rfl, rfl, rfl, Nat.le_refl _, fun _ _ _ => rfl⟩)
  · subst e2
    refine wpList_append_own w hg s x 22 hop base 29 i _ 4 64 Tryd.underlying22 hi hz0 hz1 hz2 rfl (by decide) v l.length (l.flatMap tokC) hs hE.1 ⟨g, 0, none⟩ l2.length cap (l2.flatMap tokC) hx (cellsTok_length l2) (hE2.1.cells rfl) (tokC_one l2) (by unfold maxLen; omega) (by omega) hb ?_
    intro v' w' ho hgr _
    refine hK v' w' ⟨by rw [List.length_append, List.flatMap_append]; exact ho, fun y hy => ?_⟩ hgr
    have hy' : w.ownsRow base 25 2 (.slice y.2.1 y.1.attrs.length y.2.2) y.1.attrs.length (attrCells y.1.attrs) ∧ Sized y.1 := by
      rcases List.mem_append.1 hy with hy | hy
      · exact hE.2 y hy
      · exact hE2.2 y hy
    exact ⟨own_same hy'.1 (fun k hk => hgr.block k (own_lt hy'.1 k hk) (own_types hy'.1 hE.1 (by decide) k hk)), hy'.2⟩
/-- What bytes do, one behind the other. -/
noncomputable def feedF (st : PS) : List UInt8 → PS × List Tok
  | [] => (st, [])
  | c :: l => match putF st c with
    | .error e => ({ st with broken := e, wait := [], quote := 0 }, [])
    | .ok x => ((feedF x.1 l).1, x.2 ++ (feedF x.1 l).2)
theorem textL_err {st : PS} {s : List UInt8} {e : Int} (h : textL st s = .error e) : e = 6 := by
  unfold textL at h
  split at h
  · cases h
  · split at h
    · cases h; rfl
    · split at h
      · split at h
        · cases h
        · split at h
          · cases h
          · cases h; rfl
      · cases h; rfl
theorem endP_err {st : PS} {n : ByteArray} {e : Int} (h : endP st n = .error e) : e = 6 := by
  unfold endP at h
  split at h
  · cases h
  · cases h; rfl
theorem beginP_err {st : PS} {n : ByteArray} {al : List (ByteArray × ByteArray)} {ends : Bool} {e : Int} (h : beginP st n al ends = .error e) : e = 5 ∨ e = 6 := by
  unfold beginP at h
  split at h
  · cases h; exact .inr rfl
  · split at h
    · cases h; exact .inl rfl
    · split at h
      · cases h; exact .inr rfl
      · split at h
        · cases h; exact .inl rfl
        · split at h <;> cases h
theorem tagL_err {st : PS} {s : List UInt8} {e : Int} (h : tagL st s = .error e) : e = 5 ∨ e = 6 ∨ e = 7 := by
  unfold tagL at h
  split at h
  · split at h
    · cases h
    · split at h
      · cases h; simp
      · split at h
        · cases h; simp
        · split at h
          · split at h
            · cases h; simp
            · exact .inr (.inl (endP_err h))
          · split at h
            · cases h; simp
            · rcases beginP_err h with h | h <;> simp [h]
  · cases h; simp
theorem put2_err {st : PS} {t : List Tok} {c : UInt8} {e : Int} (h : put2 st t c = .error e) : e = 5 ∨ e = 6 ∨ e = 7 := by
  unfold put2 at h
  split at h
  · cases h; simp
  · split at h
    · split at h
      · exact tagL_err h
      · cases h
    · cases h
theorem putF_err {st : PS} {c : UInt8} {e : Int} (h : putF st c = .error e) : e = 5 ∨ e = 6 ∨ e = 7 := by
  unfold putF at h
  split at h
  · split at h
    · rename_i e' he
      cases h
      exact .inr (.inl (textL_err he))
    · exact put2_err h
  · exact put2_err h
theorem put2_keeps {st st' : PS} {t t' : List Tok} {c : UInt8} (h : put2 st t c = .ok (st', t')) (hI : Inv st) (ht : t.length ≤ 2) : Inv st' ∧ st'.broken = st.broken ∧ t'.length ≤ 2 := by
  unfold put2 at h
  split at h
  · cases h
  · rename_i hm
    have hw : (st.wait ++ [c]).length ≤ 2048 := by
      have hmo : mostL (st.wait ++ [c]) ≤ 2048 := by unfold mostL; split <;> omega
      omega
    split at h
    · split at h
      · have hk := tagL_keeps h hI.op
        refine ⟨⟨?_, hk.2.1, ?_⟩, hk.2.2.2.1, hk.2.2.2.2⟩
        · rw [hk.1]; exact Nat.zero_le _
        · rw [hk.2.2.1]; exact quoteL_lt c hI.quote
      · cases h
        exact ⟨⟨hw, hI.op, quoteL_lt c hI.quote⟩, rfl, ht⟩
    · cases h
      exact ⟨⟨hw, hI.op, hI.quote⟩, rfl, ht⟩
theorem putF_keeps {st st' : PS} {t' : List Tok} {c : UInt8} (h : putF st c = .ok (st', t')) (hI : Inv st) : Inv st' ∧ st'.broken = st.broken ∧ t'.length ≤ 2 := by
  unfold putF at h
  split at h
  · split at h
    · cases h
    · rename_i x hx
      have hk := textL_keeps (st' := x.1) (t := x.2) hx
      have := put2_keeps h ⟨by rw [hk.1]; exact Nat.zero_le _, by rw [hk.2.1]; exact hI.op, by rw [hk.2.2.1]; exact hI.quote⟩ (by have := hk.2.2.2.2; omega)
      exact ⟨this.1, this.2.1.trans hk.2.2.2.1, this.2.2⟩
  · exact put2_keeps h hI (by simp)
/-- A state as it is told: a broken one by its names, its error and that nothing waits. -/
def Sim (a b : PS) : Prop := a = b ∨ (b.broken ≠ 0 ∧ a.op = b.op ∧ a.wait = b.wait ∧ a.quote = b.quote ∧ a.broken = b.broken)
end Go.Proofs.YthflpcfpfdmaeaaDoor.Xm
