/- A parser: a byte is put; what stays. -/
import Derived.Test.YthmidlmknkbdaaaDoorXp6
namespace Go.Proofs.YthmidlmknkbdaaaDoor.Xm
open Go.RowKit

theorem infoByte : (Tryd.prog.info? 5).map (fun i => (i.zero, i.size, i.bytes)) = some (some (.int .u8 0), 1, 1) := by kernel_rfl
/-- One byte more in a row of the call's own. -/
theorem append_byte (w : World) {ops : Array Oper} {rest : List Oper} {o : Oper} {a : Act} {Q : Exit → Act → World → Prop} (hg : o.guard = none) (s x : Operand)
    (hop : o.op = Op.call { callee := Callee.builtin Builtin.append, args := #[s, x], argTypes := #[33, 33] }) (base : Nat) (v : Value) (l : List UInt8) (hs : a.eval s = v) (hE : w.ownsRow base 5 1 v l.length (Lib.byteCells l)) (u : UInt8) (bx : Nat)
    (hx : a.eval x = .slice (some ⟨bx, 0, none⟩) 1 1) (hc : w.heap[bx]? = some (.cells #[.int .u8 u.toNat] 5)) (hl : l.length ≤ 100000) (hb : base ≤ w.heap.size)
    (hK : ∀ v' w', w'.ownsRow base 5 1 v' (l ++ [u]).length (Lib.byteCells (l ++ [u])) → w.grownBy w' v.ownBlock → (v'.ownBlock = v.ownBlock ∨ v'.ownBlock = some w.heap.size) → wpList Tryd.prog ops Q rest (a.put o.dst v') w') : wpList Tryd.prog ops Q (o :: rest) a w := by
  obtain ⟨i, hi, hz0, hz1, hz2⟩ := info_parts infoByte
  obtain ⟨v', w', hrun, r1, r2, _, r4⟩ := run_append_own_at (P := Tryd.prog) w base 33 o.type 5 i _ 1 1 Tryd.underlying33 hi hz0 hz1 hz2 rfl (by decide) v l.length (Lib.byteCells l) hE ⟨bx, 0, none⟩ 1 1 [.int .u8 u.toNat] rfl (fun j z hj => by
    match j, hj with
    | 0, hj => simp at hj; subst hj; simp [Addr.add, World.cell?, hc]) (by simp [Value.oneCell']) (by unfold maxLen; omega) (by omega) hb
  refine wpList_plain hg fun K hK' => ?_
  unfold Oper.wp
  simp [execOp, hop, resolve, invoke, builtin, hs, hx, hrun, Result.andThen]
  have h2 : Lib.byteCells (l ++ [u]) = Lib.byteCells l ++ [.int .u8 u.toNat] := by simp [Lib.byteCells]
  exact hK' _ _ (hK v' w' (by rw [h2, List.length_append]; exact r1) r2 r4)

/-- A row's block is the same, or new. -/
def Fr (w : World) (v v' : Value) : Prop := v'.ownBlock = v.ownBlock ∨ ∀ g, v'.ownBlock = some g → w.heap.size ≤ g
theorem Fr.refl (w : World) (v : Value) : Fr w v v := .inl rfl
theorem Fr.trans {a b : World} {v v1 v2 : Value} (h : Fr a v v1) (g : Fr b v1 v2) (hs : a.heap.size ≤ b.heap.size) : Fr a v v2 := by
  rcases g with g | g
  · rcases h with h | h
    · exact .inl (g.trans h)
    · exact .inr (fun k hk => h k (g ▸ hk))
  · exact .inr (fun k hk => Nat.le_trans hs (g k hk))
/-- A parser goes on: what it is then, and what stays. -/
structure Run (base p : Nat) (w : World) (vw vo : Value) (st' : PS) (w' : World) (vw' vo' : Value) : Prop where
  isP : IsP base p st' vw' vo' w'
  fw : Fr w vw vw'
  fo : Fr w vo vo'
  below : Below 0 w w'
  block : ∀ j, j < w.heap.size → j ≠ p → some j ≠ vw.ownBlock → some j ≠ vo.ownBlock → w'.heap[j]? = w.heap[j]?
theorem Run.refl {base p : Nat} {st : PS} {vw vo : Value} {w : World} (h : IsP base p st vw vo w) : Run base p w vw vo st w vw vo := ⟨h, .inl rfl, .inl rfl, Below.refl _ _, fun _ _ _ _ _ => rfl⟩
theorem Fr.off {w : World} {v v' : Value} (h : Fr w v v') {j : Nat} (hj : j < w.heap.size) (hn : some j ≠ v.ownBlock) : some j ≠ v'.ownBlock := by
  intro e
  rcases h with h | h
  · exact hn (e.trans h)
  · exact absurd (h j e.symm) (by omega)
theorem Run.then {base p : Nat} {st1 st2 : PS} {w w1 w2 : World} {vw vo vw1 vo1 vw2 vo2 : Value} (h : Run base p w vw vo st1 w1 vw1 vo1) (g : Run base p w1 vw1 vo1 st2 w2 vw2 vo2) : Run base p w vw vo st2 w2 vw2 vo2 :=
  ⟨g.isP, h.fw.trans g.fw h.below.size, h.fo.trans g.fo h.below.size, h.below.trans g.below, fun j hj hp h1 h2 => (g.block j (Nat.lt_of_lt_of_le hj h.below.size) hp (h.fw.off hj h1) (h.fo.off hj h2)).trans (h.block j hj hp h1 h2)⟩
theorem Run.only {base p : Nat} {st' : PS} {w w' : World} {vw vo vw' vo' : Value} (hO : Only p w w') (h : IsP base p st' vw' vo' w') (e1 : vw'.ownBlock = vw.ownBlock) (e2 : vo'.ownBlock = vo.ownBlock) : Run base p w vw vo st' w' vw' vo' :=
  ⟨h, .inl e1, .inl e2, hO.below.mono (Nat.zero_le _), fun j hj hp _ _ => hO.block j hj hp⟩
theorem Run.but {base p : Nat} {st' : PS} {w w' : World} {vw vo vo' : Value} (hB : But p vo w w') (h : IsP base p st' vw vo' w') (e2 : Fr w vo vo') : Run base p w vw vo st' w' vw vo' :=
  ⟨h, .inl rfl, e2, hB.below, fun j hj hp _ ho => hB.block j hj hp ho⟩
theorem Run.drew {base p : Nat} {st' : PS} {w w' : World} {vw vo vw' vo' : Value} (h : Run base p w vw vo st' w' vw' vo') : Run base p w vw vo st' w'.drew vw' vo' := ⟨h.isP, h.fw, h.fo, h.below.drew, h.block⟩
theorem ElRow.run {base p bt : Nat} {st st' : PS} {w w' : World} {vw vo vw' vo' v : Value} {l : List TokV} (hE : ElRow bt w v l) (h : IsP base p st vw vo w) (g : Run base p w vw vo st' w' vw' vo') : ElRow bt w' v l :=
  ⟨own_same hE.1 (fun k hk => g.block k (own_lt hE.1 k hk) (own_ne0 hE.1 h.2.1 (by decide) k hk) (own_types hE.1 h.2.2.1 (by decide) k hk) (own_types hE.1 h.2.2.2 (by decide) k hk)),
   fun x hx => ⟨own_same (hE.2 x hx).1 (fun k hk => g.block k (own_lt (hE.2 x hx).1 k hk) (own_ne0 (hE.2 x hx).1 h.2.1 (by decide) k hk) (own_types (hE.2 x hx).1 h.2.2.1 (by decide) k hk) (own_types (hE.2 x hx).1 h.2.2.2 (by decide) k hk)), (hE.2 x hx).2⟩⟩
/-- A byte is put behind those that wait. -/
theorem Run.push {base p : Nat} {st : PS} {w w2 : World} {vw vo v2 : Value} {c : UInt8} {B : Obj} (h : IsP base p st vw vo w) (ho : w2.ownsRow base 5 1 v2 (st.wait ++ [c]).length (Lib.byteCells (st.wait ++ [c]))) (hg : (w.alloc B).grownBy w2 vw.ownBlock) (hb : v2.ownBlock = vw.ownBlock ∨ v2.ownBlock = some (w.alloc B).heap.size) :
    Run base p w vw vo { st with wait := st.wait ++ [c] } (w2.setCell ⟨p, 0, none⟩ v2) v2 vo := by
  have hk : ∀ j, j < w.heap.size → some j ≠ vw.ownBlock → w2.heap[j]? = w.heap[j]? := fun j hj hn => (hg.block j (by simp; omega) hn).trans (Below.heap_alloc _ _ _ hj)
  have hp2 := (hk p h.lt (fun e => own_ne0 h.2.2.1 h.2.1 (by decide) p e.symm rfl)).trans h.2.1
  have ho2 : w2.ownsRow base 9 1 vo st.op.length (nameCells st.op) := own_same h.2.2.2 (fun g hg' => hk g (own_lt h.2.2.2 g hg') (own_types h.2.2.2 h.2.2.1 (by decide) g hg'))
  refine ⟨⟨h.1, heap_setCell_same _ _ 0 _ _ _ hp2, own_same ho (fun g hg' => Below.heap_setCell _ _ _ _ (own_ne0 ho hp2 (by decide) g hg')), own_same ho2 (fun g hg' => Below.heap_setCell _ _ _ _ (own_ne0 ho2 hp2 (by decide) g hg'))⟩, ?_, .inl rfl, ?_, fun j hj hp hw _ => (Below.heap_setCell _ _ _ _ hp).trans (hk j hj hw)⟩
  · rcases hb with e | e
    · exact .inl e
    · refine .inr (fun g hg' => ?_)
      rw [e] at hg'
      cases hg'
      simp
  · exact ((((Below.refl 0 w).alloc (Nat.zero_le _) _).grown hg (Nat.zero_le _) (fun _ _ => Nat.zero_le _))).setCell (p := ⟨p, 0, none⟩) (Nat.zero_le _) _

/-- What a byte does that is put, behind the text that it may end. -/
noncomputable def put2 (st : PS) (t : List Tok) (c : UInt8) : Except Int (PS × List Tok) :=
  if mostL (st.wait ++ [c]) < (st.wait ++ [c]).length then .error 5
  else if inTagL (st.wait ++ [c]) = true then
    (if (quoteL st.quote c).2 = true then tagL { st with wait := [], quote := (quoteL st.quote c).1 } (st.wait ++ [c]) else .ok ({ st with wait := st.wait ++ [c], quote := (quoteL st.quote c).1 }, t))
  else .ok ({ st with wait := st.wait ++ [c] }, t)
/-- What a byte does that is put. -/
noncomputable def putF (st : PS) (c : UInt8) : Except Int (PS × List Tok) :=
  if c = 60 ∧ inTagL st.wait = false then (match textL { st with wait := [] } st.wait with | .error e => .error e | .ok x => put2 x.1 x.2 c) else put2 st [] c
theorem decl_ne (l : List UInt8) : (mayL [60, 63, 120, 109, 108] (l ++ [62])).2 = true → (mayL [60, 63, 120, 109, 108] (l ++ [62])).1 ≠ [] := by
  intro h
  unfold mayL at h ⊢
  split at h
  · rename_i hp
    rw [if_pos hp]
    intro e
    obtain ⟨t, ht⟩ := List.isPrefixOf_iff_prefix.1 hp
    rw [← ht] at e
    have ht0 : t = [] := by simpa using e
    subst ht0
    have h1 := congrArg List.getLast? ht
    simp at h1
  · cases h
theorem quoteL_gt {q : Nat} {c : UInt8} (h : (quoteL q c).2 = true) : c = 62 := by
  unfold quoteL at h
  split at h
  · cases h
  · split at h
    · cases h
    · split at h
      · cases h
      · simpa using h
theorem quoteL_lt {q : Nat} (c : UInt8) (h : q < 256) : (quoteL q c).1 < 256 := by
  unfold quoteL
  split
  · exact Nat.zero_lt_succ _
  · split
    · exact h
    · split
      · exact c.toNat_lt
      · exact h
/-- What a parser keeps to. -/
structure Inv (st : PS) : Prop where
  wait : st.wait.length ≤ 2048
  op : st.op.length ≤ 8
  quote : st.quote < 256
theorem textL_keeps {st st' : PS} {s : List UInt8} {t : List Tok} (h : textL st s = .ok (st', t)) : st'.wait = st.wait ∧ st'.op = st.op ∧ st'.quote = st.quote ∧ st'.broken = st.broken ∧ t.length ≤ 1 := by
  unfold textL at h
  split at h
  · cases h; simp
  · split at h
    · cases h
    · split at h
      · split at h
        · cases h; simp
        · split at h
          · cases h; simp
          · cases h
      · cases h
theorem endP_keeps {st st' : PS} {n : ByteArray} {t : List Tok} (h : endP st n = .ok (st', t)) : st'.wait = st.wait ∧ st'.op.length ≤ st.op.length ∧ st'.quote = st.quote ∧ st'.broken = st.broken ∧ t.length ≤ 2 := by
  unfold endP at h
  split at h
  · cases h; simp
  · cases h
theorem beginP_keeps {st st' : PS} {n : ByteArray} {al : List (ByteArray × ByteArray)} {ends : Bool} {t : List Tok} (h : beginP st n al ends = .ok (st', t)) (h8 : st.op.length ≤ 8) : st'.wait = st.wait ∧ st'.op.length ≤ 8 ∧ st'.quote = st.quote ∧ st'.broken = st.broken ∧ t.length ≤ 2 := by
  unfold beginP at h
  split at h
  · cases h
  · split at h
    · cases h
    · split at h
      · cases h
      · split at h
        · cases h
        · split at h
          · cases h; simp [h8]
          · cases h; simp; omega
theorem tagL_keeps {st st' : PS} {s : List UInt8} {t : List Tok} (h : tagL st s = .ok (st', t)) (h8 : st.op.length ≤ 8) : st'.wait = st.wait ∧ st'.op.length ≤ 8 ∧ st'.quote = st.quote ∧ st'.broken = st.broken ∧ t.length ≤ 2 := by
  unfold tagL at h
  split at h
  · split at h
    · cases h; simp [h8]
    · split at h
      · cases h
      · split at h
        · cases h
        · split at h
          · split at h
            · cases h
            · have := endP_keeps h
              exact ⟨this.1, Nat.le_trans this.2.1 h8, this.2.2⟩
          · split at h
            · cases h
            · have := beginP_keeps h h8
              exact this
  · cases h
end Go.Proofs.YthmidlmknkbdaaaDoor.Xm
