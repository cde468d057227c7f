/- Tokens are copied, with their attributes. Stanzas: what Decode asks. -/
import Derived.Test.YthmidlmknkbdaaaDoorElem
import Derived.Laws.OwnMore
import Derived.Test.YthmidlmknkbdaaaDoorXG
import Derived.Test.YthmidlmknkbdaaaDoorXH
namespace Go.Proofs.YthmidlmknkbdaaaDoor
open Go.RowKit Go.Shelf

def Tryd.renCloneT : Go.Shelf.Ren := ⟨fun | 41 => 54 | n => n, fun | 4 => 4 | 22 => 22 | 23 => 55 | n => n, fun n => n⟩
theorem Tryd.laysCloneT : Go.Proofs.SlLaysE0.n41 Tryd.prog Tryd.renCloneT := {
  mixed := by kernel_rfl
  f41 := ⟨Tryd.f54.name, by decide, Tryd.func54.trans (congrArg some (by kernel_rfl))⟩
  t4 := Tryd.underlying4
  a4 := Tryd.isAgg4
  z4 := Tryd.sizeOf4
  v4 := Tryd.zeroValue4
  t22 := Tryd.underlying22
  a22 := Tryd.isAgg22
  z22 := Tryd.sizeOf22
  v22 := Tryd.zeroValue22 }
/-- Tokens, each with where its attributes lie. -/
def lieAt (ts : List Tok) (av : Nat → Option Addr × Nat) : List TokV := (List.range ts.length).map fun k => ((ts[k]?).getD ⟨0, ⟨#[]⟩, [], ⟨#[]⟩⟩, av k)
theorem lie_len (ts : List Tok) (av : Nat → Option Addr × Nat) : (lieAt ts av).length = ts.length := by simp [lieAt]
theorem lie_at {ts : List Tok} {av : Nat → Option Addr × Nat} {k : Nat} {x : TokV} (h : (lieAt ts av)[k]? = some x) : ts[k]? = some x.1 ∧ x.2 = av k := by
  have hk := (List.getElem?_eq_some_iff.1 h).1
  rw [lie_len] at hk
  simp [lieAt, hk] at h
  subst h
  exact ⟨by simp [hk], rfl⟩
theorem lie_map (ts : List Tok) (av : Nat → Option Addr × Nat) : (lieAt ts av).map (·.1) = ts := by
  refine List.ext_getElem? fun k => ?_
  by_cases hk : k < ts.length
  · simp [lieAt, hk]
  · simp [lieAt, hk]
theorem tokCells_len (l : List TokV) : (l.flatMap tokC).length = l.length * 4 := by
  induction l with
  | nil => rfl
  | cons x l ih =>
    rw [List.flatMap_cons, List.length_append, ih]
    simp [tokC]
    omega
theorem tokCells_inv {l : List TokV} {i : Nat} {u : Value} (h : (l.flatMap tokC)[i]? = some u) : ∃ k x, l[k]? = some x ∧ ((i = k * 4 ∧ u = .int .u8 x.1.kind) ∨ (i = k * 4 + 1 ∧ u = .string x.1.name) ∨ (i = k * 4 + 2 ∧ u = .slice x.2.1 x.1.attrs.length x.2.2) ∨ (i = k * 4 + 3 ∧ u = .string x.1.text)) := by
  have hlt := (List.getElem?_eq_some_iff.1 h).1
  rw [tokCells_len] at hlt
  have hj : i / 4 < l.length := by omega
  obtain ⟨x, hx⟩ : ∃ x, l[i / 4]? = some x := ⟨l[i / 4], by simp [hj]⟩
  obtain ⟨x1, x2, x3, x4⟩ := tokCells_at l (i / 4) x hx
  refine ⟨i / 4, x, hx, ?_⟩
  have hm : i % 4 = 0 ∨ i % 4 = 1 ∨ i % 4 = 2 ∨ i % 4 = 3 := by omega
  rcases hm with hm | hm | hm | hm
  · have e : i / 4 * 4 = i := by omega
    rw [e, h] at x1
    exact .inl ⟨e.symm, by cases x1; rfl⟩
  · have e : i / 4 * 4 + 1 = i := by omega
    rw [e, h] at x2
    exact .inr (.inl ⟨e.symm, by cases x2; rfl⟩)
  · have e : i / 4 * 4 + 2 = i := by omega
    rw [e, h] at x3
    exact .inr (.inr (.inl ⟨e.symm, by cases x3; rfl⟩))
  · have e : i / 4 * 4 + 3 = i := by omega
    rw [e, h] at x4
    exact .inr (.inr (.inr ⟨e.symm, by cases x4; rfl⟩))
/-- Another place for the attributes of one. -/
theorem tok_set : ∀ (l : List TokV) (k : Nat) (x : TokV) (a : Option Addr) (c : Nat), l[k]? = some x → (l.flatMap tokC).set (k * 4 + 2) (.slice a x.1.attrs.length c) = (l.set k (x.1, a, c)).flatMap tokC
  | [], k, x, a, c, h => by simp at h
  | y :: l, 0, x, a, c, h => by
    simp at h
    subst h
    simp [tokC]
  | y :: l, k + 1, x, a, c, h => by
    have ih := tok_set l k x a c (by simpa using h)
    rw [show (k + 1) * 4 + 2 = k * 4 + 2 + 1 + 1 + 1 + 1 by omega]
    simp only [List.flatMap_cons, tokC, List.cons_append, List.nil_append, List.set_cons_succ] at ih ⊢
    rw [← ih]
theorem set_map {l : List TokV} {k : Nat} {x : TokV} (h : l[k]? = some x) (a : Option Addr) (c : Nat) : (l.set k (x.1, a, c)).map (·.1) = l.map (·.1) := by
  rw [List.map_set]
  refine List.ext_getElem? fun j => ?_
  rw [List.getElem?_set]
  split
  · rename_i e
    subst e
    have hk := (List.getElem?_eq_some_iff.1 h).1
    have he := (List.getElem?_eq_some_iff.1 h).2
    simp [hk, he]
  · rfl
set_option maxRecDepth 100000 in
/-- Nothing is cloned, wherever it may lie. -/
theorem cloneT_none (a : Addr) (cap : Nat) (w : World) :
    Calls Tryd.prog 54 #[.slice (some a) 0 cap] w fun e w' => ∃ v, e = .returned v ∧ w'.ownsRow w.heap.size 55 4 v 0 [] ∧ Below w.heap.size w w' := by
  obtain ⟨i0, hi, hz0, hz1, hz2⟩ := info_parts infoTok
  have HI := hide (And.intro hi (And.intro hz0 (And.intro hz1 hz2)))
  clear hi hz0 hz1 hz2
  have q22 : ∀ (w : World) (a : Option Addr) (n c n' c' : Nat), (binOp .eql 22 (.slice a n c) (.slice none n' c')).run Tryd.prog w = .ok (.bool a.isNone) w := fun w a n c n' c' => Lib.run_eql_slice_nil w _ _ a n c n' c' Tryd.underlying22
  go_enter Tryd.func54, Tryd.ntmps54
  go_wp2_with (at_builtin; refine wpList_append_own _ rfl _ _ 22 rfl w.heap.size 55 i0 _ 4 64 Tryd.underlying22 HI.out.1 HI.out.2.1 HI.out.2.2.1 HI.out.2.2.2 rfl (by decide) _ _ _ rfl (World.ownsRow_made w #[] 0 (Nat.le_refl _) (Nat.zero_le _) (by simp)) a 0 cap [] rfl (by simp) (by simp) (by simp) (by unfold maxLen; omega) (by omega) (by simp) ?_; intro v1 w1 hown hgrow _)
  go_wp2
  go_ret
  exact ⟨v1, rfl, hown, ((Below.refl _ w).alloc (Nat.le_refl _) _).grown hgrow (by simp) (fun k hk => by cases hk; exact Nat.le_refl _)⟩
theorem cloneT_any (n₀ : Nat) (ao : Option Addr) (cap : Nat) (ts : List Tok) (av : Nat → Option Addr × Nat) (w : World) (hT : TokMem n₀ w ao ts av) :
    Calls Tryd.prog 54 #[.slice ao ts.length cap] w fun e w' => ∃ v, e = .returned v ∧ w'.ownsRow w.heap.size 55 4 v ts.length ((lieAt ts av).flatMap tokC) ∧ Below w.heap.size w w' := by
  have hcase : (ao = none ∧ ts = []) ∨ (∃ a, ao = some a ∧ ts = []) ∨ ∃ b off, ao = some ⟨b, off, none⟩ := by
    cases ts with
    | nil =>
      cases ao with
      | none => exact .inl ⟨rfl, rfl⟩
      | some a => exact .inr (.inl ⟨a, rfl, rfl⟩)
    | cons a al =>
      obtain ⟨_, _, _, _, _, b, off, e, _⟩ := hT.2 0 a (by simp)
      exact .inr (.inr ⟨b, off, e⟩)
  rcases hcase with ⟨rfl, rfl⟩ | ⟨a, rfl, rfl⟩ | ⟨b, off, rfl⟩
  · refine (AnyE.slices_Clone_nil Tryd.laysCloneT 0 cap w).mono ?_
    rintro e w' ⟨rfl, rfl⟩
    exact ⟨_, rfl, World.ownsRow_nil _ _ _ _, Below.refl _ _⟩
  · exact cloneT_none a cap w
  · obtain ⟨i0, hi, hz0, hz1, hz2⟩ := info_parts infoTok
    refine (AnyE.slices_Clone Tryd.laysCloneT i0 _ 4 64 hi hz0 hz1 hz2 rfl (by decide) Tryd.sizeOf55 b off ts.length cap ((lieAt ts av).flatMap tokC) w (by rw [tokCells_len, lie_len]) (by have := hT.1; unfold maxLen; omega) (by have := hT.1; omega) (fun j u hu => ?_) (fun u hu => ?_)).mono ?_
    · obtain ⟨k, x, hk, hc⟩ := tokCells_inv hu
      obtain ⟨h1, h2⟩ := lie_at hk
      obtain ⟨_, _, _, _, _, b', off', e, _, x1, x2, x3, x4⟩ := hT.2 k x.1 h1
      cases e
      rw [← h2] at x3
      rcases hc with ⟨rfl, rfl⟩ | ⟨rfl, rfl⟩ | ⟨rfl, rfl⟩ | ⟨rfl, rfl⟩
      · exact x1
      · rw [← Nat.add_assoc]; exact x2
      · rw [← Nat.add_assoc]; exact x3
      · rw [← Nat.add_assoc]; exact x4
    · obtain ⟨x, _, h⟩ := List.mem_flatMap.1 hu
      simp [tokC] at h
      rcases h with rfl | rfl | rfl | rfl <;> rfl
    · rintro e w' ⟨v, rfl, h1, _, h2⟩
      exact ⟨v, rfl, h1, h2⟩
theorem tok_cell {w : World} {base g n cap k : Nat} {l : List TokV} {x : TokV} (h : w.ownsRow base 55 4 (.slice (some ⟨g, 0, none⟩) n cap) n (l.flatMap tokC)) (hx : l[k]? = some x) : w.cell? ⟨g, k * 4 + 2, none⟩ = some (.slice x.2.1 x.1.attrs.length x.2.2) := by
  obtain ⟨q1, q2, q3, q4⟩ := tokCells_at l k x hx
  obtain ⟨h1, ⟨e, _⟩ | ⟨g', cap', cur, e, hb, hg, hc', _, hs, ht⟩⟩ := h
  · cases e
  · cases e
    have hlt := (List.getElem?_eq_some_iff.1 q3).1
    rw [← ht, List.getElem?_take_of_lt (by omega)] at q3
    simp [World.cell?, hg]
    simpa using q3
set_option maxRecDepth 100000 in
set_option maxHeartbeats 4000000 in
theorem copyTokens_any (ao : Option Addr) (cap : Nat) (ts : List Tok) (av : Nat → Option Addr × Nat) (w : World) (hT : TokMem w.heap.size w ao ts av) :
    Calls Tryd.prog 35 #[.slice ao ts.length cap] w fun e w' => ∃ v l, e = .returned v ∧ l.map (·.1) = ts ∧ ElRow w.heap.size w' v l ∧ Below w.heap.size w w' := by
  have hlen := hT.1
  have HC := hide (cloneT_any w.heap.size ao cap ts av w hT)
  obtain ⟨m, hml⟩ : ∃ m, ts.length = m := ⟨_, rfl⟩
  have HT := hide (And.intro hT hml)
  rw [hml] at HC hlen ⊢
  clear hT hml
  go_enter Tryd.func35, Tryd.ntmps35
  go_wp2_with (go_at_call 54; refine HC.out.mono ?_; rintro e w1 ⟨v, rfl, y1, b1⟩; obtain ⟨ga, gc, rfl⟩ := own_shape y1; have H1 := hide (And.intro y1 b1); clear y1 b1)
  go_loopw [8] (fun i wr => ∃ (k : Nat) (l : List TokV), k ≤ m ∧ i = .int .i64 k ∧ l.length = m ∧ l.map (·.1) = ts ∧ wr.ownsRow w.heap.size 55 4 (.slice ga m gc) m (l.flatMap tokC) ∧ (∀ j x, j < k → l[j]? = some x → wr.ownsRow w.heap.size 65 2 (.slice x.2.1 x.1.attrs.length x.2.2) x.1.attrs.length (attrCells x.1.attrs)) ∧ (∀ j x, k ≤ j → l[j]? = some x → x.2 = av j) ∧ Below w.heap.size w wr) (fun i _ => m - (intOf i).toNat)
  case atStart => exact ⟨0, lieAt ts av, Nat.zero_le _, rfl, (lie_len _ _).trans HT.out.2, lie_map _ _, H1.out.1, fun j x h => by omega, fun j x _ hx => (lie_at hx).2, H1.out.2⟩
  case round =>
    obtain ⟨k, l, hk, rfl, hl, hmap, hrow, hown, hold, hbw⟩ := hrel
    have hw1 : IntKind.i64.wrap ((k : Int) + 1) = k + 1 := by rw [IntKind.wrap_i64]; omega
    have hwz := hbw.size
    by_cases hlt : k < m
    · have hlti : (k : Int) < m := by omega
      obtain ⟨x, hx⟩ : ∃ x, l[k]? = some x := ⟨l[k]'(by omega), by simp⟩
      have ht : ts[k]? = some x.1 := by rw [← hmap]; simp [hx]
      have hav := hold k x (Nat.le_refl _) hx
      obtain ⟨_, _, _, hA, _, _⟩ := HT.out.1.2 k x.1 ht
      rw [← hav] at hA
      obtain ⟨g, rfl⟩ : ∃ g, ga = some ⟨g, 0, none⟩ := by
        obtain ⟨_, ⟨e, h⟩ | ⟨g, c, cur, e, _⟩⟩ := hrow
        · omega
        · cases e
          exact ⟨g, rfl⟩
      have hc0 := tok_cell hrow hx
      have HCl := hide (clone_any w.heap.size x.2.1 x.2.2 x.1.attrs wr (hA.below hbw))
      have HI := hide (And.intro hl (And.intro hmap (And.intro hrow (And.intro hown (And.intro hold (And.intro hbw hx))))))
      clear hl hmap hrow hown hold hbw hx ht hav hA
      obtain ⟨n5, hn5⟩ : ∃ n5, x.1.attrs.length = n5 := ⟨_, rfl⟩
      rw [hn5] at hc0 HCl
      go_wp2_with (go_at_call 41; refine HCl.out.mono ?_; rintro e w3 ⟨va, rfl, y3, b3⟩; refine stopHere ?_)
      unfold Hid
      obtain ⟨hl, hmap, hrow, hown, hold, hbw, hx⟩ := HI.out
      obtain ⟨a3, c3, rfl⟩ := own_shape y3
      have hrow3 := own_same hrow (fun j e => b3.block j (own_lt hrow j e))
      have hc3 := tok_cell hrow3 hx
      have hf3 := hrow3.frozenAt (k * 4 + 2)
      obtain ⟨hs, hgr⟩ := hrow3.stored (k * 4 + 2) (.slice a3 n5 c3)
      have hset : (l.flatMap tokC).set (k * 4 + 2) (.slice a3 n5 c3) = (l.set k (x.1, a3, c3)).flatMap tokC := by rw [← hn5]; exact tok_set l k x a3 c3 hx
      rw [hset] at hs
      have hgb : w.heap.size ≤ g := own_base hrow g rfl
      have hB4 : Below w.heap.size w (w3.setCell ⟨g, k * 4 + 2, none⟩ (.slice a3 n5 c3)) := (hbw.trans (b3.mono hwz)).setCell (p := ⟨g, _, none⟩) hgb _
      have hown4 : ∀ j y, j < k + 1 → (l.set k (x.1, a3, c3))[j]? = some y → (w3.setCell ⟨g, k * 4 + 2, none⟩ (.slice a3 n5 c3)).ownsRow w.heap.size 65 2 (.slice y.2.1 y.1.attrs.length y.2.2) y.1.attrs.length (attrCells y.1.attrs) := fun j y hj hy => by
        have h3 : w3.ownsRow w.heap.size 65 2 (.slice y.2.1 y.1.attrs.length y.2.2) y.1.attrs.length (attrCells y.1.attrs) := by
          by_cases hjk : j = k
          · subst hjk
            rw [List.getElem?_set_self (by omega)] at hy
            cases hy
            show w3.ownsRow _ _ _ (.slice a3 x.1.attrs.length c3) x.1.attrs.length (attrCells x.1.attrs)
            rw [hn5]
            exact own_less y3 hwz
          · rw [List.getElem?_set_ne (fun e => hjk e.symm)] at hy
            have := hown j y (by omega) hy
            exact own_same this (fun g e => b3.block g (own_lt this g e))
        exact ownsRow_setCell_other h3 (fun e => own_types h3 hrow3 (by decide) g e rfl) _
      have hold4 : ∀ j y, k + 1 ≤ j → (l.set k (x.1, a3, c3))[j]? = some y → y.2 = av j := fun j y hj hy => by
        rw [List.getElem?_set_ne (by omega)] at hy
        exact hold j y (by omega) hy
      have HX := hide (And.intro hs (And.intro hB4 (And.intro hown4 (And.intro hold4 (And.intro (show (l.set k (x.1, a3, c3)).length = m by rw [List.length_set]; exact hl) (show (l.set k (x.1, a3, c3)).map (·.1) = ts by rw [set_map hx]; exact hmap))))))
      rw [hn5] at hc3
      clear hl hmap hrow hown hold hbw hx y3 b3 hrow3 hs hgr hset hB4 hown4 hold4 HCl
      go_wp2_with fail
      refine ⟨⟨k + 1, l.set k (x.1, a3, c3), by omega, by simp, HX.out.2.2.2.2.1, HX.out.2.2.2.2.2, HX.out.1, HX.out.2.2.1, HX.out.2.2.2.1, HX.out.2.1⟩, by simp [intOf]; omega⟩
    · obtain rfl : k = m := by omega
      have hlti : ¬ ((k : Int) < k) := by omega
      have HI := hide (And.intro hl (And.intro hmap (And.intro hrow (And.intro hown hbw))))
      clear hl hmap hrow hown hold hbw
      go_wp2_with fail
      go_ret
      obtain ⟨hl, hmap, hrow, hown, hbw⟩ := HI.out
      refine ⟨_, rfl, l, hmap, ⟨by rw [hl]; exact hrow, fun x hx => ?_⟩, hbw⟩
      obtain ⟨j, hj⟩ := List.mem_iff_getElem?.1 hx
      have hjl := (List.getElem?_eq_some_iff.1 hj).1
      refine ⟨hown j x (by omega) hj, ?_⟩
      obtain ⟨t1, t2, t3, tA, t5, _⟩ := HT.out.1.2 j x.1 (by rw [← hmap]; simp [hj])
      exact ⟨t1, t2, t3, tA.1, tA.2.1⟩
end Go.Proofs.YthmidlmknkbdaaaDoor
namespace Go.Proofs.YthmidlmknkbdaaaDoor
open Go.RowKit Go.Shelf

theorem whole_first {ts : List Tok} (h : WholeT ts) : 2 ≤ ts.length ∧ ∃ t, ts[0]? = some t ∧ t.kind = 1 := by
  obtain ⟨⟨h64, hf, he⟩, ht⟩ := h
  cases ts with
  | nil => cases ht
  | cons t ts =>
    have h0 := hf 0 t rfl
    have hk : t.kind = 1 := by
      rcases h0 with h | h | h
      · exact h.1
      · exact absurd h.2.1 (by simp [openAt_zero])
      · exact absurd h.2.1 (by simp [openAt_zero])
    refine ⟨?_, t, rfl, hk⟩
    cases ts with
    | nil =>
      have : openAt [t] [t].length = opens (openAt [t] 0) t := openAt_succ rfl
      rw [this, openAt_zero] at he
      simp [opens, hk] at he
    | cons u ts => simp
/-- What is inside. -/
def midT (ts : List Tok) : List Tok := (ts.drop 1).take (ts.length - 2)
theorem mid_len {ts : List Tok} (h : 2 ≤ ts.length) : (midT ts).length = ts.length - 2 := by
  unfold midT
  rw [List.length_take, List.length_drop]
  omega
theorem mid_at {ts : List Tok} {k : Nat} {t : Tok} (h : (midT ts)[k]? = some t) : ts[k + 1]? = some t := by
  unfold midT at h
  rw [List.getElem?_take] at h
  split at h
  · rw [List.getElem?_drop] at h
    rw [Nat.add_comm]
    exact h
  · cases h
theorem TokMem.mid {n₀ : Nat} {w : World} {b off : Nat} {ts : List Tok} {av : Nat → Option Addr × Nat} (h : TokMem n₀ w (some ⟨b, off, none⟩) ts av) : TokMem n₀ w (some ⟨b, off + 4, none⟩) (midT ts) (fun k => av (k + 1)) := by
  refine ⟨by have := h.1; unfold midT; rw [List.length_take, List.length_drop]; omega, fun k t hk => ?_⟩
  obtain ⟨h1, h2, h3, h4, h5, b', off', e, hb, c0, c1, c2, c3⟩ := h.2 (k + 1) t (mid_at hk)
  cases e
  rw [show off + (k + 1) * 4 = off + 4 + k * 4 by omega] at c0 c1 c2 c3
  exact ⟨h1, h2, h3, h4, h5, b, off + 4, rfl, hb, c0, c1, c2, c3⟩
/-- Tokens that are a stanza's. -/
def DecOk (ts : List Tok) (t : Tok) (d : D4) : Prop := WholeT ts ∧ ts[0]? = some t ∧ decA d0 t.attrs = some d ∧ StOk (kNum t.name) d.ty d.fr d.tt d.id (midT ts)
def zeroSt : Array Value := #[.int .u8 0, .string ⟨#[]⟩, .string ⟨#[]⟩, .string ⟨#[]⟩, .string ⟨#[]⟩, .slice none 0 0]
theorem below6 {B b : Nat} {a w : World} (h : Below B a w) (hb : B ≤ b) (a0 a1 a2 a3 a4 a5 : Value) : Below B a ((((((w.setCell ⟨b, 0, none⟩ a0).setCell ⟨b, 1, none⟩ a1).setCell ⟨b, 2, none⟩ a2).setCell ⟨b, 3, none⟩ a3).setCell ⟨b, 4, none⟩ a4).setCell ⟨b, 5, none⟩ a5) :=
  (((((h.setCell (p := ⟨b, 0, none⟩) hb _).setCell (p := ⟨b, 1, none⟩) hb _).setCell (p := ⟨b, 2, none⟩) hb _).setCell (p := ⟨b, 3, none⟩) hb _).setCell (p := ⟨b, 4, none⟩) hb _).setCell (p := ⟨b, 5, none⟩) hb _
theorem dec_sizes : ∀ (al : List (ByteArray × ByteArray)) (d e : D4), (∀ a ∈ al, a.1.size ≤ 9223372036854775807 ∧ a.2.size ≤ 9223372036854775807) → (d.ty.size ≤ 9223372036854775807 ∧ d.fr.size ≤ 9223372036854775807 ∧ d.tt.size ≤ 9223372036854775807 ∧ d.id.size ≤ 9223372036854775807) → decA d al = some e → (e.ty.size ≤ 9223372036854775807 ∧ e.fr.size ≤ 9223372036854775807 ∧ e.tt.size ≤ 9223372036854775807 ∧ e.id.size ≤ 9223372036854775807)
  | [], d, e, _, hd, h => by
    simp [decA] at h
    subst h
    exact hd
  | a :: al, d, e, ha, hd, h => by
    have h2 := (ha a List.mem_cons_self).2
    unfold decA at h
    cases hp : putA d a with
    | none => rw [hp] at h; cases h
    | some d' =>
      rw [hp, Option.bind_some] at h
      refine dec_sizes al d' e (fun x hx => ha x (List.mem_cons_of_mem _ hx)) ?_ h
      unfold putA at hp
      split at hp
      · cases hp; exact ⟨h2, hd.2.1, hd.2.2.1, hd.2.2.2⟩
      · split at hp
        · cases hp; exact ⟨hd.1, h2, hd.2.2.1, hd.2.2.2⟩
        · split at hp
          · cases hp; exact ⟨hd.1, hd.2.1, h2, hd.2.2.2⟩
          · split at hp
            · cases hp; exact ⟨hd.1, hd.2.1, hd.2.2.1, h2⟩
            · cases hp
theorem whole_true {ao : Option Addr} {cap : Nat} {ts : List Tok} {av : Nat → Option Addr × Nat} {w : World} (hT : TokMem w.heap.size w ao ts av) (hU : Tabs w) (h : WholeT ts) : Calls Tryd.prog 7 #[.slice ao ts.length cap] w fun e w' => e = .returned (.bool true) ∧ Below w.heap.size w w' := by
  refine (whole_any ao cap ts av w hT hU).mono ?_
  rintro e w' ⟨⟨_, rfl⟩ | ⟨h', _⟩, b⟩
  · exact ⟨rfl, b⟩
  · exact absurd h h'
theorem whole_false {ao : Option Addr} {cap : Nat} {ts : List Tok} {av : Nat → Option Addr × Nat} {w : World} (hT : TokMem w.heap.size w ao ts av) (hU : Tabs w) (h : ¬ WholeT ts) : Calls Tryd.prog 7 #[.slice ao ts.length cap] w fun e w' => e = .returned (.bool false) ∧ Below w.heap.size w w' := by
  refine (whole_any ao cap ts av w hT hU).mono ?_
  rintro e w' ⟨⟨h', _⟩ | ⟨_, rfl⟩, b⟩
  · exact absurd h' h
  · exact ⟨rfl, b⟩
theorem infoSt : (Tryd.prog.info? 38).map (fun i => (i.zero, i.size, i.bytes)) = some (some (.agg zeroSt), 6, 96) := by kernel_rfl
theorem elemTk : Tryd.prog.elem 22 = 55 := by kernel_rfl
theorem sizeTk (w : World) : (Go.sizeOf 55).run Tryd.prog w = .ok 4 w := by
  obtain ⟨ti, t1, t2, t3, t4⟩ := info_parts infoTok
  simp [Go.sizeOf, typeInfo, t1, t3]
/-- What is inside, of tokens. -/
theorem ex_mid {o : Oper} {a : Act} {w : World} {x y z : Operand} {b off m cap : Nat} {j : Int} (ho : o.op = .slice 22 x (some y) (some z) none) (hx : a.eval x = .slice (some ⟨b, off, none⟩) m cap) (hy : a.eval y = .int .i64 1) (hz : a.eval z = .int .i64 j) (hj : j = (m : Int) - 1) (h2 : 2 ≤ m) (hc : m ≤ cap) : (execOp a.eval o).run Tryd.prog w = .ok (.value (.slice (some ⟨b, off + 4, none⟩) (m - 2) (cap - 1))) w := by
  have hu : Tryd.prog.underlying 22 = some (.slice (Tryd.prog.elem 22)) := by rw [elemTk]; exact Tryd.underlying22
  have h1 := run_slice_lh (P := Tryd.prog) (w := w) 22 (some ⟨b, off, none⟩) m cap hu .i64 .i64 1 j (by omega) (by omega) (by omega)
  rw [elemTk, sizeTk] at h1
  have h2' := run_sliceAt_slice (P := Tryd.prog) (w := w) 22 (.slice (some ⟨b, off, none⟩) m cap) (some (.int .i64 1)) (some (.int .i64 j)) none hu
  rw [h1] at h2'
  have hcap : ¬ cap = 1 := by omega
  subst hj
  unfold execOp
  simp [ho, hx, hy, hz, h2', Result.andThen, sliced, Addr.add, hcap]
  omega
end Go.Proofs.YthmidlmknkbdaaaDoor
