/- An element's tokens: what is cloned, and put behind one another. -/
import Derived.Test.YtimhkgpjfppkmaaDoorToks
import Derived.Test.YtimhkgpjfppkmaaDoorWalk
import Derived.Shelf.SlicesE.Clone
import Derived.OwnWalk
namespace Go.Proofs.YtimhkgpjfppkmaaDoor
open Go.RowKit Go.Shelf

def Tryd.renClone : Go.Shelf.Ren := ⟨fun | 41 => 33 | n => n, fun | 4 => 4 | 22 => 44 | 23 => 49 | n => n, fun n => n⟩
theorem Tryd.laysClone : Go.Proofs.SlLaysE0.n41 Tryd.prog Tryd.renClone := {
  mixed := by kernel_rfl
  f41 := ⟨Tryd.f33.name, by decide, Tryd.func33.trans (congrArg some (by kernel_rfl))⟩
  t4 := Tryd.underlying4
  a4 := Tryd.isAgg4
  z4 := Tryd.sizeOf4
  v4 := Tryd.zeroValue4
  t22 := Tryd.underlying44
  a22 := Tryd.isAgg44
  z22 := Tryd.sizeOf44
  v22 := Tryd.zeroValue44 }
theorem infoAttr : (Tryd.prog.info? 49).map (fun i => (i.zero, i.size, i.bytes)) = some (some (.agg #[.string ⟨#[]⟩, .string ⟨#[]⟩]), 2, 32) := by kernel_rfl
theorem infoTok : (Tryd.prog.info? 46).map (fun i => (i.zero, i.size, i.bytes)) = some (some (.agg #[.int .u8 0, .string ⟨#[]⟩, .slice none 0 0, .string ⟨#[]⟩]), 4, 64) := by kernel_rfl

/-- The cells of attributes. -/
def attrCells (al : List (ByteArray × ByteArray)) : List Value := al.flatMap fun a => [.string a.1, .string a.2]
theorem attrCells_length (al : List (ByteArray × ByteArray)) : (attrCells al).length = al.length * 2 := by
  induction al with
  | nil => rfl
  | cons a al ih => simp only [attrCells, List.flatMap_cons, List.length_append, List.length_cons, List.length_nil] at ih ⊢; omega
theorem attrCells_at : ∀ (al : List (ByteArray × ByteArray)) (j : Nat) (a : ByteArray × ByteArray), al[j]? = some a → (attrCells al)[j * 2]? = some (.string a.1) ∧ (attrCells al)[j * 2 + 1]? = some (.string a.2)
  | [], j, a, h => by simp at h
  | x :: al, 0, a, h => by
    simp at h
    subst h
    simp [attrCells]
  | x :: al, j + 1, a, h => by
    have ih := attrCells_at al j a (by simpa using h)
    have e1 : (j + 1) * 2 = j * 2 + 1 + 1 := by omega
    have e2 : (j + 1) * 2 + 1 = j * 2 + 1 + 1 + 1 := by omega
    rw [e1]
    simp only [attrCells, List.flatMap_cons, List.cons_append, List.nil_append, List.getElem?_cons_succ] at ih ⊢
    exact ih
theorem attrCells_inv {al : List (ByteArray × ByteArray)} {i : Nat} {u : Value} (h : (attrCells al)[i]? = some u) : ∃ j a, al[j]? = some a ∧ ((i = j * 2 ∧ u = .string a.1) ∨ (i = j * 2 + 1 ∧ u = .string a.2)) := by
  have hlt := (List.getElem?_eq_some_iff.1 h).1
  rw [attrCells_length] at hlt
  have hj : i / 2 < al.length := by omega
  obtain ⟨a, ha⟩ : ∃ a, al[i / 2]? = some a := ⟨al[i / 2], by simp [hj]⟩
  obtain ⟨x1, x2⟩ := attrCells_at al (i / 2) a ha
  refine ⟨i / 2, a, ha, ?_⟩
  rcases Nat.mod_two_eq_zero_or_one i with hm | hm
  · have e : i / 2 * 2 = i := by omega
    rw [e, h] at x1
    exact .inl ⟨e.symm, by cases x1; rfl⟩
  · have e : i / 2 * 2 + 1 = i := by omega
    rw [e, h] at x2
    exact .inr ⟨e.symm, by cases x2; rfl⟩

/-- A row of the call's own is attributes in memory. -/
theorem attrMem_own {w : World} {base : Nat} {v : Value} {al : List (ByteArray × ByteArray)} (h : w.ownsRow base 49 2 v al.length (attrCells al)) (h1 : al.length ≤ 4398046510976) (h2 : ∀ a ∈ al, a.1.size ≤ 9223372036854775807 ∧ a.2.size ≤ 9223372036854775807) :
    ∃ ao cap, v = .slice ao al.length cap ∧ al.length ≤ cap ∧ AttrMem w.heap.size w ao al := by
  obtain ⟨hl, ⟨rfl, hn⟩ | ⟨g, cap, cur, rfl, hb, hg, hc, _, hs, ht⟩⟩ := h
  · exact ⟨none, 0, by rw [hn], by omega, h1, h2, fun j a hj => by have := (List.getElem?_eq_some_iff.1 hj).1; omega⟩
  · refine ⟨_, _, rfl, hc, h1, h2, fun j a hj => ⟨g, 0, rfl, (Array.getElem?_eq_some_iff.1 hg).1, ?_, ?_⟩⟩
    · have hlt := (List.getElem?_eq_some_iff.1 hj).1
      have h3 := (attrCells_at al j a hj).1
      rw [← ht, List.getElem?_take_of_lt (by omega)] at h3
      simp [World.cell?, hg]
      simpa using h3
    · have hlt := (List.getElem?_eq_some_iff.1 hj).1
      have h3 := (attrCells_at al j a hj).2
      rw [← ht, List.getElem?_take_of_lt (by omega)] at h3
      simp [World.cell?, hg]
      simpa using h3

set_option maxRecDepth 100000 in
/-- Nothing is cloned, wherever it may lie. -/
theorem clone_none (a : Addr) (cap : Nat) (w : World) :
    Calls Tryd.prog 33 #[.slice (some a) 0 cap] w fun e w' => ∃ v, e = .returned v ∧ w'.ownsRow w.heap.size 49 2 v 0 [] ∧ Below w.heap.size w w' := by
  obtain ⟨i0, hi, hz0, hz1, hz2⟩ := info_parts infoAttr
  have HI := hide (And.intro hi (And.intro hz0 (And.intro hz1 hz2)))
  clear hi hz0 hz1 hz2
  have q22 : ∀ (w : World) (a : Option Addr) (n c n' c' : Nat), (binOp .eql 44 (.slice a n c) (.slice none n' c')).run Tryd.prog w = .ok (.bool a.isNone) w := fun w a n c n' c' => Lib.run_eql_slice_nil w _ _ a n c n' c' Tryd.underlying44
  go_enter Tryd.func33, Tryd.ntmps33
  go_wp2_with (at_builtin; refine wpList_append_own _ rfl _ _ 44 rfl w.heap.size 49 i0 _ 2 32 Tryd.underlying44 HI.out.1 HI.out.2.1 HI.out.2.2.1 HI.out.2.2.2 rfl (by decide) _ _ _ rfl (World.ownsRow_made w #[] 0 (Nat.le_refl _) (Nat.zero_le _) (by simp)) a 0 cap [] rfl (by simp) (by simp) (by simp) (by unfold maxLen; omega) (by omega) (by simp) ?_; intro v1 w1 hown hgrow _)
  go_wp2
  go_ret
  exact ⟨v1, rfl, hown, ((Below.refl _ w).alloc (Nat.le_refl _) _).grown hgrow (by simp) (fun k hk => by cases hk; exact Nat.le_refl _)⟩

theorem clone_any (n₀ : Nat) (ao : Option Addr) (cap : Nat) (al : List (ByteArray × ByteArray)) (w : World) (hA : AttrMem n₀ w ao al) :
    Calls Tryd.prog 33 #[.slice ao al.length cap] w fun e w' => ∃ v, e = .returned v ∧ w'.ownsRow w.heap.size 49 2 v al.length (attrCells al) ∧ Below w.heap.size w w' := by
  have hcase : (ao = none ∧ al = []) ∨ (∃ a, ao = some a ∧ al = []) ∨ ∃ b off, ao = some ⟨b, off, none⟩ := by
    cases al with
    | nil =>
      cases ao with
      | none => exact .inl ⟨rfl, rfl⟩
      | some a => exact .inr (.inl ⟨a, rfl, rfl⟩)
    | cons a al =>
      obtain ⟨b, off, e, _⟩ := hA.2.2 0 a (by simp)
      exact .inr (.inr ⟨b, off, e⟩)
  rcases hcase with ⟨rfl, rfl⟩ | ⟨a, rfl, rfl⟩ | ⟨b, off, rfl⟩
  · refine (AnyE.slices_Clone_nil Tryd.laysClone 0 cap w).mono ?_
    rintro e w' ⟨rfl, rfl⟩
    exact ⟨_, rfl, World.ownsRow_nil _ _ _ _, Below.refl _ _⟩
  · exact clone_none a cap w
  · obtain ⟨i0, hi, hz0, hz1, hz2⟩ := info_parts infoAttr
    refine (AnyE.slices_Clone Tryd.laysClone i0 _ 2 32 hi hz0 hz1 hz2 rfl (by decide) Tryd.sizeOf49 b off al.length cap (attrCells al) w (attrCells_length al) (by have := hA.1; unfold maxLen; omega) (by have := hA.1; omega) (fun j u hu => ?_) (fun u hu => ?_)).mono ?_
    · obtain ⟨k, a, hk, ⟨rfl, rfl⟩ | ⟨rfl, rfl⟩⟩ := attrCells_inv hu
      · obtain ⟨b', off', e, _, x1, _⟩ := hA.2.2 k a hk
        cases e
        exact x1
      · obtain ⟨b', off', e, _, _, x2⟩ := hA.2.2 k a hk
        cases e
        rw [← Nat.add_assoc]
        exact x2
    · obtain ⟨a, _, h⟩ := List.mem_flatMap.1 hu
      simp at h
      rcases h with rfl | rfl <;> rfl
    · rintro e w' ⟨v, rfl, h1, _, h2⟩
      exact ⟨v, rfl, h1, h2⟩

/-- A token with where its attributes lie. -/
abbrev TokV := Tok × Option Addr × Nat
def tokC (x : TokV) : List Value := [.int .u8 x.1.kind, .string x.1.name, .slice x.2.1 x.1.attrs.length x.2.2, .string x.1.text]
def Sized (t : Tok) : Prop := t.kind < 256 ∧ t.name.size ≤ 9223372036854775807 ∧ t.text.size ≤ 9223372036854775807 ∧ t.attrs.length ≤ 4398046510976 ∧ ∀ a ∈ t.attrs, a.1.size ≤ 9223372036854775807 ∧ a.2.size ≤ 9223372036854775807
/-- Tokens in rows of the call's own. -/
def ElRow (base : Nat) (W : World) (v : Value) (l : List TokV) : Prop :=
  W.ownsRow base 46 4 v l.length (l.flatMap tokC) ∧ ∀ x ∈ l, W.ownsRow base 49 2 (.slice x.2.1 x.1.attrs.length x.2.2) x.1.attrs.length (attrCells x.1.attrs) ∧ Sized x.1
theorem ElRow.below {base : Nat} {W W' : World} {v : Value} {l : List TokV} (h : ElRow base W v l) (hb : Below W.heap.size W W') : ElRow base W' v l :=
  ⟨own_same h.1 (fun g hg => hb.block g (own_lt h.1 g hg)), fun x hx => ⟨own_same (h.2 x hx).1 (fun g hg => hb.block g (own_lt (h.2 x hx).1 g hg)), (h.2 x hx).2⟩⟩
theorem own_types {W : World} {b1 b2 e1 e2 s1 s2 n1 n2 : Nat} {v1 v2 : Value} {x1 x2 : List Value} (h1 : W.ownsRow b1 e1 s1 v1 n1 x1) (h2 : W.ownsRow b2 e2 s2 v2 n2 x2) (hne : e1 ≠ e2) (g : Nat) (hg : v1.ownBlock = some g) : some g ≠ v2.ownBlock := by
  intro h
  obtain ⟨_, ⟨rfl, _⟩ | ⟨g1, _, _, rfl, _, y1, _⟩⟩ := h1
  · cases hg
  · cases hg
    obtain ⟨_, ⟨rfl, _⟩ | ⟨g2, _, _, rfl, _, y2, _⟩⟩ := h2
    · cases h
    · cases h
      rw [y1] at y2
      cases y2
      exact hne rfl
/-- One token more. -/
theorem ElRow.more {base : Nat} {W W' : World} {v v' : Value} {l : List TokV} {x : TokV} (h : ElRow base W v l) (hx : W.ownsRow base 49 2 (.slice x.2.1 x.1.attrs.length x.2.2) x.1.attrs.length (attrCells x.1.attrs) ∧ Sized x.1)
    (ho : W'.ownsRow base 46 4 v' (l.length + 1) (l.flatMap tokC ++ tokC x)) (hg : W.grownBy W' v.ownBlock) : ElRow base W' v' (l ++ [x]) := by
  refine ⟨by simpa using ho, fun y hy => ?_⟩
  have hy' : W.ownsRow base 49 2 (.slice y.2.1 y.1.attrs.length y.2.2) y.1.attrs.length (attrCells y.1.attrs) ∧ Sized y.1 := by
    rcases List.mem_append.1 hy with hy | hy
    · exact h.2 y hy
    · simp at hy
      subst hy
      exact hx
  exact ⟨own_same hy'.1 (fun g hgb => hg.block g (own_lt hy'.1 g hgb) (own_types hy'.1 h.1 (by decide) g hgb)), hy'.2⟩
theorem ElRow.kept {base : Nat} {W W' : World} {v : Value} {l : List TokV} (h : ElRow base W v l) (hk : ∀ j, j < W.heap.size → W'.heap[j]? = W.heap[j]?) : ElRow base W' v l :=
  ⟨own_same h.1 (fun g hg => hk g (own_lt h.1 g hg)), fun x hx => ⟨own_same (h.2 x hx).1 (fun g hg => hk g (own_lt (h.2 x hx).1 g hg)), (h.2 x hx).2⟩⟩
theorem own_base {W : World} {base e size n : Nat} {v : Value} {xs : List Value} (h : W.ownsRow base e size v n xs) (g : Nat) (hg : v.ownBlock = some g) : base ≤ g := by
  obtain ⟨_, ⟨rfl, _⟩ | ⟨g', _, _, rfl, hb, _⟩⟩ := h
  · cases hg
  · cases hg
    exact hb
theorem own_less {W : World} {base base' e size n : Nat} {v : Value} {xs : List Value} (h : W.ownsRow base e size v n xs) (hb : base' ≤ base) : W.ownsRow base' e size v n xs := by
  obtain ⟨h1, h2 | ⟨g', c, cur, hv, hb', r⟩⟩ := h
  · exact ⟨h1, .inl h2⟩
  · exact ⟨h1, .inr ⟨g', c, cur, hv, Nat.le_trans hb hb', r⟩⟩
/-- A token is put behind tokens that the call itself holds. -/
theorem append_tok (w : World) {ops : Array Oper} {rest : List Oper} {o : Oper} {a : Act} {Q : Exit → Act → World → Prop} (hg : o.guard = none) (s x : Operand)
    (hop : o.op = Op.call { callee := Callee.builtin Builtin.append, args := #[s, x], argTypes := #[27, 27] }) (base : Nat) (v : Value) (l : List TokV) (y : TokV) (hs : a.eval s = v) (hE : ElRow base w v l)
    (hy : w.ownsRow base 49 2 (.slice y.2.1 y.1.attrs.length y.2.2) y.1.attrs.length (attrCells y.1.attrs) ∧ Sized y.1) (bx : Nat) (hx : a.eval x = .slice (some ⟨bx, 0, none⟩) 1 1)
    (hc : w.heap[bx]? = some (.cells #[.int .u8 y.1.kind, .string y.1.name, .slice y.2.1 y.1.attrs.length y.2.2, .string y.1.text] 46)) (hl : l.length ≤ 2000) (hb : base ≤ w.heap.size)
    (hK : ∀ v' w', ElRow base w' v' (l ++ [y]) → Below base w w' → wpList Tryd.prog ops Q rest (a.put o.dst v') w') : wpList Tryd.prog ops Q (o :: rest) a w := by
  obtain ⟨i, hi, hz0, hz1, hz2⟩ := info_parts infoTok
  refine wpList_append_own w hg s x 27 hop base 46 i _ 4 64 Tryd.underlying27 hi hz0 hz1 hz2 rfl (by decide) v l.length (l.flatMap tokC) hs hE.1 ⟨bx, 0, none⟩ 1 1 (tokC y) hx rfl (fun j u hj => ?_) (fun u hu => ?_) (by unfold maxLen; omega) (by omega) hb ?_
  · match j, hj with
    | 0, hj => simp [tokC] at hj; subst hj; simp [Addr.add, World.cell?, hc]
    | 1, hj => simp [tokC] at hj; subst hj; simp [Addr.add, World.cell?, hc]
    | 2, hj => simp [tokC] at hj; subst hj; simp [Addr.add, World.cell?, hc]
    | 3, hj => simp [tokC] at hj; subst hj; simp [Addr.add, World.cell?, hc]
  · simp [tokC] at hu
    rcases hu with rfl | rfl | rfl | rfl <;> rfl
  · intro v' w' ho hgr _
    exact hK v' w' (hE.more hy ho hgr) ((Below.refl base w).grown hgr hb (fun k e => own_base hE.1 k e))

/-- What an element's tokens are. -/
def elemT (name : ByteArray) (al : List (ByteArray × ByteArray)) (ts : List Tok) : List Tok := [⟨1, name, al, ⟨#[]⟩⟩] ++ ts ++ [⟨2, name, [], ⟨#[]⟩⟩]

set_option maxRecDepth 100000 in
set_option maxHeartbeats 2000000 in
theorem element_row (name : ByteArray) (aa : Option Addr) (ac : Nat) (al : List (ByteArray × ByteArray)) (ao : Option Addr) (cap : Nat) (ts : List Tok) (av : Nat → Option Addr × Nat) (w : World)
    (hN : name.size ≤ 9223372036854775807) (hA : AttrMem w.heap.size w aa al) (hT : TokMem w.heap.size w ao ts av) (hs : ts.length ≤ 1000) :
    Calls Tryd.prog 15 #[.string name, .slice aa al.length ac, .slice ao ts.length cap] w fun e w' => ∃ v l, e = .returned v ∧ l.map (·.1) = elemT name al ts ∧ ElRow w.heap.size w' v l ∧ Below w.heap.size w w' := by
  obtain ⟨i0, hi, hz0, hz1, hz2⟩ := info_parts infoTok
  have HA := hide hA
  have HT := hide hT
  clear hA hT
  have hs' : ((ts.length : Int) + 2) = ((ts.length + 2 : Nat) : Int) := by omega
  have hb64 : i0.bytes * (ts.length + 2) ≤ 281474976710656 := by rw [hz2]; omega
  have HS := hide hs'
  have HI := hide (And.intro hi (And.intro hz0 (And.intro hz1 (And.intro hz2 hb64))))
  clear hs' hi hz0 hz1 hz2 hb64
  go_enter Tryd.func15, Tryd.ntmps15
  go_wp2_with (at_make; refine wpList_make_own _ rfl _ _ 27 rfl w.heap.size 46 i0 _ 4 Tryd.underlying27 HI.out.1 HI.out.2.1 HI.out.2.2.1 _ _ _ (ts.length + 2) rfl rfl HS.out HI.out.2.2.2.2 (by unfold maxLen; omega) (Nat.le_refl _) ?_; intro w1 hown1 hgrow1)
  have hbw1 : Below w.heap.size w w1 := (Below.refl _ w).grown hgrow1 (Nat.le_refl _) (fun k e => by cases e)
  have hsz1 := hbw1.size
  have HW1 := hide (And.intro hown1 hbw1)
  clear hown1 hgrow1 hbw1
  have hcl := clone_any w.heap.size aa ac al w1 (HA.out.below HW1.out.2)
  refine hcl.mono ?_
  rintro e w2 ⟨va, rfl, hva, hb2⟩
  obtain ⟨ga, gc, rfl⟩ := own_shape hva
  have hs2 := hb2.size
  have HE0 : Hid (ElRow w.heap.size w2 (.slice (some ⟨w.heap.size, 0, none⟩) 0 (ts.length + 2)) []) := (show ElRow w.heap.size w1 _ [] from ⟨HW1.out.1, fun x hx => by simp at hx⟩).below hb2
  have HY0 := hide (own_less hva hsz1)
  have HB2 := hide (HW1.out.2.trans (hb2.mono hsz1))
  clear hva hb2 hcl
  have hsz : Sized ⟨1, name, al, ⟨#[]⟩⟩ := ⟨by simp, hN, Nat.zero_le _, HA.out.1, HA.out.2.1⟩
  have HZ := hide hsz
  clear hsz
  go_wp2_with (at_builtin; refine append_tok _ rfl _ _ rfl w.heap.size _ [] (⟨1, name, al, ⟨#[]⟩⟩, ga, gc) rfl (HE0.out.below ((Below.refl _ w2).alloc (Nat.le_refl _) _)) ⟨own_same HY0.out (fun g hg => Below.heap_alloc _ _ _ (own_lt HY0.out g hg)), HZ.out⟩ w2.heap.size rfl (World.alloc_heap_new w2 _) (by simp) (by simp; omega) ?_; intro v3 w3 hE3 hb3; obtain ⟨g3, c3, rfl⟩ := own_shape hE3.1)
  have hs3 := hb3.size
  have HW3 := hide (And.intro hE3 ((HB2.out.alloc HB2.out.size _).trans hb3))
  clear hE3 hb3 HE0 HY0 HB2 HW1
  simp at hs3
  go_wp2_with fail
  go_loopw [7, 23] (fun v i wr => ∃ (k : Nat) (l : List TokV), k ≤ ts.length ∧ i = .int .i64 k ∧ l.map (·.1) = [⟨1, name, al, ⟨#[]⟩⟩] ++ ts.take k ∧ ElRow w.heap.size wr v l ∧ Below w.heap.size w wr) (fun _ i _ => ts.length - (intOf i).toNat)
  case atStart => exact ⟨0, [(⟨1, name, al, ⟨#[]⟩⟩, ga, gc)], Nat.zero_le _, rfl, by simp, HW3.out.1, HW3.out.2⟩
  case round =>
    obtain ⟨k, l, hk, rfl, hl, hE, hbw⟩ := hrel
    have hll : l.length = k + 1 := by
      have h := congrArg List.length hl
      simp at h
      omega
    obtain ⟨gv, cv, rfl⟩ := own_shape hE.1
    have HLL := hide hll
    clear hll
    have hsw := hbw.size
    have HE := hide (And.intro hE (And.intro hbw hl))
    clear hE hbw hl
    by_cases hlt : k < ts.length
    · obtain ⟨t, ht⟩ : ∃ t, ts[k]? = some t := ⟨ts[k], by simp [hlt]⟩
      obtain ⟨x1, x2, x3, x4, x5, b, off, rfl, hb, c1, c2, c3, c4⟩ := HT.out.2 k t ht
      have d1 := (HE.out.2.1.cell (p := ⟨b, _, none⟩) hb).trans c1
      have d2 := (HE.out.2.1.cell (p := ⟨b, _, none⟩) hb).trans c2
      have d3 := (HE.out.2.1.cell (p := ⟨b, _, none⟩) hb).trans c3
      have d4 := (HE.out.2.1.cell (p := ⟨b, _, none⟩) hb).trans c4
      have HSz : Hid (Sized t) := ⟨x1, x2, x3, x4.1, x4.2.1⟩
      have HX := hide x4
      clear c1 c2 c3 c4 x4
      obtain ⟨aw, haw⟩ : ∃ aw, (av k).1 = aw := ⟨_, rfl⟩
      obtain ⟨cw, hcw⟩ : ∃ cw, (av k).2 = cw := ⟨_, rfl⟩
      rw [haw, hcw] at d3
      rw [haw] at HX
      go_wp2_with fail
      obtain ⟨W1, hW1⟩ : ∃ W1, wr.alloc (.cells #[.int .u8 t.kind, .string t.name, .slice aw t.attrs.length cw, .string t.text] 46) = W1 := ⟨_, rfl⟩
      have z1 : W1.heap.size = wr.heap.size + 1 := by rw [← hW1]; simp
      have hB1 : Below wr.heap.size wr W1 := by rw [← hW1]; exact (Below.refl _ wr).alloc (Nat.le_refl _) _
      have f1 : W1.heap[wr.heap.size]? = some (.cells #[.int .u8 t.kind, .string t.name, .slice aw t.attrs.length cw, .string t.text] 46) := by rw [← hW1]; exact World.alloc_heap_new wr _
      rw [hW1]
      have hcl := clone_any w.heap.size aw cw t.attrs W1 (HX.out.below (HE.out.2.1.trans (hB1.mono hsw)))
      refine hcl.mono ?_
      rintro e w4 ⟨va, rfl, hva, hb4⟩
      obtain ⟨ga4, gc4, rfl⟩ := own_shape hva
      have hs4 := hb4.size
      have f4 := (hb4.block wr.heap.size (by omega)).trans f1
      have y0 : w4.cell? ⟨wr.heap.size, 0, none⟩ = some (.int .u8 t.kind) := by simp [World.cell?, f4]
      have y1 : w4.cell? ⟨wr.heap.size, 1, none⟩ = some (.string t.name) := by simp [World.cell?, f4]
      have y2 : w4.cell? ⟨wr.heap.size, 2, none⟩ = some (.slice aw t.attrs.length cw) := by simp [World.cell?, f4]
      have y3 : w4.cell? ⟨wr.heap.size, 3, none⟩ = some (.string t.text) := by simp [World.cell?, f4]
      have y4 : w4.frozen? ⟨wr.heap.size, 2, none⟩ = false := by simp [World.frozen?, f4]
      have hbase : ∀ g, (Value.slice ga4 t.attrs.length gc4).ownBlock = some g → wr.heap.size + 1 ≤ g := fun g hg => by have := own_base hva g hg; omega
      have HV := hide (And.intro hva (And.intro hbase (And.intro hb4 hB1)))
      clear hva hb4 hcl hbase hB1 f1 f4 hW1 d1 d2 d3 d4
      go_wp2_with (at_builtin; refine stopHere ?_)
      unfold Hid
      refine append_tok _ rfl _ _ rfl w.heap.size _ l (t, ga4, gc4) rfl (HE.out.1.kept (fun j hj => ?hkp)) ⟨own_less (own_same HV.out.1 (fun g hg => ?hkg)) ?hkb, HSz.out⟩ w4.heap.size rfl ?hnw ?hl2 ?hbs ?_
      case hkp => exact (Below.heap_alloc _ _ _ (by simp; omega)).trans ((Below.heap_setCell _ _ _ _ (by simp; omega)).trans ((HV.out.2.2.1.block j (by omega)).trans (HV.out.2.2.2.block j hj)))
      case hkg => exact (Below.heap_alloc _ _ _ (by simp; exact own_lt HV.out.1 g hg)).trans (Below.heap_setCell _ _ _ _ (by have h := HV.out.2.1 g hg; simp; omega))
      case hkb => omega
      case hl2 => have h := HLL.out; omega
      case hbs => simp; omega
      case hnw =>
        have h := World.alloc_heap_new (w4.setCell ⟨wr.heap.size, 2, none⟩ (.slice ga4 t.attrs.length gc4)) (.cells #[.int .u8 t.kind, .string t.name, .slice ga4 t.attrs.length gc4, .string t.text] 46)
        rw [World.size_setCell] at h
        exact h
      intro v5 w5 hE5 hb5
      obtain ⟨g5, c5, rfl⟩ := own_shape hE5.1
      have HE5 := hide (And.intro hE5 hb5)
      clear hE5 hb5
      go_wp2_with fail
      refine ⟨⟨k + 1, l ++ [(t, ga4, gc4)], by omega, by simp, ?_, by have h := HE5.out.1; simpa using h, ?_⟩, by simp [intOf]; omega⟩
      · rw [List.map_append, HE.out.2.2, List.take_add_one, ht]
        simp
      · exact ((((HE.out.2.1.trans (HV.out.2.2.2.mono hsw)).trans (HV.out.2.2.1.mono (by omega))).setCell (p := ⟨wr.heap.size, 2, none⟩) hsw _).alloc (by simp; omega) _).trans HE5.out.2
    · obtain rfl : k = ts.length := by omega
      go_wp2_with (at_builtin; refine stopHere ?_)
      unfold Hid
      refine append_tok _ rfl _ _ rfl w.heap.size _ l (⟨2, name, [], ⟨#[]⟩⟩, none, 0) rfl (HE.out.1.kept (fun j hj => Below.heap_alloc _ _ _ hj)) ⟨World.ownsRow_nil _ _ _ _, ⟨by simp, hN, Nat.zero_le _, Nat.zero_le _, fun a h => by simp at h⟩⟩ wr.heap.size rfl (World.alloc_heap_new wr _) (by have h := HLL.out; omega) (by simp; omega) ?_
      intro v5 w5 hE5 hb5
      have HE5 := hide (And.intro hE5 hb5)
      clear hE5 hb5
      go_wp2_with fail
      go_ret
      refine ⟨v5, _, rfl, ?_, HE5.out.1, (HE.out.2.1.alloc hsw _).trans HE5.out.2⟩
      rw [List.map_append, HE.out.2.2, List.take_length]
      rfl

theorem tokCells_at : ∀ (l : List TokV) (k : Nat) (x : TokV), l[k]? = some x → (l.flatMap tokC)[k * 4]? = some (.int .u8 x.1.kind) ∧ (l.flatMap tokC)[k * 4 + 1]? = some (.string x.1.name) ∧ (l.flatMap tokC)[k * 4 + 2]? = some (.slice x.2.1 x.1.attrs.length x.2.2) ∧ (l.flatMap tokC)[k * 4 + 3]? = some (.string x.1.text)
  | [], k, x, h => by simp at h
  | y :: l, 0, x, h => by
    simp at h
    subst h
    simp [tokC]
  | y :: l, k + 1, x, h => by
    have ih := tokCells_at l k x (by simpa using h)
    have e1 : (k + 1) * 4 = k * 4 + 1 + 1 + 1 + 1 := by omega
    have e2 : (k + 1) * 4 + 1 = k * 4 + 1 + 1 + 1 + 1 + 1 := by omega
    have e3 : (k + 1) * 4 + 2 = k * 4 + 2 + 1 + 1 + 1 + 1 := by omega
    have e4 : (k + 1) * 4 + 3 = k * 4 + 3 + 1 + 1 + 1 + 1 := by omega
    rw [e2, e3, e4, e1]
    simp only [List.flatMap_cons, tokC, List.cons_append, List.nil_append, List.getElem?_cons_succ] at ih ⊢
    exact ih
/-- Where the attributes of tokens in rows lie. -/
def avOf (l : List TokV) (k : Nat) : Option Addr × Nat := (l[k]?.map (·.2)).getD (none, 0)
/-- Tokens in rows of the call's own are tokens in memory. -/
theorem tokMem_own {base : Nat} {W : World} {v : Value} {l : List TokV} (h : ElRow base W v l) (hl : l.length ≤ 2000) : ∃ ao cap, v = .slice ao l.length cap ∧ TokMem W.heap.size W ao (l.map (·.1)) (avOf l) := by
  obtain ⟨ho, hx⟩ := h
  obtain ⟨ga, gc, rfl⟩ := own_shape ho
  refine ⟨ga, gc, rfl, by simp; omega, fun k t hk => ?_⟩
  obtain ⟨x, hxk, rfl⟩ : ∃ x, l[k]? = some x ∧ x.1 = t := by simpa using hk
  have hm := hx x (List.mem_of_getElem? hxk)
  have hav : avOf l k = x.2 := by simp [avOf, hxk]
  rw [hav]
  obtain ⟨s1, s2, s3, s4, s5⟩ := hm.2
  obtain ⟨ao', cap', e, hc, hA⟩ := attrMem_own hm.1 s4 s5
  cases e
  refine ⟨s1, s2, s3, hA, hc, ?_⟩
  have hlt := (List.getElem?_eq_some_iff.1 hxk).1
  obtain ⟨hl', ⟨e, hn⟩ | ⟨g, cap, cur, e, hb, hg, hc', _, hs, ht⟩⟩ := ho
  · omega
  · cases e
    refine ⟨g, 0, rfl, (Array.getElem?_eq_some_iff.1 hg).1, ?_⟩
    obtain ⟨q1, q2, q3, q4⟩ := tokCells_at l k x hxk
    rw [← ht, List.getElem?_take_of_lt (by omega)] at q1 q2 q3 q4
    refine ⟨?_, ?_, ?_, ?_⟩ <;> (simp [World.cell?, hg]; first | simpa using q1 | simpa using q2 | simpa using q3 | simpa using q4)
end Go.Proofs.YtimhkgpjfppkmaaDoor
