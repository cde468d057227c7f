/- up: the names above one, the nearest first. -/
import Derived.Test.YtffjmkngdjbjlaaC2
import Derived.Test.YtffjmkngdjbjlaaRangeX
import Derived.Deep.RegionHeld3
namespace Go.Proofs.Ytffjmkngdjbjlaa
open Go.RowKit Go.Shelf
attribute [local go_sem] Oper.semAt_some

/-- The collection of a name. -/
def pOf (l : List Pr) (s : ByteArray) : Option ByteArray := (l.find? fun x => decide (x.1 = s)).map (·.2)
/-- The names above one, so many steps. -/
def chain (l : List Pr) : Nat → ByteArray → List ByteArray
  | 0, _ => []
  | f + 1, s => match pOf l s with
    | none => []
    | some p => p :: chain l f p
theorem chain_none {l : List Pr} {s : ByteArray} (h : pOf l s = none) (f : Nat) : chain l f s = [] := by
  cases f with
  | zero => rfl
  | succ f => simp [chain, h]
theorem chain_some {l : List Pr} {s p : ByteArray} (h : pOf l s = some p) (f : Nat) : chain l (f + 1) s = p :: chain l f p := by simp [chain, h]
theorem chain_len (l : List Pr) : ∀ (f : Nat) (s : ByteArray), (chain l f s).length ≤ f
  | 0, _ => Nat.le_refl _
  | f + 1, s => by
    cases h : pOf l s with
    | none => rw [chain_none h]; simp
    | some p => rw [chain_some h]; have := chain_len l f p; simp; omega
theorem pOf_yes {l : List Pr} (hr : Rising l) {k : Nat} {x : Pr} (hx : l[k]? = some x) : pOf l x.1 = some x.2 := by
  unfold pOf
  cases hf : l.find? (fun y => decide (y.1 = x.1)) with
  | none => exact absurd (List.find?_eq_none.1 hf x (List.mem_of_getElem? hx)) (by simp)
  | some y =>
    have h1 : y.1 = x.1 := by simpa using List.find?_some hf
    obtain ⟨j, hj⟩ := List.mem_iff_getElem?.1 (List.mem_of_find?_eq_some hf)
    rcases Nat.lt_trichotomy j k with h | h | h
    · have := rising_at hr hj hx h
      rw [h1] at this
      exact absurd this (str_irrefl _)
    · subst h
      rw [hx] at hj
      cases hj
      rfl
    · have := rising_at hr hx hj h
      rw [h1] at this
      exact absurd this (str_irrefl _)
theorem pOf_no {l : List Pr} (hr : Rising l) {s : ByteArray} {k : Nat} (ha : At l s k) (hx : ∀ x, l[k]? = some x → x.1 ≠ s) : pOf l s = none := by
  unfold pOf
  rw [Option.map_eq_none_iff, List.find?_eq_none]
  intro y hy
  obtain ⟨j, hj⟩ := List.mem_iff_getElem?.1 hy
  simp only [decide_eq_true_eq]
  intro he
  rcases Nat.lt_trichotomy j k with h | h | h
  · have := ha.lo j y h hj
    rw [he] at this
    exact str_irrefl _ this
  · subst h
    exact hx y hj he
  · have hjl := (List.getElem?_eq_some_iff.1 hj).1
    obtain ⟨x, hxk⟩ : ∃ x, l[k]? = some x := ⟨l[k]'(by omega), by simp⟩
    have h1 := rising_at hr hxk hj h
    rw [he] at h1
    exact ha.hi k x (Nat.le_refl _) hxk h1
/-- The blocks that are its own: the edges' and the name's boxes. -/
def GU (o : Obj) : Prop := ∃ cs T, o = .cells cs T ∧ (T = 9 ∨ T = 50)
def nmV (ns : List ByteArray) (k : Nat) : Value :=
  match ns[k]? with
  | none => undef
  | some x => .string x
theorem one_cell {W : World} {b : Nat} {v : Value} {T : TypeId} (h : W.heap[b]? = some (.cells #[v] T)) : W.cell? ⟨b, 0, none⟩ = some v := by simp [World.cell?, h]
set_option maxRecDepth 100000 in
set_option maxHeartbeats 4000000 in
theorem up_seq (n n₀ : Nat) (ao : Option Addr) (cap : Nat) (l : List Pr) (s : ByteArray) (b1 b2 : Nat) (w : World) (hm : EdMem n₀ w ao l) (hr : Rising l) (g1 : w.heap[b1]? = some (.cells #[.string s] 9)) (g2 : w.heap[b2]? = some (.cells #[.slice ao l.length cap] 50)) (hb : n₀ ≤ b1 ∧ n₀ ≤ b2) :
    SeqOwn Fence.wide n Try.prog 54 #[] #[.pointer (some ⟨b1, 0, none⟩), .pointer (some ⟨b2, 0, none⟩)] (fun k => #[nmV (chain l l.length s) k]) n₀ (chain l l.length s).length (fun j => j = b1 ∨ j = b2) GU w := fun lp J Jx W hW hnw hJ hY h0 => by
  have hlen := hm.1
  obtain ⟨m, hml⟩ : ∃ m, l.length = m := ⟨_, rfl⟩
  have q1 := (hW.block b1 (Array.getElem?_eq_some_iff.1 g1).1).trans g1
  have q2 := (hW.block b2 (Array.getElem?_eq_some_iff.1 g2).1).trans g2
  rw [hml] at hlen q2 hY ⊢
  have c1 := one_cell q1
  have c2 := one_cell q2
  have hro : Fence.wide.round = none := rfl
  have hmW := hm.below (hW.mono hnw)
  have HH := hide (And.intro hmW (And.intro q1 (And.intro q2 (And.intro hml hr))))
  have HJ := hide (And.intro hJ h0)
  have HY := hide hY
  have HW := hide hW
  clear hmW hml q1 q2 hJ h0 hY g1 g2 hr hm hW
  refine callsIn_of_wp Try.func54 rfl trivial ?_ hro
  simp only [Try.ntmps54, List.size_toArray, List.length_cons, List.length_nil, Nat.reduceAdd, Nat.reduceSub, Array.replicate_succ, Array.replicate_zero, List.push_toArray, List.append_toArray, List.nil_append, List.cons_append]
  gi_wp2_with fail
  gi_loopw [4, 10] (fun nm i wr => ∃ (k : Nat) (t : ByteArray), k ≤ m ∧ i = .int .i64 k ∧ nm = .string t ∧ chain l m s = (chain l m s).take k ++ chain l (m - k) t ∧ k ≤ (chain l m s).length ∧ J (fun j => j = b1 ∨ j = b2) k wr ∧ Below n₀ W wr ∧ ∀ j, (j = b1 ∨ j = b2) → wr.heap[j]? = W.heap[j]?) (fun _ i _ => m - (intOf i).toNat)
  case atStart => exact ⟨0, s, Nat.zero_le _, rfl, rfl, by simp, Nat.zero_le _, HJ.out.2, Below.refl _ _, fun _ _ => rfl⟩
  case round =>
    obtain ⟨k, t, hk, rfl, rfl, hch, hkN, hJk, hbw, hsB⟩ := hrel
    have hw1 : IntKind.i64.wrap ((k : Int) + 1) = k + 1 := by rw [IntKind.wrap_i64]; omega
    have hnW : n₀ ≤ W.heap.size := Nat.le_trans hnw HW.out.size
    have hnr : n₀ ≤ wr.heap.size := Nat.le_trans hnW hbw.size
    have lt1 : b1 < wr.heap.size := Nat.lt_of_lt_of_le (Array.getElem?_eq_some_iff.1 HH.out.2.1).1 hbw.size
    have lt2 : b2 < wr.heap.size := Nat.lt_of_lt_of_le (Array.getElem?_eq_some_iff.1 HH.out.2.2.1).1 hbw.size
    have r2 : wr.cell? ⟨b2, 0, none⟩ = some (.slice ao m cap) := one_cell ((hsB b2 (.inr rfl)).trans HH.out.2.2.1)
    by_cases hlt : k < m
    · have hlti : (k : Int) < m := by omega
      have HF := hide (find_any ao cap l t wr ((HH.out.1.below hbw).more hnr) HH.out.2.2.2.2)
      rw [HH.out.2.2.2.1] at HF
      have HR := hide (And.intro hch (And.intro hkN (And.intro hJk (And.intro hbw hsB))))
      clear hch hkN hJk hbw hsB
      gi_wp2_with fail
      refine ⟨trivial, fun h => by simp [Fence.wide] at h, (callsIn_wide.2 HF.out).mono ?_⟩
      rintro e w1 ⟨⟨i, hi, h⟩, hb1⟩
      have d2 : w1.cell? ⟨b2, 0, none⟩ = some (.slice ao m cap) := (hb1.cell (p := ⟨b2, 0, none⟩) lt2).trans r2
      rcases h with ⟨x, hx, he, rfl⟩ | ⟨hx, rfl⟩
      · have him : i < m := by have := (List.getElem?_eq_some_iff.1 hx).1; have := HH.out.2.2.2.1; omega
        have himi : (i : Int) < m := by omega
        have hp : pOf l t = some x.2 := by rw [← he]; exact pOf_yes HH.out.2.2.2.2 hx
        obtain ⟨f, hf⟩ : ∃ f, m - k = f + 1 := ⟨m - k - 1, by omega⟩
        have hch := HR.out.1
        rw [hf, chain_some hp] at hch
        have hkl : ((chain l m s).take k).length = k := by rw [List.length_take]; have := HR.out.2.1; omega
        have hkx : (chain l m s)[k]? = some x.2 := by rw [hch, List.getElem?_append_right (by omega), hkl]; simp
        have hkN : k < (chain l m s).length := (List.getElem?_eq_some_iff.1 hkx).1
        have hnx : chain l m s = (chain l m s).take (k + 1) ++ chain l (m - (k + 1)) x.2 := by
          rw [List.take_add_one, hkx, show m - (k + 1) = f by omega]
          simpa using hch
        have hb1n := hb1.mono hnr
        have hbW1 : Below n₀ W w1 := HR.out.2.2.2.1.trans hb1n
        have hs1 : ∀ j, (j = b1 ∨ j = b2) → w1.heap[j]? = W.heap[j]? := fun j hj => (hb1.block j (by rcases hj with rfl | rfl; exact lt1; exact lt2)).trans (HR.out.2.2.2.2 j hj)
        have hJ1 : J (fun j => j = b1 ∨ j = b2) k w1 := HJ.out.1 _ _ _ _ _ HR.out.2.2.1 hb1n (fun j hj _ => hb1.block j hj) (fun _ _ h => h)
        obtain ⟨b, off, hao, hbl, e0, e1⟩ := (HH.out.1.below hbW1).2 i x hx
        have hev : nmV (chain l m s) k = .string x.2 := by simp [nmV, hkx]
        have hfin := (HY.out _ k w1 hJ1 hkN (fun j hj => by
          rcases hj with rfl | rfl
          · exact ⟨hb.1, _, (hs1 _ (.inl rfl)).trans HH.out.2.1, _, _, rfl, .inl rfl⟩
          · exact ⟨hb.2, _, (hs1 _ (.inr rfl)).trans HH.out.2.2.1, _, _, rfl, .inr rfl⟩)).mono (R' := fun e W6 => (e = .returned (.bool true) ∧ J (fun j => j = b1 ∨ j = b2) (k + 1) W6 ∧ Below n₀ W W6 ∧ ∀ j, (j = b1 ∨ j = b2) → W6.heap[j]? = W.heap[j]?) ∨ (e = .returned (.bool false) ∧ Jx (k + 1) W6)) (by
          rintro e W6 (⟨rfl, h1, h2, h3⟩ | h)
          · exact .inl ⟨rfl, h1, hbW1.trans h3, fun j hj => (h2 j hj).trans (hs1 j hj)⟩
          · exact .inr h)
        obtain ⟨fn, tmps, assign, body, hy, hR⟩ := hfin
        rw [hev] at hy
        have HRR := hide hR
        have HX := hide (And.intro hx (And.intro hnx (And.intro hkN hbl)))
        subst hao
        clear hR hch hkl hkx hkN hnx hb1n hbW1 hs1 hJ1 hev hx hb1 hp he hi HF HR
        gi_wp2_with fail
        refine ⟨fun h => by simp [Fence.wide] at h, HRR.out.mono ?_⟩
        rintro e W6 (⟨rfl, j1, j2, j3⟩ | ⟨rfl, j1⟩)
        · have f2 : W6.cell? ⟨b2, 0, none⟩ = some (.slice (some ⟨b, off, none⟩) m cap) := one_cell ((j3 b2 (.inr rfl)).trans HH.out.2.2.1)
          obtain ⟨b', off', hao', _, _, f1⟩ := (HH.out.1.below j2).2 i x HX.out.1
          cases hao'
          have HJ6 := hide (And.intro j1 (And.intro j2 j3))
          clear j1 j2 j3
          gi_wp2_with fail
          go_roundw
          case rel => exact ⟨k + 1, x.2, by omega, by simp, rfl, HX.out.2.1, HX.out.2.2.1, HJ6.out.1, HJ6.out.2.1, HJ6.out.2.2⟩
          case measure => simp [intOf]; omega
        · gi_wp2_with fail
          refine bodyPost_ret (results_none rfl _ _ _) rfl ?_
          exact ⟨⟨_, rfl⟩, .inr ⟨_, HX.out.2.2.1, j1⟩⟩
      · have hp : pOf l t = none := pOf_no HH.out.2.2.2.2 hi hx
        have hN : (chain l m s).length = k := by
          have h1 := HR.out.1
          rw [chain_none hp, List.append_nil] at h1
          have h2 := congrArg List.length h1
          rw [List.length_take] at h2
          have := HR.out.2.1
          omega
        have hJ1 : J (fun j => j = b1 ∨ j = b2) k w1 := HJ.out.1 _ _ _ _ _ HR.out.2.2.1 (hb1.mono hnr) (fun j hj _ => hb1.block j hj) (fun _ _ h => h)
        have HX := hide (And.intro hN hJ1)
        clear hN hJ1 hp hb1 hi hx HF HR
        gi_wp2_with fail
        refine ⟨fun f hf => by (cases hf), ?_⟩
        gi_wp2_with fail
        refine bodyPost_ret (results_none rfl _ _ _) rfl ?_
        exact ⟨⟨_, rfl⟩, .inl ⟨_, by rw [HX.out.1]; exact HX.out.2⟩⟩
    · obtain rfl : k = m := by omega
      have hlti : ¬ ((k : Int) < k) := by omega
      have hN : (chain l k s).length = k := by have := chain_len l k s; omega
      have HX := hide (And.intro hN hJk)
      clear hch hkN hJk hbw hsB hN
      gi_wp2_with fail
      go_end0
      exact ⟨⟨_, rfl⟩, .inl ⟨_, by rw [HX.out.1]; exact HX.out.2⟩⟩
end Go.Proofs.Ytffjmkngdjbjlaa
