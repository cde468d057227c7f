/- Names that were answered, read again; the document's parent, has, above; Same. -/
import Derived.Test.YtlafjddidlofcaaC13
import Derived.Test.YtlafjddidlofcaaCM
namespace Go.Proofs.Ytlafjddidlofcaa
open Go.RowKit Go.Shelf

def anyB (ns : List ByteArray) (b : ByteArray) : Bool := ns.any fun y => decide (y = b)
theorem any_mem {ns : List ByteArray} {b : ByteArray} : anyB ns b = true ↔ b ∈ ns := by simp [anyB]
theorem any_step {ns : List ByteArray} {b x : ByteArray} {k : Nat} (hx : ns[k]? = some x) : anyB (ns.take (k + 1)) b = (anyB (ns.take k) b || decide (x = b)) := by
  rw [List.take_add_one, hx]
  simp [anyB]
theorem row_str {W : World} {base n : Nat} {v : Value} {ns : List ByteArray} (h : W.ownsRow base 9 1 v n (strC ns)) {i : Nat} {s : ByteArray} (hi : ns[i]? = some s) : ∃ g cap, v = .slice (some ⟨g, 0, none⟩) n cap ∧ W.cell? ⟨g, i, none⟩ = some (.string s) := by
  obtain ⟨h1, ⟨rfl, h2⟩ | ⟨g, cap, cur, rfl, x1, x2, x3, x4, x5, x6⟩⟩ := h
  · subst h2
    have := (List.getElem?_eq_some_iff.1 hi).1
    simp [strC] at h1
    subst h1
    simp at this
  · refine ⟨g, cap, rfl, ?_⟩
    have hlt := (List.getElem?_eq_some_iff.1 hi).1
    have hn : ns.length = n * 1 := by rw [← h1]; simp [strC]
    have hs : (strC ns)[i]? = some (.string s) := by simp [strC, hi]
    rw [← x6, List.getElem?_take_of_lt (by omega)] at hs
    rw [cell_of_row W g _ _ _ _ x2]
    simpa using hs
theorem chain_has {l : List Pr} {f : Nat} {a b : ByteArray} (h : b ∈ chain l f a) : ∃ x ∈ l, x.1 = a := by
  cases hp : pOf l a with
  | none =>
    rw [chain_none hp] at h
    cases h
  | some p =>
    unfold pOf at hp
    obtain ⟨x, hx, _⟩ := Option.map_eq_some_iff.1 hp
    exact ⟨x, List.mem_of_find?_eq_some hx, by simpa using List.find?_some hx⟩
theorem pOf_first {l : List Pr} {s : ByteArray} {k : Nat} {x : Pr} (hno : ∀ y ∈ l.take k, y.1 ≠ s) (hx : l[k]? = some x) (he : x.1 = s) : pOf l s = some x.2 := by
  have hk := (List.getElem?_eq_some_iff.1 hx).1
  have hl : l = l.take k ++ x :: l.drop (k + 1) := by rw [← (List.getElem?_eq_some_iff.1 hx).2, ← List.drop_eq_getElem_cons hk, List.take_append_drop]
  unfold pOf
  rw [hl, List.find?_append, List.find?_eq_none.2 (fun y hy => by simp [hno y hy])]
  simp [he]
theorem pOf_nowhere {l : List Pr} {s : ByteArray} (hno : ∀ y ∈ l, y.1 ≠ s) : pOf l s = none := by
  unfold pOf
  rw [List.find?_eq_none.2 (fun y hy => by simp [hno y hy])]
  rfl
theorem take_step {l : List Pr} {p : Pr → Prop} {k : Nat} {x : Pr} (h : ∀ y ∈ l.take k, p y) (hx : l[k]? = some x) (hp : p x) : ∀ y ∈ l.take (k + 1), p y := by
  rw [List.take_add_one, hx]
  intro y hy
  rcases List.mem_append.1 hy with hy | hy
  · exact h y hy
  · simp at hy
    rw [hy]
    exact hp
set_option maxRecDepth 100000 in
set_option maxHeartbeats 2000000 in
theorem rparent_any (ao : Option Addr) (cap : Nat) (l : List Pr) (s : ByteArray) (w : World) (hm : EdMem w.heap.size w ao l) :
    Calls Try.prog 32 #[.slice ao l.length cap, .string s] w fun e w' => ((∃ p, pOf l s = some p ∧ e = .returned (.tuple #[.string p, .bool true])) ∨ (pOf l s = none ∧ e = .returned (.tuple #[.string ⟨#[]⟩, .bool false]))) ∧ w' = w := by
  have hlen := hm.1
  obtain ⟨m, hml⟩ : ∃ m, l.length = m := ⟨_, rfl⟩
  have HM := hide (And.intro hm hml)
  rw [hml] at hlen ⊢
  clear hm hml
  go_enter Try.func32, Try.ntmps32
  go_wp2_with fail
  go_loopw [6] (fun j wr => ∃ k : Nat, k ≤ m ∧ j = .int .i64 k ∧ (∀ y ∈ l.take k, y.1 ≠ s) ∧ wr = w) (fun j _ => m - (intOf j).toNat)
  case atStart => exact ⟨0, Nat.zero_le _, rfl, fun x hx => by simp at hx, rfl⟩
  case round =>
    obtain ⟨k, hk, rfl, hno, rfl⟩ := hrel
    have hw1 : IntKind.i64.wrap ((k : Int) + 1) = k + 1 := by rw [IntKind.wrap_i64]; omega
    by_cases hlt : k < m
    · have hlti : (k : Int) < m := by omega
      obtain ⟨x, hx⟩ : ∃ x, l[k]? = some x := ⟨l[k]'(by have := HM.out.2; omega), by simp⟩
      obtain ⟨b, off, rfl, hbl, c0, c1⟩ := HM.out.1.2 k x hx
      have HI := hide (And.intro hno hx)
      clear hno hx
      by_cases he : x.1 = s
      · have hq := txt_eq he
        have HE := hide he
        clear he
        go_wp2_with fail
        go_ret2
        exact ⟨.inl ⟨_, pOf_first HI.out.1 HI.out.2 HE.out, rfl⟩, rfl⟩
      · have hq := txt_ne he
        have HE := hide he
        clear he
        go_wp2_with fail
        exact ⟨⟨k + 1, by omega, by simp, take_step HI.out.1 HI.out.2 HE.out, trivial⟩, by simp [intOf]; omega⟩
    · obtain rfl : k = m := by omega
      have hlti : ¬ ((k : Int) < k) := by omega
      have HI := hide hno
      clear hno
      go_wp2_with fail
      go_ret2
      refine ⟨.inr ⟨pOf_nowhere ?_, rfl⟩, rfl⟩
      have h := HI.out
      rwa [← HM.out.2, List.take_length] at h
theorem rparent_none {ao : Option Addr} {cap : Nat} {l : List Pr} {s : ByteArray} {w : World} (hm : EdMem w.heap.size w ao l) (hp : pOf l s = none) :
    Calls Try.prog 32 #[.slice ao l.length cap, .string s] w fun e w' => e = .returned (.tuple #[.string ⟨#[]⟩, .bool false]) ∧ w' = w := by
  refine (rparent_any ao cap l s w hm).mono ?_
  rintro e w' ⟨⟨p, h, _⟩ | ⟨_, rfl⟩, hw⟩
  · rw [hp] at h
    cases h
  · exact ⟨rfl, hw⟩
theorem rparent_some {ao : Option Addr} {cap : Nat} {l : List Pr} {s p : ByteArray} {w : World} (hm : EdMem w.heap.size w ao l) (hp : pOf l s = some p) :
    Calls Try.prog 32 #[.slice ao l.length cap, .string s] w fun e w' => e = .returned (.tuple #[.string p, .bool true]) ∧ w' = w := by
  refine (rparent_any ao cap l s w hm).mono ?_
  rintro e w' ⟨⟨q, h, rfl⟩ | ⟨h, _⟩, hw⟩
  · rw [hp] at h
    cases h
    exact ⟨rfl, hw⟩
  · rw [hp] at h
    cases h
set_option maxRecDepth 100000 in
set_option maxHeartbeats 1000000 in
theorem has_any (base : Nat) (v : Value) (ns : List ByteArray) (s : ByteArray) (w : World) (h : w.ownsRow base 9 1 v ns.length (strC ns)) (hl : ns.length ≤ 1000000) :
    Calls Try.prog 30 #[v, .string s] w fun e w' => e = .returned (.bool (anyB ns s)) ∧ w' = w := by
  obtain ⟨m, hml⟩ : ∃ m, ns.length = m := ⟨_, rfl⟩
  rw [hml] at h hl
  obtain ⟨ga, gc, rfl⟩ := own_shape h
  have HM := hide (And.intro h hml)
  clear h hml
  go_enter Try.func30, Try.ntmps30
  go_wp2_with fail
  go_loopw [5] (fun j wr => ∃ k : Nat, k ≤ m ∧ j = .int .i64 k ∧ anyB (ns.take k) s = false ∧ wr = w) (fun j _ => m - (intOf j).toNat)
  case atStart => exact ⟨0, Nat.zero_le _, rfl, rfl, rfl⟩
  case round =>
    obtain ⟨k, hk, rfl, hno, rfl⟩ := hrel
    have hw1 : IntKind.i64.wrap ((k : Int) + 1) = k + 1 := by rw [IntKind.wrap_i64]; omega
    by_cases hlt : k < m
    · have hlti : (k : Int) < m := by omega
      obtain ⟨x, hx⟩ : ∃ x, ns[k]? = some x := ⟨ns[k]'(by have := HM.out.2; omega), by simp⟩
      obtain ⟨g, gc', e1, c0⟩ := row_str HM.out.1 hx
      cases e1
      have hst := any_step (b := s) hx
      rw [hno, Bool.false_or] at hst
      by_cases he : x = s
      · have hq := txt_eq he
        have hy : anyB ns s = true := by rw [any_mem, ← he]; exact List.mem_of_getElem? hx
        have HE := hide hy
        clear he hy hst hx hno
        go_wp2_with fail
        go_ret
        exact ⟨by rw [HE.out]; rfl, rfl⟩
      · have hq := txt_ne he
        rw [decide_eq_false he] at hst
        have HST := hide hst
        clear hst hx he hno
        go_wp2_with fail
        exact ⟨⟨k + 1, by omega, by simp, HST.out, trivial⟩, by simp [intOf]; omega⟩
    · obtain rfl : k = m := by omega
      have hlti : ¬ ((k : Int) < k) := by omega
      rw [List.take_of_length_le (by have := HM.out.2; omega)] at hno
      have HI := hide hno
      clear hno
      go_wp2_with fail
      go_ret
      exact ⟨by rw [HI.out]; rfl, rfl⟩
set_option maxRecDepth 100000 in
set_option maxHeartbeats 1000000 in
theorem in_any (base : Nat) (v : Value) (ns : List ByteArray) (s : ByteArray) (w : World) (h : w.ownsRow base 9 1 v ns.length (strC ns)) (hl : ns.length ≤ 1000000) :
    Calls Try.prog 26 #[v, .string s] w fun e w' => e = .returned (.bool (anyB ns s)) ∧ w' = w := by
  obtain ⟨m, hml⟩ : ∃ m, ns.length = m := ⟨_, rfl⟩
  rw [hml] at h hl
  obtain ⟨ga, gc, rfl⟩ := own_shape h
  have HM := hide (And.intro h hml)
  clear h hml
  go_enter Try.func26, Try.ntmps26
  go_wp2_with fail
  go_loopw [5] (fun j wr => ∃ k : Nat, k ≤ m ∧ j = .int .i64 k ∧ anyB (ns.take k) s = false ∧ wr = w) (fun j _ => m - (intOf j).toNat)
  case atStart => exact ⟨0, Nat.zero_le _, rfl, rfl, rfl⟩
  case round =>
    obtain ⟨k, hk, rfl, hno, rfl⟩ := hrel
    have hw1 : IntKind.i64.wrap ((k : Int) + 1) = k + 1 := by rw [IntKind.wrap_i64]; omega
    by_cases hlt : k < m
    · have hlti : (k : Int) < m := by omega
      obtain ⟨x, hx⟩ : ∃ x, ns[k]? = some x := ⟨ns[k]'(by have := HM.out.2; omega), by simp⟩
      obtain ⟨g, gc', e1, c0⟩ := row_str HM.out.1 hx
      cases e1
      have hst := any_step (b := s) hx
      rw [hno, Bool.false_or] at hst
      by_cases he : x = s
      · have hq := txt_eq he
        have hy : anyB ns s = true := by rw [any_mem, ← he]; exact List.mem_of_getElem? hx
        have HE := hide hy
        clear he hy hst hx hno
        go_wp2_with fail
        go_ret
        exact ⟨by rw [HE.out]; rfl, rfl⟩
      · have hq := txt_ne he
        rw [decide_eq_false he] at hst
        have HST := hide hst
        clear hst hx he hno
        go_wp2_with fail
        exact ⟨⟨k + 1, by omega, by simp, HST.out, trivial⟩, by simp [intOf]; omega⟩
    · obtain rfl : k = m := by omega
      have hlti : ¬ ((k : Int) < k) := by omega
      rw [List.take_of_length_le (by have := HM.out.2; omega)] at hno
      have HI := hide hno
      clear hno
      go_wp2_with fail
      go_ret
      exact ⟨by rw [HI.out]; rfl, rfl⟩
/-- A name behind others. -/
theorem push_str {wr : World} {base k : Nat} {v : Value} {L : List ByteArray} {T : TypeId} (p : ByteArray) (hrow : wr.ownsRow base 9 1 v k (strC L)) (hb : base ≤ wr.heap.size) (hk : k ≤ 2000000) :
    ∃ n' ga gc w4, n' = k + 1 ∧ (Builtin.append_ #[35, 35] T #[v, .slice (some ⟨wr.heap.size, 0, none⟩) 1 1]).run Try.prog (wr.alloc (.cells #[.string p] 9)) = .ok (.slice ga n' gc) w4 ∧ w4.ownsRow base 9 1 (.slice ga n' gc) n' (strC (L ++ [p])) ∧ Below base wr w4 := by
  have hB3 : Below wr.heap.size wr (wr.alloc (.cells #[.string p] 9)) := (Below.refl _ wr).alloc (Nat.le_refl _) _
  have hc3 := cell_one_new wr (.string p) 9
  obtain ⟨ti, t1, t2, t3, t4⟩ := info_parts info9
  have hz3 := hB3.size
  obtain ⟨v', w4, hap, q1, q2, _, _⟩ := run_append_own_at (P := Try.prog) (wr.alloc (.cells #[.string p] 9)) base 35 T 9 ti _ 1 16 Try.underlying35 t1 t2 t3 t4 rfl (by omega) v k (strC L) (own_same hrow (fun g e => hB3.block g (own_lt hrow g e))) ⟨wr.heap.size, 0, none⟩ 1 1 [.string p] rfl hc3 (by simp [Value.oneCell']) (by unfold maxLen; omega) (by omega) (by omega)
  have hB4 : Below base wr w4 := (hB3.mono hb).grown q2 (by omega) (fun r e => own_base hrow r e)
  have htk : strC (L ++ [p]) = strC L ++ [Value.string p] := by simp [strC]
  obtain ⟨ga, gc, rfl⟩ := own_shape q1
  rw [htk]
  exact ⟨k + 1, ga, gc, w4, rfl, hap, q1, hB4⟩
set_option maxRecDepth 100000 in
set_option maxHeartbeats 4000000 in
theorem rabove_any (ao : Option Addr) (cap : Nat) (l : List Pr) (s : ByteArray) (w : World) (hm : EdMem w.heap.size w ao l) :
    Calls Try.prog 31 #[.slice ao l.length cap, .string s] w fun e w' => ∃ v, e = .returned v ∧ w'.ownsRow w.heap.size 9 1 v (aboveL l s).length (strC (aboveL l s)) ∧ Below w.heap.size w w' := by
  unfold aboveL
  have hlen := hm.1
  obtain ⟨m, hml⟩ : ∃ m, l.length = m := ⟨_, rfl⟩
  have HM := hide (And.intro hm hml)
  rw [hml] at hlen ⊢
  obtain ⟨S, hS⟩ : ∃ S, chain l m s = S := ⟨_, rfl⟩
  have hSl : S.length ≤ m := by rw [← hS]; exact chain_len _ _ _
  have HS := hide hS
  rw [hS]
  clear hm hml hS
  go_enter Try.func31, Try.ntmps31
  go_wp2_with fail
  go_loopw [5, 6, 7] (fun v t i wr => ∃ (k : Nat) (u : ByteArray), k ≤ m ∧ i = .int .i64 k ∧ t = .string u ∧ wr.ownsRow w.heap.size 9 1 v k (strC (S.take k)) ∧ S = S.take k ++ chain l (m - k) u ∧ k ≤ S.length ∧ Below w.heap.size w wr) (fun _ _ i _ => m - (intOf i).toNat)
  case atStart => exact ⟨0, s, Nat.zero_le _, rfl, rfl, World.ownsRow_nil _ _ _ _, by simp [HS.out], Nat.zero_le _, Below.refl _ _⟩
  case round =>
    obtain ⟨k, u, hk, rfl, rfl, hrow, hch, hkS, hbw⟩ := hrel
    have hw1 : IntKind.i64.wrap ((k : Int) + 1) = k + 1 := by rw [IntKind.wrap_i64]; omega
    have hwz := hbw.size
    by_cases hlt : k < m
    · have hlti : (k : Int) < m := by omega
      have hE := (HM.out.1.below hbw).more hwz
      obtain ⟨ga, gc, rfl⟩ := own_shape hrow
      have HI := hide (And.intro hrow (And.intro hch (And.intro hkS hbw)))
      clear hrow hch hkS hbw
      cases hp : pOf l u with
      | none =>
        have hN : S.length = k := by
          have h1 := HI.out.2.1
          rw [chain_none hp, List.append_nil] at h1
          have h2 := congrArg List.length h1
          rw [List.length_take] at h2
          have := HI.out.2.2.1
          omega
        have HN := hide hN
        have HP := hide (rparent_none (cap := cap) hE hp)
        rw [HM.out.2] at HP
        clear hN hp hE
        go_wp2_with (go_at_call 32; refine HP.out.mono ?_; rintro e w1 ⟨rfl, hww⟩; rw [hww]; clear hww)
        go_ret
        refine ⟨_, rfl, ?_, HI.out.2.2.2⟩
        have h1 := HI.out.1
        rw [List.take_of_length_le (by rw [HN.out]; exact Nat.le_refl _)] at h1
        rw [HN.out]
        exact h1
      | some p =>
        obtain ⟨f, hf⟩ : ∃ f, m - k = f + 1 := ⟨m - k - 1, by omega⟩
        have hch := HI.out.2.1
        rw [hf, chain_some hp] at hch
        have hkl : (S.take k).length = k := by rw [List.length_take]; have := HI.out.2.2.1; omega
        have hkx : S[k]? = some p := by rw [hch, List.getElem?_append_right (by omega), hkl]; simp
        have hkN : k < S.length := (List.getElem?_eq_some_iff.1 hkx).1
        have hnx : S = S.take (k + 1) ++ chain l (m - (k + 1)) p := by
          rw [List.take_add_one, hkx, show m - (k + 1) = f by omega]
          simpa using hch
        have htk : S.take (k + 1) = S.take k ++ [p] := by rw [List.take_add_one, hkx]; rfl
        obtain ⟨n5, ga5, gc5, w4, hn5, hap, q1, q2⟩ := push_str (T := 35) p HI.out.1 hwz (by omega)
        rw [← htk] at q1
        obtain ⟨W3, hW3⟩ : ∃ W3, wr.alloc (.cells #[.string p] 9) = W3 := ⟨_, rfl⟩
        rw [hW3] at hap
        have HX := hide (And.intro q1 (And.intro (HI.out.2.2.2.trans q2) (And.intro hnx (And.intro hkN hn5))))
        have HAp := hide hap
        have HP := hide (rparent_some (cap := cap) hE hp)
        rw [HM.out.2] at HP
        clear q1 q2 hap hp hE hch hkl hkx hkN hnx htk hn5
        go_wp2_with (first
          | (go_at_call 32; refine HP.out.mono ?_; rintro e w1 ⟨rfl, hww⟩; rw [hww]; clear hww)
          | (at_builtin; refine l_val rfl _ (ex_append2 (t := 35) (t' := 35) rfl rfl rfl HAp.out) ?_))
        obtain ⟨h1, h2, h3, h4, h5⟩ := HX.out
        subst h5
        exact ⟨⟨k + 1, _, by omega, by simp, rfl, h1, h3, h4, h2⟩, by simp [intOf]; omega⟩
    · obtain rfl : k = m := by omega
      have hlti : ¬ ((k : Int) < k) := by omega
      have hN : S.length = k := by omega
      obtain ⟨ga, gc, rfl⟩ := own_shape hrow
      have HI := hide (And.intro hrow (And.intro hN hbw))
      clear hrow hch hkS hbw hN
      go_wp2_with fail
      go_ret
      refine ⟨_, rfl, ?_, HI.out.2.2⟩
      have h1 := HI.out.1
      rw [List.take_of_length_le (by rw [HI.out.2.1]; exact Nat.le_refl _)] at h1
      rw [HI.out.2.1]
      exact h1
end Go.Proofs.Ytlafjddidlofcaa
