/- Whether edges, and names, are the same. -/
import Derived.Test.YtlafjddidlofcaaC14
namespace Go.Proofs.Ytlafjddidlofcaa
open Go.RowKit Go.Shelf

theorem edGuard : Try.prog.eqGuardType Try.prog.depth 47 = false := by kernel_rfl
theorem ed_neq (w : World) (a b c d : ByteArray) : (binOp .neq 47 (.agg #[.string a, .string b]) (.agg #[.string c, .string d])).run Try.prog w = .ok (.bool (!(a.toList == c.toList && b.toList == d.toList))) w := by
  have hS : Try.prog.underlying 47 = some (.struct (Try.prog.fieldsOf 47)) := by kernel_rfl
  have hp : Try.prog.stoodInHeld 47 = false := by kernel_rfl
  have u9 := Try.underlying9
  have a9 := Try.isAgg9
  have z9 := Try.sizeOf9
  rw [run_neq_struct, show (10000 : Nat) = 9999 + 1 from rfl, run_equalIn_agg w 9999 47 _ _ hS hp]
  simp only [Program.fieldsOf, Try.underlying47]
  go_simp
  by_cases h1 : a.toList = c.toList <;> by_cases h2 : b.toList = d.toList <;> simp [h1, h2]
theorem esame_shape (o1 o2 : Option Addr) (m n c1 c2 : Nat) (w : World) (hne : m ≠ n) :
    Calls Try.prog 14 #[.slice o1 m c1, .slice o2 n c2] w fun e w' => e = .returned (.bool false) ∧ w' = w := by
  have e1 : ((m : Int) == n) = false := by rw [beq_eq_false_iff_ne]; omega
  go_enter Try.func14, Try.ntmps14
  go_wp2_with fail
  go_ret
  exact ⟨rfl, rfl⟩
set_option maxRecDepth 100000 in
set_option maxHeartbeats 4000000 in
theorem esame_any (o1 o2 : Option Addr) (c1 c2 : Nat) (l1 l2 : List Pr) (w : World) (h1 : EdMem w.heap.size w o1 l1) (h2 : EdMem w.heap.size w o2 l2) :
    Calls Try.prog 14 #[.slice o1 l1.length c1, .slice o2 l2.length c2] w fun e w' => e = .returned (.bool (decide (l1 = l2))) ∧ Below w.heap.size w w' := by
  by_cases hlen : l1.length = l2.length
  · have hl1 := h1.1
    rw [← hlen]
    obtain ⟨m, hml⟩ : ∃ m, l1.length = m := ⟨_, rfl⟩
    have HT := hide (And.intro h1 (And.intro h2 (And.intro hml hlen)))
    have hgd := edGuard
    rw [hml] at hl1 ⊢
    clear h1 h2 hml hlen
    go_enter Try.func14, Try.ntmps14
    go_wp2_with fail
    go_loopw [5] (fun i wr => ∃ k : Nat, k ≤ m ∧ i = .int .i64 k ∧ l1.take k = l2.take k ∧ Below w.heap.size w wr) (fun i _ => m - (intOf i).toNat)
    case atStart => exact ⟨0, Nat.zero_le _, rfl, rfl, Below.refl _ _⟩
    case round =>
      obtain ⟨k, hk, rfl, heq, hbw⟩ := hrel
      have hw1 : IntKind.i64.wrap ((k : Int) + 1) = k + 1 := by rw [IntKind.wrap_i64]; omega
      by_cases hlt : k < m
      · have hlti : (k : Int) < m := by omega
        obtain ⟨x, hx⟩ : ∃ x, l1[k]? = some x := ⟨l1[k]'(by have := HT.out.2.2.1; omega), by simp⟩
        obtain ⟨y, hy⟩ : ∃ y, l2[k]? = some y := ⟨l2[k]'(by have := HT.out.2.2.1; have := HT.out.2.2.2; omega), by simp⟩
        obtain ⟨b, off, rfl, hb, p0, p1⟩ := (HT.out.1.below hbw).2 k x hx
        obtain ⟨b', off', rfl, hb', q0, q1⟩ := (HT.out.2.1.below hbw).2 k y hy
        have HB := hide (And.intro heq (And.intro hbw (And.intro hx hy)))
        clear heq hbw hx hy
        by_cases hxy : x = y
        · have hne : ∀ v, (binOp .neq 47 (.agg #[.string x.1, .string x.2]) (.agg #[.string y.1, .string y.2])).run Try.prog v = .ok (.bool false) v := fun v => by rw [ed_neq, hxy]; simp
          have HE := hide hxy
          clear hxy
          go_wp2_with fail
          go_quiet (fail)
          go_wp2_with fail
          exact ⟨⟨k + 1, by omega, by simp, by rw [List.take_add_one, List.take_add_one, HB.out.1, HB.out.2.2.1, HB.out.2.2.2, HE.out], below_drewN HB.out.2.1 _⟩, by simp [intOf]; omega⟩
        · have hne : ∀ v, (binOp .neq 47 (.agg #[.string x.1, .string x.2]) (.agg #[.string y.1, .string y.2])).run Try.prog v = .ok (.bool true) v := fun v => by
            rw [ed_neq]
            by_cases h1 : x.1 = y.1
            · have h2 : x.2 ≠ y.2 := fun h2 => hxy (Prod.ext h1 h2)
              simp [txt_ne h2]
            · simp [txt_ne h1]
          have HE := hide hxy
          clear hxy
          go_wp2_with fail
          go_quiet (fail)
          go_wp2_with fail
          go_ret
          have : ¬ l1 = l2 := fun h => HE.out (by have h1 := HB.out.2.2.1; rw [h, HB.out.2.2.2] at h1; cases h1; rfl)
          rw [decide_eq_false this]
          exact ⟨rfl, below_drewN HB.out.2.1 _⟩
      · have he : l1 = l2 := by
          rw [show k = m by omega, ← HT.out.2.2.1, List.take_length, HT.out.2.2.2, List.take_length] at heq
          exact heq
        have hlti : ¬ ((k : Int) < m) := by omega
        have HB := hide (And.intro he hbw)
        clear heq he hbw
        go_wp2_with fail
        go_ret
        rw [decide_eq_true HB.out.1]
        exact ⟨rfl, HB.out.2⟩
  · refine (esame_shape o1 o2 l1.length l2.length c1 c2 w hlen).mono ?_
    rintro e w' ⟨rfl, rfl⟩
    rw [decide_eq_false (fun h => hlen (by rw [h]))]
    exact ⟨rfl, Below.refl _ _⟩
theorem nsame_shape (o1 o2 : Option Addr) (m n c1 c2 : Nat) (w : World) (hne : m ≠ n) :
    Calls Try.prog 19 #[.slice o1 m c1, .slice o2 n c2] w fun e w' => e = .returned (.bool false) ∧ w' = w := by
  have e1 : ((m : Int) == n) = false := by rw [beq_eq_false_iff_ne]; omega
  go_enter Try.func19, Try.ntmps19
  go_wp2_with fail
  go_ret
  exact ⟨rfl, rfl⟩
set_option maxRecDepth 100000 in
set_option maxHeartbeats 4000000 in
/-- Names of one's own that are the same. -/
theorem nsame_any (base1 base2 : Nat) (v1 v2 : Value) (ns : List ByteArray) (w : World) (h1 : w.ownsRow base1 9 1 v1 ns.length (strC ns)) (h2 : w.ownsRow base2 9 1 v2 ns.length (strC ns)) (hl : ns.length ≤ 1000000) :
    Calls Try.prog 19 #[v1, v2] w fun e w' => e = .returned (.bool true) ∧ Below w.heap.size w w' := by
  obtain ⟨m, hml⟩ : ∃ m, ns.length = m := ⟨_, rfl⟩
  rw [hml] at h1 h2 hl
  obtain ⟨ga1, gc1, rfl⟩ := own_shape h1
  obtain ⟨ga2, gc2, rfl⟩ := own_shape h2
  have HT := hide (And.intro h1 (And.intro h2 hml))
  clear h1 h2 hml
  go_enter Try.func19, Try.ntmps19
  go_wp2_with fail
  go_loopw [5] (fun i wr => ∃ k : Nat, k ≤ m ∧ i = .int .i64 k ∧ (∀ j : Nat, wr.heap[j]? = w.heap[j]?) ∧ Below w.heap.size w wr) (fun i _ => m - (intOf i).toNat)
  case atStart => exact ⟨0, Nat.zero_le _, rfl, fun _ => rfl, Below.refl _ _⟩
  case round =>
    obtain ⟨k, hk, rfl, hh, hbw⟩ := hrel
    have hw1 : IntKind.i64.wrap ((k : Int) + 1) = k + 1 := by rw [IntKind.wrap_i64]; omega
    by_cases hlt : k < m
    · have hlti : (k : Int) < m := by omega
      obtain ⟨x, hx⟩ : ∃ x, ns[k]? = some x := ⟨ns[k]'(by have := HT.out.2.2; omega), by simp⟩
      obtain ⟨g1, d1, e1, p1⟩ := row_str (own_same HT.out.1 (fun g _ => hh g)) hx
      obtain ⟨g2, d2, e2, p2⟩ := row_str (own_same HT.out.2.1 (fun g _ => hh g)) hx
      cases e1
      cases e2
      have z : (x.toList == x.toList) = true := by simp
      have HB := hide (And.intro hh hbw)
      clear hh hbw hx
      go_wp2_with fail
      go_quiet (fail)
      go_wp2_with fail
      exact ⟨⟨k + 1, by omega, by simp, HB.out.1, below_drewN HB.out.2 _⟩, by simp [intOf]; omega⟩
    · have hlti : ¬ ((k : Int) < m) := by omega
      have HB := hide hbw
      clear hh hbw
      go_wp2_with fail
      go_ret
      exact ⟨rfl, HB.out⟩
end Go.Proofs.Ytlafjddidlofcaa
