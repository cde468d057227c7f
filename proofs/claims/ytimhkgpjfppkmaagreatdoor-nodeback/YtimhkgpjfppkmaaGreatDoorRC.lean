/- A node's reader: what recovers. A node's reader: what recovers of a reading that was given up. A node's reader: a reading from its beginning to its end. A node's reader: Decode. -/
import Derived.Test.YtimhkgpjfppkmaaGreatDoorRd6
import Derived.Defers
import Derived.Recover
import Derived.Laws.Pointers
import Derived.Test.YtimhkgpjfppkmaaGreatDoorRK
import Derived.Test.YtimhkgpjfppkmaaGreatDoorQG
import Derived.Test.YtimhkgpjfppkmaaGreatDoorQS
namespace Go.Proofs.YtimhkgpjfppkmaaGreatDoor
open Go.RowKit Go.Shelf

set_option maxRecDepth 100000 in
theorem catch_idleN (p q : Nat) (w : World) :
    CallsD Tryz.prog 31 #[.pointer (some ⟨p, 0, none⟩), .pointer (some ⟨q, 0, none⟩)] .returning w fun e u' w' => e = .returned (.tuple #[]) ∧ u' = .returning ∧ w' = w := by
  refine callsD_of_wpS Tryz.func31 rfl fun c₀ cs hu => ?_
  apply wpS_seq
  apply wpS_region
  simp [wpOpsS, go_sem, recoverD, hu, Tryz.ntmps31, Exit.thenS]
  refine wpS_of_wp ?_
  go_wp2_with fail
  cases c₀
  simp_all [bodyPostS, results, Tryz.results31]
theorem stopN_assert (v : Value) (xT : TypeId) (w : World) : (Instr.typeAssert (.iface 77 v) xT 77 true).run Tryz.prog w = .ok (.tuple #[v, .bool true]) w := by
  simp [Instr.typeAssert, run_underlying Tryz.underlying77, go_sem, Result.andThen]
end Go.Proofs.YtimhkgpjfppkmaaGreatDoor
namespace Go.Proofs.YtimhkgpjfppkmaaGreatDoor
open Go.RowKit Go.Shelf

theorem same_set (W : World) (b i : Nat) (v : Value) : (W.setCell ⟨b, i, none⟩ v).os = W.os ∧ (W.setCell ⟨b, i, none⟩ v).tape = W.tape ∧ (W.setCell ⟨b, i, none⟩ v).output = W.output := ⟨rfl, rfl, rfl⟩
theorem zero_stored {W0 : World} {p : Nat} {u0 u1 u2 u3 u4 u5 u6 u7 : Value} {T : TypeId} (h : W0.heap[p]? = some (.cells #[u0, u1, u2, u3, u4, u5, u6, u7] T)) :
    ∃ S8, ((((((((W0.setCell ⟨p, 0, none⟩ (.string ⟨#[]⟩)).setCell ⟨p, 1, none⟩ (.bool false)).setCell ⟨p, 2, none⟩ (.int .u8 0)).setCell ⟨p, 3, none⟩ (.int .i64 0)).setCell ⟨p, 4, none⟩ (.slice none 0 0)).setCell ⟨p, 5, none⟩ (.slice none 0 0)).setCell ⟨p, 6, none⟩ (.slice none 0 0)).setCell ⟨p, 7, none⟩ (.string ⟨#[]⟩)) = S8 ∧ S8.heap[p]? = some (.cells #[.string ⟨#[]⟩, .bool false, .int .u8 0, .int .i64 0, .slice none 0 0, .slice none 0 0, .slice none 0 0, .string ⟨#[]⟩] T) ∧ (∀ k, k ≠ p → S8.heap[k]? = W0.heap[k]?) ∧ S8.heap.size = W0.heap.size ∧ S8.os = W0.os ∧ S8.tape = W0.tape ∧ S8.output = W0.output := by
  obtain ⟨S0, e0⟩ : ∃ S0, W0.setCell ⟨p, 0, none⟩ (.string ⟨#[]⟩) = S0 := ⟨_, rfl⟩
  have h0 : S0.heap[p]? = some (.cells #[.string ⟨#[]⟩, u1, u2, u3, u4, u5, u6, u7] T) := by rw [← e0]; exact at_set h
  have k0 : ∀ k, k ≠ p → S0.heap[k]? = W0.heap[k]? := fun k hk => by rw [← e0]; exact set_farK _ _ _ _ _ hk
  have z0 : S0.heap.size = W0.heap.size := by rw [← e0]; simp
  have o0 : S0.os = W0.os ∧ S0.tape = W0.tape ∧ S0.output = W0.output := by rw [← e0]; exact same_set _ _ _ _
  obtain ⟨S1, e1⟩ : ∃ S1, S0.setCell ⟨p, 1, none⟩ (.bool false) = S1 := ⟨_, rfl⟩
  have h1 : S1.heap[p]? = some (.cells #[.string ⟨#[]⟩, .bool false, u2, u3, u4, u5, u6, u7] T) := by rw [← e1]; exact at_set h0
  have k1 : ∀ k, k ≠ p → S1.heap[k]? = S0.heap[k]? := fun k hk => by rw [← e1]; exact set_farK _ _ _ _ _ hk
  have z1 : S1.heap.size = S0.heap.size := by rw [← e1]; simp
  have o1 : S1.os = S0.os ∧ S1.tape = S0.tape ∧ S1.output = S0.output := by rw [← e1]; exact same_set _ _ _ _
  obtain ⟨S2, e2⟩ : ∃ S2, S1.setCell ⟨p, 2, none⟩ (.int .u8 0) = S2 := ⟨_, rfl⟩
  have h2 : S2.heap[p]? = some (.cells #[.string ⟨#[]⟩, .bool false, .int .u8 0, u3, u4, u5, u6, u7] T) := by rw [← e2]; exact at_set h1
  have k2 : ∀ k, k ≠ p → S2.heap[k]? = S1.heap[k]? := fun k hk => by rw [← e2]; exact set_farK _ _ _ _ _ hk
  have z2 : S2.heap.size = S1.heap.size := by rw [← e2]; simp
  have o2 : S2.os = S1.os ∧ S2.tape = S1.tape ∧ S2.output = S1.output := by rw [← e2]; exact same_set _ _ _ _
  obtain ⟨S3, e3⟩ : ∃ S3, S2.setCell ⟨p, 3, none⟩ (.int .i64 0) = S3 := ⟨_, rfl⟩
  have h3 : S3.heap[p]? = some (.cells #[.string ⟨#[]⟩, .bool false, .int .u8 0, .int .i64 0, u4, u5, u6, u7] T) := by rw [← e3]; exact at_set h2
  have k3 : ∀ k, k ≠ p → S3.heap[k]? = S2.heap[k]? := fun k hk => by rw [← e3]; exact set_farK _ _ _ _ _ hk
  have z3 : S3.heap.size = S2.heap.size := by rw [← e3]; simp
  have o3 : S3.os = S2.os ∧ S3.tape = S2.tape ∧ S3.output = S2.output := by rw [← e3]; exact same_set _ _ _ _
  obtain ⟨S4, e4⟩ : ∃ S4, S3.setCell ⟨p, 4, none⟩ (.slice none 0 0) = S4 := ⟨_, rfl⟩
  have h4 : S4.heap[p]? = some (.cells #[.string ⟨#[]⟩, .bool false, .int .u8 0, .int .i64 0, .slice none 0 0, u5, u6, u7] T) := by rw [← e4]; exact at_set h3
  have k4 : ∀ k, k ≠ p → S4.heap[k]? = S3.heap[k]? := fun k hk => by rw [← e4]; exact set_farK _ _ _ _ _ hk
  have z4 : S4.heap.size = S3.heap.size := by rw [← e4]; simp
  have o4 : S4.os = S3.os ∧ S4.tape = S3.tape ∧ S4.output = S3.output := by rw [← e4]; exact same_set _ _ _ _
  obtain ⟨S5, e5⟩ : ∃ S5, S4.setCell ⟨p, 5, none⟩ (.slice none 0 0) = S5 := ⟨_, rfl⟩
  have h5 : S5.heap[p]? = some (.cells #[.string ⟨#[]⟩, .bool false, .int .u8 0, .int .i64 0, .slice none 0 0, .slice none 0 0, u6, u7] T) := by rw [← e5]; exact at_set h4
  have k5 : ∀ k, k ≠ p → S5.heap[k]? = S4.heap[k]? := fun k hk => by rw [← e5]; exact set_farK _ _ _ _ _ hk
  have z5 : S5.heap.size = S4.heap.size := by rw [← e5]; simp
  have o5 : S5.os = S4.os ∧ S5.tape = S4.tape ∧ S5.output = S4.output := by rw [← e5]; exact same_set _ _ _ _
  obtain ⟨S6, e6⟩ : ∃ S6, S5.setCell ⟨p, 6, none⟩ (.slice none 0 0) = S6 := ⟨_, rfl⟩
  have h6 : S6.heap[p]? = some (.cells #[.string ⟨#[]⟩, .bool false, .int .u8 0, .int .i64 0, .slice none 0 0, .slice none 0 0, .slice none 0 0, u7] T) := by rw [← e6]; exact at_set h5
  have k6 : ∀ k, k ≠ p → S6.heap[k]? = S5.heap[k]? := fun k hk => by rw [← e6]; exact set_farK _ _ _ _ _ hk
  have z6 : S6.heap.size = S5.heap.size := by rw [← e6]; simp
  have o6 : S6.os = S5.os ∧ S6.tape = S5.tape ∧ S6.output = S5.output := by rw [← e6]; exact same_set _ _ _ _
  obtain ⟨S7, e7⟩ : ∃ S7, S6.setCell ⟨p, 7, none⟩ (.string ⟨#[]⟩) = S7 := ⟨_, rfl⟩
  have h7 : S7.heap[p]? = some (.cells #[.string ⟨#[]⟩, .bool false, .int .u8 0, .int .i64 0, .slice none 0 0, .slice none 0 0, .slice none 0 0, .string ⟨#[]⟩] T) := by rw [← e7]; exact at_set h6
  have k7 : ∀ k, k ≠ p → S7.heap[k]? = S6.heap[k]? := fun k hk => by rw [← e7]; exact set_farK _ _ _ _ _ hk
  have z7 : S7.heap.size = S6.heap.size := by rw [← e7]; simp
  have o7 : S7.os = S6.os ∧ S7.tape = S6.tape ∧ S7.output = S6.output := by rw [← e7]; exact same_set _ _ _ _
  rw [e0, e1, e2, e3, e4, e5, e6, e7]
  exact ⟨S7, rfl, h7, fun k hk => by rw [k7 k hk, k6 k hk, k5 k hk, k4 k hk, k3 k hk, k2 k hk, k1 k hk, k0 k hk], by omega, by rw [(o7).1, (o6).1, (o5).1, (o4).1, (o3).1, (o2).1, (o1).1, (o0).1], by rw [(o7).2.1, (o6).2.1, (o5).2.1, (o4).2.1, (o3).2.1, (o2).2.1, (o1).2.1, (o0).2.1], by rw [(o7).2.2, (o6).2.2, (o5).2.2, (o4).2.2, (o3).2.2, (o2).2.2, (o1).2.2, (o0).2.2]⟩
set_option maxRecDepth 100000 in
set_option maxHeartbeats 1000000 in
theorem catch_stopN (p q : Nat) (n : Nd) (v : NdW) (ok : Bool) (older : List PanicEntry) (w : World) (hp : w.heap[p]? = some (.cells (ndA n v) 27)) (hq : w.heap[q]? = some (.cells #[.bool ok] 4)) :
    CallsD Tryz.prog 31 #[.pointer (some ⟨p, 0, none⟩), .pointer (some ⟨q, 0, none⟩)] (.panicking ({ v := .iface 77 (.agg #[]), recovered := false } :: older)) w fun e u' w' =>
      e = .returned (.tuple #[]) ∧ u' = .panicking ({ v := .iface 77 (.agg #[]), recovered := true } :: older) ∧ w'.heap[p]? = some (.cells #[.string ⟨#[]⟩, .bool false, .int .u8 0, .int .i64 0, .slice none 0 0, .slice none 0 0, .slice none 0 0, .string ⟨#[]⟩] 27) ∧ w'.heap[q]? = some (.cells #[.bool false] 4) ∧ w.heap.size ≤ w'.heap.size ∧ w'.os = w.os ∧ w'.tape = w.tape ∧ w'.output = w.output ∧ ∀ k, k < w.heap.size → k ≠ p → k ≠ q → w'.heap[k]? = w.heap[k]? := by
  have hpl := (Array.getElem?_eq_some_iff.1 hp).1
  have hql := (Array.getElem?_eq_some_iff.1 hq).1
  have hpq : p ≠ q := fun e => by
    rw [e, hq] at hp
    injection hp with hp
    injection hp with h1 h2
    exact absurd h2 (by decide)
  refine callsD_of_wpS Tryz.func31 rfl fun c₀ cs hu => ?_
  apply wpS_seq
  apply wpS_region
  simp [wpOpsS, go_sem, recoverD, hu, Tryz.ntmps31, Exit.thenS]
  refine wpS_of_wp ?_
  have hta := stopN_assert (.agg #[]) 20 w
  have HH := hide (And.intro hp (And.intro hq (And.intro hpl (And.intro hql hpq))))
  have bA : Below w.heap.size w (w.alloc (.cells #[] 77)) := (Below.refl _ w).alloc (Nat.le_refl _) _
  have hpA := (bA.block p hpl).trans hp
  have hqA := (bA.block q hql).trans hq
  obtain ⟨c0, c1, c2, c3, c4, c5, c6, c7⟩ := nd_box hpA
  have f0 : (w.alloc (.cells #[] 77)).frozen? ⟨p, 0, none⟩ = false := by simp only [World.frozen?, hpA, ndA]; rfl
  have f1 : (w.alloc (.cells #[] 77)).frozen? ⟨p, 1, none⟩ = false := by simp only [World.frozen?, hpA, ndA]; rfl
  have f2 : (w.alloc (.cells #[] 77)).frozen? ⟨p, 2, none⟩ = false := by simp only [World.frozen?, hpA, ndA]; rfl
  have f3 : (w.alloc (.cells #[] 77)).frozen? ⟨p, 3, none⟩ = false := by simp only [World.frozen?, hpA, ndA]; rfl
  have f4 : (w.alloc (.cells #[] 77)).frozen? ⟨p, 4, none⟩ = false := by simp only [World.frozen?, hpA, ndA]; rfl
  have f5 : (w.alloc (.cells #[] 77)).frozen? ⟨p, 5, none⟩ = false := by simp only [World.frozen?, hpA, ndA]; rfl
  have f6 : (w.alloc (.cells #[] 77)).frozen? ⟨p, 6, none⟩ = false := by simp only [World.frozen?, hpA, ndA]; rfl
  have f7 : (w.alloc (.cells #[] 77)).frozen? ⟨p, 7, none⟩ = false := by simp only [World.frozen?, hpA, ndA]; rfl
  have cq : (w.alloc (.cells #[] 77)).cell? ⟨q, 0, none⟩ = some (.bool ok) := by simp only [World.cell?, hqA]; rfl
  have fq : (w.alloc (.cells #[] 77)).frozen? ⟨q, 0, none⟩ = false := by simp only [World.frozen?, hqA]; rfl
  have HA := hide (And.intro hpA (And.intro hqA bA))
  clear hpA hqA bA
  clear hp hq hpl hql
  have hqp : q ≠ p := fun e => hpq e.symm
  simp only [Array.replicate_succ, Array.replicate_zero, List.push_toArray, List.nil_append, List.cons_append, List.setIfInBounds_toArray, List.set_cons_succ, List.set_cons_zero, List.append_toArray]
  go_wp2_with fail
  have h0 := HA.out.1
  unfold ndA at h0
  obtain ⟨S8, hS8, g1, g2, g3, g4, g5, g6⟩ := zero_stored h0
  rw [hS8]
  obtain ⟨Wf, hWf⟩ : ∃ Wf, S8.setCell ⟨q, 0, none⟩ (.bool false) = Wf := ⟨_, rfl⟩
  have hfp : Wf.heap[p]? = some (.cells #[.string ⟨#[]⟩, .bool false, .int .u8 0, .int .i64 0, .slice none 0 0, .slice none 0 0, .slice none 0 0, .string ⟨#[]⟩] 27) := by
    rw [← hWf, set_farK _ _ _ _ _ HH.out.2.2.2.2]
    exact g1
  have hq8 : S8.heap[q]? = some (.cells #[.bool ok] 4) := (g2 q hqp).trans HA.out.2.1
  have hfq : Wf.heap[q]? = some (.cells #[.bool false] 4) := by
    rw [← hWf]
    exact at_set hq8
  have hfz : w.heap.size ≤ Wf.heap.size := by rw [← hWf]; have := HA.out.2.2.size; simp; omega
  have hfo := same_set S8 q 0 (.bool false)
  rw [hWf] at hfo
  have hfk : ∀ k, k < w.heap.size → ¬ k = p → ¬ k = q → Wf.heap[k]? = w.heap[k]? := fun k hk h1 h2 => by
    rw [← hWf, set_farK _ _ _ _ _ h2, g2 k h1]
    exact HA.out.2.2.block k hk
  rw [hWf]
  have b1 := hfo.1.trans (g4.trans HA.out.2.2.os)
  have b2 := hfo.2.1.trans (g5.trans HA.out.2.2.tape)
  have b3 := hfo.2.2.trans (g6.trans HA.out.2.2.output)
  clear hWf hS8 g1 g2 g3 g4 g5 g6 hq8 hfo h0
  simp [bodyPostS, results, Tryz.results31]
  exact ⟨hfp, hfq, hfz, b1, b2, b3, hfk⟩
end Go.Proofs.YtimhkgpjfppkmaaGreatDoor
namespace Go.Proofs.YtimhkgpjfppkmaaGreatDoor
open Go.RowKit Go.Shelf

def noK : Nd := ⟨⟨#[]⟩, false, 0, 0, [], [], [], ⟨#[]⟩⟩
def noKW : NdW := ⟨none, 0, none, 0, none, 0⟩
theorem noK_mem (w : World) : NdM w.heap.size w noK noKW := ⟨⟨⟨by simp [noK], fun k x h => by simp [noK] at h⟩, ⟨by simp [noK], fun k x h => by simp [noK] at h⟩, by simp [noK], by simp [noK]⟩, ⟨by simp [noK], fun k x h => by simp [noK] at h⟩, by simp [noK], ⟨show (⟨#[]⟩ : ByteArray).size ≤ _ by decide, show (⟨#[]⟩ : ByteArray).size ≤ _ by decide, fun x h => by simp [noK] at h, fun x h => by simp [noK] at h, fun x h => by simp [noK] at h⟩⟩
theorem ld9 {w : World} {p : Addr} {s : ByteArray} (hc : w.cell? p = some (.string s)) : (Instr.loadAt 9 (.pointer (some p))).run Tryz.prog w = .ok (.string s) w := by
  simp [Instr.loadAt, Instr.sureAddr, loadVar, Tryz.isAgg9, hc, go_sem]
theorem st4 {w : World} {p : Addr} {x y : Bool} (hc : w.cell? p = some (.bool x)) (hf : w.frozen? p = false) : (Instr.storeAt 4 (.pointer (some p)) (.bool y)).run Tryz.prog w = .ok () (w.setCell p (.bool y)) := by
  simp [Instr.storeAt, Instr.sureAddr, storeVar, hc, hf, go_sem]
theorem ex_eqD {o : Oper} {a : Act} {w : World} {x y : Operand} {s t : ByteArray} {b : Bool} (ho : o.op = .binOp .eql 9 x y 9) (hx : a.eval x = .string s) (hy : a.eval y = .string t) (hb : (s.toList == t.toList) = b) : (execOp a.eval o).run Tryz.prog w = .ok (.value (.bool b)) w := by
  unfold execOp
  simp only [ho, hx, hy]
  go_simp
  try exact hb
set_option maxRecDepth 100000 in
set_option maxHeartbeats 1000000 in
theorem read_any (s : ByteArray) (hs : s.size ≤ 281474976710656) (w : World) (hg : GlobE w) :
    Calls Tryz.prog 14 #[.string s] w fun e w' => (∃ n v ok, e = .returned (.tuple #[.agg (ndA n v), .bool ok]) ∧ (NdM w'.heap.size w' n v ∧ Above w.heap.size v) ∧ ((ok = true ∧ nodeF (bsT s) = some (n, [])) ∨ (ok = false ∧ ∀ m, nodeF (bsT s) ≠ some (m, [])))) ∧ Below w.heap.size w w' := by
  obtain ⟨W0, hW0⟩ : ∃ W0, w.alloc (.cells #[.string ⟨#[]⟩, .bool false, .int .u8 0, .int .i64 0, .slice none 0 0, .slice none 0 0, .slice none 0 0, .string ⟨#[]⟩] 27) = W0 := ⟨_, rfl⟩
  obtain ⟨W1, hW1⟩ : ∃ W1, W0.alloc (.cells #[.bool false] 4) = W1 := ⟨_, rfl⟩
  obtain ⟨W2, hW2⟩ : ∃ W2, W1.alloc (.cells #[.string s] 79) = W2 := ⟨_, rfl⟩
  have b0 : Below w.heap.size w W0 := by rw [← hW0]; exact (Below.refl _ w).alloc (Nat.le_refl _) _
  have b1 : Below W0.heap.size W0 W1 := by rw [← hW1]; exact (Below.refl _ W0).alloc (Nat.le_refl _) _
  have b2 : Below W1.heap.size W1 W2 := by rw [← hW2]; exact (Below.refl _ W1).alloc (Nat.le_refl _) _
  have z0 : W0.heap.size = w.heap.size + 1 := by rw [← hW0]; simp
  have z1 : W1.heap.size = w.heap.size + 1 + 1 := by rw [← hW1]; simp [z0]
  have f0 : W2.heap[w.heap.size]? = some (.cells #[.string ⟨#[]⟩, .bool false, .int .u8 0, .int .i64 0, .slice none 0 0, .slice none 0 0, .slice none 0 0, .string ⟨#[]⟩] 27) := by
    rw [b2.block _ (by omega), b1.block _ (by omega), ← hW0]
    exact World.alloc_heap_new _ _
  have f1 : W2.heap[w.heap.size + 1]? = some (.cells #[.bool false] 4) := by
    rw [b2.block _ (by omega), ← hW1, ← z0]
    exact World.alloc_heap_new _ _
  have f2 : Rdr W2 (w.heap.size + 1 + 1) (bsT s) := by
    show W2.heap[_]? = _
    rw [← hW2, ← z1]
    exact World.alloc_heap_new _ _
  have B2 : Below w.heap.size w W2 := (b0.trans (b1.mono b0.size)).trans (b2.mono (by omega))
  have hE : EnvR w.heap.size W2 := ⟨w, rfl, B2, hg⟩
  have HN := hide (rdNode_any (bsT s) hs (w.heap.size + 1 + 1) w.heap.size W2 (by omega) hE f2)
  have HF := hide (And.intro f0 (And.intro f1 (And.intro f2 B2)))
  have HW := hide (show (((w.alloc (.cells #[.string ⟨#[]⟩, .bool false, .int .u8 0, .int .i64 0, .slice none 0 0, .slice none 0 0, .slice none 0 0, .string ⟨#[]⟩] 27)).alloc (.cells #[.bool false] 4)).alloc (.cells #[.string s] 79)) = W2 by rw [hW0, hW1, hW2])
  rw [← hW2, ← hW1, ← hW0] at HN
  clear b0 b1 b2 z0 z1 f0 f1 f2 B2 hE hW0 hW1 hW2 hg
  go_enter_defers Tryz.func14, Tryz.ntmps14
  go_wp2_with fail
  refine HN.out.mono ?_
  rintro e W3 ⟨⟨n, r, hx, v, rfl, ⟨hm, hab⟩, hr⟩ | ⟨hx, rfl⟩, g⟩
  · have hW : (((w.alloc (.cells #[.string ⟨#[]⟩, .bool false, .int .u8 0, .int .i64 0, .slice none 0 0, .slice none 0 0, .slice none 0 0, .string ⟨#[]⟩] 27)).alloc (.cells #[.bool false] 4)).alloc (.cells #[.string s] 79)) = W2 := HW.out
    rw [hW] at g hab
    have hW2z : w.heap.size + 3 ≤ W2.heap.size := by have := (Array.getElem?_eq_some_iff.1 (show W2.heap[w.heap.size + 1 + 1]? = _ from HF.out.2.2.1)).1; omega
    have B3 : Below w.heap.size w W3 := HF.out.2.2.2.grown g HF.out.2.2.2.size (fun k e => by injection e with e; omega)
    have HB3 := hide (And.intro B3 (And.intro hab hW2z))
    clear hW2z B3 hab
    have hp3 : W3.heap[w.heap.size]? = some (.cells (ndA noN noW) 27) := (g.block w.heap.size (by have := (Array.getElem?_eq_some_iff.1 HF.out.1).1; omega) (fun e => by injection e with e; omega)).trans HF.out.1
    have hq3 := (g.block (w.heap.size + 1) (by have := (Array.getElem?_eq_some_iff.1 HF.out.2.1).1; omega) (fun e => by injection e with e; omega)).trans HF.out.2.1
    obtain ⟨ok, hok⟩ : ∃ b, ((sbT r).toList == (⟨#[]⟩ : ByteArray).toList) = b := ⟨_, rfl⟩
    have HX := hide (And.intro hx (And.intro hm (And.intro g hok)))
    have HP3 := hide hp3
    have HQ3 := hide hq3
    have HR3 := hide hr
    clear hx hm g hW hok hp3 hq3 hr
    rename_i K1 hK1
    refine hK1 _ _ ?_
    refine l_store _ (store_nd (n := n) (u := v) (n0 := noN) (u0 := noW) HP3.out) rfl rfl rfl rfl ?_
    go_wp2_with fail
    obtain ⟨W4, hW4⟩ : ∃ W4, setNd W3 w.heap.size n v = W4 := ⟨_, rfl⟩
    rw [hW4]
    have e4 : W4.drew.heap = W4.heap := rfl
    have f4 : W4.heap[w.heap.size]? = some (.cells (ndA n v) 27) := by rw [← hW4]; exact setNd_heap HP3.out
    have q4 : W4.heap[w.heap.size + 1]? = some (.cells #[.bool false] 4) := by rw [← hW4]; exact (setNd_far _ (by omega)).trans HQ3.out
    have r4 : W4.heap[w.heap.size + 1 + 1]? = some (.cells #[.string (sbT r)] 79) := by rw [← hW4]; exact (setNd_far _ (by omega)).trans HR3.out
    obtain ⟨V0, hV0⟩ : ∃ V0, W4.drew = V0 := ⟨_, rfl⟩
    rw [hV0] at e4
    rw [← e4] at f4 q4 r4
    obtain ⟨V1, hV1⟩ : ∃ V1, setNd V0 w.heap.size n v = V1 := ⟨_, rfl⟩
    have f5 : V1.heap[w.heap.size]? = some (.cells (ndA n v) 27) := by rw [← hV1]; exact setNd_heap f4
    have q5 : V1.heap[w.heap.size + 1]? = some (.cells #[.bool false] 4) := by rw [← hV1]; exact (setNd_far _ (by omega)).trans q4
    have r5 : V1.heap[w.heap.size + 1 + 1]? = some (.cells #[.string (sbT r)] 79) := by rw [← hV1]; exact (setNd_far _ (by omega)).trans r4
    have c5 : V1.cell? ⟨w.heap.size + 1, 0, none⟩ = some (.bool false) := by simp [World.cell?, q5]
    have z5 : V1.frozen? ⟨w.heap.size + 1, 0, none⟩ = false := by simp [World.frozen?, q5]
    obtain ⟨V2, hV2⟩ : ∃ V2, V1.setCell ⟨w.heap.size + 1, 0, none⟩ (.bool ok) = V2 := ⟨_, rfl⟩
    have f6 : V2.heap[w.heap.size]? = some (.cells (ndA n v) 27) := by rw [← hV2, set_farK _ _ _ _ _ (by omega)]; exact f5
    have q6 : V2.heap[w.heap.size + 1]? = some (.cells #[.bool ok] 4) := by rw [← hV2]; exact at_set q5
    have r6 : V2.heap[w.heap.size + 1 + 1]? = some (.cells #[.string (sbT r)] 79) := by rw [← hV2, set_farK _ _ _ _ _ (by omega)]; exact r5
    apply region_one (S := fun V => V.heap[w.heap.size]? = some (.cells (ndA n v) 27) ∧ V.heap[w.heap.size + 1 + 1]? = some (.cells #[.string (sbT r)] 79)) (W0 := V2) (hm := by kernel_rfl)
    case h =>
      rw [hV0]
      refine anyH_take (i := 0) (v := .agg (ndA n v)) rfl (some 9) rfl (by kernel_rfl) (by kernel_rfl) (by kernel_rfl) (fun _ _ _ h => by cases h.1) rfl (fun w0 hw0 => ex_load rfl rfl (load_nd hw0.1)) ⟨f4, r4⟩ ?_
      simp only [Act.put, List.setIfInBounds_toArray, List.set_cons_zero, List.set_cons_succ]
      refine anyH_take (i := 1) (v := .pointer (some ⟨w.heap.size + 1 + 1, 0, none⟩)) rfl (some 10) rfl (by kernel_rfl) (by kernel_rfl) (by kernel_rfl) (fun _ _ _ h => by cases h.1) rfl (fun w0 hw0 => by first | rfl | kernel_rfl) ⟨f4, r4⟩ ?_
      simp only [Act.put, List.setIfInBounds_toArray, List.set_cons_zero, List.set_cons_succ]
      refine anyH_take (i := 2) (v := .string (sbT r)) rfl (some 11) rfl (by kernel_rfl) (by kernel_rfl) (by kernel_rfl) (fun _ _ _ h => by cases h.1) rfl (fun w0 hw0 => ex_load rfl rfl (ld9 (by simp [World.cell?, hw0.2]))) ⟨f4, r4⟩ ?_
      simp only [Act.put, List.setIfInBounds_toArray, List.set_cons_zero, List.set_cons_succ]
      refine anyH_take (i := 3) (v := .bool ok) rfl (some 12) rfl (by kernel_rfl) (by kernel_rfl) (by kernel_rfl) (fun _ _ _ h => by cases h.1) rfl (fun w0 hw0 => ex_eqD rfl rfl rfl HX.out.2.2.2) ⟨f4, r4⟩ ?_
      simp only [Act.put, List.setIfInBounds_toArray, List.set_cons_zero, List.set_cons_succ]
      refine anyH_one (i := 4) (by kernel_rfl) (op_store rfl rfl rfl (ex_store rfl rfl rfl ((store_nd (n0 := n) (u0 := v) f4).trans (by rw [hV1]))) ⟨⟨f5, r5⟩, ?_⟩)
      simp only [Act.put]
      refine anyH_one (i := 5) (by kernel_rfl) (op_store rfl rfl rfl (ex_store rfl rfl rfl ((st4 c5 z5).trans (by rw [hV2]))) ⟨⟨f6, r6⟩, ?_⟩)
      simp only [Act.put]
      exact wpAnyH_done (by kernel_rfl) ⟨rfl, rfl, rfl⟩ _
    case hq =>
      have z4 : W4.heap.size = W3.heap.size := by rw [← hW4]; exact setNd_size
      have z0 : V0.heap.size = W4.heap.size := by rw [e4]
      have z1 : V1.heap.size = V0.heap.size := by rw [← hV1]; exact setNd_size
      have z2 : V2.heap.size = V1.heap.size := by rw [← hV2]; simp
      have k1 : ∀ k, k ≠ w.heap.size → V1.heap[k]? = W3.heap[k]? := fun k hk => by
        have h1 : V1.heap[k]? = V0.heap[k]? := by rw [← hV1]; exact setNd_far k hk
        have h2 : W4.heap[k]? = W3.heap[k]? := by rw [← hW4]; exact setNd_far k hk
        rw [h1, e4, h2]
      have k2 : ∀ k, k ≠ w.heap.size + 1 → V2.heap[k]? = V1.heap[k]? := fun k hk => by rw [← hV2]; exact set_farK _ _ _ _ _ hk
      have M1 : NdM V1.heap.size V1 n v := ndM_farK HX.out.2.1 (by omega) k1 (fun a e => by have := HB3.out.2.1.1 a e; have := HB3.out.2.2; omega) (fun a e => by have := HB3.out.2.1.2.1 a e; have := HB3.out.2.2; omega) (fun a e => by have := HB3.out.2.1.2.2 a e; have := HB3.out.2.2; omega)
      have M2 : NdM V2.heap.size V2 n v := ndM_farK M1 z2 k2 (fun a e => by have := HB3.out.2.1.1 a e; have := HB3.out.2.2; omega) (fun a e => by have := HB3.out.2.1.2.1 a e; have := HB3.out.2.2; omega) (fun a e => by have := HB3.out.2.1.2.2 a e; have := HB3.out.2.2; omega)
      have BE4 : Below w.heap.size w W4 := by rw [← hW4]; exact setNd_below HB3.out.1 (Nat.le_refl _)
      have BE0 : Below w.heap.size w V0 := by rw [← hV0]; exact BE4.drew
      have BE1 : Below w.heap.size w V1 := by rw [← hV1]; exact setNd_below BE0 (Nat.le_refl _)
      have BE2 : Below w.heap.size w V2 := by rw [← hV2]; exact BE1.setCell (p := ⟨w.heap.size + 1, 0, none⟩) (by simp) _
      have HE := hide (And.intro M2 (And.intro BE2 (And.intro f6 q6)))
      clear hW4 hV0 hV1 hV2 f4 q4 r4 f5 q5 r5 c5 z5 f6 q6 r6 e4 z4 z0 z1 z2 k1 k2 M1 M2 BE4 BE0 BE1 BE2
      go_wp2_with fail
      refine leaves_cons (f := 31) (args := #[.pointer (some ⟨w.heap.size, 0, none⟩), .pointer (some ⟨w.heap.size + 1, 0, none⟩)]) (by simp) (by simp [go_sem]) ?_
      refine (catch_idleN w.heap.size (w.heap.size + 1) V2).mono ?_
      rintro e u' w9 ⟨rfl, rfl, rfl⟩
      obtain ⟨c0, c1, c2, c3, c4, c5, c6, c7⟩ := nd_box HE.out.2.2.1
      have d0 : w9.cell? ⟨w.heap.size + 1, 0, none⟩ = some (.bool ok) := by simp [World.cell?, HE.out.2.2.2]
      have hres : (results Tryz.f14 #[.string s, undef, .pointer (some ⟨w.heap.size, 0, none⟩), .pointer (some ⟨w.heap.size + 1, 0, none⟩), .pointer (some ⟨w.heap.size + 1 + 1, 0, none⟩), .func (.func 31) #[] #[.pointer (some ⟨w.heap.size, 0, none⟩), .pointer (some ⟨w.heap.size + 1, 0, none⟩)], .string s, .agg #[.string s], .agg (ndA n v), .agg (ndA n v), .pointer (some ⟨w.heap.size + 1 + 1, 0, none⟩), .string (sbT r), .bool ok]).run Tryz.prog w9 = .ok (.tuple #[.agg (ndA n v), .bool ok]) w9 := by
        simp [results, Tryz.results14, c0, c1, c2, c3, c4, c5, c6, c7, d0, go_sem, Tryz.isAgg27, Tryz.sizeOf27, Tryz.isAgg4]
        simp [ndA]
      simp only [settle]
      refine ⟨_, hres, ⟨n, v, ok, rfl, ⟨HE.out.1, fun a e => by have := HB3.out.2.1.1 a e; have := HB3.out.2.2; omega, fun a e => by have := HB3.out.2.1.2.1 a e; have := HB3.out.2.2; omega, fun a e => by have := HB3.out.2.1.2.2 a e; have := HB3.out.2.2; omega⟩, ?_⟩, HE.out.2.1⟩
      have hq := HX.out.2.2.2
      have hx := HX.out.1
      have hr : (sbT r).toList = r := by rw [ByteArray.toList_eq]; rfl
      have hn : (⟨#[]⟩ : ByteArray).toList = [] := by rw [ByteArray.toList_eq]
      rw [hr, hn] at hq
      cases ok with
      | true =>
        have hr0 : r = [] := by simpa using hq
        exact .inl ⟨rfl, by rw [hx, hr0]⟩
      | false =>
        have hr0 : ¬ r = [] := by simpa using hq
        exact .inr ⟨rfl, fun m h => by rw [hx] at h; simp at h; exact hr0 h.2⟩
  · have hW : (((w.alloc (.cells #[.string ⟨#[]⟩, .bool false, .int .u8 0, .int .i64 0, .slice none 0 0, .slice none 0 0, .slice none 0 0, .string ⟨#[]⟩] 27)).alloc (.cells #[.bool false] 4)).alloc (.cells #[.string s] 79)) = W2 := HW.out
    rw [hW] at g
    have hp3 := (g.block w.heap.size (by have := (Array.getElem?_eq_some_iff.1 HF.out.1).1; omega) (fun e => by injection e with e; omega)).trans HF.out.1
    have hq3 := (g.block (w.heap.size + 1) (by have := (Array.getElem?_eq_some_iff.1 HF.out.2.1).1; omega) (fun e => by injection e with e; omega)).trans HF.out.2.1
    have HX := hide (And.intro hx g)
    clear hx g hW
    go_wp2_with fail
    refine leaves_cons (f := 31) (args := #[.pointer (some ⟨w.heap.size, 0, none⟩), .pointer (some ⟨w.heap.size + 1, 0, none⟩)]) (by simp) (by simp [go_sem]) ?_
    refine (catch_stopN w.heap.size (w.heap.size + 1) noK noKW false [] W3 hp3 hq3).mono ?_
    rintro e u' w9 ⟨rfl, rfl, g1, g2, g3, g4, g5, g6, g7⟩
    have hnd : w9.heap[w.heap.size]? = some (.cells (ndA noK noKW) 27) := g1
    obtain ⟨c0, c1, c2, c3, c4, c5, c6, c7⟩ := nd_box hnd
    have d0 : w9.cell? ⟨w.heap.size + 1, 0, none⟩ = some (.bool false) := by simp [World.cell?, g2]
    have hres : (results Tryz.f14 #[.string s, undef, .pointer (some ⟨w.heap.size, 0, none⟩), .pointer (some ⟨w.heap.size + 1, 0, none⟩), .pointer (some ⟨w.heap.size + 1 + 1, 0, none⟩), .func (.func 31) #[] #[.pointer (some ⟨w.heap.size, 0, none⟩), .pointer (some ⟨w.heap.size + 1, 0, none⟩)], .string s, .agg #[.string s], undef, undef, undef, undef, undef]).run Tryz.prog w9 = .ok (.tuple #[.agg (ndA noK noKW), .bool false]) w9 := by
      simp [results, Tryz.results14, c0, c1, c2, c3, c4, c5, c6, c7, d0, go_sem, Tryz.isAgg27, Tryz.sizeOf27, Tryz.isAgg4]
      simp [ndA]
    have hend : Below w.heap.size w w9 := by
      have hz := g3
      have hz2 := HF.out.2.2.2.size
      have hg := HX.out.2
      refine ⟨g4.trans (hg.os.trans HF.out.2.2.2.os), g5.trans (hg.tape.trans HF.out.2.2.2.tape), g6.trans (hg.output.trans HF.out.2.2.2.output), by have := hg.size; omega, fun k hk => ?_⟩
      have := hg.size
      rw [g7 k (by omega) (by omega) (by omega), hg.block k (by omega) (fun e => by injection e with e; omega), HF.out.2.2.2.block k hk]
    simp only [settle, List.dropWhile_nil]
    exact ⟨_, hres, ⟨noK, noKW, false, rfl, ⟨noK_mem w9, fun a e => (by cases e), fun a e => (by cases e), fun a e => by cases e⟩, .inr ⟨rfl, fun m h => by rw [HX.out.1] at h; cases h⟩⟩, hend⟩
end Go.Proofs.YtimhkgpjfppkmaaGreatDoor
namespace Go.Proofs.YtimhkgpjfppkmaaGreatDoor
open Go.RowKit Go.Shelf

/-- How Decode ends: with a right node that the text is of, or with an error. -/
def DecE (s : ByteArray) (e : Ending) (w' : World) : Prop :=
  (∃ n v, e = .returned (.tuple #[.agg (ndA n v), .int .i64 0]) ∧ NdM w'.heap.size w' n v ∧ RightN n ∧ nodeF (bsT s) = some (n, [])) ∨ (e = .returned (.tuple #[.agg noNd, .int .i64 3]) ∧ ∀ n, RightN n → nodeF (bsT s) ≠ some (n, []))
theorem ex_bldN {o : Oper} {a : Act} {w : World} (ho : o.op = .build 27 #[]) : (execOp a.eval o).run Tryz.prog w = .ok (.value (.agg noNd)) w := by
  unfold execOp
  simp only [ho]
  kernel_rfl
set_option maxRecDepth 100000 in
set_option maxHeartbeats 2000000 in
theorem decode_any (s : ByteArray) (hs : s.size ≤ 281474976710656) (w : World) (hg : GlobE w) (hG : Glob w) :
    Calls Tryz.prog 6 #[.string s] w fun e w' => DecE s e w' ∧ Below w.heap.size w w' := by
  obtain ⟨W0, hW0⟩ : ∃ W0, w.alloc (.cells #[.string ⟨#[]⟩, .bool false, .int .u8 0, .int .i64 0, .slice none 0 0, .slice none 0 0, .slice none 0 0, .string ⟨#[]⟩] 27) = W0 := ⟨_, rfl⟩
  have b0 : Below w.heap.size w W0 := by rw [← hW0]; exact (Below.refl _ w).alloc (Nat.le_refl _) _
  have f0 : W0.heap[w.heap.size]? = some (.cells (ndA noN noW) 27) := by rw [← hW0]; exact World.alloc_heap_new _ _
  have HR := hide (read_any s hs W0 (hg.below b0))
  have HB := hide (And.intro b0 (And.intro f0 hG))
  rw [← hW0] at HR
  have HW := hide hW0
  clear b0 f0 hW0 hg hG
  go_enter Tryz.func6, Tryz.ntmps6
  go_wp2_with fail
  refine HR.out.mono ?_
  rintro e w1 ⟨⟨n, v, ok, rfl, ⟨hm, hab⟩, hc⟩, b1⟩
  have hW : (w.alloc (.cells #[.string ⟨#[]⟩, .bool false, .int .u8 0, .int .i64 0, .slice none 0 0, .slice none 0 0, .slice none 0 0, .string ⟨#[]⟩] 27)) = W0 := HW.out
  rw [hW] at b1 hab
  have hz0 : W0.heap.size = w.heap.size + 1 := by rw [← hW]; simp
  have HAb := hide (show Above (w.heap.size + 1) v by rw [← hz0]; exact hab)
  clear hab hz0
  have B1 : Below w.heap.size w w1 := HB.out.1.trans (b1.mono HB.out.1.size)
  have f1 := (b1.block _ (Array.getElem?_eq_some_iff.1 HB.out.2.1).1).trans HB.out.2.1
  obtain ⟨W2, hW2⟩ : ∃ W2, w1.alloc (.cells (ndA n v) 27) = W2 := ⟨_, rfl⟩
  have b2 : Below w1.heap.size w1 W2 := by rw [← hW2]; exact (Below.refl _ w1).alloc (Nat.le_refl _) _
  have f2 : W2.heap[w1.heap.size]? = some (.cells (ndA n v) 27) := by rw [← hW2]; exact World.alloc_heap_new _ _
  have B2 : Below w.heap.size w W2 := B1.trans (b2.mono B1.size)
  have g2 : W2.heap[w.heap.size]? = some (.cells (ndA noN noW) 27) := (b2.block _ (Array.getElem?_eq_some_iff.1 f1).1).trans f1
  have hz2 : w.heap.size < w1.heap.size := (Array.getElem?_eq_some_iff.1 f1).1
  have HN := hide (rightN_any n v W2 (hm.move b2) (HB.out.2.2.below B2))
  have H2 := hide (And.intro B2 (And.intro f2 (And.intro g2 (And.intro hz2 (And.intro hc (hm.move b2))))))
  have HF2 := hide f2
  have HW2 := hide hW2
  rw [← hW2] at HN HF2
  clear hm hc b1 B1 f1 hW b2 f2 B2 g2 hW2 hz2
  cases ok with
  | false =>
    have hlit : (ndA n v : Array Value) = #[.string n.name, .bool n.coll, .int .u8 n.acc, .int .i64 n.max, .slice v.aa n.affs.length v.ac, .slice v.sa n.subs.length v.sc, .slice v.ia n.items.length v.ic, .string n.parent] := rfl
    have HG := hide H2.out.2.2.1
    have hW2' : w1.alloc (.cells (ndA n v) 27) = W2 := HW2.out
    rw [← hW2'] at HG
    rw [hlit] at HG ⊢
    clear hlit hW2'
    go_wp2_with (refine l_val rfl _ (ex_bldN rfl) ?_; refine stopNd ?_)
    unfold Hid
    refine l_store _ (store_nd (n := noN) (u := noW) (n0 := noN) (u0 := noW) HG.out) rfl rfl rfl rfl ?_
    go_wp2_with fail
    refine bodyPost_ret (results_nc (n := noN) (u := noW) (c := 2) (d := 3) rfl rfl rfl (setNd_heap HG.out)) rfl ⟨.inr ⟨rfl, fun m _ h => ?_⟩, ?_⟩
    · rcases H2.out.2.2.2.2.1 with ⟨h1, _⟩ | ⟨_, h1⟩
      · cases h1
      · exact h1 m h
    · have hW2' : w1.alloc (.cells (ndA n v) 27) = W2 := HW2.out
      have hb := H2.out.1
      rw [← hW2'] at hb
      exact setNd_below hb (Nat.le_refl _)
  | true =>
    have hlit : (ndA n v : Array Value) = #[.string n.name, .bool n.coll, .int .u8 n.acc, .int .i64 n.max, .slice v.aa n.affs.length v.ac, .slice v.sa n.subs.length v.sc, .slice v.ia n.items.length v.ic, .string n.parent] := rfl
    rw [hlit] at HN HF2 ⊢
    clear hlit
    go_wp2_with (refine l_load _ (load_nd (n := n) (v := v) HF2.out) rfl rfl rfl ?_)
    refine HN.out.mono ?_
    rintro e w3 ⟨hy, b3⟩
    have hlit : (ndA n v : Array Value) = #[.string n.name, .bool n.coll, .int .u8 n.acc, .int .i64 n.max, .slice v.aa n.affs.length v.ac, .slice v.sa n.subs.length v.sc, .slice v.ia n.items.length v.ic, .string n.parent] := rfl
    have hW2' : w1.alloc (.cells (ndA n v) 27) = W2 := HW2.out
    rw [← hlit, hW2'] at b3
    have f3 := (b3.block _ (Array.getElem?_eq_some_iff.1 H2.out.2.1).1).trans H2.out.2.1
    have g3 := (b3.block _ (Array.getElem?_eq_some_iff.1 H2.out.2.2.1).1).trans H2.out.2.2.1
    have B3 : Below w.heap.size w w3 := H2.out.1.trans (b3.mono H2.out.1.size)
    have HM3 := hide (H2.out.2.2.2.2.2.move b3)
    have HC := hide H2.out.2.2.2.2.1
    have HF3 := hide f3
    have HG3 := hide (And.intro g3 B3)
    clear b3 f3 g3 B3 hW2' hlit H2 HW2 HF2 HN HB HR HW
    obtain ⟨bb, rfl, hbb⟩ := hy
    cases bb with
    | true =>
      have hr : RightN n := hbb.1 rfl
      clear hbb
      have HP := hide hr
      clear hr
      go_wp2_with (refine l_load _ (load_nd (n := n) (v := v) HF3.out) rfl rfl rfl ?_; refine stopNd ?_)
      unfold Hid
      refine l_store _ (store_nd (n := n) (u := v) (n0 := noN) (u0 := noW) HG3.out.1) rfl rfl rfl rfl ?_
      go_wp2_with fail
      refine bodyPost_ret (results_nc (n := n) (u := v) (c := 2) (d := 3) rfl rfl rfl (setNd_heap HG3.out.1)) rfl ⟨.inl ⟨n, v, rfl, ?_, HP.out, ?_⟩, setNd_below HG3.out.2 (Nat.le_refl _)⟩
      · exact ndM_farK HM3.out setNd_size setNd_far (fun a e => by have := HAb.out.1 a e; omega) (fun a e => by have := HAb.out.2.1 a e; omega) (fun a e => by have := HAb.out.2.2 a e; omega)
      · rcases HC.out with ⟨_, h1⟩ | ⟨h1, _⟩
        · exact h1
        · cases h1
    | false =>
      have hr : ¬ RightN n := fun h => by have := hbb.2 h; cases this
      clear hbb
      have HP := hide hr
      clear hr
      go_wp2_with (refine l_val rfl _ (ex_bldN rfl) ?_; refine stopNd ?_)
      unfold Hid
      refine l_store _ (store_nd (n := noN) (u := noW) (n0 := noN) (u0 := noW) HG3.out.1) rfl rfl rfl rfl ?_
      go_wp2_with fail
      refine bodyPost_ret (results_nc (n := noN) (u := noW) (c := 2) (d := 3) rfl rfl rfl (setNd_heap HG3.out.1)) rfl ⟨.inr ⟨rfl, fun m hm h => ?_⟩, setNd_below HG3.out.2 (Nat.le_refl _)⟩
      rcases HC.out with ⟨_, h1⟩ | ⟨h1, _⟩
      · rw [h1] at h
        injection h with h
        injection h with h _
        exact HP.out (h ▸ hm)
      · cases h1
end Go.Proofs.YtimhkgpjfppkmaaGreatDoor
