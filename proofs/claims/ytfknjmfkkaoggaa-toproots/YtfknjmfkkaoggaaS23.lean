/- Slots: a sector that is spoilt; bytes as a text. -/
import Derived.Test.YtfknjmfkkaoggaaS22
namespace Go.Proofs.Ytfknjmfkkaoggaa
open Go.RowKit Go.Shelf

/-- The first k bytes are c. -/
def fillS (c : UInt8) (k : Nat) : Sec := List.replicate k c ++ List.replicate (64 - k) 0
theorem fillS_len (c : UInt8) (k : Nat) (h : k ≤ 64) : (fillS c k).length = 64 := by simp [fillS]; omega
theorem fillS_succ (c : UInt8) (k : Nat) (h : k < 64) : (secA (fillS c k)).setIfInBounds k (.int .u8 c.toNat) = secA (fillS c (k + 1)) := by
  rw [secA_set]
  congr 1
  have e : List.replicate (64 - k) (0 : UInt8) = 0 :: List.replicate (64 - (k + 1)) 0 := by rw [← List.replicate_succ]; congr 1; omega
  simp only [fillS, e]
  rw [List.set_append_right _ _ (by simp)]
  simp only [List.length_replicate, Nat.sub_self, List.set_cons_zero]
  rw [List.replicate_succ', List.append_assoc]
  rfl
def allC (c : UInt8) : Sec := fillS c 64
theorem allC_two (c : UInt8) : (allC c)[0]? = some c ∧ (allC c)[1]? = some c := by
  unfold allC fillS
  exact ⟨rfl, rfl⟩
/-- A sector of the other slot, or its root, that is spoilt changes nothing of what counts. -/
theorem spoilt_the {d : Dv} {l : List UInt8} (h : Inv d 1 2#64 l) (hz : d.las.length = 20) (at_ : Nat) (ha : at_ = 0 ∨ (2 ≤ at_ ∧ at_ ≤ 10)) (c : UInt8) : theL (dvWrite d at_ (allC c)) = ⟨1, 2#64, l⟩ := by
  obtain ⟨h1, h2, h3, h4, ⟨e, _⟩ | ⟨k1, k2, k3, k4⟩⟩ := h
  · exact absurd e (by decide)
  · have hr : readS (dvWrite d at_ (allC c)) 1 = readS d 1 := by rw [readS_write, if_neg (by omega)]
    have hdl : (dvWrite d at_ (allC c)).las.length = d.las.length := rfl
    obtain ⟨q1, q2⟩ := holds_same (d' := dvWrite d at_ (allC c)) hdl hr (fun i hi => by
      unfold secAt
      rw [hdl, readS_write, if_neg (by rw [hz]; omega)]) k1
    have ht := the_new (d := dvWrite d at_ (allC c)) (k := 1) (Nat.le_refl _) q1 (fun hh => by
      rw [hr, k2]
      rw [show 1 - 1 = 0 from rfl] at hh ⊢
      have hh0 := hh
      rw [readS_write]
      by_cases e : at_ = 0
      · exfalso
        have h0 := hh0.1
        have hr0 : readS (dvWrite d at_ (allC c)) 0 = allC c := by rw [readS_write, if_pos e]
        rw [hr0] at h0
        obtain ⟨r1, r2⟩ := root_head (rT (allC c)) (rN (allC c)) (rS (allC c))
        rw [h0] at r1 r2
        obtain ⟨a1, a2⟩ := allC_two c
        rw [a1] at r1
        rw [a2] at r2
        cases r1
        cases r2
      · rw [if_neg e]
        exact k4)
    rw [ht, q2, hr, k2, k3]
/-- Bytes in memory as a text. -/
theorem conv_mem {n₀ : Nat} {w : World} {ba : Option Addr} {l : List UInt8} (h : ByteMem n₀ w ba l) (cap : Nat) : (convert 30 9 (.slice ba l.length cap)).run Try.prog w = .ok (.string ⟨l.toArray⟩) w := by
  cases ba with
  | none =>
    cases l with
    | nil => exact run_convert_bytes_nil (P := Try.prog) w 30 5 Try.underlying30 Try.underlying5 0 cap 9 Try.underlying9
    | cons c r =>
      obtain ⟨b, o, e, _⟩ := h 0 c rfl
      cases e
  | some a =>
    refine run_convert_bytes_back (P := Try.prog) w _ 9 5 a cap l Try.underlying30 Try.underlying5 Try.underlying9 (fun j hj => ?_)
    obtain ⟨b, o, e, _, hc⟩ := h j l[j] (by simp)
    cases e
    rw [Addr.add_mid]
    exact hc
theorem ex_conv {o : Oper} {a : Act} {w : World} {x : Operand} {u v : Value} {t t' : TypeId} (ho : o.op = .convert t t' x) (hx : a.eval x = u) (hr : (convert t t' u).run Try.prog w = .ok v w) : (execOp a.eval o).run Try.prog w = .ok (.value v) w := by
  unfold execOp
  simp [ho, hx, hr]
theorem ex_eqs {o : Oper} {a : Act} {w : World} {x y : Operand} {s : ByteArray} (ho : o.op = .binOp .eql 9 x y 9) (hx : a.eval x = .string s) (hy : a.eval y = .string s) : (execOp a.eval o).run Try.prog w = .ok (.value (.bool true)) w := by
  unfold execOp
  simp only [ho, hx, hy]
  go_simp
theorem ex_equ {o : Oper} {a : Act} {w : World} {x y : Operand} {s : Int} (ho : o.op = .binOp .eql 36 x y 36) (hx : a.eval x = .int .u64 s) (hy : a.eval y = .int .u64 s) : (execOp a.eval o).run Try.prog w = .ok (.value (.bool true)) w := by
  unfold execOp
  simp only [ho, hx, hy]
  go_simp
end Go.Proofs.Ytfknjmfkkaoggaa
