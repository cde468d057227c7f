/- Slots: the program's store alone behind deeds. -/
import Derived.Test.YtfknjmfkkaoggaaS27
namespace Go.Proofs.Ytfknjmfkkaoggaa
open Go.RowKit Go.Shelf

theorem Played.sto {base sz n qs ps qt pt : Nat} {d : Dv} {w : World} (h : Played base sz n qs ps qt pt d w) (h4 : 4 ≤ sz) (hm : sz ≤ 4096) : ∃ vl vw k t l, Sto base qs k t l sz ps d vl vw w ∧ t.toNat ≤ n := by
  obtain ⟨⟨vl, vw, ul, uw, h1⟩, ⟨k, t, l, h2, h3⟩, h5⟩ := h
  exact ⟨vl, vw, k, t, l, ⟨h1.sto, h2, h5, h4, hm, h1.low⟩, h3⟩
section
variable {base q k : Nat} {t : V} {l : List UInt8} {sz p : Nat} {d : Dv} {vl vw : Value} {w : World}
theorem save_no (h : Sto base q k t l sz p d vl vw w) (ba : Option Addr) (ln cap : Nat) (hln : ln ≤ 9223372036854775807) (ht : t.toNat < 18446744073709551615) (hf : (sz - 2) / 2 * 64 < ln) :
    Calls Try.prog 22 #[.pointer (some ⟨q, 0, none⟩), .slice ba ln cap] w fun e w' => e = .returned (.int .i64 4) ∧ ∃ vl' vw', Sto base q k t l sz p d vl' vw' w' ∧ Below base w w' := by
  refine (save_full base q p d vl vw ba ln cap w h.is h.ok h.low (by rw [h.size]; exact h.four) (by rw [h.size]; exact h.most) hln ((h.full ln ht).2 hf)).mono ?_
  rintro e w' ⟨rfl, vl', vw', k1, k2, _⟩
  exact ⟨rfl, vl', vw', ⟨k1, h.inv, h.size, h.four, h.most, Nat.le_trans h.low k2.below.size⟩, k2.below⟩
theorem save_yes (h : Sto base q k t l sz p d vl vw w) {ba : Option Addr} {b : List UInt8} {ln cap : Nat} (hB : ByteMem base w ba b) (hb : base ≤ w.heap.size) (hll : b.length = ln) (hc : ln ≤ cap) (hr : ln ≤ (sz - 2) / 2 * 64) (ht : t.toNat < 18446744073709551615) :
    Calls Try.prog 22 #[.pointer (some ⟨q, 0, none⟩), .slice ba ln cap] w fun e w' => e = .returned (.int .i64 0) ∧ ∃ vl' vw', Sto base q (1 - k) (t + 1#64) b sz p (saveD d b) vl' vw' w' ∧ Below base w w' := by
  refine (save_sto h ba b ln cap (hB.up hb) (off_foot h.is hb hB) hll hc hr ht).mono ?_
  rintro e w' ⟨rfl, vl', vw', k1, k2, _⟩
  exact ⟨rfl, vl', vw', k1, k2.below⟩
theorem torn_no4 (h : Sto base q k t l sz p d vl vw w) (ba : Option Addr) (ln cap : Nat) (ao : Option Addr) (wri : Int) (sv : List Bool) (cv : Nat) (hln : ln ≤ 9223372036854775807) (ht : t.toNat < 18446744073709551615) (hf : (sz - 2) / 2 * 64 < ln) :
    Calls Try.prog 24 #[.pointer (some ⟨q, 0, none⟩), .slice ba ln cap, .int .i64 wri, .slice ao sv.length cv] w fun e w' => e = .returned (.int .i64 4) ∧ ∃ vl' vw', Sto base q k t l sz p d vl' vw' w' ∧ Below base w w' := by
  refine (torn_full base q p d vl vw ba ao wri sv cv ln cap w h.is h.ok h.low (by rw [h.size]; exact h.four) (by rw [h.size]; exact h.most) hln ((h.full ln ht).2 hf)).mono ?_
  rintro e w' ⟨rfl, vl', vw', k1, k2, _⟩
  exact ⟨rfl, vl', vw', ⟨k1, h.inv, h.size, h.four, h.most, Nat.le_trans h.low k2.below.size⟩, k2.below⟩
theorem torn_no2 (h : Sto base q k t l sz p d vl vw w) (ba : Option Addr) (ln cap : Nat) (ao : Option Addr) (wri : Int) (sv : List Bool) (cv : Nat) (ht : t.toNat < 18446744073709551615) (hf : ln ≤ (sz - 2) / 2 * 64) (hwn : wri < 0) :
    Calls Try.prog 24 #[.pointer (some ⟨q, 0, none⟩), .slice ba ln cap, .int .i64 wri, .slice ao sv.length cv] w fun e w' => e = .returned (.int .i64 2) ∧ ∃ vl' vw', Sto base q k t l sz p d vl' vw' w' ∧ Below base w w' := by
  refine (torn_neg base q p d vl vw ba ao wri sv cv ln cap w h.is h.ok h.low (by rw [h.size]; exact h.four) (by rw [h.size]; exact h.most) (fun hh => by have := (h.full ln ht).1 hh; omega) hwn).mono ?_
  rintro e w' ⟨rfl, vl', vw', k1, k2, _⟩
  exact ⟨rfl, vl', vw', ⟨k1, h.inv, h.size, h.four, h.most, Nat.le_trans h.low k2.below.size⟩, k2.below⟩
theorem torn_yes (h : Sto base q k t l sz p d vl vw w) {ba : Option Addr} {b : List UInt8} {ln cap : Nat} (hB : ByteMem base w ba b) (hb : base ≤ w.heap.size) (hll : b.length = ln) (hc : ln ≤ cap) (hr : ln ≤ (sz - 2) / 2 * 64) (ht : t.toNat < 18446744073709551615) {wri : Int} (hwn : 0 ≤ wri) {ao : Option Addr} {sv : List Bool} {cv : Nat} (hm : BoolMem base w ao sv) :
    Calls Try.prog 24 #[.pointer (some ⟨q, 0, none⟩), .slice ba ln cap, .int .i64 wri, .slice ao sv.length cv] w fun e w' => e = .returned (.int .i64 0) ∧ ((∃ vl' vw', Sto base q k t l sz p (tornD d b wri sv) vl' vw' w') ∨ (∃ vl' vw', Sto base q (1 - k) (t + 1#64) b sz p (tornD d b wri sv) vl' vw' w')) ∧ Below base w w' := by
  refine (torn_sto h ba b ln cap wri ao sv cv (hB.up hb) (off_foot h.is hb hB) hll hc hr ht hwn (hm.up hb) fun j v g off hj e hf' => ?_).mono ?_
  · obtain ⟨g', o', e', h1, _⟩ := hm.2 j v hj
    rw [e] at e'
    cases e'
    have := (h.lt hf').1
    omega
  · rintro e w' ⟨rfl, ⟨vl', vw', k1, k2, _⟩ | ⟨_, vl', vw', k1, k2, _⟩⟩
    · exact ⟨rfl, .inl ⟨vl', vw', k1⟩, k2.below⟩
    · exact ⟨rfl, .inr ⟨vl', vw', k1⟩, k2.below⟩
end
/-- A deed's box. -/
structure BoxN (g : Nat) (x : Sd) (nb ns : Nat) (w : World) : Prop where
  here : w.heap[g]? = some (.cells #[.int .i64 x.kind, .slice x.ba nb x.bc, .int .i64 x.wri, .slice x.sa ns x.sc] 44)
theorem BoxN.low {g : Nat} {x : Sd} {nb ns : Nat} {w w' : World} (h : BoxN g x nb ns w) {n : Nat} (hb : Below n w w') (hn : g < n) : BoxN g x nb ns w' := ⟨(hb.block _ hn).trans h.here⟩
theorem BoxN.below {g : Nat} {x : Sd} {nb ns : Nat} {w w' : World} (h : BoxN g x nb ns w) (hb : Below w.heap.size w w') : BoxN g x nb ns w' := h.low hb (hp_lt h.here)
theorem cellsN {w : World} {b : Nat} {v0 v1 v2 v3 : Value} {T : TypeId} (h : w.heap[b]? = some (.cells #[v0, v1, v2, v3] T)) : w.cell? ⟨b, 0, none⟩ = some v0 ∧ w.cell? ⟨b, 1, none⟩ = some v1 ∧ w.cell? ⟨b, 2, none⟩ = some v2 ∧ w.cell? ⟨b, 3, none⟩ = some v3 :=
  ⟨by simp [World.cell?, h], by simp [World.cell?, h], by simp [World.cell?, h], by simp [World.cell?, h]⟩
theorem SdMem.up {n₀ n₁ : Nat} {w : World} {ao : Option Addr} {ds : List Sd} (h : SdMem n₀ w ao ds) (hn : n₀ ≤ n₁) : SdMem n₁ w ao ds := ⟨h.1, fun k x hk => by
  obtain ⟨h1, b, off, e1, e2, c⟩ := h.2 k x hk
  exact ⟨⟨h1.len, h1.cap, h1.by_.up hn, h1.sv.up hn⟩, b, off, e1, by omega, c⟩⟩
theorem ex_fieldD1 {o : Oper} {a : Act} {w : World} {x : Operand} {b : Nat} (ho : o.op = .fieldAddr 44 x 1) (hx : a.eval x = .pointer (some ⟨b, 0, none⟩)) : (execOp a.eval o).run Try.prog w = .ok (.value (.pointer (some ⟨b, 1, none⟩))) w := by
  unfold execOp
  simp only [ho, hx]
  go_simp
theorem ex_fieldD2 {o : Oper} {a : Act} {w : World} {x : Operand} {b : Nat} (ho : o.op = .fieldAddr 44 x 2) (hx : a.eval x = .pointer (some ⟨b, 0, none⟩)) : (execOp a.eval o).run Try.prog w = .ok (.value (.pointer (some ⟨b, 2, none⟩))) w := by
  unfold execOp
  simp only [ho, hx]
  go_simp
theorem ex_gtrT {o : Oper} {a : Act} {w : World} {x y : Operand} {m n : Int} (ho : o.op = .binOp .gtr 3 x y 3) (hx : a.eval x = .int .i64 m) (hy : a.eval y = .int .i64 n) (h : n < m) : (execOp a.eval o).run Try.prog w = .ok (.value (.bool true)) w := by
  have h' : decide (n < m) = true := decide_eq_true h
  unfold execOp
  simp only [ho, hx, hy]
  go_simp
theorem ex_lssT {o : Oper} {a : Act} {w : World} {x y : Operand} {m n : Int} (ho : o.op = .binOp .lss 3 x y 3) (hx : a.eval x = .int .i64 m) (hy : a.eval y = .int .i64 n) (h : m < n) : (execOp a.eval o).run Try.prog w = .ok (.value (.bool true)) w := by
  have h' : decide (m < n) = true := decide_eq_true h
  unfold execOp
  simp only [ho, hx, hy]
  go_simp
theorem ex_pickF {o : Oper} {a : Act} {w : World} {x y z : Operand} {v : Value} (ho : o.op = .pick x y z) (hx : a.eval x = .bool false) (hz : a.eval z = v) : (execOp a.eval o).run Try.prog w = .ok (.value v) w := by
  unfold execOp
  simp only [ho, hx, hz]
  go_simp
end Go.Proofs.Ytfknjmfkkaoggaa
