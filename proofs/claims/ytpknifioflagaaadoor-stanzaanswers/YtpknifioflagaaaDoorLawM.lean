/- Small steps of the laws of stanzas: operations in a region that draws; both Encode in one form. -/
import Derived.Test.YtpknifioflagaaaDoorXS
namespace Go.Proofs.YtpknifioflagaaaDoor
open Go.RowKit Go.Shelf

theorem ex_eqb {o : Oper} {a : Act} {w : World} {x y : Operand} {s : Bool} (ho : o.op = .binOp .eql 4 x y 4) (hx : a.eval x = .bool s) (hy : a.eval y = .bool s) : (execOp a.eval o).run Tryd.prog w = .ok (.value (.bool true)) w := by
  unfold execOp
  simp only [ho, hx, hy]
  go_simp
theorem ex_eqi {o : Oper} {a : Act} {w : World} {x y : Operand} {z : Int} {t : TypeId} (ho : o.op = .binOp .eql t x y t) (hx : a.eval x = .int .i64 z) (hy : a.eval y = .int .i64 z) : (execOp a.eval o).run Tryd.prog w = .ok (.value (.bool true)) w := by
  unfold execOp
  simp only [ho, hx, hy]
  go_simp
theorem ex_pickT {o : Oper} {a : Act} {w : World} {x y z : Operand} {v : Value} (ho : o.op = .pick x y z) (hx : a.eval x = .bool true) (hy : a.eval y = v) : (execOp a.eval o).run Tryd.prog w = .ok (.value v) w := by
  unfold execOp
  simp only [ho, hx, hy]
  go_simp
theorem ex_any {o : Oper} {a : Act} {w : World} {s : Operand} {v : Value} (ho : o.op = .assign s) (hs : a.eval s = v) : (execOp a.eval o).run Tryd.prog w = .ok (.value v) w := by
  unfold execOp
  simp [ho, hs]
theorem tells_is {p : Prop} {e : Ending} {q : Bool} (h : Tells p e) (hq : q = true ↔ p) : e = .returned (.bool q) := by
  rcases h with ⟨h1, rfl⟩ | ⟨h1, rfl⟩
  · rw [hq.2 h1]
  · cases q with
    | false => rfl
    | true => exact absurd (hq.1 rfl) h1
theorem take_av {ts : List Tok} {av : Nat → Option Addr × Nat} {n : Nat} (h : ∀ i t, ts[i]? = some t → (av i).1 = none → (av i).2 = 0) : ∀ i t, (ts.take n)[i]? = some t → (av i).1 = none → (av i).2 = 0 := by
  intro i t hi
  rw [List.getElem?_take] at hi
  split at hi
  · exact h i t hi
  · cases hi
theorem wide4 {a b c d : ByteArray} (h : a.size ≤ 4611686018427387903 ∧ b.size ≤ 4611686018427387903 ∧ c.size ≤ 4611686018427387903 ∧ d.size ≤ 4611686018427387903) : a.size ≤ 9223372036854775807 ∧ b.size ≤ 9223372036854775807 ∧ c.size ≤ 9223372036854775807 ∧ d.size ≤ 9223372036854775807 := ⟨by omega, by omega, by omega, by omega⟩
/-- What Encode answers: tokens, or none, and the number of the error. -/
def EncW (k : Int) (ty fr tt id : ByteArray) (us xs : List Tok) (ec : Int) : Prop := (StOk k ty fr tt id us ∧ xs = stT k ty fr tt id us ∧ ec = 0) ∨ (¬ StOk k ty fr tt id us ∧ xs = [] ∧ ec = 3)
theorem enc_what (k : Int) (ty fr tt id : ByteArray) (us : List Tok) : ∃ xs ec, EncW k ty fr tt id us xs ec := by
  by_cases h : StOk k ty fr tt id us
  · exact ⟨_, _, .inl ⟨h, rfl, rfl⟩⟩
  · exact ⟨_, _, .inr ⟨h, rfl, rfl⟩⟩
theorem stT_len3 (k : Int) (ty fr tt id : ByteArray) (ts : List Tok) : (stT k ty fr tt id ts).length = ts.length + 2 := by
  unfold stT elemT
  simp
theorem enc_u {k : Int} {ty fr tt id : ByteArray} {pa : Option Addr} {pc : Nat} {us xs : List Tok} {ec : Int} {av : Nat → Option Addr × Nat} {w : World} (hT : TokMem w.heap.size w pa us av) (hs : us.length ≤ 70) (hz : ty.size ≤ 9223372036854775807 ∧ fr.size ≤ 9223372036854775807 ∧ tt.size ≤ 9223372036854775807 ∧ id.size ≤ 9223372036854775807) (hE : Env6 w) (hx : EncW k ty fr tt id us xs ec) :
    Calls Tryd.prog 10 #[.agg #[.int .u8 k, .string ty, .string fr, .string tt, .string id, .slice pa us.length pc]] w fun e w' => ∃ ga gc av', e = .returned (.tuple #[.slice ga xs.length gc, .int .i64 ec]) ∧ TokMem w'.heap.size w' ga xs av' ∧ Below w.heap.size w w' := by
  refine (encode_any k ty fr tt id pa pc us av w hT (by omega) hz hE.1 hE.2.1 hE.2.2.2).mono ?_
  rintro e w' ⟨⟨h, v, l, rfl, m, r⟩ | ⟨h, rfl⟩, b⟩
  · rcases hx with ⟨_, rfl, rfl⟩ | ⟨hn, _⟩
    · have hl : l.length = (stT k ty fr tt id us).length := by rw [← m, List.length_map]
      have h3 := stT_len3 k ty fr tt id us
      obtain ⟨ao, cap, rfl, hT'⟩ := tokMem_own r (by omega)
      rw [m] at hT'
      exact ⟨ao, cap, _, by rw [hl], hT', b⟩
    · exact absurd h hn
  · rcases hx with ⟨hn, _⟩ | ⟨_, rfl, rfl⟩
    · exact absurd hn h
    · exact ⟨none, 0, _, rfl, tokMem_nil _ _, b⟩
theorem renc_u {k : Int} {ty fr tt id : ByteArray} {pa : Option Addr} {pc : Nat} {us xs : List Tok} {ec : Int} {av : Nat → Option Addr × Nat} {w : World} (hT : TokMem w.heap.size w pa us av) (hav : ∀ i t, us[i]? = some t → (av i).1 = none → (av i).2 = 0) (hs : us.length ≤ 70) (hz : ty.size ≤ 4611686018427387903 ∧ fr.size ≤ 4611686018427387903 ∧ tt.size ≤ 4611686018427387903 ∧ id.size ≤ 4611686018427387903) (hE : Env6 w) (hx : EncW k ty fr tt id us xs ec) :
    Calls Tryd.prog 11 #[.agg #[.int .u8 k, .string ty, .string fr, .string tt, .string id, .slice pa us.length pc]] w fun e w' => ∃ ga gc av', e = .returned (.tuple #[.slice ga xs.length gc, .int .i64 ec]) ∧ TokMem w'.heap.size w' ga xs av' ∧ Below w.heap.size w w' := by
  refine (rencode6_any k ty fr tt id pa pc us av w hT hav (by omega) hz hE).mono ?_
  rintro e w' ⟨⟨h, v, l, rfl, m, r⟩ | ⟨h, rfl⟩, b⟩
  · rcases hx with ⟨_, rfl, rfl⟩ | ⟨hn, _⟩
    · have hl : l.length = (stT k ty fr tt id us).length := by rw [← m, List.length_map]
      have h3 := stT_len3 k ty fr tt id us
      obtain ⟨ao, cap, rfl, hT'⟩ := tokMem_own r (by omega)
      rw [m] at hT'
      exact ⟨ao, cap, _, by rw [hl], hT', b⟩
    · exact absurd h hn
  · rcases hx with ⟨hn, _⟩ | ⟨_, rfl, rfl⟩
    · exact absurd hn h
    · exact ⟨none, 0, _, rfl, tokMem_nil _ _, b⟩
end Go.Proofs.YtpknifioflagaaaDoor
