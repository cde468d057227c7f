/- Stanzas: what Decode asks. -/
import Derived.Test.YtpknifioflagaaaDoorSt4
import Derived.Test.YtpknifioflagaaaDoorSt6
import Derived.Test.YtpknifioflagaaaDoorSt7
namespace Go.Proofs.YtpknifioflagaaaDoor
open Go.RowKit Go.Shelf

theorem whole_first {ts : List Tok} (h : WholeT ts) : 2 ≤ ts.length ∧ ∃ t, ts[0]? = some t ∧ t.kind = 1 := by
  obtain ⟨⟨h64, hf, he⟩, ht⟩ := h
  cases ts with
  | nil => cases ht
  | cons t ts =>
    have h0 := hf 0 t rfl
    have hk : t.kind = 1 := by
      rcases h0 with h | h | h
      · exact h.1
      · exact absurd h.2.1 (by simp [openAt_zero])
      · exact absurd h.2.1 (by simp [openAt_zero])
    refine ⟨?_, t, rfl, hk⟩
    cases ts with
    | nil =>
      have : openAt [t] [t].length = opens (openAt [t] 0) t := openAt_succ rfl
      rw [this, openAt_zero] at he
      simp [opens, hk] at he
    | cons u ts => simp
/-- What is inside. -/
def midT (ts : List Tok) : List Tok := (ts.drop 1).take (ts.length - 2)
theorem mid_len {ts : List Tok} (h : 2 ≤ ts.length) : (midT ts).length = ts.length - 2 := by
  unfold midT
  rw [List.length_take, List.length_drop]
  omega
theorem mid_at {ts : List Tok} {k : Nat} {t : Tok} (h : (midT ts)[k]? = some t) : ts[k + 1]? = some t := by
  unfold midT at h
  rw [List.getElem?_take] at h
  split at h
  · rw [List.getElem?_drop] at h
    rw [Nat.add_comm]
    exact h
  · cases h
theorem TokMem.mid {n₀ : Nat} {w : World} {b off : Nat} {ts : List Tok} {av : Nat → Option Addr × Nat} (h : TokMem n₀ w (some ⟨b, off, none⟩) ts av) : TokMem n₀ w (some ⟨b, off + 4, none⟩) (midT ts) (fun k => av (k + 1)) := by
  refine ⟨by have := h.1; unfold midT; rw [List.length_take, List.length_drop]; omega, fun k t hk => ?_⟩
  obtain ⟨h1, h2, h3, h4, h5, b', off', e, hb, c0, c1, c2, c3⟩ := h.2 (k + 1) t (mid_at hk)
  cases e
  rw [show off + (k + 1) * 4 = off + 4 + k * 4 by omega] at c0 c1 c2 c3
  exact ⟨h1, h2, h3, h4, h5, b, off + 4, rfl, hb, c0, c1, c2, c3⟩
/-- Tokens that are a stanza's. -/
def DecOk (ts : List Tok) (t : Tok) (d : D4) : Prop := WholeT ts ∧ ts[0]? = some t ∧ decA d0 t.attrs = some d ∧ StOk (kNum t.name) d.ty d.fr d.tt d.id (midT ts)
def zeroSt : Array Value := #[.int .u8 0, .string ⟨#[]⟩, .string ⟨#[]⟩, .string ⟨#[]⟩, .string ⟨#[]⟩, .slice none 0 0]
theorem below6 {B b : Nat} {a w : World} (h : Below B a w) (hb : B ≤ b) (a0 a1 a2 a3 a4 a5 : Value) : Below B a ((((((w.setCell ⟨b, 0, none⟩ a0).setCell ⟨b, 1, none⟩ a1).setCell ⟨b, 2, none⟩ a2).setCell ⟨b, 3, none⟩ a3).setCell ⟨b, 4, none⟩ a4).setCell ⟨b, 5, none⟩ a5) :=
  (((((h.setCell (p := ⟨b, 0, none⟩) hb _).setCell (p := ⟨b, 1, none⟩) hb _).setCell (p := ⟨b, 2, none⟩) hb _).setCell (p := ⟨b, 3, none⟩) hb _).setCell (p := ⟨b, 4, none⟩) hb _).setCell (p := ⟨b, 5, none⟩) hb _
theorem dec_sizes : ∀ (al : List (ByteArray × ByteArray)) (d e : D4), (∀ a ∈ al, a.1.size ≤ 9223372036854775807 ∧ a.2.size ≤ 9223372036854775807) → (d.ty.size ≤ 9223372036854775807 ∧ d.fr.size ≤ 9223372036854775807 ∧ d.tt.size ≤ 9223372036854775807 ∧ d.id.size ≤ 9223372036854775807) → decA d al = some e → (e.ty.size ≤ 9223372036854775807 ∧ e.fr.size ≤ 9223372036854775807 ∧ e.tt.size ≤ 9223372036854775807 ∧ e.id.size ≤ 9223372036854775807)
  | [], d, e, _, hd, h => by
    simp [decA] at h
    subst h
    exact hd
  | a :: al, d, e, ha, hd, h => by
    have h2 := (ha a List.mem_cons_self).2
    unfold decA at h
    cases hp : putA d a with
    | none => rw [hp] at h; cases h
    | some d' =>
      rw [hp, Option.bind_some] at h
      refine dec_sizes al d' e (fun x hx => ha x (List.mem_cons_of_mem _ hx)) ?_ h
      unfold putA at hp
      split at hp
      · cases hp; exact ⟨h2, hd.2.1, hd.2.2.1, hd.2.2.2⟩
      · split at hp
        · cases hp; exact ⟨hd.1, h2, hd.2.2.1, hd.2.2.2⟩
        · split at hp
          · cases hp; exact ⟨hd.1, hd.2.1, h2, hd.2.2.2⟩
          · split at hp
            · cases hp; exact ⟨hd.1, hd.2.1, hd.2.2.1, h2⟩
            · cases hp
theorem whole_true {ao : Option Addr} {cap : Nat} {ts : List Tok} {av : Nat → Option Addr × Nat} {w : World} (hT : TokMem w.heap.size w ao ts av) (hU : Tabs w) (h : WholeT ts) : Calls Tryd.prog 31 #[.slice ao ts.length cap] w fun e w' => e = .returned (.bool true) ∧ Below w.heap.size w w' := by
  refine (whole_any ao cap ts av w hT hU).mono ?_
  rintro e w' ⟨⟨_, rfl⟩ | ⟨h', _⟩, b⟩
  · exact ⟨rfl, b⟩
  · exact absurd h h'
theorem whole_false {ao : Option Addr} {cap : Nat} {ts : List Tok} {av : Nat → Option Addr × Nat} {w : World} (hT : TokMem w.heap.size w ao ts av) (hU : Tabs w) (h : ¬ WholeT ts) : Calls Tryd.prog 31 #[.slice ao ts.length cap] w fun e w' => e = .returned (.bool false) ∧ Below w.heap.size w w' := by
  refine (whole_any ao cap ts av w hT hU).mono ?_
  rintro e w' ⟨⟨h', _⟩ | ⟨_, rfl⟩, b⟩
  · exact absurd h' h
  · exact ⟨rfl, b⟩
theorem infoSt : (Tryd.prog.info? 25).map (fun i => (i.zero, i.size, i.bytes)) = some (some (.agg zeroSt), 6, 96) := by kernel_rfl
theorem elemTk : Tryd.prog.elem 23 = 56 := by kernel_rfl
theorem sizeTk (w : World) : (Go.sizeOf 56).run Tryd.prog w = .ok 4 w := by
  obtain ⟨ti, t1, t2, t3, t4⟩ := info_parts infoTok
  simp [Go.sizeOf, typeInfo, t1, t3]
/-- What is inside, of tokens. -/
theorem ex_mid {o : Oper} {a : Act} {w : World} {x y z : Operand} {b off m cap : Nat} {j : Int} (ho : o.op = .slice 23 x (some y) (some z) none) (hx : a.eval x = .slice (some ⟨b, off, none⟩) m cap) (hy : a.eval y = .int .i64 1) (hz : a.eval z = .int .i64 j) (hj : j = (m : Int) - 1) (h2 : 2 ≤ m) (hc : m ≤ cap) : (execOp a.eval o).run Tryd.prog w = .ok (.value (.slice (some ⟨b, off + 4, none⟩) (m - 2) (cap - 1))) w := by
  have hu : Tryd.prog.underlying 23 = some (.slice (Tryd.prog.elem 23)) := by rw [elemTk]; exact Tryd.underlying23
  have h1 := run_slice_lh (P := Tryd.prog) (w := w) 23 (some ⟨b, off, none⟩) m cap hu .i64 .i64 1 j (by omega) (by omega) (by omega)
  rw [elemTk, sizeTk] at h1
  have h2' := run_sliceAt_slice (P := Tryd.prog) (w := w) 23 (.slice (some ⟨b, off, none⟩) m cap) (some (.int .i64 1)) (some (.int .i64 j)) none hu
  rw [h1] at h2'
  have hcap : ¬ cap = 1 := by omega
  subst hj
  unfold execOp
  simp [ho, hx, hy, hz, h2', Result.andThen, sliced, Addr.add, hcap]
  omega
end Go.Proofs.YtpknifioflagaaaDoor
