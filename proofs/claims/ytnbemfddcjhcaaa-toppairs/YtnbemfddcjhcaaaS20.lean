/- Slots: a store by what counts; live. -/
import Derived.Test.YtnbemfddcjhcaaaSC
import Derived.Lib.SlBytesConst
import Derived.Laws.IdiomStrings
import Derived.Laws.BytesArg
namespace Go.Proofs.Ytnbemfddcjhcaaa
open Go.RowKit Go.Shelf

/-- A store of sz sectors in memory, of which slot k counts, with the turn t and the bytes l. -/
structure Sto (base q k : Nat) (t : V) (l : List UInt8) (sz p : Nat) (d : Dv) (vl vw : Value) (w : World) : Prop where
  is : IsS base q p d vl vw w
  inv : Inv d k t l
  size : d.las.length = sz
  four : 4 ≤ sz
  most : sz ≤ 4096
  low : base ≤ w.heap.size
theorem Sto.below {base q k : Nat} {t : V} {l : List UInt8} {sz p : Nat} {d : Dv} {vl vw : Value} {w w' : World} (h : Sto base q k t l sz p d vl vw w) (hb : Below w.heap.size w w') : Sto base q k t l sz p d vl vw w' :=
  ⟨h.is.below hb, h.inv, h.size, h.four, h.most, Nat.le_trans h.low hb.size⟩
theorem Sto.ok {base q k : Nat} {t : V} {l : List UInt8} {sz p : Nat} {d : Dv} {vl vw : Value} {w : World} (h : Sto base q k t l sz p d vl vw w) : DvOk d := h.inv.2.1
theorem Sto.lt {base q k : Nat} {t : V} {l : List UInt8} {sz p : Nat} {d : Dv} {vl vw : Value} {w : World} (h : Sto base q k t l sz p d vl vw w) {j : Nat} (hj : foot p vl vw j) : base ≤ j ∧ j < w.heap.size := h.is.dev.lt hj
/-- It is another one now, and nothing else has turned. -/
def StoTo (base q k : Nat) (t : V) (l : List UInt8) (sz p : Nat) (d' : Dv) (vl vw : Value) (w w' : World) : Prop :=
  ∃ vl' vw', Sto base q k t l sz p d' vl' vw' w' ∧ Frees base (foot p vl vw) w w' ∧ ∀ j, foot p vl' vw' j → foot p vl vw j ∨ w.heap.size ≤ j
theorem Sto.full {base q k : Nat} {t : V} {l : List UInt8} {sz p : Nat} {d : Dv} {vl vw : Value} {w : World} (h : Sto base q k t l sz p d vl vw w) (ln : Nat) (ht : t.toNat < 18446744073709551615) : Full d ln ↔ (sz - 2) / 2 * 64 < ln := by
  unfold Full
  rw [h.inv.the, h.size]
  show (_ ∨ t.toNat = 18446744073709551615) ↔ _
  constructor
  · rintro (h | h)
    · exact h
    · omega
  · exact .inl
theorem save_sto {base q k : Nat} {t : V} {l : List UInt8} {sz p : Nat} {d : Dv} {vl vw : Value} {w : World} (h : Sto base q k t l sz p d vl vw w) (ba : Option Addr) (b : List UInt8) (ln cap : Nat) (hB : ByteMem w.heap.size w ba b) (hno : ∀ g o, b ≠ [] → ba = some ⟨g, o, none⟩ → g < w.heap.size ∧ ¬ foot p vl vw g) (hll : b.length = ln) (hc : ln ≤ cap) (hr : ln ≤ (sz - 2) / 2 * 64) (ht : t.toNat < 18446744073709551615) :
    Calls Try.prog 8 #[.pointer (some ⟨q, 0, none⟩), .slice ba ln cap] w fun e w' => e = .returned (.int .i64 0) ∧ StoTo base q (1 - k) (t + 1#64) b sz p (saveD d b) vl vw w w' := by
  refine (save_any base q p d vl vw ba b ln cap w h.is h.ok h.low (by rw [h.size]; exact h.four) (by rw [h.size]; exact h.most) hB hno hll hc (by rw [h.inv.1]; show 0 + 5000 ≤ _; omega) (fun hf => by have := (h.full ln ht).1 hf; omega)).mono ?_
  rintro e w' ⟨rfl, vl', vw', k1, k2, k3⟩
  obtain ⟨i1, i2, _⟩ := inv_save (b := b) h.inv (by rw [h.size, hll]; exact hr) ht
  exact ⟨rfl, vl', vw', ⟨k1, i1, i2.trans h.size, h.four, h.most, Nat.le_trans h.low k2.below.size⟩, k2, k3⟩
theorem load_sto {base q k : Nat} {t : V} {l : List UInt8} {sz p : Nat} {d : Dv} {vl vw : Value} {w : World} (h : Sto base q k t l sz p d vl vw w) :
    Calls Try.prog 11 #[.pointer (some ⟨q, 0, none⟩)] w fun e w' => ∃ ga gc, e = .returned (.slice ga l.length gc) ∧ w'.ownsRow w.heap.size 5 1 (.slice ga l.length gc) l.length (Lib.byteCells l) ∧ Below w.heap.size w w' := by
  have := load_any base q p d vl vw w h.is h.ok (by rw [h.size]; exact h.four) (by rw [h.size]; exact h.most)
  rw [h.inv.the] at this
  exact this
/-- A store on a device of its own. -/
theorem open_sto {base p : Nat} {d : Dv} {vl vw : Value} {w : World} {k : Nat} {t : V} {l : List UInt8} {sz : Nat} (h : IsD base p d vl vw w) (hi : Inv d k t l) (hb : base ≤ w.heap.size) (hs : d.las.length = sz) (h4 : 4 ≤ sz) (hm : sz ≤ 4096) :
    Calls Try.prog 6 #[.pointer (some ⟨p, 0, none⟩)] w fun e w' => ∃ q' p' vl' vw', e = .returned (.pointer (some ⟨q', 0, none⟩)) ∧ Sto base q' k t l sz p' d vl' vw' w' ∧ w.heap.size ≤ q' ∧ Below w.heap.size w w' ∧ ∀ j, foot p' vl' vw' j → w.heap.size ≤ j := by
  refine (open_any base p d vl vw w h hi.2.1 hb (by rw [hs]; exact h4)).mono ?_
  rintro e w' ⟨q', p', vl', vw', rfl, k1, k2, k3, k4⟩
  exact ⟨q', p', vl', vw', rfl, ⟨k1, hi, hs, h4, hm, Nat.le_trans hb k3.size⟩, k2, k3, k4⟩
theorem conv_own {w : World} {base : Nat} {v : Value} {l : List UInt8} (h : w.ownsRow base 5 1 v l.length (Lib.byteCells l)) : (convert 34 9 v).run Try.prog w = .ok (.string ⟨l.toArray⟩) w := by
  obtain ⟨h1, ⟨rfl, h2⟩ | ⟨g, cap, cur, rfl, x1, x2, x3, x4, x5, x6⟩⟩ := h
  · have hl : l = [] := List.eq_nil_of_length_eq_zero h2
    subst hl
    exact run_convert_bytes_nil (P := Try.prog) w 34 5 Try.underlying34 Try.underlying5 0 0 9 Try.underlying9
  · refine run_convert_bytes_back (P := Try.prog) w _ 9 5 ⟨g, 0, none⟩ cap l Try.underlying34 Try.underlying5 Try.underlying9 (fun j hj => ?_)
    have hx : (Lib.byteCells l)[j]? = some (.int .u8 (l[j].toNat : Int)) := by simp [Lib.byteCells, hj]
    rw [← x6, List.getElem?_take_of_lt (by omega)] at hx
    rw [Addr.add_mid]
    simp [World.cell?, x2]
    simpa using hx
/-- Bytes of a constant, in a block of their own. -/
theorem const_bytes (w : World) (l : List UInt8) (fr : Nat × Nat) : ∃ W, w.alloc (.cells (Lib.byteCells l).toArray 5 fr) = W ∧ ByteMem W.heap.size W (some ⟨w.heap.size, 0, none⟩) l ∧ Below w.heap.size w W ∧ W.heap.size = w.heap.size + 1 := by
  refine ⟨_, rfl, fun j c hj => ⟨w.heap.size, 0, rfl, by simp, ?_⟩, (Below.refl _ w).alloc (Nat.le_refl _) _, by simp⟩
  have hx : (Lib.byteCells l)[j]? = some (.int .u8 c.toNat) := by rw [Lib.byteCells, List.getElem?_map, hj]; rfl
  have hn : (w.alloc (.cells (Lib.byteCells l).toArray 5 fr)).heap[w.heap.size]? = some (.cells (Lib.byteCells l).toArray 5 fr) := World.alloc_heap_new w _
  unfold World.cell?
  simp only [hn, Nat.zero_add]
  simpa using hx
theorem live_sum : crcL [49, 50, 51, 52, 53, 54, 55, 56, 57] = 3421780262#32 := by decide +kernel
theorem sto_new {w : World} {base p : Nat} {vl vw : Value} {n : Nat} (h4 : 4 ≤ n) (hm : n ≤ 4096) (h : IsD base p (dvNew n) vl vw w) (hb : base ≤ w.heap.size) :
    Calls Try.prog 6 #[.pointer (some ⟨p, 0, none⟩)] w fun e w' => ∃ q' p' vl' vw', e = .returned (.pointer (some ⟨q', 0, none⟩)) ∧ Sto base q' 1 0#64 [] n p' (dvNew n) vl' vw' w' ∧ w.heap.size ≤ q' ∧ Below w.heap.size w w' ∧ ∀ j, foot p' vl' vw' j → w.heap.size ≤ j :=
  open_sto h (inv_new h4 hm) hb List.length_replicate h4 hm

end Go.Proofs.Ytnbemfddcjhcaaa
