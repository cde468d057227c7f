/- Slots: a store by what counts; live. Slots: Save and Torn of a store that is nil; few. Slots: bytes of a text; texts in memory. Slots: a sector that is spoilt; bytes as a text. -/
import Derived.Test.YtfknjmfkkaoggaaSC
import Derived.Lib.SlBytesConst
import Derived.Laws.IdiomStrings
import Derived.Laws.BytesArg
namespace Go.Proofs.Ytfknjmfkkaoggaa
open Go.RowKit Go.Shelf

/-- A store of sz sectors in memory, of which slot k counts, with the turn t and the bytes l. -/
structure Sto (base q k : Nat) (t : V) (l : List UInt8) (sz p : Nat) (d : Dv) (vl vw : Value) (w : World) : Prop where
  is : IsS base q p d vl vw w
  inv : Inv d k t l
  size : d.las.length = sz
  four : 4 ≤ sz
  most : sz ≤ 4096
  low : base ≤ w.heap.size
theorem Sto.below {base q k : Nat} {t : V} {l : List UInt8} {sz p : Nat} {d : Dv} {vl vw : Value} {w w' : World} (h : Sto base q k t l sz p d vl vw w) (hb : Below w.heap.size w w') : Sto base q k t l sz p d vl vw w' :=
  ⟨h.is.below hb, h.inv, h.size, h.four, h.most, Nat.le_trans h.low hb.size⟩
theorem Sto.ok {base q k : Nat} {t : V} {l : List UInt8} {sz p : Nat} {d : Dv} {vl vw : Value} {w : World} (h : Sto base q k t l sz p d vl vw w) : DvOk d := h.inv.2.1
theorem Sto.lt {base q k : Nat} {t : V} {l : List UInt8} {sz p : Nat} {d : Dv} {vl vw : Value} {w : World} (h : Sto base q k t l sz p d vl vw w) {j : Nat} (hj : foot p vl vw j) : base ≤ j ∧ j < w.heap.size := h.is.dev.lt hj
/-- It is another one now, and nothing else has turned. -/
def StoTo (base q k : Nat) (t : V) (l : List UInt8) (sz p : Nat) (d' : Dv) (vl vw : Value) (w w' : World) : Prop :=
  ∃ vl' vw', Sto base q k t l sz p d' vl' vw' w' ∧ Frees base (foot p vl vw) w w' ∧ ∀ j, foot p vl' vw' j → foot p vl vw j ∨ w.heap.size ≤ j
theorem Sto.full {base q k : Nat} {t : V} {l : List UInt8} {sz p : Nat} {d : Dv} {vl vw : Value} {w : World} (h : Sto base q k t l sz p d vl vw w) (ln : Nat) (ht : t.toNat < 18446744073709551615) : Full d ln ↔ (sz - 2) / 2 * 64 < ln := by
  unfold Full
  rw [h.inv.the, h.size]
  show (_ ∨ t.toNat = 18446744073709551615) ↔ _
  constructor
  · rintro (h | h)
    · exact h
    · omega
  · exact .inl
theorem save_sto {base q k : Nat} {t : V} {l : List UInt8} {sz p : Nat} {d : Dv} {vl vw : Value} {w : World} (h : Sto base q k t l sz p d vl vw w) (ba : Option Addr) (b : List UInt8) (ln cap : Nat) (hB : ByteMem w.heap.size w ba b) (hno : ∀ g o, b ≠ [] → ba = some ⟨g, o, none⟩ → g < w.heap.size ∧ ¬ foot p vl vw g) (hll : b.length = ln) (hc : ln ≤ cap) (hr : ln ≤ (sz - 2) / 2 * 64) (ht : t.toNat < 18446744073709551615) :
    Calls Try.prog 22 #[.pointer (some ⟨q, 0, none⟩), .slice ba ln cap] w fun e w' => e = .returned (.int .i64 0) ∧ StoTo base q (1 - k) (t + 1#64) b sz p (saveD d b) vl vw w w' := by
  refine (save_any base q p d vl vw ba b ln cap w h.is h.ok h.low (by rw [h.size]; exact h.four) (by rw [h.size]; exact h.most) hB hno hll hc (by rw [h.inv.1]; show 0 + 5000 ≤ _; omega) (fun hf => by have := (h.full ln ht).1 hf; omega)).mono ?_
  rintro e w' ⟨rfl, vl', vw', k1, k2, k3⟩
  obtain ⟨i1, i2, _⟩ := inv_save (b := b) h.inv (by rw [h.size, hll]; exact hr) ht
  exact ⟨rfl, vl', vw', ⟨k1, i1, i2.trans h.size, h.four, h.most, Nat.le_trans h.low k2.below.size⟩, k2, k3⟩
theorem torn_sto {base q k : Nat} {t : V} {l : List UInt8} {sz p : Nat} {d : Dv} {vl vw : Value} {w : World} (h : Sto base q k t l sz p d vl vw w) (ba : Option Addr) (b : List UInt8) (ln cap : Nat) (wri : Int) (ao : Option Addr) (sv : List Bool) (cv : Nat) (hB : ByteMem w.heap.size w ba b) (hno : ∀ g o, b ≠ [] → ba = some ⟨g, o, none⟩ → g < w.heap.size ∧ ¬ foot p vl vw g) (hll : b.length = ln) (hc : ln ≤ cap) (hr : ln ≤ (sz - 2) / 2 * 64) (ht : t.toNat < 18446744073709551615) (hwn : 0 ≤ wri) (hm : BoolMem w.heap.size w ao sv) (hmo : ∀ (j : Nat) (v : Bool) (b off : Nat), sv[j]? = some v → ao = some ⟨b, off, none⟩ → ¬ foot p vl vw b) :
    Calls Try.prog 24 #[.pointer (some ⟨q, 0, none⟩), .slice ba ln cap, .int .i64 wri, .slice ao sv.length cv] w fun e w' => e = .returned (.int .i64 0) ∧ (StoTo base q k t l sz p (tornD d b wri sv) vl vw w w' ∨ (svOf sv 0 = true ∧ StoTo base q (1 - k) (t + 1#64) b sz p (tornD d b wri sv) vl vw w w')) := by
  refine (torn_any base q p d vl vw ba ao wri sv cv b ln cap w h.is h.ok h.low (by rw [h.size]; exact h.four) (by rw [h.size]; exact h.most) hB hno hll hc (by rw [h.inv.1]; show 0 + 5000 ≤ _; omega) (fun hf => by have := (h.full ln ht).1 hf; omega) (by omega) hm hmo).mono ?_
  rintro e w' ⟨rfl, vl', vw', k1, k2, k3⟩
  obtain ⟨i2, i1⟩ := inv_torn (b := b) h.inv wri sv (by rw [h.size, hll]; exact hr) hwn ht
  refine ⟨rfl, ?_⟩
  rcases i1 with i1 | ⟨i0, i1⟩
  · exact .inl ⟨vl', vw', ⟨k1, i1, i2.trans h.size, h.four, h.most, Nat.le_trans h.low k2.below.size⟩, k2, k3⟩
  · exact .inr ⟨i0, vl', vw', ⟨k1, i1, i2.trans h.size, h.four, h.most, Nat.le_trans h.low k2.below.size⟩, k2, k3⟩
theorem load_sto {base q k : Nat} {t : V} {l : List UInt8} {sz p : Nat} {d : Dv} {vl vw : Value} {w : World} (h : Sto base q k t l sz p d vl vw w) :
    Calls Try.prog 20 #[.pointer (some ⟨q, 0, none⟩)] w fun e w' => ∃ ga gc, e = .returned (.slice ga l.length gc) ∧ w'.ownsRow w.heap.size 5 1 (.slice ga l.length gc) l.length (Lib.byteCells l) ∧ Below w.heap.size w w' := by
  have := load_any base q p d vl vw w h.is h.ok (by rw [h.size]; exact h.four) (by rw [h.size]; exact h.most)
  rw [h.inv.the] at this
  exact this
theorem turn_sto {base q k : Nat} {t : V} {l : List UInt8} {sz p : Nat} {d : Dv} {vl vw : Value} {w : World} (h : Sto base q k t l sz p d vl vw w) :
    Calls Try.prog 21 #[.pointer (some ⟨q, 0, none⟩)] w fun e w' => e = .returned (.int .u64 t.toNat) ∧ Below w.heap.size w w' := by
  have := turn_any base q p d vl vw w h.is h.ok (by rw [h.size]; exact h.four) (by rw [h.size]; exact h.most)
  rw [h.inv.the] at this
  exact this
theorem room_sto {base q k : Nat} {t : V} {l : List UInt8} {sz p : Nat} {d : Dv} {vl vw : Value} {w : World} (h : Sto base q k t l sz p d vl vw w) :
    Calls Try.prog 23 #[.pointer (some ⟨q, 0, none⟩)] w fun e w' => e = .returned (.int .i64 ((sz - 2) / 2 * 64 : Nat)) ∧ Below w.heap.size w w' := by
  have := Room_any base q p d vl vw w h.is (by rw [h.size]; exact h.four) (by rw [h.size]; exact h.most)
  rw [h.size] at this
  exact this
/-- A store on a device of its own. -/
theorem open_sto {base p : Nat} {d : Dv} {vl vw : Value} {w : World} {k : Nat} {t : V} {l : List UInt8} {sz : Nat} (h : IsD base p d vl vw w) (hi : Inv d k t l) (hb : base ≤ w.heap.size) (hs : d.las.length = sz) (h4 : 4 ≤ sz) (hm : sz ≤ 4096) :
    Calls Try.prog 26 #[.pointer (some ⟨p, 0, none⟩)] w fun e w' => ∃ q' p' vl' vw', e = .returned (.pointer (some ⟨q', 0, none⟩)) ∧ Sto base q' k t l sz p' d vl' vw' w' ∧ w.heap.size ≤ q' ∧ Below w.heap.size w w' ∧ ∀ j, foot p' vl' vw' j → w.heap.size ≤ j := by
  refine (open_any base p d vl vw w h hi.2.1 hb (by rw [hs]; exact h4)).mono ?_
  rintro e w' ⟨q', p', vl', vw', rfl, k1, k2, k3, k4⟩
  exact ⟨q', p', vl', vw', rfl, ⟨k1, hi, hs, h4, hm, Nat.le_trans hb k3.size⟩, k2, k3, k4⟩
theorem conv_own {w : World} {base : Nat} {v : Value} {l : List UInt8} (h : w.ownsRow base 5 1 v l.length (Lib.byteCells l)) : (convert 30 9 v).run Try.prog w = .ok (.string ⟨l.toArray⟩) w := by
  obtain ⟨h1, ⟨rfl, h2⟩ | ⟨g, cap, cur, rfl, x1, x2, x3, x4, x5, x6⟩⟩ := h
  · have hl : l = [] := List.eq_nil_of_length_eq_zero h2
    subst hl
    exact run_convert_bytes_nil (P := Try.prog) w 30 5 Try.underlying30 Try.underlying5 0 0 9 Try.underlying9
  · refine run_convert_bytes_back (P := Try.prog) w _ 9 5 ⟨g, 0, none⟩ cap l Try.underlying30 Try.underlying5 Try.underlying9 (fun j hj => ?_)
    have hx : (Lib.byteCells l)[j]? = some (.int .u8 (l[j].toNat : Int)) := by simp [Lib.byteCells, hj]
    rw [← x6, List.getElem?_take_of_lt (by omega)] at hx
    rw [Addr.add_mid]
    simp [World.cell?, x2]
    simpa using hx
/-- Bytes of a constant, in a block of their own. -/
theorem const_bytes (w : World) (l : List UInt8) (fr : Nat × Nat) : ∃ W, w.alloc (.cells (Lib.byteCells l).toArray 5 fr) = W ∧ ByteMem W.heap.size W (some ⟨w.heap.size, 0, none⟩) l ∧ Below w.heap.size w W ∧ W.heap.size = w.heap.size + 1 := by
  refine ⟨_, rfl, fun j c hj => ⟨w.heap.size, 0, rfl, by simp, ?_⟩, (Below.refl _ w).alloc (Nat.le_refl _) _, by simp⟩
  have hx : (Lib.byteCells l)[j]? = some (.int .u8 c.toNat) := by rw [Lib.byteCells, List.getElem?_map, hj]; rfl
  have hn : (w.alloc (.cells (Lib.byteCells l).toArray 5 fr)).heap[w.heap.size]? = some (.cells (Lib.byteCells l).toArray 5 fr) := World.alloc_heap_new w _
  unfold World.cell?
  simp only [hn, Nat.zero_add]
  simpa using hx
theorem live_sum : crcL [49, 50, 51, 52, 53, 54, 55, 56, 57] = 3421780262#32 := by decide +kernel
theorem sto_new {w : World} {base p : Nat} {vl vw : Value} {n : Nat} (h4 : 4 ≤ n) (hm : n ≤ 4096) (h : IsD base p (dvNew n) vl vw w) (hb : base ≤ w.heap.size) :
    Calls Try.prog 26 #[.pointer (some ⟨p, 0, none⟩)] w fun e w' => ∃ q' p' vl' vw', e = .returned (.pointer (some ⟨q', 0, none⟩)) ∧ Sto base q' 1 0#64 [] n p' (dvNew n) vl' vw' w' ∧ w.heap.size ≤ q' ∧ Below w.heap.size w w' ∧ ∀ j, foot p' vl' vw' j → w.heap.size ≤ j :=
  open_sto h (inv_new h4 hm) hb List.length_replicate h4 hm

set_option maxRecDepth 100000 in
set_option maxHeartbeats 4000000 in
theorem live_any (w : World) : Calls Try.prog 15 #[] w fun e w' => e = .returned (.bool true) ∧ Below w.heap.size w w' := by
  have H0 := hide (new_any w.heap.size 8 w (Nat.le_refl _) (by omega) (by omega))
  have kc := fun (w : World) (C : Array Value) (n c : Nat) => Lib.run_convert_bytes_const (P := Try.prog) w 30 5 C n c Try.underlying30 Try.underlying5
  go_enter Try.func15, Try.ntmps15
  go_wp2_with (first
    | (go_at_call 29; refine H0.out.mono ?_; rintro e w1 ⟨p0, vl0, rfl, d1, hp1, b1⟩; have s1 := b1.size; have H1 := hide (And.intro d1 b1); clear d1 b1)
    | (go_at_call 26; refine (sto_new (by omega) (by omega) H1.out.1 (by omega)).mono ?_; rintro e w2 ⟨q, p, vl, vw, rfl, d2, hq, b2, f2⟩; have s2 := b2.size; have H2 := hide (And.intro d2 (And.intro (H1.out.2.trans (b2.mono s1)) f2)); clear d2 b2 f2; refine stopHere ?_))
  unfold Hid
  obtain ⟨W3, hW3, m3, b3, z3⟩ := const_bytes w2 [97, 98, 99] (3, 4)
  have hd3 := H2.out.1.below b3
  have HS := hide (save_sto hd3 (some ⟨w2.heap.size, 0, none⟩) [97, 98, 99] 3 3 m3 (fun b o _ e => by
    cases e
    exact ⟨by omega, fun hf => by have := (H2.out.1.lt hf).2; omega⟩) rfl (by omega) (by omega) (by decide))
  have HB := hide (H2.out.2.1.trans (b3.mono (by omega)))
  have HW := hide hW3
  clear hd3 m3 b3 hW3
  go_wp2_with (first
    | (go_at_call 22; rw [show w2.alloc (.cells #[.int .u8 97, .int .u8 98, .int .u8 99] 5 (3, 4)) = W3 from HW.out]; refine HS.out.mono ?_; rintro e w4 ⟨rfl, vl4, vw4, d4, f4, g4⟩; have s4 := f4.below.size; have H4 := hide (And.intro d4 (HB.out.trans f4.below)); clear d4 f4 g4; refine stopHere ?_))
  unfold Hid
  obtain ⟨W5, hW5, m5, b5, z5⟩ := const_bytes w4 [120, 121, 122] (3, 4)
  have hd5 := H4.out.1.below b5
  have hT := torn_sto hd5 (some ⟨w4.heap.size, 0, none⟩) [120, 121, 122] 3 3 2 none [] 0 m5 (fun b o _ e => by
    cases e
    exact ⟨by omega, fun hf => by have := (H4.out.1.lt hf).2; omega⟩) rfl (by omega) (by omega) (by decide) (by omega) ⟨by simp, fun j v hj => by cases hj⟩ (fun j v b off hj => by cases hj)
  rw [show ([] : List Bool).length = 0 from rfl] at hT
  have HT := hide hT
  have HB5 := hide (H4.out.2.trans (b5.mono (by omega)))
  have HW5 := hide hW5
  clear hd5 m5 b5 hW5 hT
  go_wp2_with (first
    | (go_at_call 24; rw [show w4.alloc (.cells #[.int .u8 120, .int .u8 121, .int .u8 122] 5 (3, 4)) = W5 from HW5.out]; refine HT.out.mono ?_; rintro e w6 ⟨rfl, h6⟩; refine stopHere ?_))
  unfold Hid
  obtain ⟨vl6, vw6, d6, f6, _⟩ : StoTo w.heap.size q (1 - 1) (0#64 + 1#64) [97, 98, 99] 8 p (tornD (saveD (dvNew 8) [97, 98, 99]) [120, 121, 122] 2 []) vl4 vw4 W5 w6 := by
    rcases h6 with h | ⟨h, _⟩
    · exact h
    · cases h
  have s6 := f6.below.size
  have H6 := hide (And.intro d6 (HB5.out.trans f6.below))
  have ht1 : ((0#64 + 1#64 : V)).toNat = 1 := by decide
  have hl1 := load_sto d6
  rw [show ([97, 98, 99] : List UInt8).length = 3 from rfl] at hl1
  have HL := hide hl1
  clear d6 f6 h6 hl1
  go_wp2_with (first
    | (go_at_call 20; refine HL.out.mono ?_; rintro e w7 ⟨ga, gc, rfl, o7, b7⟩; have s7 := b7.size; have cv := conv_own (l := [97, 98, 99]) o7; have H7 := hide (And.intro (H6.out.1.below b7) (H6.out.2.trans (b7.mono (by omega)))); clear o7 b7)
    | (go_at_call 21; refine (turn_sto H7.out.1).mono ?_; rintro e w8 ⟨rfl, b8⟩; rw [ht1]; have s8 := b8.size; have H8 := hide (And.intro (H7.out.1.below b8) (H7.out.2.trans (b8.mono (by omega)))); clear b8)
    | (go_at_call 23; refine (room_sto H8.out.1).mono ?_; rintro e w9 ⟨rfl, b9⟩; have s9 := b9.size; have H9 := hide (H8.out.2.trans (b9.mono (by omega))); clear b9; refine stopHere ?_))
  unfold Hid
  obtain ⟨W10, hW10, m10, b10, z10⟩ := const_bytes w9 [49, 50, 51, 52, 53, 54, 55, 56, 57] (9, 10)
  have hs := sum_any (some ⟨w9.heap.size, 0, none⟩) 9 [49, 50, 51, 52, 53, 54, 55, 56, 57] W10 (by decide) m10
  have hcr := live_sum
  unfold crcL at hcr
  rw [hcr, show ((3421780262#32 : U).toNat : Int) = 3421780262 from rfl, show ([49, 50, 51, 52, 53, 54, 55, 56, 57] : List UInt8).length = 9 from rfl] at hs
  have HS10 := hide hs
  have H10 := hide (H9.out.trans (b10.mono (by omega)))
  have HW10 := hide hW10
  clear hs hcr m10 b10 hW10
  go_wp2_with (first
    | (go_at_call 18; rw [show w9.alloc (.cells #[.int .u8 49, .int .u8 50, .int .u8 51, .int .u8 52, .int .u8 53, .int .u8 54, .int .u8 55, .int .u8 56, .int .u8 57] 5 (9, 10)) = W10 from HW10.out]; refine HS10.out.mono ?_; rintro e w11 ⟨rfl, hw11⟩; rw [hw11]; clear hw11))
  go_ret
  exact ⟨rfl, H10.out⟩
end Go.Proofs.Ytfknjmfkkaoggaa
namespace Go.Proofs.Ytfknjmfkkaoggaa
open Go.RowKit Go.Shelf

set_option maxRecDepth 100000 in
set_option maxHeartbeats 4000000 in
theorem ready_nil (ba : Option Addr) (ln cap : Nat) (w : World) : Calls Try.prog 45 #[.pointer none, .slice ba ln cap] w fun e w' => e = .returned (.tuple #[.agg #[.int .i64 0, .int .u64 0, .slice none 0 0], .int .i64 1]) ∧ Below w.heap.size w w' := by
  obtain ⟨W1, hW1, g0, b1, z1⟩ : ∃ W, w.alloc (.cells #[.int .i64 0, .int .u64 0, .slice none 0 0] 77) = W ∧ W.heap[w.heap.size]? = some (.cells #[.int .i64 0, .int .u64 0, .slice none 0 0] 77) ∧ Below w.heap.size w W ∧ W.heap.size = w.heap.size + 1 := ⟨_, rfl, World.alloc_heap_new _ _, (Below.refl _ _).alloc (Nat.le_refl _) _, by simp⟩
  obtain ⟨y0, y1, y2, y3, y4, y5⟩ := cells3h g0
  have HW := hide hW1
  have HH := hide (And.intro g0 b1)
  clear hW1 g0 b1
  go_enter Try.func45, Try.ntmps45
  go_wp2_with (first
    | (refine l_alloc 77 infoHeld rfl rfl ?_; rw [HW.out]))
  exact bodyPost_ret (results_held rfl rfl rfl (set3 HH.out.1 _ _ _)) rfl ⟨rfl, below3 HH.out.2 (Nat.le_refl _) _ _ _⟩
set_option maxRecDepth 100000 in
set_option maxHeartbeats 4000000 in
theorem save_nil (ba : Option Addr) (ln cap : Nat) (w : World) : Calls Try.prog 22 #[.pointer none, .slice ba ln cap] w fun e w' => e = .returned (.int .i64 1) ∧ Below w.heap.size w w' := by
  have HR := hide (ready_nil ba ln cap w)
  go_enter Try.func22, Try.ntmps22
  go_wp2_with (first
    | (go_at_call 45; refine HR.out.mono ?_; rintro e w3 ⟨rfl, b3⟩; refine stopHere ?_))
  unfold Hid
  have HS4 := hide (run_store_new (P := Try.prog) infoHeld w3 (cs := #[.int .i64 0, .int .u64 0, .slice none 0 0]) (c := #[.int .i64 0, .int .u64 0, .slice none 0 0]) rfl rfl (by simp [Value.oneCell']))
  have HB := hide (show Below w.heap.size w (w3.alloc (.cells #[.int .i64 0, .int .u64 0, .slice none 0 0] 77)) from b3.alloc b3.size _)
  clear b3
  go_wp2_with (first
    | (refine l_store 77 HS4.out rfl rfl rfl rfl ?_)
    | (refine l_alloc 77 infoHeld rfl rfl ?_))
  go_ret
  exact ⟨rfl, HB.out⟩
set_option maxRecDepth 100000 in
set_option maxHeartbeats 4000000 in
theorem torn_nil (ba ao : Option Addr) (ln cap : Nat) (wri : Int) (n cv : Nat) (w : World) : Calls Try.prog 24 #[.pointer none, .slice ba ln cap, .int .i64 wri, .slice ao n cv] w fun e w' => e = .returned (.int .i64 1) ∧ Below w.heap.size w w' := by
  have HR := hide (ready_nil ba ln cap w)
  go_enter Try.func24, Try.ntmps24
  go_wp2_with (first
    | (go_at_call 45; refine HR.out.mono ?_; rintro e w3 ⟨rfl, b3⟩; refine stopHere ?_))
  unfold Hid
  have HS4 := hide (run_store_new (P := Try.prog) infoHeld w3 (cs := #[.int .i64 0, .int .u64 0, .slice none 0 0]) (c := #[.int .i64 0, .int .u64 0, .slice none 0 0]) rfl rfl (by simp [Value.oneCell']))
  have HB := hide (show Below w.heap.size w (w3.alloc (.cells #[.int .i64 0, .int .u64 0, .slice none 0 0] 77)) from b3.alloc b3.size _)
  clear b3
  go_wp2_with (first
    | (refine l_store 77 HS4.out rfl rfl rfl rfl ?_)
    | (refine l_alloc 77 infoHeld rfl rfl ?_))
  go_ret
  exact ⟨rfl, HB.out⟩
/-- At most 700 bytes. -/
theorem few_any {n₀ : Nat} (ba : Option Addr) (l : List UInt8) (cap : Nat) (w : World) (hB : ByteMem n₀ w ba l) (hc : l.length ≤ cap) : Calls Try.prog 17 #[.slice ba l.length cap] w fun e w' => e = .returned (.slice ba (l.take 700).length cap) ∧ w' = w := by
  obtain ⟨m, hml⟩ : ∃ m, l.length = m := ⟨_, rfl⟩
  by_cases h : 700 < m
  · have h2 : (l.take 700).length = 700 := by rw [List.length_take]; omega
    rw [h2]
    obtain ⟨x, hx⟩ : ∃ x, l[0]? = some x := ⟨l[0]'(by omega), by simp⟩
    obtain ⟨b, off, rfl, _⟩ := hB 0 x hx
    rw [hml] at hc ⊢
    have h1 : (700 : Int) < m := by omega
    have hci : (700 : Int) ≤ cap := by omega
    clear h2 hx hB
    go_enter Try.func17, Try.ntmps17
    go_wp2_with fail
    go_ret
    exact ⟨rfl, rfl⟩
  · rw [List.take_of_length_le (by omega)]
    rw [hml]
    have h1 : ¬ (700 : Int) < m := by omega
    clear hB
    go_enter Try.func17, Try.ntmps17
    go_wp2_with fail
    go_ret
    exact ⟨rfl, rfl⟩
theorem ByteMem.take {n₀ : Nat} {w : World} {ba : Option Addr} {l : List UInt8} (h : ByteMem n₀ w ba l) (k : Nat) : ByteMem n₀ w ba (l.take k) := fun j c hj => h j c (by
  rw [List.getElem?_take] at hj
  split at hj
  · exact hj
  · cases hj)
end Go.Proofs.Ytfknjmfkkaoggaa
namespace Go.Proofs.Ytfknjmfkkaoggaa
open Go.RowKit Go.Shelf

/-- Texts in memory. -/
def TxMem (n₀ : Nat) (w : World) (ao : Option Addr) (l : List ByteArray) : Prop := l.length ≤ 9223372036854775807 ∧ ∀ (j : Nat) (c : ByteArray), l[j]? = some c → ∃ b o, ao = some ⟨b, o, none⟩ ∧ b < n₀ ∧ w.cell? ⟨b, o + j, none⟩ = some (.string c)
theorem TxMem.below {n₀ : Nat} {w w' : World} {ao : Option Addr} {l : List ByteArray} (h : TxMem n₀ w ao l) (hb : Below n₀ w w') : TxMem n₀ w' ao l := by
  refine ⟨h.1, fun j c hj => ?_⟩
  obtain ⟨b, o, e1, e2, e3⟩ := h.2 j c hj
  exact ⟨b, o, e1, e2, (hb.cell (p := ⟨b, _, none⟩) e2).trans e3⟩
/-- []byte of a text. -/
theorem str_bytes (w : World) (s : ByteArray) : ∃ W cap, (convert 9 30 (.string s)).run Try.prog w = .ok (.slice (some ⟨w.heap.size, 0, none⟩) s.size cap) W ∧ ByteMem W.heap.size W (some ⟨w.heap.size, 0, none⟩) s.data.toList ∧ Below w.heap.size w W ∧ W.heap.size = w.heap.size + 1 ∧ s.size ≤ cap := by
  refine ⟨_, _, run_bytes_of_string w 9 30 5 s Try.underlying9 Try.underlying30 Try.underlying5, fun j c hj => ⟨w.heap.size, 0, rfl, by simp, ?_⟩, (((Below.refl _ w).drew).alloc (Nat.le_refl _) _), by simp, grownCap_ge _ _ _ _⟩
  have hn : (w.drew.alloc (.cells (bytesRow s (grownCap w s.size 0 5)) 5 ((bytesRow s (grownCap w s.size 0 5)).size, (bytesRow s (grownCap w s.size 0 5)).size + 1))).heap[w.heap.size]? = _ := World.alloc_heap_new w.drew _
  unfold World.cell?
  simp only [hn, Nat.zero_add]
  have hlt := (List.getElem?_eq_some_iff.1 hj).1
  rw [Array.length_toList] at hlt
  unfold bytesRow
  rw [Array.getElem?_append_left (by rw [Array.size_map]; exact hlt), Array.getElem?_map]
  rw [Array.getElem?_toList] at hj
  rw [hj]
  rfl
theorem g_val {ops : Array Oper} {rest : List Oper} {o : Oper} {a : Act} {w w' : World} {Q : Exit → Act → World → Prop} (hw : Region.wanted o (yielded ops a.tmps) = true) (v : Value) (hr : (execOp a.eval o).run Try.prog w = .ok (.value v) w') (h : wpList Try.prog ops Q rest (a.put o.dst v) w') : wpList Try.prog ops Q (o :: rest) a w :=
  BigFrame.wpList_want hw fun K hK => by
    unfold Oper.wp
    rw [hr]
    exact hK _ _ h
theorem sec_guard' {T : TypeId} (hT : Try.prog.eqGuardType Try.prog.depth T = false) (x y : Operand) (a b : Array Value) (w : World) : (eqGuard .neq T x y (.agg a) (.agg b)).run Try.prog w = .ok () w := by
  unfold eqGuard
  simp [hT, go_sem]
theorem ex_neq {o : Oper} {a : Act} {w : World} {T T' : TypeId} {x y : Operand} {u v : Array Value} {r : Value} (ho : o.op = .binOp .neq T x y T') (hx : a.eval x = .agg u) (hy : a.eval y = .agg v) (hT : Try.prog.eqGuardType Try.prog.depth T = false) (hr : (binOp .neq T (.agg u) (.agg v)).run Try.prog w = .ok r w) : (execOp a.eval o).run Try.prog w = .ok (.value r) w := by
  unfold execOp
  simp only [ho, hx, hy]
  simp only [Sem.run_bind, sec_guard' hT, hr, Result.andThen_ok, Sem.run_pure]
/-- A sector is laid in a block of its own. -/
theorem sec_new (w : World) (s : Sec) (hs : s.length = 64) : ∃ W, (Instr.storeAt 59 (.pointer (some ⟨w.heap.size, 0, none⟩)) (.agg (secA s))).run Try.prog (w.alloc (.cells (Lib.byteCells sec0).toArray 59)) = .ok () W ∧ W.heap[w.heap.size]? = some (.cells (secA s) 59) ∧ Below w.heap.size w W ∧ W.heap.size = w.heap.size + 1 :=
  ⟨_, run_store_new (P := Try.prog) infoSecD w (cs := secA s) (c := secA sec0) (by rw [secA_size, hs]) rfl (secA_one s), World.alloc_heap_new w _, (Below.refl _ w).alloc (Nat.le_refl _) _, by simp⟩
/-- Load, as a text. -/
theorem load_str {base q k : Nat} {t : V} {l : List UInt8} {sz p : Nat} {d : Dv} {vl vw : Value} {w : World} (h : Sto base q k t l sz p d vl vw w) (u : ByteArray) (hu : ⟨l.toArray⟩ = u) :
    Calls Try.prog 20 #[.pointer (some ⟨q, 0, none⟩)] w fun e w' => ∃ v, e = .returned v ∧ (convert 30 9 v).run Try.prog w' = .ok (.string u) w' ∧ Below w.heap.size w w' := by
  refine (load_sto h).mono ?_
  rintro e w' ⟨ga, gc, rfl, o, b⟩
  exact ⟨_, rfl, by rw [← hu]; exact conv_own o, b⟩
theorem size_toList (s : ByteArray) : s.data.toList.length = s.size := by rw [Array.length_toList]; rfl
theorem mk_toList (s : ByteArray) : (⟨s.data.toList.toArray⟩ : ByteArray) = s := by rw [Array.toArray_toList]
end Go.Proofs.Ytfknjmfkkaoggaa
namespace Go.Proofs.Ytfknjmfkkaoggaa
open Go.RowKit Go.Shelf

/-- The first k bytes are c. -/
def fillS (c : UInt8) (k : Nat) : Sec := List.replicate k c ++ List.replicate (64 - k) 0
theorem fillS_len (c : UInt8) (k : Nat) (h : k ≤ 64) : (fillS c k).length = 64 := by simp [fillS]; omega
theorem fillS_succ (c : UInt8) (k : Nat) (h : k < 64) : (secA (fillS c k)).setIfInBounds k (.int .u8 c.toNat) = secA (fillS c (k + 1)) := by
  rw [secA_set]
  congr 1
  have e : List.replicate (64 - k) (0 : UInt8) = 0 :: List.replicate (64 - (k + 1)) 0 := by rw [← List.replicate_succ]; congr 1; omega
  simp only [fillS, e]
  rw [List.set_append_right _ _ (by simp)]
  simp only [List.length_replicate, Nat.sub_self, List.set_cons_zero]
  rw [List.replicate_succ', List.append_assoc]
  rfl
def allC (c : UInt8) : Sec := fillS c 64
theorem allC_two (c : UInt8) : (allC c)[0]? = some c ∧ (allC c)[1]? = some c := by
  unfold allC fillS
  exact ⟨rfl, rfl⟩
/-- A sector of the other slot, or its root, that is spoilt changes nothing of what counts. -/
theorem spoilt_the {d : Dv} {l : List UInt8} (h : Inv d 1 2#64 l) (hz : d.las.length = 20) (at_ : Nat) (ha : at_ = 0 ∨ (2 ≤ at_ ∧ at_ ≤ 10)) (c : UInt8) : theL (dvWrite d at_ (allC c)) = ⟨1, 2#64, l⟩ := by
  obtain ⟨h1, h2, h3, h4, ⟨e, _⟩ | ⟨k1, k2, k3, k4⟩⟩ := h
  · exact absurd e (by decide)
  · have hr : readS (dvWrite d at_ (allC c)) 1 = readS d 1 := by rw [readS_write, if_neg (by omega)]
    have hdl : (dvWrite d at_ (allC c)).las.length = d.las.length := rfl
    obtain ⟨q1, q2⟩ := holds_same (d' := dvWrite d at_ (allC c)) hdl hr (fun i hi => by
      unfold secAt
      rw [hdl, readS_write, if_neg (by rw [hz]; omega)]) k1
    have ht := the_new (d := dvWrite d at_ (allC c)) (k := 1) (Nat.le_refl _) q1 (fun hh => by
      rw [hr, k2]
      rw [show 1 - 1 = 0 from rfl] at hh ⊢
      have hh0 := hh
      rw [readS_write]
      by_cases e : at_ = 0
      · exfalso
        have h0 := hh0.1
        have hr0 : readS (dvWrite d at_ (allC c)) 0 = allC c := by rw [readS_write, if_pos e]
        rw [hr0] at h0
        obtain ⟨r1, r2⟩ := root_head (rT (allC c)) (rN (allC c)) (rS (allC c))
        rw [h0] at r1 r2
        obtain ⟨a1, a2⟩ := allC_two c
        rw [a1] at r1
        rw [a2] at r2
        cases r1
        cases r2
      · rw [if_neg e]
        exact k4)
    rw [ht, q2, hr, k2, k3]
/-- Bytes in memory as a text. -/
theorem conv_mem {n₀ : Nat} {w : World} {ba : Option Addr} {l : List UInt8} (h : ByteMem n₀ w ba l) (cap : Nat) : (convert 30 9 (.slice ba l.length cap)).run Try.prog w = .ok (.string ⟨l.toArray⟩) w := by
  cases ba with
  | none =>
    cases l with
    | nil => exact run_convert_bytes_nil (P := Try.prog) w 30 5 Try.underlying30 Try.underlying5 0 cap 9 Try.underlying9
    | cons c r =>
      obtain ⟨b, o, e, _⟩ := h 0 c rfl
      cases e
  | some a =>
    refine run_convert_bytes_back (P := Try.prog) w _ 9 5 a cap l Try.underlying30 Try.underlying5 Try.underlying9 (fun j hj => ?_)
    obtain ⟨b, o, e, _, hc⟩ := h j l[j] (by simp)
    cases e
    rw [Addr.add_mid]
    exact hc
theorem ex_conv {o : Oper} {a : Act} {w : World} {x : Operand} {u v : Value} {t t' : TypeId} (ho : o.op = .convert t t' x) (hx : a.eval x = u) (hr : (convert t t' u).run Try.prog w = .ok v w) : (execOp a.eval o).run Try.prog w = .ok (.value v) w := by
  unfold execOp
  simp [ho, hx, hr]
theorem ex_eqs {o : Oper} {a : Act} {w : World} {x y : Operand} {s : ByteArray} (ho : o.op = .binOp .eql 9 x y 9) (hx : a.eval x = .string s) (hy : a.eval y = .string s) : (execOp a.eval o).run Try.prog w = .ok (.value (.bool true)) w := by
  unfold execOp
  simp only [ho, hx, hy]
  go_simp
theorem ex_equ {o : Oper} {a : Act} {w : World} {x y : Operand} {s : Int} (ho : o.op = .binOp .eql 36 x y 36) (hx : a.eval x = .int .u64 s) (hy : a.eval y = .int .u64 s) : (execOp a.eval o).run Try.prog w = .ok (.value (.bool true)) w := by
  unfold execOp
  simp only [ho, hx, hy]
  go_simp
end Go.Proofs.Ytfknjmfkkaoggaa
