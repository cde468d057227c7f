/- Read: what was written last to a sector. -/
import Derived.Test.YtfknjmfkkaoggaaDA
namespace Go.Proofs.Ytfknjmfkkaoggaa
open Go.RowKit Go.Shelf
attribute [local go_sem] Oper.semAt_some

/-- A sector behind the first k writes. -/
def readAt (d : Dv) (i k : Nat) : Sec := (d.wr.take k).foldl (fun s x => if x.1 = i then x.2 else s) (d.las.getD i sec0)
/-- What a sector holds now. -/
def readS (d : Dv) (i : Nat) : Sec := readAt d i d.wr.length
/-- A sector's cells. -/
def secA (s : Sec) : Array Value := (Lib.byteCells s).toArray
theorem readAt_succ (d : Dv) (i k : Nat) (x : Nat × Sec) (h : d.wr[k]? = some x) : readAt d i (k + 1) = if x.1 = i then x.2 else readAt d i k := by
  unfold readAt
  rw [List.take_add_one, h]
  simp
theorem readAt_len (d : Dv) (hd : DvOk d) (i : Nat) : ∀ k, (readAt d i k).length = 64
  | 0 => by
    simp only [readAt, List.take_zero, List.foldl_nil]
    cases h : d.las[i]? with
    | none => simp [List.getD_eq_getElem?_getD, h, sec0]
    | some s => simp [List.getD_eq_getElem?_getD, h, hd.las s (List.mem_of_getElem? h)]
  | k + 1 => by
    cases h : d.wr[k]? with
    | none =>
      have : readAt d i (k + 1) = readAt d i k := by
        unfold readAt
        rw [List.take_add_one, h]
        simp
      rw [this]
      exact readAt_len d hd i k
    | some x =>
      rw [readAt_succ d i k x h]
      split
      · exact (hd.wr x (List.mem_of_getElem? h)).2
      · exact readAt_len d hd i k
theorem secA_size (s : Sec) : (secA s).size = s.length := by simp [secA, byteCells_len]
theorem secA_one (s : Sec) : (secA s).all (·.oneCell') = true := all_oneCell_toArray (one_bytes s)

theorem results_sec {fn : Func} {tmps : Array Value} {w : World} {b : Nat} {s : Sec} {r : Value} {T : TypeId} {z : Value} {d : TypeDesc} {m : Nat} (h : fn.results = #[.cell 4 T, .tmp 5]) (hi : (Try.prog.info? T).map (fun i => (i.zero, i.size, i.bytes)) = some (some z, 64, m)) (hu : Try.prog.underlying T = some d) (hd : d.isRow = true) (hp : tmps[4]?.getD undef = .pointer (some ⟨b, 0, none⟩)) (hr : tmps[5]?.getD undef = r) (hs : s.length = 64) (hb : w.heap[b]? = some (.cells (secA s) T)) : (results fn tmps).run Try.prog w = .ok (.tuple #[.agg (secA s), r]) w := by
  have hl := run_load_row (P := Try.prog) (w := w) (cs := secA s) (g := b) (ty' := T) hi hu hd (by rw [secA_size, hs]) hb
  simp only [Instr.loadAt, Instr.sureAddr, Sem.run_bind, Sem.run_pure, Result.andThen_ok] at hl
  simp [results, h, hp, hr, hl, asAddr]

theorem lt_of_cell {w : World} {a : Addr} {v : Value} (h : w.cell? a = some v) : a.block < w.heap.size := World.block_lt_of_cell? w _ h
theorem two_new (w : World) (o o' : Obj) : ∃ W1, (w.alloc o).alloc o' = W1 ∧ W1.heap[w.heap.size]? = some o ∧ W1.heap[w.heap.size + 1]? = some o' ∧ W1.heap.size = w.heap.size + 2 ∧ Below w.heap.size w W1 := by
  refine ⟨_, rfl, (Below.heap_alloc _ _ _ (by simp)).trans (World.alloc_heap_new w _), ?_, by simp, ((Below.refl _ w).alloc (Nat.le_refl _) _).alloc (by simp) _⟩
  have h := World.alloc_heap_new (w.alloc o) o'
  rwa [World.size_alloc] at h
theorem cell1 {w : World} {b : Nat} {v : Value} {ty : TypeId} (h : w.heap[b]? = some (.cells #[v] ty)) : w.cell? ⟨b, 0, none⟩ = some v ∧ w.frozen? ⟨b, 0, none⟩ = false := by
  simp [World.cell?, World.frozen?, h]
/-- A sector is stored in a block of its own. -/
theorem run_store_sec {T : TypeId} {z : Value} {m b : Nat} {w : World} {s s' : Sec} (hi : (Try.prog.info? T).map (fun i => (i.zero, i.size, i.bytes)) = some (some z, 64, m)) (hb : w.heap[b]? = some (.cells (secA s) T)) (h1 : s.length = 64) (h2 : s'.length = 64) : ∃ w', (Instr.storeAt T (.pointer (some ⟨b, 0, none⟩)) (.agg (secA s'))).run Try.prog w = .ok () w' ∧ w'.heap[b]? = some (.cells (secA s') T) ∧ (∀ j, j ≠ b → w'.heap[j]? = w.heap[j]?) ∧ w'.heap.size = w.heap.size ∧ Below b w w' := by
  have h3 : (storeVar T ⟨b, 0, none⟩ (.agg (secA s'))).run Try.prog w = .ok () (w.setRow b (secA s')) := run_storeVar_row w b T T (secA s) (secA s') hb (by rw [info_size hi, secA_size, h2]) (by rw [secA_size, secA_size, h1, h2]) (secA_one s')
  refine ⟨w.setRow b (secA s'), ?_, ?_, ?_, ?_, ?_⟩
  · simp only [Instr.storeAt, Instr.sureAddr, Sem.run_bind, Sem.run_pure, Result.andThen_ok, h3]
  · exact setRow_heap w b _ _ _ _ hb
  · exact fun j hj => setRow_other w b j _ hj
  · simp
  · exact ⟨rfl, rfl, rfl, by simp, fun k hk => setRow_other w b k _ (by omega)⟩
/-- A write's cells. -/
def wrA (l : List (Nat × Sec)) (k : Nat) : Array Value :=
  match l[k]? with
  | none => #[]
  | some x => (wrC1 x).toArray
theorem wr_one (x : Nat × Sec) : (wrC1 x).toArray.all (·.oneCell') = true := all_oneCell_toArray (fun v hv => by
  simp only [wrC1, List.mem_cons] at hv
  rcases hv with rfl | hv
  · rfl
  · exact one_bytes _ v hv)
/-- A write in a block of its own: its number, and its sector. -/
theorem wr_cells {w : World} {b : Nat} {x : Nat × Sec} (h : w.heap[b]? = some (.cells (wrC1 x).toArray 98)) (h64 : x.2.length = 64) : w.cell? ⟨b, 0, none⟩ = some (.int .i64 x.1) ∧ (Instr.loadAt 59 (.pointer (some ⟨b, 1, none⟩))).run Try.prog w = .ok (.agg (secA x.2)) w := by
  refine ⟨by rw [cell_of_row w b 0 _ _ _ h]; simp [wrC1], ?_⟩
  refine run_loadAt_mid w b 1 _ _ _ (fun j v hv => ?_) undSecD rfl (by rw [byteCells_len, h64]; exact info_size infoSecD)
  rw [cell_of_row w b (1 + j) _ _ _ h]
  simp only [wrC1, List.getElem?_toArray]
  rw [Nat.add_comm, List.getElem?_cons_succ]
  exact hv
set_option maxRecDepth 100000 in
theorem read_bad (base p : Nat) (d : Dv) (vl vw : Value) (i : Int) (w : World) (h : IsD base p d vl vw w) (hi : wrongI d.las.length i = 2) :
    Calls Try.prog 36 #[.pointer (some ⟨p, 0, none⟩), .int .i64 i] w fun e w' => e = .returned (.tuple #[.agg (secA sec0), .int .i64 2]) ∧ Below w.heap.size w w' := by
  obtain ⟨W1, hW1, f0, f1, z1, hB1⟩ := two_new w (.cells #[.int .i64 i] 3) (.cells (secA sec0) 59)
  obtain ⟨c0, _⟩ := cell1 f0
  obtain ⟨W2, s1, s2, s3, s4, s5⟩ := run_store_sec (s' := sec0) infoSecD f1 rfl rfl
  have HC := hide (wrong_any base p d vl vw i W1 (h.below hB1))
  have HS := hide s1
  have HF := hide (hB1.trans (s5.mono (by omega)))
  clear h f0 f1 s1 s3 s4 s5 hB1
  go_enter Try.func36, Try.ntmps36
  go_wp2_with (first | (refine l_alloc _ infoSecD rfl rfl ?_; rw [show (Lib.byteCells sec0).toArray = secA sec0 from rfl, hW1]) | (go_at_call 52; refine HC.out.mono ?_; rintro e w' ⟨rfl, rfl⟩; rw [hi]) | (refine l_val rfl (.agg (secA sec0)) (by kernel_rfl) ?_) | (refine l_store _ HS.out rfl rfl rfl rfl ?_))
  exact bodyPost_ret (results_sec rfl infoSecD undSecD rfl rfl rfl rfl s2) rfl ⟨rfl, HF.out⟩
/-- A piece of code that ends in one way alone, walked as everywhere. -/
theorem region_cut {P : Program} {n : Nat} {c : Code} {Q : Exit → Act → World → Prop} {a : Act} {w : World} (A : Act) (W0 : World) (h : c.wp P (fun e a w' => e = .normal ∧ a = A ∧ w' = W0) a w) (hq : Q .normal A W0) : c.wpIn Fence.wide n P Q a w :=
  wpIn_mono (wpIn_wide.2 h) (by rintro e a w ⟨rfl, rfl, rfl⟩; exact hq)
theorem below_row {B g : Nat} {w0 w : World} (hb : Below B w0 w) (hg : B ≤ g) (cs : Array Value) : Below B w0 (w.setRow g cs) :=
  hb.trans ⟨rfl, rfl, rfl, by simp, fun k hk => setRow_other w g k _ (by omega)⟩
theorem kc_alloc {w : World} {a : Addr} {v : Value} {o : Obj} (h : w.cell? a = some v) : (w.alloc o).cell? a = some v := by
  rw [World.cell?_alloc_lt _ _ _ (World.block_lt_of_cell? w _ h)]
  exact h
theorem kc_set {w : World} {p i b o : Nat} {v : Value} {vs : List Value} (h : w.cell? ⟨p, i, none⟩ = some v) (hne : p ≠ b) : (w.setCells b o vs).cell? ⟨p, i, none⟩ = some v := by
  rw [World.cell?_setCells_out b vs o w _ (fun e => absurd e hne)]
  exact h
theorem kr_set {w : World} {p i b o : Nat} {cs vs : List Value} (h : w.rangeAt p i cs) (hne : p ≠ b) : (w.setCells b o vs).rangeAt p i cs := World.rangeAt_setCells_apart h b o vs (.inl hne)
theorem there_new (w : World) (c : Array Value) (T : TypeId) : (w.alloc (.cells c T)).there w.heap.size 0 c.size := fun j hj => by
  have h : (w.alloc (.cells c T)).heap[w.heap.size]? = some (.cells c T) := World.alloc_heap_new w _
  refine ⟨?_, by unfold World.frozen?; rw [h]; simp⟩
  rw [cell_of_row _ _ _ c T (0, 0) h]
  simp [hj]
theorem setCells_row {w : World} {b : Nat} {c cs : Array Value} {T : TypeId} {z : Value} {m k : Nat} (hi : (Try.prog.info? T).map (fun i => (i.zero, i.size, i.bytes)) = some (some z, m, k)) (hb : w.heap[b]? = some (.cells c T)) (h1 : c.size = m) (h2 : cs.size = m) (h3 : cs.all (·.oneCell') = true) : w.setCells b 0 cs.toList = w.setRow b cs := by
  have e1 := run_storeVar_row (P := Try.prog) w b T T c cs hb (by rw [info_size hi, h2]) (by omega) h3
  have e2 := run_storeVar_mid (P := Try.prog) w b 0 T cs (fun j hj => ⟨by rw [cell_of_row _ _ _ c T (0, 0) hb]; simp; omega, by simp [World.frozen?, hb]⟩) (by rw [info_size hi, h2]) h3
  rw [e1] at e2
  exact (Result.ok.inj e2).2.symm
theorem wp_alloc_long {op : Oper} {a : Act} {w : World} {K : Act → World → Prop} {Q : Exit → Act → World → Prop} (ty : TypeId) {cs : Array Value} {m b : Nat} (hi : (Try.prog.info? ty).map (fun i => (i.zero, i.size, i.bytes)) = some (some (.agg cs), m, b)) (ho : op.op = .alloc ty) (h : K (a.put op.dst (.pointer (some ⟨w.heap.size, 0, none⟩))) (w.alloc (.cells cs ty))) : op.wp Try.prog a w K Q := by
  unfold Oper.wp
  rw [ex_alloc ho (run_alloc_long hi w)]
  exact h

set_option maxRecDepth 100000 in
set_option maxHeartbeats 4000000 in
theorem read_any (base p : Nat) (d : Dv) (vl vw : Value) (i : Nat) (w : World) (h : IsD base p d vl vw w) (hd : DvOk d) (hi : i < d.las.length) :
    Calls Try.prog 36 #[.pointer (some ⟨p, 0, none⟩), .int .i64 i] w fun e w' => e = .returned (.tuple #[.agg (secA (readS d i)), .int .i64 0]) ∧ Below w.heap.size w w' := by
  have hwr : wrongI d.las.length i = 0 := by unfold wrongI; rw [if_neg (by omega)]
  obtain ⟨s, hs⟩ : ∃ s, d.las[i]? = some s := ⟨d.las[i], by simp [hi]⟩
  have h64 := hd.las s (List.mem_of_getElem? hs)
  obtain ⟨W1, hW1, f0, f1, z1, hB1⟩ := two_new w (.cells #[.int .i64 i] 3) (.cells (secA sec0) 59)
  obtain ⟨c0, _⟩ := cell1 f0
  have hD1 := h.below hB1
  obtain ⟨p0, p1, _⟩ := hD1.cells
  obtain ⟨g, gc, rfl, hgc, hra, _⟩ := hD1.sec hd hs
  have HC := hide (wrong_any base p d _ vw i W1 hD1)
  have hmo := hd.most
  have hu39 := undSecD
  have hi39 : (Try.prog.info? 59).map (·.size) = some (Lib.byteCells s).length := by rw [byteCells_len, h64]; exact info_size infoSecD
  have HH := hide (And.intro h (And.intro hD1 (And.intro hd (And.intro f0 (And.intro f1 (And.intro hB1 hs))))))
  clear h hD1 hd f0 f1 hB1 hs
  refine (callsIn_wide (n := 3)).1 ?_
  refine callsIn_of_wp_marks Try.func36 rfl trivial ?_ rfl
  simp only [Try.ntmps36, List.size_toArray, List.length_cons, List.length_nil, Nat.reduceAdd, Nat.reduceSub, Array.replicate_succ, Array.replicate_zero, List.push_toArray, List.append_toArray, List.nil_append, List.cons_append]
  gi_wp2_with (first | (refine i_alloc _ infoSecD rfl rfl ?_; rw [show (Lib.byteCells sec0).toArray = secA sec0 from rfl, hW1]) | (gi_at_call 52; refine (callsIn_wide.2 HC.out).mono ?_; rintro e w' ⟨rfl, rfl⟩; rw [hwr]) | (refine ⟨trivial, ?_⟩; gi_at_call 52; refine (callsIn_wide.2 HC.out).mono ?_; rintro e w' ⟨rfl, rfl⟩; rw [hwr]))
  apply region_cut
  case h =>
    have hth : (w'.alloc (.cells #[.int .u8 0, .int .u8 0, .int .u8 0, .int .u8 0, .int .u8 0, .int .u8 0, .int .u8 0, .int .u8 0, .int .u8 0, .int .u8 0, .int .u8 0, .int .u8 0, .int .u8 0, .int .u8 0, .int .u8 0, .int .u8 0, .int .u8 0, .int .u8 0, .int .u8 0, .int .u8 0, .int .u8 0, .int .u8 0, .int .u8 0, .int .u8 0, .int .u8 0, .int .u8 0, .int .u8 0, .int .u8 0, .int .u8 0, .int .u8 0, .int .u8 0, .int .u8 0, .int .u8 0, .int .u8 0, .int .u8 0, .int .u8 0, .int .u8 0, .int .u8 0, .int .u8 0, .int .u8 0, .int .u8 0, .int .u8 0, .int .u8 0, .int .u8 0, .int .u8 0, .int .u8 0, .int .u8 0, .int .u8 0, .int .u8 0, .int .u8 0, .int .u8 0, .int .u8 0, .int .u8 0, .int .u8 0, .int .u8 0, .int .u8 0, .int .u8 0, .int .u8 0, .int .u8 0, .int .u8 0, .int .u8 0, .int .u8 0, .int .u8 0, .int .u8 0] 59)).drew.there (w.heap.size + 2) 0 64 := by
      have h := there_new w' #[.int .u8 0, .int .u8 0, .int .u8 0, .int .u8 0, .int .u8 0, .int .u8 0, .int .u8 0, .int .u8 0, .int .u8 0, .int .u8 0, .int .u8 0, .int .u8 0, .int .u8 0, .int .u8 0, .int .u8 0, .int .u8 0, .int .u8 0, .int .u8 0, .int .u8 0, .int .u8 0, .int .u8 0, .int .u8 0, .int .u8 0, .int .u8 0, .int .u8 0, .int .u8 0, .int .u8 0, .int .u8 0, .int .u8 0, .int .u8 0, .int .u8 0, .int .u8 0, .int .u8 0, .int .u8 0, .int .u8 0, .int .u8 0, .int .u8 0, .int .u8 0, .int .u8 0, .int .u8 0, .int .u8 0, .int .u8 0, .int .u8 0, .int .u8 0, .int .u8 0, .int .u8 0, .int .u8 0, .int .u8 0, .int .u8 0, .int .u8 0, .int .u8 0, .int .u8 0, .int .u8 0, .int .u8 0, .int .u8 0, .int .u8 0, .int .u8 0, .int .u8 0, .int .u8 0, .int .u8 0, .int .u8 0, .int .u8 0, .int .u8 0, .int .u8 0] 59
      rw [z1] at h
      exact h
    have hbl : (Lib.byteCells s).length = 64 := (byteCells_len s).trans h64
    have hone := one_bytes s
    have hpl : p < w'.heap.size := lt_of_cell p0
    have hgl : g < w'.heap.size := by
      have := own_lt HH.out.2.1.las g rfl
      omega
    go_region_held3 (fun w' => w'.cell? ⟨p, 0, none⟩ = some (.slice (some ⟨g, 0, none⟩) d.las.length gc) ∧ w'.cell? ⟨w.heap.size, 0, none⟩ = some (.int .i64 i) ∧ w'.rangeAt g (i * 64) (Lib.byteCells s)) ((go_split_ands; refine ⟨?_, ?_, ?_⟩ <;> first | assumption | exact kc_alloc (by assumption) | exact World.rangeAt_alloc (by assumption) _ | exact kc_set (by assumption) (by omega) | exact kr_set (by assumption) (by omega)))
      (fail)
    all_goals exact ⟨rfl, rfl, rfl⟩
  case hq =>
    have hmf : ∀ (fn : Fn) (first cap : Array Value) (w : World), (Instr.makeFunc fn first cap).run Try.prog w = .ok (.func fn first cap) w := fun _ _ _ _ => rfl
    change Exit.then _ _ Exit.normal _ ((w'.alloc (.cells (secA sec0) 59)).drew.setCells (w.heap.size + 2) 0 (Lib.byteCells s))
    generalize hW3 : (w'.alloc (.cells (secA sec0) 59)).drew.setCells (w.heap.size + 2) 0 (Lib.byteCells s) = W3
    have f3 : W3.heap[w.heap.size + 2]? = some (.cells (secA s) 59) ∧ Below w'.heap.size w' W3 := by
      have hb : (w'.alloc (.cells (secA sec0) 59)).drew.heap[w.heap.size + 2]? = some (.cells (secA sec0) 59) := by
        have h := World.alloc_heap_new w' (.cells (secA sec0) 59)
        rw [z1] at h
        exact h
      have e := setCells_row (cs := secA s) infoSecD hb rfl (by rw [secA_size, h64]) (secA_one s)
      rw [show (secA s).toList = Lib.byteCells s from List.toList_toArray] at e
      rw [← hW3, e]
      exact ⟨setRow_heap _ _ _ _ _ _ hb, below_row ((Below.refl _ w').alloc (Nat.le_refl _) _).drew (by omega) _⟩
    clear hW3
    obtain ⟨f3, hB3⟩ := f3
    obtain ⟨h, hD1, hd, f0, f1, hB1, hs⟩ := HH.out
    have hB3w : Below w.heap.size w W3 := hB1.trans (hB3.mono (by omega))
    have g0 := (hB3.block w.heap.size (by omega)).trans f0
    have g1 := (hB3.block (w.heap.size + 1) (by omega)).trans f1
    have hD3 := hD1.below hB3
    have hwlt : ∀ j, vw.ownBlock = some j → j < w.heap.size := fun j hj => own_lt h.wr j hj
    have z3 : w.heap.size + 3 ≤ W3.heap.size := by have := (Array.getElem?_eq_some_iff.1 f3).1; omega
    have HH3 := hide (And.intro hd (And.intro hB3w (And.intro hD3 hwlt)))
    have HG := hide (And.intro g0 (And.intro g1 f3))
    clear h hD1 hd f0 f1 hB1 f3 hB3 hB3w hD3 hwlt g0 g1
    gi_wp2_with fail
    refine range_own (it := 56) (pre := #[.pointer (some ⟨p, 0, none⟩)]) (held := #[]) (by omega) rfl trivial rfl (enters_of Try.func56 (by kernel_rfl) rfl) (n₀ := w.heap.size) (by omega) (Below.refl _ _)
      (fun b hb => hb.elim) (loose_seq _ w.heap.size base p d _ vw W3 HH3.out.2.2.1 HH3.out.1 (fun _ => False) (fun _ => True) (fun j hj => hj.elim) (fun j o hj => hj.elim) (fun j hj => .inl (HH3.out.2.2.2 j hj))) (fun _ => rfl)
      (fun M k W => W.heap[w.heap.size + 2]? = some (.cells (secA (readAt d i k)) 59) ∧ W.heap[w.heap.size]? = some (.cells #[.int .i64 i] 3) ∧ W.heap[w.heap.size + 1]? = some (.cells (secA sec0) 59) ∧ ¬ M (w.heap.size + 2) ∧ ¬ M w.heap.size ∧ ¬ M (w.heap.size + 1) ∧ Below w.heap.size w W)
      (fun _ _ => False)
      ?hI ?hIx ?h0 (fun k => .cells (wrA d.wr k) 98)
      (fun k bs => { tmps := #[.pointer (some ⟨p, 0, none⟩), .int .i64 i, undef, .pointer (some ⟨w.heap.size, 0, none⟩), .pointer (some ⟨w.heap.size + 1, 0, none⟩), .int .i64 0, .int .i64 0, .pointer (some ⟨w.heap.size + 2, 0, none⟩), undef, .pointer (some ⟨bs, 0, none⟩), .pointer (some ⟨p, 0, none⟩), .int .i64 i, .int .i64 0, .int .i64 0, .bool false, undef, undef, .pointer (some ⟨p, 0, none⟩), .pointer (some ⟨p, 0, none⟩), .pointer (some ⟨p, 0, none⟩), .slice (some ⟨g, 0, none⟩) d.las.length gc, .int .i64 i, .pointer (some ⟨g, i * 64, none⟩), .agg (Lib.byteCells s).toArray, .pointer (some ⟨p, 0, none⟩), .func (.func 56) #[.pointer (some ⟨p, 0, none⟩)] #[], .int .i64 k, wrV d.wr k, undef, undef, undef, undef, undef, undef, undef], defers := [] }) ?assign ?body ?done ?stop
    case hI =>
      rintro M M' k A B ⟨i0, i1, i2, i3, i4, i5, i6⟩ hb hc hm
      exact ⟨hc _ _ i0 (.inl rfl) i3, hc _ _ i1 (.inl rfl) i4, hc _ _ i2 (.inl rfl) i5, fun h => i3 (hm _ (Array.getElem?_eq_some_iff.1 i0).1 h), fun h => i4 (hm _ (Array.getElem?_eq_some_iff.1 i1).1 h), fun h => i5 (hm _ (Array.getElem?_eq_some_iff.1 i2).1 h), i6.trans hb⟩
    case hIx => exact fun k A B h => h.elim
    case h0 => exact ⟨by have : readAt d i 0 = s := (by simp [readAt, List.getD_eq_getElem?_getD, hs]); rw [this]; exact HG.out.2.2, HG.out.1, HG.out.2.1, id, id, id, HH3.out.2.1⟩
    case assign =>
      intro l k W K hk hK
      obtain ⟨x, hx⟩ : ∃ x, d.wr[k]? = some x := ⟨d.wr[k], by simp [hk]⟩
      have hv : wrV d.wr k = .agg (wrC1 x).toArray := by simp [wrV, hx]
      have ho : wrA d.wr k = (wrC1 x).toArray := by simp [wrA, hx]
      have hx65 := wr_len1 HH3.out.1 x (List.mem_of_getElem? hx)
      have hx2 := (HH3.out.1.wr x (List.mem_of_getElem? hx)).2
      have hsc := run_storeCells_new (P := Try.prog) W 98 (wrC1 (0, sec0)).toArray (wrC1 x).toArray (by rw [info_size infoWrD]; simp [hx65]) (by simp [wrC1, byteCells_len, sec0, hx2]) (wr_one x)
      rw [List.toList_toArray] at hsc
      rw [hv, ho] at hK
      rw [hv]
      gi_wp2_with (first | (refine i_alloc _ infoWrD rfl rfl ?_))
      exact hK
    case body =>
      rintro l M k bs W ⟨i0, i1, i2, i3, i4, i5, i6⟩ hk hM hbs hle
      obtain ⟨x, hx⟩ : ∃ x, d.wr[k]? = some x := ⟨d.wr[k], by simp [hk]⟩
      have hv : wrV d.wr k = .agg (wrC1 x).toArray := by simp [wrV, hx]
      have ho : wrA d.wr k = (wrC1 x).toArray := by simp [wrA, hx]
      obtain ⟨hx1, hx2⟩ := HH3.out.1.wr x (List.mem_of_getElem? hx)
      rw [ho] at hbs
      have hsu := readAt_succ d i k x hx
      have hra := readAt_len d HH3.out.1 i k
      obtain ⟨b0, b1⟩ := wr_cells hbs hx2
      obtain ⟨k1, _⟩ := cell1 i1
      obtain ⟨W2, s1, s2, s3, s4, s5⟩ := run_store_sec (s' := x.2) infoSecD i0 hra hx2
      have HB := hide b1
      have HS := hide s1
      have HI := hide (And.intro i0 (And.intro i1 (And.intro i2 (And.intro i3 (And.intro i4 (And.intro i5 i6))))))
      clear b1 s1 i0 i1 i2 i3 i4 i5 i6 hbs ho
      rw [hv]
      by_cases he : x.1 = i
      · have he' : ((x.1 : Int) == (i : Int)) = true := by simp [he]
        rw [if_pos he] at hsu
        gi_wp2_with (first | (refine i_load _ HB.out rfl rfl rfl ?_) | (refine i_store _ HS.out rfl rfl rfl rfl ?_))
        have hMl : ∀ b, M b → w.heap.size ≤ b ∧ b < W.heap.size := fun b hb => by
          obtain ⟨h1, _, o, ho, _⟩ := hM b hb
          exact ⟨h1, (Array.getElem?_eq_some_iff.1 ho).1⟩
        obtain ⟨i0, i1, i2, i3, i4, i5, i6⟩ := HI.out
        have hb2 : Below w.heap.size W W2 := s5.mono (by omega)
        refine ⟨⟨by omega, fun j o hj ho hc => ?_⟩, fun j hj => s3 j (fun e => i3 (e ▸ hj)), hb2, ?_, (s3 _ (by omega)).trans i1, (s3 _ (by omega)).trans i2, i3, i4, i5, i6.trans hb2⟩
        · rw [s3 j (fun e => by subst e; rw [i0] at ho; cases ho; cases hc)]
          exact ho
        · rw [hsu]
          exact s2
      · have he' : ((x.1 : Int) == (i : Int)) = false := by rw [beq_eq_false_iff_ne]; omega
        rw [if_neg he] at hsu
        gi_wp2_with fail
        obtain ⟨i0, i1, i2, i3, i4, i5, i6⟩ := HI.out
        exact ⟨KeepsFrom.refl _ _, fun j hj => rfl, Below.refl _ _, by rw [hsu]; exact i0, i1, i2, i3, i4, i5, i6⟩
    case done =>
      rintro D M W hD ⟨i0, i1, i2, i3, i4, i5, i6⟩ hK
      have hra := readAt_len d HH3.out.1 i d.wr.length
      have hlo := run_load_row (P := Try.prog) (w := W) (cs := secA (readAt d i d.wr.length)) (g := w.heap.size + 2) (ty' := 59) infoSecD undSecD rfl (by rw [secA_size, hra]) i0
      obtain ⟨W2, s1, s2, s3, s4, s5⟩ := run_store_sec (s' := readAt d i d.wr.length) infoSecD i2 rfl hra
      have HL := hide hlo
      have HS := hide s1
      have hk2 := (s3 D (by omega)).trans hK
      have hb2 : Below w.heap.size w W2 := i6.trans (s5.mono (by omega))
      have HE := hide (And.intro s2 (And.intro hk2 hb2))
      clear hlo s1 i0 i1 i2 i3 i4 i5 i6 s3 s4 s5 hk2 hb2 s2 hK
      gi_wp2_with (first | (refine i_load _ HL.out rfl rfl rfl ?_) | (refine i_store _ HS.out rfl rfl rfl rfl ?_))
      obtain ⟨s2, hk2, hb2⟩ := HE.out
      refine ⟨by simp, .inl ⟨_, _, rfl, run_takeDeferred hk2, ?_⟩⟩
      exact ⟨_, results_sec rfl infoSecD undSecD rfl rfl rfl hra ((World.putObj_heap_other (show w.heap.size + 1 ≠ D by omega)).trans s2), rfl, hb2.trans (below_put _ _ (by omega))⟩
    case stop => exact fun D k W hD hk h => h.elim
end Go.Proofs.Ytfknjmfkkaoggaa
