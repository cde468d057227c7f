/- The document's store in memory; half, Room; put: a number's bytes. The document's put. The document's root. The document's root: its walk. -/
import Derived.Test.YtfknjmfkkaoggaaRD
import Derived.Test.YtfknjmfkkaoggaaSD
import Derived.ArgAppend
namespace Go.Proofs.Ytfknjmfkkaoggaa
open Go.RowKit Go.Shelf

/-- The document's store in memory. -/
structure IsT (base q p : Nat) (d : Dv) (vl vw : Value) (w : World) : Prop where
  here : w.heap[q]? = some (.cells #[.pointer (some ⟨p, 0, none⟩)] 104)
  low : base ≤ q
  dev : IsR base p d vl vw w
theorem IsT.below {base q p : Nat} {d : Dv} {vl vw : Value} {w w' : World} (h : IsT base q p d vl vw w) (hb : Below w.heap.size w w') : IsT base q p d vl vw w' := ⟨(hb.block _ (hp_lt h.here)).trans h.here, h.low, h.dev.below hb⟩
theorem IsT.cell {base q p : Nat} {d : Dv} {vl vw : Value} {w : World} (h : IsT base q p d vl vw w) : w.cell? ⟨q, 0, none⟩ = some (.pointer (some ⟨p, 0, none⟩)) := (cell1 h.here).1
set_option maxRecDepth 100000 in
theorem rhalf_any (base q p : Nat) (d : Dv) (vl vw : Value) (w : World) (h : IsT base q p d vl vw w) (h2 : 4 ≤ d.las.length) (h3 : d.las.length ≤ 4096) :
    Calls Try.prog 58 #[.pointer (some ⟨q, 0, none⟩)] w fun e w' => e = .returned (.int .i64 ((d.las.length - 2) / 2 : Nat)) ∧ w' = w := by
  have c1 := h.cell
  have HZ := hide (rsize_any base p d vl vw w h.dev)
  obtain ⟨n, hn⟩ : ∃ n, d.las.length = n := ⟨_, rfl⟩
  rw [hn] at HZ h2 h3 ⊢
  have e1 : IntKind.i64.wrap ((n : Int) - 2) = ((n - 2 : Nat) : Int) := by rw [IntKind.wrap_i64]; omega
  obtain ⟨m, hm⟩ : ∃ m, n - 2 = m := ⟨_, rfl⟩
  rw [hm] at e1 ⊢
  obtain ⟨r, hr⟩ : ∃ r, m / 2 = r := ⟨_, rfl⟩
  rw [hr]
  have e2 : Int.tdiv (m : Int) 2 = (r : Int) := by rw [Int.tdiv_eq_ediv_of_nonneg (by omega)]; omega
  have e3 : IntKind.i64.wrap ((m : Int) / 2) = (r : Int) := by rw [IntKind.wrap_i64]; omega
  have e4 : (m : Int) / 2 = (r : Int) := by omega
  have e5 : wrap64 (r : Int) = r := by unfold wrap64; omega
  clear hr hm
  clear h hn
  go_enter Try.func58, Try.ntmps58
  go_wp2_with (go_at_call 38; refine HZ.out.mono ?_; rintro e w3 ⟨rfl, rfl⟩)
  go_ret
  refine ⟨?_, rfl⟩
  show Ending.returned (.int .i64 (wrap64 (r : Int))) = _
  rw [e5]
set_option maxRecDepth 100000 in
theorem rRoom_any (base q p : Nat) (d : Dv) (vl vw : Value) (w : World) (h : IsT base q p d vl vw w) (h2 : 4 ≤ d.las.length) (h3 : d.las.length ≤ 4096) :
    Calls Try.prog 43 #[.pointer (some ⟨q, 0, none⟩)] w fun e w' => e = .returned (.int .i64 ((d.las.length - 2) / 2 * 64 : Nat)) ∧ w' = w := by
  have HZ := hide (rhalf_any base q p d vl vw w h h2 h3)
  obtain ⟨n, hn⟩ : ∃ n, (d.las.length - 2) / 2 = n := ⟨_, rfl⟩
  have hn2 : n ≤ 4096 := by omega
  rw [hn] at HZ ⊢
  obtain ⟨r, hr⟩ : ∃ r, n * 64 = r := ⟨_, rfl⟩
  rw [hr]
  have e1 : IntKind.i64.wrap ((n : Int) * 64) = (r : Int) := by rw [IntKind.wrap_i64]; omega
  clear hr
  clear h hn
  go_enter Try.func43, Try.ntmps43
  go_wp2_with (go_at_call 58; refine HZ.out.mono ?_; rintro e w3 ⟨rfl, rfl⟩)
  go_ret
  exact ⟨rfl, rfl⟩
/-- The last n bytes of a number, the greatest first. -/
def beL (x : V) : Nat → List UInt8
  | 0 => []
  | n + 1 => beByte x n :: beL x n
theorem beL_len (x : V) : ∀ n, (beL x n).length = n
  | 0 => rfl
  | n + 1 => by rw [beL, List.length_cons, beL_len x n]
/-- Those from a on. -/
def beT (x : V) (m : Nat) : Nat → List UInt8
  | 0 => []
  | j + 1 => beT x m j ++ [beByte x (m - 1 - j)]
theorem beT_len (x : V) (m : Nat) : ∀ j, (beT x m j).length = j
  | 0 => rfl
  | j + 1 => by rw [beT, List.length_append, beT_len x m j]; rfl
theorem beT_app (x : V) (m : Nat) : ∀ j, j ≤ m → beT x m j ++ beL x (m - j) = beL x m
  | 0, _ => rfl
  | j + 1, h => by
    rw [beT, List.append_assoc, ← beT_app x m j (by omega)]
    congr 1
    rw [show m - j = (m - (j + 1)) + 1 by omega, beL, show m - 1 - j = m - (j + 1) by omega]
    rfl
theorem beT_all (x : V) (m : Nat) : beT x m m = beL x m := by
  have := beT_app x m m (Nat.le_refl _)
  rw [Nat.sub_self] at this
  simpa [beL] using this
theorem bc_app (a b : List UInt8) : Lib.byteCells (a ++ b) = Lib.byteCells a ++ Lib.byteCells b := by simp [Lib.byteCells]
abbrev Row (w : World) (base : Nat) (v : Value) (l : List UInt8) : Prop := w.ownsRow base 5 1 v l.length (Lib.byteCells l)
/-- One byte behind. -/
theorem put_byte {base : Nat} {v : Value} {l : List UInt8} {w : World} (c : UInt8) (h : Row w base v l) (hb : base ≤ w.heap.size) (hl : l.length ≤ 10000000) : ∃ v' w', (Builtin.append_ #[30, 30] 30 #[v, .slice (some ⟨w.heap.size, 0, none⟩) 1 1]).run Try.prog (w.alloc (.cells #[.int .u8 c.toNat] 5)) = .ok v' w' ∧ Row w' base v' (l ++ [c]) ∧ w.grownBy w' v.ownBlock := by
  obtain ⟨ti, t1, t2, t3, t4⟩ := infos infoU8b
  have hB : Below w.heap.size w (w.alloc (.cells #[.int .u8 c.toNat] 5)) := (Below.refl _ w).alloc (Nat.le_refl _) _
  obtain ⟨v', w', hap, y1, y2, _, y4⟩ := run_append_own_at (P := Try.prog) (w.alloc (.cells #[.int .u8 c.toNat] 5)) base 30 30 5 ti _ 1 1 Try.underlying30 t1 t2 t3 t4 rfl (by omega) v l.length (Lib.byteCells l) (own_same h (fun g e => hB.block g (own_lt h g e))) ⟨w.heap.size, 0, none⟩ 1 1 [.int .u8 c.toNat] rfl (cell_one_new w _ _) (by simp [Value.oneCell']) (by unfold maxLen; omega) (by omega) (Nat.le_trans hb hB.size)
  refine ⟨v', w', hap, ?_, (World.grownBy_alloc w _ _).trans y2⟩
  show w'.ownsRow base 5 1 v' (l ++ [c]).length (Lib.byteCells (l ++ [c]))
  rw [bc_app, List.length_append]
  exact y1
end Go.Proofs.Ytfknjmfkkaoggaa
namespace Go.Proofs.Ytfknjmfkkaoggaa
open Go.RowKit Go.Shelf

theorem ex_append2 {o : Oper} {a : Act} {w w' : World} {s x : Operand} {t t' : TypeId} {u v r : Value} (ho : o.op = .call { callee := .builtin .append, args := #[s, x], argTypes := #[t, t'] }) (hs : a.eval s = u) (hx : a.eval x = v) (hr : (Builtin.append_ #[t, t'] o.type #[u, v]).run Try.prog w = .ok r w') : (execOp a.eval o).run Try.prog w = .ok (.value r) w' := by
  simp [execOp, ho, resolve, invoke, builtin, hs, hx, hr, Result.andThen]
theorem Below.of_grown {base : Nat} {v : Value} {l : List UInt8} {w0 w w' : World} (h : Row w base v l) (hB : Below base w0 w) (hg : w.grownBy w' v.ownBlock) (hb : base ≤ w.heap.size) : Below base w0 w' :=
  hB.grown hg hb (fun k e => own_base h k e)
set_option maxRecDepth 100000 in
set_option maxHeartbeats 4000000 in
theorem rput_any (x : V) (m : Nat) (hm : m ≤ 8) (w : World) : Calls Try.prog 79 #[.int .u64 x.toNat, .int .i64 m] w fun e w' => ∃ v, e = .returned v ∧ Row w' w.heap.size v (beL x m) ∧ Below w.heap.size w w' := by
  have e0 : IntKind.i64.wrap ((m : Int) - 1) = (m : Int) - 1 := by rw [IntKind.wrap_i64]; omega
  have hnil : Row w w.heap.size (.slice none 0 0) [] := ⟨rfl, .inl ⟨rfl, rfl⟩⟩
  go_enter Try.func79, Try.ntmps79
  go_wp2_with fail
  go_loopw [5, 6] (fun v i wr => ∃ j : Nat, j ≤ m ∧ i = .int .i64 ((m : Int) - 1 - j) ∧ Row wr w.heap.size v (beT x m j) ∧ Below w.heap.size w wr) (fun _ i _ => ((intOf i) + 1).toNat)
  case atStart => exact ⟨0, Nat.zero_le _, by simp, hnil, Below.refl _ _⟩
  case round =>
    obtain ⟨j, hj, rfl, hr, hb⟩ := hrel
    by_cases hlt : j < m
    · obtain ⟨i, hi⟩ : ∃ i : Nat, m - 1 - j = i := ⟨_, rfl⟩
      have hi1 : (m : Int) - 1 - j = i := by omega
      have hi2 : IntKind.i64.wrap ((i : Int) - 1) = (i : Int) - 1 := by rw [IntKind.wrap_i64]; omega
      have hi3 : ¬ (i : Int) < 0 := by omega
      have hi4 : (0 : Int) ≤ i := by omega
      obtain ⟨v', w', hap, hr', hg⟩ := put_byte (beByte x i) hr hb.size (by rw [beT_len]; omega)
      rw [← be_int] at hap
      have HA := hide hap
      have hb' := Below.of_grown hr hb hg hb.size
      have H := hide (And.intro hr' hb')
      clear hr hb hap hr' hg hb' hnil
      rw [hi1]
      go_wp2_with (first | (at_builtin; refine l_val rfl _ (ex_append2 (t := 30) (t' := 30) rfl rfl rfl HA.out) ?_))
      go_roundw
      case rel => exact ⟨j + 1, by omega, by simp <;> omega, by rw [beT, hi]; exact H.out.1, H.out.2⟩
      case measure => simp [intOf]
    · obtain rfl : j = m := by omega
      rw [beT_all] at hr
      have hx : ((j : Int) - 1 - j) = -1 := by omega
      rw [hx]
      have H := hide (And.intro hr hb)
      clear hr hb hnil hx
      go_wp2_with fail
      go_ret
      exact ⟨_, rfl, H.out.1, H.out.2⟩
end Go.Proofs.Ytfknjmfkkaoggaa
namespace Go.Proofs.Ytfknjmfkkaoggaa
open Go.RowKit Go.Shelf

/-- Where a row's bytes lie. -/
theorem row_at {w : World} {base : Nat} {v : Value} {l : List UInt8} (h : Row w base v l) (hl : l ≠ []) : ∃ g cap, v = .slice (some ⟨g, 0, none⟩) l.length cap ∧ l.length ≤ cap ∧ base ≤ g ∧ g < w.heap.size ∧ ∀ j u, (Lib.byteCells l)[j]? = some u → w.cell? (Addr.add ⟨g, 0, none⟩ j) = some u := by
  obtain ⟨h1, ⟨_, h2⟩ | ⟨g, cap, cur, rfl, x1, x2, x3, x4, x5, x6⟩⟩ := h
  · exact absurd (List.eq_nil_of_length_eq_zero h2) hl
  · refine ⟨g, cap, rfl, x3, x1, hp_lt x2, fun j u hu => ?_⟩
    have hlt := (List.getElem?_eq_some_iff.1 hu).1
    rw [← x6, List.getElem?_take_of_lt (by omega)] at hu
    rw [Addr.add_mid]
    simp only [World.cell?, x2]
    simpa using hu
/-- A row behind another one. -/
theorem app_row {w : World} {base base2 : Nat} {v u : Value} {l m : List UInt8} (h : Row w base v l) (hu : Row w base2 u m) (hm : m ≠ []) (hb : base ≤ w.heap.size) (hl : l.length + m.length ≤ 10000000) : ∃ v' w', (Builtin.append_ #[30, 30] 30 #[v, u]).run Try.prog w = .ok v' w' ∧ Row w' base v' (l ++ m) ∧ w.grownBy w' v.ownBlock := by
  obtain ⟨ti, t1, t2, t3, t4⟩ := infos infoU8b
  obtain ⟨g, cap, rfl, hcap, hg, _, hc⟩ := row_at hu hm
  obtain ⟨v', w', hap, y1, y2, _⟩ := run_append_own_at (P := Try.prog) w base 30 30 5 ti _ 1 1 Try.underlying30 t1 t2 t3 t4 rfl (by omega) v l.length (Lib.byteCells l) h ⟨g, 0, none⟩ m.length cap (Lib.byteCells m) (by rw [byteCells_len]; omega) hc (one_bytes m) (by unfold maxLen; omega) (by omega) hb
  refine ⟨v', w', hap, ?_, y2⟩
  show w'.ownsRow base 5 1 v' (l ++ m).length (Lib.byteCells (l ++ m))
  rw [bc_app, List.length_append]
  exact y1
/-- A row behind bytes that are full. -/
theorem app_full {w : World} {base2 : Nat} {u : Value} {b n : Nat} {l m : List UInt8} (hn : l.length = n) (hc : ∀ j c, l[j]? = some c → w.cell? ⟨b, j, none⟩ = some (.int .u8 c.toNat)) (hu : Row w base2 u m) (hm : m ≠ []) (hl : n + m.length ≤ 10000000) : ∃ v' w', (Builtin.append_ #[30, 30] 30 #[.slice (some ⟨b, 0, none⟩) n n, u]).run Try.prog w = .ok v' w' ∧ Row w' w.heap.size v' (l ++ m) ∧ w.grownBy w' none := by
  obtain ⟨ti, t1, t2, t3, t4⟩ := infos infoU8b
  obtain ⟨g, cap, rfl, hcap, hg, _, hcm⟩ := row_at hu hm
  have hml : 0 < m.length := by
    rcases Nat.eq_zero_or_pos m.length with e | e
    · exact absurd (List.eq_nil_of_length_eq_zero e) hm
    · exact e
  obtain ⟨v', w', hap, y1, y2⟩ := run_append_arg_grows (P := Try.prog) (w := w) 30 30 5 ti _ 1 1 Try.underlying30 t1 t2 t3 t4 rfl (by omega) ⟨b, 0, none⟩ n n (Lib.byteCells l) (by rw [byteCells_len]; omega) (fun j x hx => by
    rw [Lib.byteCells, List.getElem?_map] at hx
    cases hj : l[j]? with
    | none => rw [hj] at hx; cases hx
    | some c =>
      rw [hj] at hx
      cases hx
      rw [Addr.add_mid]
      exact (by simpa using hc j c hj)) ⟨g, 0, none⟩ m.length cap (Lib.byteCells m) (by rw [byteCells_len]; omega) hcm (by omega) (by unfold maxLen; omega) (by omega)
  refine ⟨v', w', hap, ?_, y2⟩
  show w'.ownsRow w.heap.size 5 1 v' (l ++ m).length (Lib.byteCells (l ++ m))
  rw [bc_app, List.length_append, hn]
  exact y1
theorem setBe_app (s : List UInt8) (o n : Nat) (x : V) (hl : o + n ≤ s.length) : setBe s o n x n = s.take o ++ beL x n ++ s.drop (o + n) := by
  apply List.ext_getElem?
  intro j
  have hbe : ∀ m i, i < m → (beL x m)[i]? = some (beByte x (m - 1 - i)) := by
    intro m
    induction m with
    | zero => intro i hi; omega
    | succ m ih =>
      intro i hi
      cases i with
      | zero => simp [beL]
      | succ i =>
        rw [beL, List.getElem?_cons_succ, ih i (by omega)]
        congr 2
        omega
  by_cases h1 : j < o
  · rw [setBe_other s o n x j (.inl h1) n (Nat.le_refl _), List.append_assoc, List.getElem?_append_left (by rw [List.length_take]; omega), List.getElem?_take_of_lt h1]
  · by_cases h2 : j < o + n
    · have h := setBe_at s o n x hl n (o + n - 1 - j) (Nat.le_refl _) (by omega)
      rw [show o + n - 1 - (o + n - 1 - j) = j by omega] at h
      rw [h, List.append_assoc, List.getElem?_append_right (by rw [List.length_take]; omega), List.length_take, List.getElem?_append_left (by rw [beL_len]; omega), hbe n _ (by omega)]
      congr 2
      omega
    · rw [setBe_other s o n x j (.inr (by omega)) n (Nat.le_refl _), List.getElem?_append_right (by rw [List.length_append, List.length_take, beL_len]; omega), List.length_append, List.length_take, beL_len, List.getElem?_drop]
      congr 1
      omega
theorem setBe_tail (A : List UInt8) (n r : Nat) (x : V) (o : Nat) (ho : A.length = o) : setBe (A ++ List.replicate (n + r) 0) o n x n = A ++ beL x n ++ List.replicate r 0 := by
  subst ho
  rw [setBe_app _ _ _ _ (by simp), List.take_left, List.drop_length_add_append, List.drop_replicate, Nat.add_sub_cancel_left]
/-- A root's bytes. -/
def rootL (t : V) (n s : U) : List UInt8 := [72, 71] ++ beL t 8 ++ beL (vOf n) 4 ++ beL (vOf s) 4
theorem rootL_len (t : V) (n s : U) : (rootL t n s).length = 18 := by simp [rootL, beL_len]
theorem root_bytes (t : V) (n s : U) : rootS t n s = rootL t n s ++ beL (vOf (crcL (rootL t n s))) 4 ++ List.replicate 42 0 := by
  have h1 : root1 t = [72, 71] ++ beL t 8 ++ List.replicate 54 0 := setBe_tail [72, 71] 8 54 t 2 rfl
  have h2 : root2 t n = [72, 71] ++ beL t 8 ++ beL (vOf n) 4 ++ List.replicate 50 0 := by
    unfold root2
    rw [h1]
    exact setBe_tail ([72, 71] ++ beL t 8) 4 50 (vOf n) 10 (by simp [beL_len])
  have h3 : root3 t n s = rootL t n s ++ List.replicate 46 0 := by
    unfold root3
    rw [h2]
    exact setBe_tail ([72, 71] ++ beL t 8 ++ beL (vOf n) 4) 4 46 (vOf s) 14 (by simp [beL_len])
  have h4 : (root3 t n s).take 18 = rootL t n s := by rw [h3]; exact List.take_left' (rootL_len t n s)
  unfold rootS
  rw [h4, h3]
  exact setBe_tail (rootL t n s) 4 42 _ 18 (rootL_len t n s)
end Go.Proofs.Ytfknjmfkkaoggaa
namespace Go.Proofs.Ytfknjmfkkaoggaa
open Go.RowKit Go.Shelf

theorem Row.lower {w : World} {base base' : Nat} {v : Value} {l : List UInt8} (h : Row w base v l) (hb : base' ≤ base) : Row w base' v l := by
  obtain ⟨h1, h2 | ⟨g, cap, cur, e, x1, x2⟩⟩ := h
  · exact ⟨h1, .inl h2⟩
  · exact ⟨h1, .inr ⟨g, cap, cur, e, Nat.le_trans hb x1, x2⟩⟩
theorem Row.below {w w' : World} {base : Nat} {v : Value} {l : List UInt8} (h : Row w base v l) (hb : Below w.heap.size w w') : Row w' base v l := own_same h (fun g hg => hb.block g (own_lt h g hg))
/-- What an append leaves as it was, if the row is new. -/
theorem grown_below {w0 w w' : World} {v : Value} {l : List UInt8} {base : Nat} (h : Row w base v l) (hb : w0.heap.size ≤ base) (hB : Below w0.heap.size w0 w) (hg : w.grownBy w' v.ownBlock) : Below w0.heap.size w0 w' := hB.grown hg hB.size (fun k e => Nat.le_trans hb (own_base h k e))
theorem len_v (n : Nat) (hn : n < 4294967296) : ((vOf (BitVec.ofNat 32 n)).toNat : Int) = n := by
  rw [vOf_nat, BitVec.toNat_ofNat]
  omega
theorem results_secR {fn : Func} {tmps : Array Value} {w : World} {b : Nat} {s : Sec} {k : Nat} (h : fn.results = #[.cell k 61]) (hp : tmps[k]?.getD undef = .pointer (some ⟨b, 0, none⟩)) (hs : s.length = 64) (hb : w.heap[b]? = some (.cells (secA s) 61)) : (results fn tmps).run Try.prog w = .ok (.agg (secA s)) w := by
  have hl := run_load_row (P := Try.prog) (w := w) (cs := secA s) (g := b) (ty' := 61) infoSecR undSecR rfl (by rw [secA_size, hs]) hb
  simp only [Instr.loadAt, Instr.sureAddr, Sem.run_bind, Sem.run_pure, Result.andThen_ok] at hl
  simp [results, h, hp, hl, asAddr]
/-- The first k of some bytes, and noughts. -/
def padS (l : List UInt8) (k : Nat) : Sec := l.take k ++ List.replicate (64 - k) 0
theorem padS_len {l : List UInt8} {k : Nat} (hk : k ≤ l.length) (h : k ≤ 64) : (padS l k).length = 64 := by
  unfold padS
  rw [List.length_append, List.length_take, List.length_replicate]
  omega
theorem padS_succ {l : List UInt8} {k : Nat} {c : UInt8} (hc : l[k]? = some c) (h : k < 64) : (padS l k).set k c = padS l (k + 1) := by
  have hlt := (List.getElem?_eq_some_iff.1 hc).1
  unfold padS
  rw [List.take_add_one, hc, show 64 - k = (64 - (k + 1)) + 1 by omega, List.replicate_succ, List.set_append_right _ _ (by rw [List.length_take]; omega), List.length_take, show k - min k l.length = 0 by omega]
  simp
set_option maxRecDepth 100000 in
set_option maxHeartbeats 4000000 in
theorem rroot_any (ba : Option Addr) (b : List UInt8) (ln cap : Nat) (t : V) (w : World) (hB : ByteMem w.heap.size w ba b) (hln : b.length = ln) (hlen : ln ≤ 1000000) :
    Calls Try.prog 72 #[.slice ba ln cap, .int .u64 t.toNat] w fun e w' => e = .returned (.agg (secA (rootS t (BitVec.ofNat 32 ln) (crcL b)))) ∧ Below w.heap.size w w' := by
  obtain ⟨W1, hW1, f1, b1, z1⟩ : ∃ W, w.alloc (.cells (secA sec0) 61) = W ∧ W.heap[w.heap.size]? = some (.cells (secA sec0) 61) ∧ Below w.heap.size w W ∧ W.heap.size = w.heap.size + 1 := ⟨_, rfl, World.alloc_heap_new _ _, (Below.refl _ _).alloc (Nat.le_refl _) _, by simp⟩
  obtain ⟨W2, hW2, m2, b2, z2⟩ := const_bytes W1 [72, 71] (2, 3)
  have kc := fun (w : World) (C : Array Value) (n c : Nat) => Lib.run_convert_bytes_const (P := Try.prog) w 30 5 C n c Try.underlying30 Try.underlying5
  have HP := hide (rput_any t 8 (Nat.le_refl _) W2)
  have H2 := hide (And.intro m2 (And.intro ((b2.block _ (by omega)).trans f1) (b1.trans (b2.mono b1.size))))
  have HW1 := hide hW1
  have HW2 := hide hW2
  have HBy := hide hB
  obtain ⟨rr, hrr⟩ : ∃ rr, rootS t (BitVec.ofNat 32 ln) (crcL b) = rr := ⟨_, rfl⟩
  rw [hrr]
  have HRR := hide hrr
  clear hrr
  have HZ := hide (And.intro z1 z2)
  clear m2 b2 f1 b1 hW1 hW2 hB z1 z2
  go_enter Try.func72, Try.ntmps72
  go_wp2_with (first
    | (refine l_alloc _ infoSecR rfl rfl ?_; rw [show (Lib.byteCells sec0).toArray = secA sec0 from rfl, HW1.out])
    | (go_at_call 79; rw [show W1.alloc (.cells #[.int .u8 72, .int .u8 71] 5 (2, 3)) = W2 from HW2.out]; refine HP.out.mono ?_; rintro e w3 ⟨v3, rfl, r3, b3⟩; refine stopHere ?_))
  unfold Hid
  have s3 := b3.size
  obtain ⟨z1, z2⟩ := HZ.out
  obtain ⟨v4, W4, ap4, r4, g4⟩ := app_full (b := W1.heap.size) (n := 2) (l := [72, 71]) rfl (fun j c hj => by
    obtain ⟨g, o, e1, e2, e3⟩ := H2.out.1 j c hj
    cases e1
    have := (b3.cell (p := ⟨W1.heap.size, 0 + j, none⟩) e2).trans e3
    simpa using this) r3 (by simp [beL]) (by rw [beL_len]; omega)
  have hB4 : Below w3.heap.size w3 W4 := (Below.refl _ _).grown g4 (Nat.le_refl _) (fun k e => by cases e)
  have s4 := hB4.size
  have H4 := hide (And.intro (r4.lower (show w.heap.size ≤ w3.heap.size by omega)) (And.intro ((hB4.block _ (by omega)).trans ((b3.block _ (by omega)).trans H2.out.2.1)) (H2.out.2.2.trans ((b3.trans (hB4.mono s3)).mono (by omega)))))
  have HA4 := hide ap4
  have q4 : w.heap.size < W4.heap.size := by omega
  clear r3 b3 r4 g4 hB4 ap4 z1 z2
  have lnv := len_v ln (by omega)
  have hp5 := rput_any (vOf (BitVec.ofNat 32 ln)) 4 (by omega) W4
  rw [lnv] at hp5
  have HP5 := hide hp5
  have hu1 : IntKind.u64.wrap (ln : Int) = ln := by show (ln : Int) % 18446744073709551616 = ln; omega
  clear hp5 lnv
  go_wp2_with (first
    | (at_builtin; refine l_val rfl _ (ex_append2 (t := 30) (t' := 30) rfl rfl rfl HA4.out) ?_)
    | (go_at_call 79; refine HP5.out.mono ?_; rintro e w5 ⟨v5, rfl, r5, b5⟩; refine stopHere ?_))
  unfold Hid
  have s5 := b5.size
  obtain ⟨v6, W6, ap6, r6, g6⟩ := app_row (H4.out.1.below b5) r5 (by simp [beL]) (by omega) (by simp [beL_len])
  have hB6 : Below w.heap.size w W6 := grown_below (H4.out.1.below b5) (Nat.le_refl _) (H4.out.2.2.trans (b5.mono (by omega))) g6
  have n4 : ∀ k, v4.ownBlock = some k → k ≠ w.heap.size := fun k e => own_ne0 H4.out.1 H4.out.2.1 (by decide) k e
  have f6 : W6.heap[w.heap.size]? = _ := (g6.block _ (by omega) (fun e => n4 _ e.symm rfl)).trans ((b5.block _ (by omega)).trans H4.out.2.1)
  have s6 := g6.size
  have HA6 := hide ap6
  have H6 := hide (And.intro r6 (And.intro f6 hB6))
  clear r5 b5 r6 g6 hB6 f6 ap6
  have hs6 := rsum_any ba cap b W6 (by omega) (fun j c hj => by
    obtain ⟨g, o, e1, e2, e3⟩ := HBy.out.below H6.out.2.2 j c hj
    exact ⟨g, o, e1, by omega, e3⟩)
  rw [hln] at hs6
  obtain ⟨cr, hcr⟩ : ∃ cr, ~~~ sumL b (BitVec.allOnes 32) = cr := ⟨_, rfl⟩
  rw [hcr] at hs6
  have hp7 := rput_any (vOf cr) 4 (by omega) W6
  rw [vOf_nat] at hp7
  have hu2 : IntKind.u64.wrap (cr.toNat : Int) = cr.toNat := by
    have := cr.isLt
    show (cr.toNat : Int) % 18446744073709551616 = _
    omega
  have HS6 := hide hs6
  have HP7 := hide hp7
  clear hs6 hp7
  go_wp2_with (first
    | (at_builtin; refine l_val rfl _ (ex_append2 (t := 30) (t' := 30) rfl rfl rfl HA6.out) ?_)
    | (go_at_call 19; refine HS6.out.mono ?_; rintro e w' ⟨rfl, hw'⟩; rw [hw']; clear hw')
    | (go_at_call 79; refine HP7.out.mono ?_; rintro e w7 ⟨v7, rfl, r7, b7⟩; refine stopHere ?_))
  unfold Hid
  have s7 := b7.size
  obtain ⟨v8, W8, ap8, r8, g8⟩ := app_row (H6.out.1.below b7) r7 (by simp [beL]) (by omega) (by simp [beL_len])
  have hB8 : Below w.heap.size w W8 := grown_below (H6.out.1.below b7) (Nat.le_refl _) (H6.out.2.2.trans (b7.mono (by omega))) g8
  have n6 : ∀ k, v6.ownBlock = some k → k ≠ w.heap.size := fun k e => own_ne0 H6.out.1 H6.out.2.1 (by decide) k e
  have f8 : W8.heap[w.heap.size]? = _ := (g8.block _ (by omega) (fun e => n6 _ e.symm rfl)).trans ((b7.block _ (by omega)).trans H6.out.2.1)
  have s8 := g8.size
  have e8 : [72, 71] ++ beL t 8 ++ beL (vOf (BitVec.ofNat 32 ln)) 4 ++ beL (vOf cr) 4 = rootL t (BitVec.ofNat 32 ln) cr := rfl
  rw [e8] at r8
  have HA8 := hide ap8
  have H8 := hide (And.intro r8 (And.intro f8 hB8))
  clear r7 b7 g8 hB8 f8 ap8 n4 n6
  have l18 := rootL_len t (BitVec.ofNat 32 ln) cr
  obtain ⟨lr, hlr⟩ : ∃ lr, rootL t (BitVec.ofNat 32 ln) cr = lr := ⟨_, rfl⟩
  rw [hlr] at r8 H8 l18
  obtain ⟨g8, c8, rfl, hc8, hg8, hl8, hm8⟩ := row_at r8 (by intro e; rw [e] at l18; cases l18)
  rw [l18] at hc8
  have hmem : ByteMem W8.heap.size W8 (some ⟨g8, 0, none⟩) lr := own_bytes r8 rfl
  have hs8 := rsum_any (some ⟨g8, 0, none⟩) c8 lr W8 (by omega) hmem
  rw [l18] at hs8 HA8 H8
  obtain ⟨ck, hck⟩ : ∃ ck, ~~~ sumL lr (BitVec.allOnes 32) = ck := ⟨_, rfl⟩
  rw [hck] at hs8
  have hp9 := rput_any (vOf ck) 4 (by omega) W8
  rw [vOf_nat] at hp9
  have hu3 : IntKind.u64.wrap (ck.toNat : Int) = ck.toNat := by
    have := ck.isLt
    show (ck.toNat : Int) % 18446744073709551616 = _
    omega
  have HS8 := hide hs8
  have HP9 := hide hp9
  clear hs8 hp9 r8 hmem hm8
  go_wp2_with (first
    | (at_builtin; refine l_val rfl _ (ex_append2 (t := 30) (t' := 30) rfl rfl rfl HA8.out) ?_)
    | (go_at_call 19; refine HS8.out.mono ?_; rintro e w' ⟨rfl, hw'⟩; rw [hw']; clear hw')
    | (go_at_call 79; refine HP9.out.mono ?_; rintro e w9 ⟨v9, rfl, r9, b9⟩; refine stopHere ?_))
  unfold Hid
  have s9 := b9.size
  obtain ⟨v10, W10, ap10, r10, g10⟩ := app_row (H8.out.1.below b9) r9 (by simp [beL]) (by omega) (by rw [beL_len, l18]; omega)
  have hB10 : Below w.heap.size w W10 := grown_below (H8.out.1.below b9) (Nat.le_refl _) (H8.out.2.2.trans (b9.mono (by omega))) g10
  have f10 : W10.heap[w.heap.size]? = _ := (g10.block _ (by omega) (fun e => own_ne0 H8.out.1 H8.out.2.1 (by decide) _ e.symm rfl)).trans ((b9.block _ (by omega)).trans H8.out.2.1)
  have s10 := g10.size
  have l22 : (lr ++ beL (vOf ck) 4).length = 22 := by rw [List.length_append, l18, beL_len]
  have hfin : rootS t (BitVec.ofNat 32 ln) (crcL b) = padS (lr ++ beL (vOf ck) 4) 22 := by
    have e1 : crcL b = cr := hcr
    have e2 : crcL lr = ck := hck
    rw [root_bytes, e1, hlr, e2]
    unfold padS
    rw [List.take_of_length_le (by omega)]
  obtain ⟨lf, hlf⟩ : ∃ lf, lr ++ beL (vOf ck) 4 = lf := ⟨_, rfl⟩
  rw [hlf] at r10 l22 hfin
  have HF := hide (hfin.symm.trans HRR.out)
  clear hfin
  obtain ⟨go, co, rfl, hco, hgo, hlo, hmo⟩ := row_at r10 (by intro e; rw [e] at l22; cases l22)
  rw [l22] at hco
  rw [l22] at r10
  have HA10 := hide ap10
  rw [l22] at HA10
  obtain ⟨W11, hW11, f11, b11, z11⟩ : ∃ W, W10.alloc (.cells (secA sec0) 61) = W ∧ W.heap[W10.heap.size]? = some (.cells (secA sec0) 61) ∧ Below W10.heap.size W10 W ∧ W.heap.size = W10.heap.size + 1 := ⟨_, rfl, World.alloc_heap_new _ _, (Below.refl _ _).alloc (Nat.le_refl _) _, by simp⟩
  have H11 := hide (And.intro f11 (And.intro (r10.below b11) (And.intro ((b11.block _ (by omega)).trans f10) (hB10.trans (b11.mono (by omega))))))
  have HW11 := hide hW11
  have q10 : w.heap.size < W10.heap.size := by omega
  have hgne : go ≠ W10.heap.size := by omega
  have hgw : go ≠ w.heap.size := own_ne0 r10 f10 (by decide) go rfl
  clear r9 b9 r10 g10 hB10 f10 ap10 f11 b11 hW11 hmo hlf
  go_wp2_with (first
    | (at_builtin; refine l_val rfl _ (ex_append2 (t := 30) (t' := 30) rfl rfl rfl HA10.out) ?_)
    | (refine l_alloc _ infoSecR rfl rfl ?_; rw [show (Lib.byteCells sec0).toArray = secA sec0 from rfl, HW11.out]))
  go_loopw [7] (fun i wr => ∃ k : Nat, k ≤ 22 ∧ i = .int .i64 k ∧ wr.heap[W10.heap.size]? = some (.cells (secA (padS lf k)) 61) ∧ Row wr w.heap.size (.slice (some ⟨go, 0, none⟩) 22 co) lf ∧ wr.heap[w.heap.size]? = some (.cells (secA sec0) 61) ∧ Below w.heap.size w wr) (fun i _ => 22 - (intOf i).toNat)
  case atStart => exact ⟨0, Nat.zero_le _, rfl, H11.out.1, H11.out.2.1, H11.out.2.2.1, H11.out.2.2.2⟩
  case round =>
    obtain ⟨k, hk, rfl, e1, er, e0, hbw⟩ := hrel
    have hw1 : IntKind.i64.wrap ((k : Int) + 1) = k + 1 := by rw [IntKind.wrap_i64]; omega
    by_cases hlt : k < 22
    · obtain ⟨c, hc⟩ : ∃ c, lf[k]? = some c := ⟨lf[k]'(by omega), by simp⟩
      have hcc : wr.cell? ⟨go, k, none⟩ = some (.int .u8 c.toNat) := by
        have er' : wr.ownsRow w.heap.size 5 1 (.slice (some ⟨go, 0, none⟩) 22 co) 22 (Lib.byteCells lf) := by
          have h := er
          unfold Row at h
          rw [l22] at h
          exact h
        obtain ⟨b', o', e', _, h'⟩ := own_bytes er' l22 k c hc
        cases e'
        simpa using h'
      have hpl := padS_len (l := lf) (k := k) (by omega) (by omega)
      have hcx : wr.cell? ⟨W10.heap.size, k, none⟩ = some ((secA (padS lf k))[k]'(by rw [secA_size, hpl]; omega)) := by
        rw [cell_of_row _ _ _ _ _ _ e1]
        simp
      have hfz : wr.frozen? ⟨W10.heap.size, k, none⟩ = false := by simp [World.frozen?, e1]
      have hs := heap_setCell_same wr _ k _ _ (.int .u8 c.toNat) e1
      rw [secA_set, padS_succ hc (by omega)] at hs
      obtain ⟨u, hu⟩ : ∃ u, (secA (padS lf k))[k]'(by rw [secA_size, hpl]; omega) = u := ⟨_, rfl⟩
      rw [hu] at hcx
      have hne : ∀ j, j ≠ W10.heap.size → (wr.setCell ⟨W10.heap.size, k, none⟩ (.int .u8 c.toNat)).heap[j]? = wr.heap[j]? := fun j hj => Below.heap_setCell _ _ _ _ hj
      have HE := hide (And.intro hs (And.intro (own_same er (fun g hg => hne g (fun e => by cases hg; exact hgne e))) (And.intro ((hne _ (by omega)).trans e0) (hbw.setCell (p := ⟨W10.heap.size, k, none⟩) (show w.heap.size ≤ W10.heap.size by omega) (.int .u8 c.toNat)))))
      have hkb : (k : Int) < 22 := by omega
      have hk64 : (k : Int) < 64 := by omega
      clear hs e1 hbw hu er e0 hne
      go_wp2_with fail
      go_roundw
      case rel => exact ⟨k + 1, by omega, by simp, HE.out.1, HE.out.2.1, HE.out.2.2.1, HE.out.2.2.2⟩
      case measure => simp [intOf]; omega
    · obtain rfl : k = 22 := by omega
      have hpl := padS_len (l := lf) (k := 22) (by omega) (by omega)
      have hlo := run_load_row (P := Try.prog) (w := wr) (cs := secA (padS lf 22)) (g := W10.heap.size) (ty' := 61) infoSecR undSecR rfl (by rw [secA_size, hpl]) e1
      obtain ⟨W3, s1, s2, s3', s4', s5'⟩ := run_store_sec (s' := padS lf 22) infoSecR e0 rfl hpl
      have HL := hide hlo
      have HS := hide s1
      have HE := hide (And.intro s2 (hbw.trans s5'))
      clear hlo s1 s2 s3' s4' s5' e1 hbw e0 er
      go_wp2_with (first | (refine l_load _ HL.out rfl rfl rfl ?_) | (refine l_store _ HS.out rfl rfl rfl rfl ?_; refine stopHere ?_))
      unfold Hid
      go_wp2_with fail
      exact bodyPost_ret (results_secR rfl rfl hpl HE.out.1) rfl ⟨by rw [HF.out], HE.out.2⟩
end Go.Proofs.Ytfknjmfkkaoggaa
