/- Lists of a node: an element is put in between. -/
import Derived.Test.YtffjmkngdjbjlaaGreatDoorNe7
import Derived.Shelf.Spec.SlicesInsert
import Derived.Lib.AppendZerosOnto
import Derived.Lib.Overlaps
namespace Go.Proofs.YtffjmkngdjbjlaaGreatDoor
open Go.RowKit

theorem run_copy_rowk (P : Program) (w : World) (dT sT ty elem : TypeId) (g o dLen dCap : Nat) (a : Addr) (sLen sCap k : Nat) (cur : Array Value) (t : TypeId) (cs : List Value)
    (hu : P.underlying dT = some (.slice elem)) (hs : (P.info? elem).map (·.size) = some k)
    (hg : w.heap[g]? = some (.cells cur t (0, 0))) (hn : cs.length = Nat.min sLen dLen * k)
    (hsrc : ∀ j v, cs[j]? = some v → w.cell? (a.add j) = some v) (hfit : o + cs.length ≤ cur.size) (h1 : ∀ v ∈ cs, v.oneCell' = true) :
    (Builtin.copy_ #[dT, sT] ty #[.slice (some ⟨g, o, none⟩) dLen dCap, .slice (some a) sLen sCap]).run P w =
      .ok (goInt (Nat.min sLen dLen : Nat)) (w.setRow g (cur.toList.take o ++ cs ++ cur.toList.drop (o + cs.length)).toArray) := by
  have hl := run_loadCells_list (P := P) w a cs hsrc
  have hst := run_storeCells_at P g o t cs 0 cur w hg (by simpa using hfit) h1
  cases hq : P.info? elem with
  | none => simp [hq] at hs
  | some i =>
    have hi : i.size = k := by simpa [hq] using hs
    simp [Builtin.copy_, run_underlying hu, Builtin.lenOf, Builtin.firstCells, sizeOf, typeInfo, hq, hi, ← hn, hl, hst]
theorem ins_rows {α : Type} (cur C X : List α) (a k : Nat) (ha : a ≤ C.length) (hX : X.length = k) (ht : cur.take a = C.take a) (hl : C.length + k ≤ cur.length) :
    (((cur.take a ++ X ++ cur.drop (a + X.length)).take (a + k) ++ C.drop a ++ (cur.take a ++ X ++ cur.drop (a + X.length)).drop (a + k + (C.drop a).length)).take (C.length + k) = C.take a ++ X ++ C.drop a) ∧
    ((cur.take a ++ X ++ cur.drop (a + X.length)).take (a + k) ++ C.drop a ++ (cur.take a ++ X ++ cur.drop (a + X.length)).drop (a + k + (C.drop a).length)).length = cur.length := by
  have h1 : (cur.take a ++ X).length = a + k := by simp; omega
  have h2 : (cur.take a ++ X ++ cur.drop (a + X.length)).take (a + k) = C.take a ++ X := by
    rw [List.take_append_of_le_length (by omega), List.take_of_length_le (by omega), ht]
  rw [h2]
  constructor
  · rw [List.take_append_of_le_length (by simp; omega), List.take_of_length_le (by simp; omega)]
  · simp
    omega
theorem shift_rows {α : Type} (cur C X : List α) (a k : Nat) (ha : a ≤ C.length) (hX : X.length = k) (ht : cur.take C.length = C) (hl : C.length + k ≤ cur.length) :
    (((cur.take (a + k) ++ C.drop a ++ cur.drop (a + k + (C.drop a).length)).take a ++ X ++ (cur.take (a + k) ++ C.drop a ++ cur.drop (a + k + (C.drop a).length)).drop (a + X.length)).take (C.length + k) = C.take a ++ X ++ C.drop a) ∧
    ((cur.take (a + k) ++ C.drop a ++ cur.drop (a + k + (C.drop a).length)).take a ++ X ++ (cur.take (a + k) ++ C.drop a ++ cur.drop (a + k + (C.drop a).length)).drop (a + X.length)).length = cur.length := by
  have h0 : (cur.take (a + k)).length = a + k := by simp; omega
  have h1 : (cur.take (a + k) ++ C.drop a ++ cur.drop (a + k + (C.drop a).length)).take a = C.take a := by
    have h : C.take a = cur.take a := by
      have h' : (cur.take C.length).take a = cur.take a := by rw [List.take_take, Nat.min_eq_left ha]
      rw [ht] at h'
      exact h'
    rw [List.append_assoc, List.take_append_of_le_length (by omega), List.take_take, Nat.min_eq_left (by omega), h]
  have h2 : (cur.take (a + k) ++ C.drop a ++ cur.drop (a + k + (C.drop a).length)).drop (a + X.length) = C.drop a ++ cur.drop (a + k + (C.drop a).length) := by
    rw [hX, List.append_assoc]
    exact List.drop_left' h0
  rw [h1, h2]
  constructor
  · rw [← List.append_assoc, List.take_append_of_le_length (by simp; omega), List.take_of_length_le (by simp; omega)]
  · simp
    omega
theorem row_cell {w : World} {g : Nat} {cur : Array Value} {T : TypeId} {f : Nat × Nat} {j : Nat} {v : Value} (h : w.heap[g]? = some (.cells cur T f)) (hj : cur.toList[j]? = some v) : w.cell? ⟨g, j, none⟩ = some v := by
  have hj' : cur[j]? = some v := by simpa using hj
  simp [World.cell?, h, hj']
theorem below_rowG {B g : Nat} {w0 w : World} (hb : Below B w0 w) (hg : B ≤ g) (cs : Array Value) : Below B w0 (w.setRow g cs) :=
  hb.trans ⟨rfl, rfl, rfl, by simp, fun k hk => setRow_other w g k _ (by omega)⟩
theorem ex_copyN {o : Oper} {a : Act} {w w' : World} {s x : Operand} {t t' : TypeId} {u v r : Value} (ho : o.op = .call { callee := .builtin .copy, args := #[s, x], argTypes := #[t, t'] }) (hs : a.eval s = u) (hx : a.eval x = v) (hr : (Builtin.copy_ #[t, t'] o.type #[u, v]).run Tryz.prog w = .ok r w') : (execOp a.eval o).run Tryz.prog w = .ok (.value r) w' := by
  unfold execOp
  simp only [ho, resolve, invoke, builtin, List.map_toArray, List.map_cons, List.map_nil, hs, hx]
  simp [hr, Result.andThen]
theorem sC_cut (L : List (ByteArray × Bool × Int)) (i : Nat) (hi : i ≤ L.length) : (sC L).take (i * 3) = sC (L.take i) ∧ (sC L).drop (i * 3) = sC (L.drop i) := by
  have h := sC_app (L.take i) (L.drop i)
  rw [List.take_append_drop] at h
  have hl : (sC (L.take i)).length = i * 3 := by rw [sC_len, List.length_take, Nat.min_eq_left hi]
  rw [h]
  exact ⟨List.take_left' hl, List.drop_left' hl⟩
theorem zeros_s {w : World} {g n i base : Nat} {cur : Array Value} (hg : w.heap[g]? = some (.cells cur 43 (0, 0))) (hi : i ≤ n) (hn : n ≤ 1000000) (hs : n * 3 ≤ cur.size) (_hb : base ≤ w.heap.size) :
    ∃ W c2 cur2, (∀ ty, (Builtin.append_ #[27, 3] ty #[.slice (some ⟨g, 0, none⟩) i n, .int .i64 ((n + 1 - i : Nat) : Int)]).run Tryz.prog w = .ok (.slice (some ⟨w.heap.size, 0, none⟩) (n + 1) c2) W) ∧ W.heap[w.heap.size]? = some (.cells cur2 43 (0, 0)) ∧ cur2.size = c2 * 3 ∧ n + 1 ≤ c2 ∧ c2 ≤ maxLen ∧ cur2.toList.take (i * 3) = cur.toList.take (i * 3) ∧ Below w.heap.size w W := by
  obtain ⟨ti, t1, t2, t3, t4⟩ := info_parts infoSub
  have hold : (Builtin.firstCells ti.size i (.slice (some ⟨g, 0, none⟩) i n)).run Tryz.prog w.drew = .ok (cur.toList.take (i * 3)).toArray w.drew := by
    rw [t3]
    have h := run_loadCells_list (P := Tryz.prog) w.drew ⟨g, 0, none⟩ (cur.toList.take (i * 3)) (fun j v hj => by
      have hlt := (List.getElem?_eq_some_iff.1 hj).1
      rw [List.length_take] at hlt
      rw [List.getElem?_take_of_lt (by omega)] at hj
      rw [Addr.add_lit, Nat.zero_add]
      exact row_cell (show w.drew.heap[g]? = _ from hg) hj)
    have hlen : (cur.toList.take (i * 3)).length = i * 3 := by
      rw [List.length_take, Array.length_toList]
      have : i * 3 ≤ n * 3 := Nat.mul_le_mul_right _ hi
      omega
    rw [hlen] at h
    simpa [Builtin.firstCells] using h
  have hrz : ∀ ty, (Builtin.append_ #[27, 3] ty #[.slice (some ⟨g, 0, none⟩) i n, .int .i64 ((n + 1 - i : Nat) : Int)]).run Tryz.prog w = _ := fun ty => Lib.run_append_grow_zeros w 27 3 ty 43 ti _ .i64 .i64 Tryz.underlying27 Tryz.underlying3 t1 t2 (some ⟨g, 0, none⟩) i n (cur.toList.take (i * 3)) hold (n + 1 - i) (by omega) (by omega) (by omega) (by omega) (by rw [t4]; omega) (growslice_fits (by omega) (by rw [t4]; omega))
  have e1 : i + (n + 1 - i) = n + 1 := by omega
  rw [e1] at hrz
  have hGn := grownCap_ge w (n + 1) n 43
  have hGm := grownCap_le_maxLen w (n + 1) n 43 (by unfold maxLen; omega)
  obtain ⟨G, hG⟩ : ∃ G, grownCap w (n + 1) n 43 = G := ⟨_, rfl⟩
  rw [hG] at hrz hGn hGm
  refine ⟨_, G, _, hrz, heap_alloc_new w.drew _, ?_, hGn, hGm, ?_, ((Below.refl _ w).drew).alloc (Nat.le_refl _) _⟩
  · simp only [Array.size_append, size_zeroCells]
    have hlen : (cur.toList.take (i * 3)).length = i * 3 := by
      rw [List.length_take, Array.length_toList]
      have : i * 3 ≤ n * 3 := Nat.mul_le_mul_right _ hi
      omega
    rw [List.size_toArray, hlen]
    show i * 3 + (n + 1 - i) * 3 + (G - (n + 1)) * 3 = G * 3
    omega
  · simp only [Array.toList_append, List.append_assoc]
    rw [List.take_append_of_le_length (by
      rw [List.length_take, Array.length_toList]
      have : i * 3 ≤ n * 3 := Nat.mul_le_mul_right _ hi
      omega)]
    rw [List.take_of_length_le (by rw [List.length_take]; omega)]
theorem insOut_s (L : List (ByteArray × Bool × Int)) (x : ByteArray × Bool × Int) (i : Nat) (hi : i ≤ L.length) : sC (L.take i ++ x :: L.drop i) = (sC L).take (i * 3) ++ ([.string x.1, .bool x.2.1, .int .i64 x.2.2] : List Value) ++ (sC L).drop (i * 3) := by
  rw [(sC_cut L i hi).1, (sC_cut L i hi).2, show x :: L.drop i = [x] ++ L.drop i from rfl, sC_app, sC_app, List.append_assoc]
  rfl
theorem insLen_s (L : List (ByteArray × Bool × Int)) (x : ByteArray × Bool × Int) (i : Nat) (hi : i ≤ L.length) : (L.take i ++ x :: L.drop i).length = L.length + 1 := by
  simp
  omega
set_option maxRecDepth 100000 in
set_option maxHeartbeats 4000000 in
theorem insMid_s (L : List (ByteArray × Bool × Int)) (x : ByteArray × Bool × Int) (v : Value) (bx base i : Nat) (w : World) (hown : w.ownsRow base 43 3 v L.length (sC L)) (hx : w.heap[bx]? = some (.cells #[.string x.1, .bool x.2.1, .int .i64 x.2.2] 43)) (hne : ∀ g, v.ownBlock = some g → g ≠ bx) (hl : L.length ≤ 1000000) (hb : base ≤ w.heap.size) (hi : i < L.length) :
    Calls Tryz.prog 45 #[v, .int .i64 i, .slice (some ⟨bx, 0, none⟩) 1 1] w fun e w' => ∃ v', e = .returned v' ∧ w'.ownsRow base 43 3 v' (L.take i ++ x :: L.drop i).length (sC (L.take i ++ x :: L.drop i)) ∧ Below base w w' := by
  obtain ⟨hCl, ⟨_, h0⟩ | ⟨g, cap, cur, rfl, hbg, hg, hnc, hcm, hcs, hct⟩⟩ := hown
  · omega
  have hgb : g ≠ bx := hne g rfl
  have hg0 := hg
  have ho1 := insOut_s L x i (by omega)
  have ho2 := insLen_s L x i (by omega)
  obtain ⟨C, hC⟩ : ∃ C, sC L = C := ⟨_, rfl⟩
  obtain ⟨O, hO⟩ : ∃ O, sC (L.take i ++ x :: L.drop i) = O := ⟨_, rfl⟩
  obtain ⟨N, hN⟩ : ∃ N, (L.take i ++ x :: L.drop i).length = N := ⟨_, rfl⟩
  have hC1 : ∀ v ∈ C, v.oneCell' = true := by rw [← hC]; exact sC_one L
  rw [hO, hC] at ho1
  rw [hN] at ho2
  rw [hC] at hct
  rw [hO, hN]
  clear hO hN
  obtain ⟨n, hn⟩ : ∃ n, L.length = n := ⟨_, rfl⟩
  rw [hn] at ho2 hCl hct hl hi hnc ⊢
  rw [hC] at hCl
  clear hC hn L hne
  unfold maxLen at hcm
  obtain ⟨ti, t1, t2, t3, t4⟩ := info_parts infoSub
  have hsz : (Tryz.prog.info? 43).map (·.size) = some 3 := by rw [t1]; simp [t3]
  have hbxl : bx < w.heap.size := (Array.getElem?_eq_some_iff.1 hx).1
  have hgl : g < w.heap.size := (Array.getElem?_eq_some_iff.1 hg).1
  have hX1 : ∀ v ∈ ([.string x.1, .bool x.2.1, .int .i64 x.2.2] : List Value), v.oneCell' = true := by intro v hv; simp at hv; rcases hv with rfl | rfl | rfl <;> rfl
  have hXs : ∀ (W : World), W.heap[bx]? = some (.cells #[.string x.1, .bool x.2.1, .int .i64 x.2.2] 43) → ∀ j v, ([.string x.1, .bool x.2.1, .int .i64 x.2.2] : List Value)[j]? = some v → W.cell? ((⟨bx, 0, none⟩ : Addr).add j) = some v := fun W hW j v hj => by
    rw [Addr.add_lit, Nat.zero_add]
    exact row_cell hW hj
  have hz1 : ¬ ((i : Int) = (n : Int)) := by omega
  have hCi : i * 3 ≤ C.length := by rw [hCl]; exact Nat.mul_le_mul_right _ (by omega)
  by_cases hroom : n + 1 ≤ cap
  · have hw1 : IntKind.i64.wrap ((i : Int) + 1) = (i : Int) + 1 := by rw [IntKind.wrap_i64]; omega
    have hwn : IntKind.i64.wrap ((n : Int) + 1) = (n : Int) + 1 := by rw [IntKind.wrap_i64]; omega
    have hgn0 : ¬ cap = i := by omega
    have hin : i ≤ n := by omega
    have mixed : Tryz.prog.follows .mixedOrders = true := by kernel_rfl
    have hci1 : (i : Int) + 1 ≤ cap := by omega
    have hci2 : (n : Int) + 1 ≤ cap := by omega
    have hci3 : (i : Int) + 1 ≤ (n : Int) + 1 := by omega
    have hci5 : (i : Int) ≤ (n : Int) + 1 := by omega
    have hci4 : ¬ ((cap : Int) < (n : Int) + 1) := by omega
    have hcj : ¬ cap = i + 1 := by omega
    have htn : ((i : Int) + 1).toNat = i + 1 := by omega
    have htn2 : ((n : Int) + 1).toNat = n + 1 := by omega
    have hi0 : (0 : Int) ≤ (i : Int) + 1 := by omega
    have hn0 : (0 : Int) ≤ (n : Int) + 1 := by omega
    have hov : ∀ lb cb, (callFunc 67 #[.slice (some ⟨bx, 0, none⟩) 1 1, .slice (some ⟨g, (i + 1) * 3, none⟩) lb cb]).run Tryz.prog w = .ok (.value (.bool false)) w := fun lb cb => by
      rw [run_callFunc_extern Tryz.func67 (by kernel_rfl) (by kernel_rfl) (by kernel_rfl) (e := Extern.SlicesOverlaps.overlaps #[27, 27] #[4]) (by kernel_rfl),
        Lib.run_overlaps_apart w 27 4 43 Tryz.underlying27 3 (fun w => by simp [Go.sizeOf, typeInfo, t1, t3]) ⟨bx, 0, none⟩ ⟨g, (i + 1) * 3, none⟩ 1 1 lb cb (Ne.symm hgb) 43 43 3 (cap * 3) (by simp [World.shape?, hx]) (by simp [World.shape?, hg, hcs]) (by omega) (by simp [World.frozen?, hx]) (by simp [World.frozen?, hx])]
      rfl
    have hcd : (C.drop (i * 3)).length = (n - i) * 3 := by rw [List.length_drop, hCl]; omega
    have hcl : C.length + 3 ≤ cur.toList.length := by rw [show cur.toList.length = cur.size from Array.length_toList, hcs, hCl]; omega
    have hrw := shift_rows cur.toList C ([.string x.1, .bool x.2.1, .int .i64 x.2.2] : List Value) (i * 3) 3 hCi rfl (by rw [hCl]; exact hct) hcl
    have ei2 : (i + 1) * 3 = i * 3 + 3 := by omega
    have hcp1 : ∀ ty dc sc, (Builtin.copy_ #[27, 27] ty #[.slice (some ⟨g, (i + 1) * 3, none⟩) (n - i) dc, .slice (some ⟨g, i * 3, none⟩) (n + 1 - i) sc]).run Tryz.prog w.drew = .ok (goInt (Nat.min (n + 1 - i) (n - i) : Nat)) (w.drew.setRow g (cur.toList.take (i * 3 + 3) ++ C.drop (i * 3) ++ cur.toList.drop (i * 3 + 3 + (C.drop (i * 3)).length)).toArray) := fun ty dc sc => by
      rw [ei2]
      exact run_copy_rowk Tryz.prog w.drew 27 27 ty 43 g (i * 3 + 3) (n - i) dc ⟨g, i * 3, none⟩ (n + 1 - i) sc 3 cur 43 (C.drop (i * 3)) Tryz.underlying27 hsz hg (by rw [hcd]; congr 1; exact (Nat.min_eq_right (by omega)).symm) (fun j v hj => by
        rw [List.getElem?_drop] at hj
        rw [Addr.add_lit]
        refine row_cell (show w.drew.heap[g]? = _ from hg) ?_
        have hlt := (List.getElem?_eq_some_iff.1 hj).1
        rw [← hct, List.getElem?_take_of_lt (by omega)] at hj
        exact hj) (by rw [hcd, hcs]; omega) (fun v hv => hC1 v (List.mem_of_mem_drop hv))
    obtain ⟨cur3, hcur3⟩ : ∃ cur3 : List Value, (cur.toList.take (i * 3 + 3) ++ C.drop (i * 3) ++ cur.toList.drop (i * 3 + 3 + (C.drop (i * 3)).length)) = cur3 := ⟨_, rfl⟩
    rw [hcur3] at hcp1 hrw
    have h3l : cur3.length = cur.size := by
      rw [← hcur3]
      simp only [List.length_append, List.length_take, List.length_drop, Array.length_toList, hCl, hcs]
      omega
    obtain ⟨W2, hW2⟩ : ∃ W2, w.drew.setRow g cur3.toArray = W2 := ⟨_, rfl⟩
    have hg2 : W2.heap[g]? = some (.cells cur3.toArray 43 (0, 0)) := by rw [← hW2]; exact setRow_heap w.drew g _ _ _ _ (show w.drew.heap[g]? = _ from hg)
    have hx2 : W2.heap[bx]? = some (.cells #[.string x.1, .bool x.2.1, .int .i64 x.2.2] 43) := by rw [← hW2, setRow_other w.drew g bx _ (Ne.symm hgb)]; exact hx
    have b2 : Below base w W2 := by rw [← hW2]; exact below_rowG ((Below.refl _ w).drew.mono hb) hbg _
    rw [hW2] at hcp1
    have hcp2 : ∀ ty dc, (Builtin.copy_ #[27, 27] ty #[.slice (some ⟨g, i * 3, none⟩) (n + 1 - i) dc, .slice (some ⟨bx, 0, none⟩) 1 1]).run Tryz.prog W2 = .ok (goInt (Nat.min 1 (n + 1 - i) : Nat)) (W2.setRow g (cur3.take (i * 3) ++ ([.string x.1, .bool x.2.1, .int .i64 x.2.2] : List Value) ++ cur3.drop (i * 3 + ([.string x.1, .bool x.2.1, .int .i64 x.2.2] : List Value).length)).toArray) := fun ty dc =>
      run_copy_rowk Tryz.prog W2 27 27 ty 43 g (i * 3) (n + 1 - i) dc ⟨bx, 0, none⟩ 1 1 3 cur3.toArray 43 ([.string x.1, .bool x.2.1, .int .i64 x.2.2] : List Value) Tryz.underlying27 hsz hg2 (by rw [show Nat.min 1 (n + 1 - i) = 1 from Nat.min_eq_left (by omega)]; rfl) (hXs W2 hx2) (by rw [List.size_toArray, h3l, hcs]; show i * 3 + 3 ≤ _; omega) hX1
    obtain ⟨R4, hR4⟩ : ∃ R4, (cur3.take (i * 3) ++ ([.string x.1, .bool x.2.1, .int .i64 x.2.2] : List Value) ++ cur3.drop (i * 3 + ([.string x.1, .bool x.2.1, .int .i64 x.2.2] : List Value).length)) = R4 := ⟨_, rfl⟩
    rw [hR4] at hrw hcp2
    have hgW := setRow_heap W2 g _ R4.toArray _ _ hg2
    have bW : Below base w (W2.setRow g R4.toArray) := below_rowG b2 hbg _
    have HO := hide (show (W2.setRow g R4.toArray).ownsRow base 43 3 (.slice (some ⟨g, 0, none⟩) (n + 1) cap) N O by
      rw [ho2, ho1]
      exact ⟨by rw [← hrw.1, List.length_take, hrw.2, show cur.toList.length = cur.size from Array.length_toList, hcs, hCl]; omega, .inr ⟨g, cap, _, rfl, hbg, hgW, hroom, by unfold maxLen; omega, by rw [List.size_toArray, hrw.2, show cur.toList.length = cur.size from Array.length_toList, hcs], by rw [← hrw.1, hCl, show (n + 1) * 3 = n * 3 + 3 by omega]⟩⟩)
    have HB := hide bW
    clear ei2 hrw hR4 bW hgW hg2 hW2 hcur3 h3l b2 hx2 hg hg0 hx hXs hX1 hcd ho1 hct hcs hCl hcl
    go_enter Tryz.func45, Tryz.ntmps45
    go_wp2_with (simp only [hov])
    clear hov
    go_region_law_o (refine step_copy_runI rfl _ _ 27 27 rfl _ _ (by simp [Act.eval, Act.put]) (by simp [Act.eval, Act.put]) (hcp1 _ _ _) ?_)
    go_wp2_with fail
    go_ret
    exact ⟨_, rfl, HO.out, HB.out⟩
  · have hcn : cap = n := by omega
    subst hcn
    obtain ⟨W1, c2, cur2, hap, hg1, hs2, hc2, hc2m, ht2, b1⟩ := zeros_s (base := base) hg (show i ≤ cap by omega) hl (by omega) hb
    unfold maxLen at hc2m

    go_enter Tryz.func45, Tryz.ntmps45
    have ei : ((cap + 1 - i : Nat) : Int) = (cap : Int) + 1 - i := by omega
    rw [ei] at hap
    clear ei
    go_wp2_with (at_builtin; refine stopNd ?_)
    unfold Hid
    refine l_val rfl _ (ex_appN rfl rfl rfl (hap _)) ?_
    have hc2i : ¬ c2 = i := by omega
    have hgG : g ≠ w.heap.size := by omega
    have hbG : bx ≠ w.heap.size := by omega
    have hx1 := (b1.block _ hbxl).trans hx
    have hg1' := (b1.block _ hgl).trans hg0
    obtain ⟨G, hG⟩ : ∃ G, w.heap.size = G := ⟨_, rfl⟩
    have hsz2 : (C.length + 3) ≤ cur2.toList.length := by rw [show cur2.toList.length = cur2.size from Array.length_toList, hs2, hCl]; omega
    have hcp1 : ∀ ty dc, (Builtin.copy_ #[27, 27] ty #[.slice (some ⟨G, i * 3, none⟩) (cap + 1 - i) dc, .slice (some ⟨bx, 0, none⟩) 1 1]).run Tryz.prog W1 = .ok (goInt (Nat.min 1 (cap + 1 - i) : Nat)) (W1.setRow G (cur2.toList.take (i * 3) ++ ([.string x.1, .bool x.2.1, .int .i64 x.2.2] : List Value) ++ cur2.toList.drop (i * 3 + ([.string x.1, .bool x.2.1, .int .i64 x.2.2] : List Value).length)).toArray) := fun ty dc =>
      run_copy_rowk Tryz.prog W1 27 27 ty 43 G (i * 3) (cap + 1 - i) dc ⟨bx, 0, none⟩ 1 1 3 cur2 43 ([.string x.1, .bool x.2.1, .int .i64 x.2.2] : List Value) Tryz.underlying27 hsz (by rw [← hG]; exact hg1) (by rw [show Nat.min 1 (cap + 1 - i) = 1 from Nat.min_eq_left (by omega)]; rfl) (hXs W1 hx1) (by show i * 3 + 3 ≤ cur2.size; omega) hX1
    obtain ⟨cur3, hcur3⟩ : ∃ cur3 : List Value, cur2.toList.take (i * 3) ++ ([.string x.1, .bool x.2.1, .int .i64 x.2.2] : List Value) ++ cur2.toList.drop (i * 3 + ([.string x.1, .bool x.2.1, .int .i64 x.2.2] : List Value).length) = cur3 := ⟨_, rfl⟩
    rw [hcur3] at hcp1
    obtain ⟨W2, hW2⟩ : ∃ W2, W1.setRow G cur3.toArray = W2 := ⟨_, rfl⟩
    have hg2 : W2.heap[G]? = some (.cells cur3.toArray 43 (0, 0)) := by rw [← hW2]; exact setRow_heap W1 G _ _ _ _ (by rw [← hG]; exact hg1)
    have b2 : Below w.heap.size w W2 := by rw [← hW2]; exact below_rowG b1 (by omega) _
    have hg2' : W2.heap[g]? = some (.cells cur 43 (0, 0)) := (b2.block _ hgl).trans hg0
    rw [hW2] at hcp1
    rw [hG]
    go_wp2_with fail
    have hcd : (C.drop (i * 3)).length = (cap - i) * 3 := by rw [List.length_drop, hCl]; omega
    have hrw := ins_rows cur2.toList C ([.string x.1, .bool x.2.1, .int .i64 x.2.2] : List Value) (i * 3) 3 hCi rfl (by rw [ht2]; conv => rhs; rw [← hct, List.take_take, Nat.min_eq_left (by omega)]) hsz2
    rw [hcur3] at hrw
    have h3l : cur3.length = cur2.toList.length := by rw [← hcur3]; simp; omega
    have ei2 : (i + 1) * 3 = i * 3 + 3 := by omega
    have hcp2 : ∀ (W : World), W.heap = W2.heap → ∀ ty dc sc, (Builtin.copy_ #[27, 27] ty #[.slice (some ⟨G, (i + 1) * 3, none⟩) (cap - i) dc, .slice (some ⟨g, i * 3, none⟩) (cap - i) sc]).run Tryz.prog W = .ok (goInt (Nat.min (cap - i) (cap - i) : Nat)) (W.setRow G (cur3.take (i * 3 + 3) ++ C.drop (i * 3) ++ cur3.drop (i * 3 + 3 + (C.drop (i * 3)).length)).toArray) := fun W hW ty dc sc => by
      rw [ei2]
      exact run_copy_rowk Tryz.prog W 27 27 ty 43 G (i * 3 + 3) (cap - i) dc ⟨g, i * 3, none⟩ (cap - i) sc 3 cur3.toArray 43 (C.drop (i * 3)) Tryz.underlying27 hsz (by rw [hW]; exact hg2) (by rw [hcd]; congr 1; exact (Nat.min_self _).symm) (fun j v hj => by
        rw [List.getElem?_drop] at hj
        rw [Addr.add_lit]
        refine row_cell (by rw [hW]; exact hg2') ?_
        have hlt := (List.getElem?_eq_some_iff.1 hj).1
        rw [← hct, List.getElem?_take_of_lt (by omega)] at hj
        exact hj) (by rw [List.size_toArray, h3l, hcd]; omega) (fun v hv => hC1 v (List.mem_of_mem_drop hv))
    clear ei2
    have hcp3 := fun ty dc sc => hcp2 W2.drew rfl ty dc sc
    clear hcp1 hcp2
    have hgn0 : ¬ cap = i := by omega
    have hin : i ≤ cap := by omega
    have mixed : Tryz.prog.follows .mixedOrders = true := by kernel_rfl
    have hci1 : (i : Int) + 1 ≤ cap + 1 := by omega
    have hc2j : ¬ c2 = i + 1 := by omega
    have hw1 : IntKind.i64.wrap ((i : Int) + 1) = (i : Int) + 1 := by rw [IntKind.wrap_i64]; omega
    have htn : ((i : Int) + 1).toNat = i + 1 := by omega
    have hi0 : (0 : Int) ≤ (i : Int) + 1 := by omega
    obtain ⟨R4, hR4⟩ : ∃ R4, (cur3.take (i * 3 + 3) ++ C.drop (i * 3) ++ cur3.drop (i * 3 + 3 + (C.drop (i * 3)).length)) = R4 := ⟨_, rfl⟩
    rw [hR4] at hrw hcp3
    have hgW := setRow_heap W2.drew G _ R4.toArray _ _ (show W2.drew.heap[G]? = _ from hg2)
    have bW : Below w.heap.size w (W2.drew.setRow G R4.toArray) := below_rowG b2.drew (by omega) _
    have HO := hide (show (W2.drew.setRow G R4.toArray).ownsRow base 43 3 (.slice (some ⟨G, 0, none⟩) (cap + 1) c2) N O by
      rw [ho2, ho1]
      have hl1 := congrArg List.length hrw.1
      exact ⟨by rw [← hrw.1, List.length_take, hrw.2, show cur2.toList.length = cur2.size from Array.length_toList, hs2, hCl]; omega, .inr ⟨G, c2, _, rfl, by omega, hgW, hc2, by unfold maxLen; omega, by rw [List.size_toArray, hrw.2, show cur2.toList.length = cur2.size from Array.length_toList, hs2], by rw [← hrw.1, hCl, show (cap + 1) * 3 = cap * 3 + 3 by omega]⟩⟩)
    have HB := hide (bW.mono hb)
    clear hrw hR4 bW hgW hg2 hg2' hW2 hcur3 h3l b2 b1 hx1 hg1' hg1 hsz2 ht2 hap hg hg0 hx hXs hX1 hcd ho1 hct hcs hCl hs2
    go_region_law_o (refine step_copy_runI rfl _ _ 27 27 rfl _ _ (by simp [Act.eval, Act.put]) (by simp [Act.eval, Act.put]) (hcp3 _ _ _) ?_)
    go_wp2_with fail
    go_ret
    exact ⟨_, rfl, HO.out, HB.out⟩
theorem aC_cut (L : List (ByteArray × Nat)) (i : Nat) (hi : i ≤ L.length) : (aC L).take (i * 2) = aC (L.take i) ∧ (aC L).drop (i * 2) = aC (L.drop i) := by
  have h := aC_app (L.take i) (L.drop i)
  rw [List.take_append_drop] at h
  have hl : (aC (L.take i)).length = i * 2 := by rw [aC_len, List.length_take, Nat.min_eq_left hi]
  rw [h]
  exact ⟨List.take_left' hl, List.drop_left' hl⟩
theorem zeros_a {w : World} {g n i base : Nat} {cur : Array Value} (hg : w.heap[g]? = some (.cells cur 25 (0, 0))) (hi : i ≤ n) (hn : n ≤ 1000000) (hs : n * 2 ≤ cur.size) (_hb : base ≤ w.heap.size) :
    ∃ W c2 cur2, (∀ ty, (Builtin.append_ #[26, 3] ty #[.slice (some ⟨g, 0, none⟩) i n, .int .i64 ((n + 1 - i : Nat) : Int)]).run Tryz.prog w = .ok (.slice (some ⟨w.heap.size, 0, none⟩) (n + 1) c2) W) ∧ W.heap[w.heap.size]? = some (.cells cur2 25 (0, 0)) ∧ cur2.size = c2 * 2 ∧ n + 1 ≤ c2 ∧ c2 ≤ maxLen ∧ cur2.toList.take (i * 2) = cur.toList.take (i * 2) ∧ Below w.heap.size w W := by
  obtain ⟨ti, t1, t2, t3, t4⟩ := info_parts infoAff
  have hold : (Builtin.firstCells ti.size i (.slice (some ⟨g, 0, none⟩) i n)).run Tryz.prog w.drew = .ok (cur.toList.take (i * 2)).toArray w.drew := by
    rw [t3]
    have h := run_loadCells_list (P := Tryz.prog) w.drew ⟨g, 0, none⟩ (cur.toList.take (i * 2)) (fun j v hj => by
      have hlt := (List.getElem?_eq_some_iff.1 hj).1
      rw [List.length_take] at hlt
      rw [List.getElem?_take_of_lt (by omega)] at hj
      rw [Addr.add_lit, Nat.zero_add]
      exact row_cell (show w.drew.heap[g]? = _ from hg) hj)
    have hlen : (cur.toList.take (i * 2)).length = i * 2 := by
      rw [List.length_take, Array.length_toList]
      have : i * 2 ≤ n * 2 := Nat.mul_le_mul_right _ hi
      omega
    rw [hlen] at h
    simpa [Builtin.firstCells] using h
  have hrz : ∀ ty, (Builtin.append_ #[26, 3] ty #[.slice (some ⟨g, 0, none⟩) i n, .int .i64 ((n + 1 - i : Nat) : Int)]).run Tryz.prog w = _ := fun ty => Lib.run_append_grow_zeros w 26 3 ty 25 ti _ .i64 .i64 Tryz.underlying26 Tryz.underlying3 t1 t2 (some ⟨g, 0, none⟩) i n (cur.toList.take (i * 2)) hold (n + 1 - i) (by omega) (by omega) (by omega) (by omega) (by rw [t4]; omega) (growslice_fits (by omega) (by rw [t4]; omega))
  have e1 : i + (n + 1 - i) = n + 1 := by omega
  rw [e1] at hrz
  have hGn := grownCap_ge w (n + 1) n 25
  have hGm := grownCap_le_maxLen w (n + 1) n 25 (by unfold maxLen; omega)
  obtain ⟨G, hG⟩ : ∃ G, grownCap w (n + 1) n 25 = G := ⟨_, rfl⟩
  rw [hG] at hrz hGn hGm
  refine ⟨_, G, _, hrz, heap_alloc_new w.drew _, ?_, hGn, hGm, ?_, ((Below.refl _ w).drew).alloc (Nat.le_refl _) _⟩
  · simp only [Array.size_append, size_zeroCells]
    have hlen : (cur.toList.take (i * 2)).length = i * 2 := by
      rw [List.length_take, Array.length_toList]
      have : i * 2 ≤ n * 2 := Nat.mul_le_mul_right _ hi
      omega
    rw [List.size_toArray, hlen]
    show i * 2 + (n + 1 - i) * 2 + (G - (n + 1)) * 2 = G * 2
    omega
  · simp only [Array.toList_append, List.append_assoc]
    rw [List.take_append_of_le_length (by
      rw [List.length_take, Array.length_toList]
      have : i * 2 ≤ n * 2 := Nat.mul_le_mul_right _ hi
      omega)]
    rw [List.take_of_length_le (by rw [List.length_take]; omega)]
theorem insOut_a (L : List (ByteArray × Nat)) (x : ByteArray × Nat) (i : Nat) (hi : i ≤ L.length) : aC (L.take i ++ x :: L.drop i) = (aC L).take (i * 2) ++ ([.string x.1, .int .u8 x.2] : List Value) ++ (aC L).drop (i * 2) := by
  rw [(aC_cut L i hi).1, (aC_cut L i hi).2, show x :: L.drop i = [x] ++ L.drop i from rfl, aC_app, aC_app, List.append_assoc]
  rfl
theorem insLen_a (L : List (ByteArray × Nat)) (x : ByteArray × Nat) (i : Nat) (hi : i ≤ L.length) : (L.take i ++ x :: L.drop i).length = L.length + 1 := by
  simp
  omega
set_option maxRecDepth 100000 in
set_option maxHeartbeats 4000000 in
theorem insMid_a (L : List (ByteArray × Nat)) (x : ByteArray × Nat) (v : Value) (bx base i : Nat) (w : World) (hown : w.ownsRow base 25 2 v L.length (aC L)) (hx : w.heap[bx]? = some (.cells #[.string x.1, .int .u8 x.2] 25)) (hne : ∀ g, v.ownBlock = some g → g ≠ bx) (hl : L.length ≤ 1000000) (hb : base ≤ w.heap.size) (hi : i < L.length) :
    Calls Tryz.prog 83 #[v, .int .i64 i, .slice (some ⟨bx, 0, none⟩) 1 1] w fun e w' => ∃ v', e = .returned v' ∧ w'.ownsRow base 25 2 v' (L.take i ++ x :: L.drop i).length (aC (L.take i ++ x :: L.drop i)) ∧ Below base w w' := by
  obtain ⟨hCl, ⟨_, h0⟩ | ⟨g, cap, cur, rfl, hbg, hg, hnc, hcm, hcs, hct⟩⟩ := hown
  · omega
  have hgb : g ≠ bx := hne g rfl
  have hg0 := hg
  have ho1 := insOut_a L x i (by omega)
  have ho2 := insLen_a L x i (by omega)
  obtain ⟨C, hC⟩ : ∃ C, aC L = C := ⟨_, rfl⟩
  obtain ⟨O, hO⟩ : ∃ O, aC (L.take i ++ x :: L.drop i) = O := ⟨_, rfl⟩
  obtain ⟨N, hN⟩ : ∃ N, (L.take i ++ x :: L.drop i).length = N := ⟨_, rfl⟩
  have hC1 : ∀ v ∈ C, v.oneCell' = true := by rw [← hC]; exact aC_one L
  rw [hO, hC] at ho1
  rw [hN] at ho2
  rw [hC] at hct
  rw [hO, hN]
  clear hO hN
  obtain ⟨n, hn⟩ : ∃ n, L.length = n := ⟨_, rfl⟩
  rw [hn] at ho2 hCl hct hl hi hnc ⊢
  rw [hC] at hCl
  clear hC hn L hne
  unfold maxLen at hcm
  obtain ⟨ti, t1, t2, t3, t4⟩ := info_parts infoAff
  have hsz : (Tryz.prog.info? 25).map (·.size) = some 2 := by rw [t1]; simp [t3]
  have hbxl : bx < w.heap.size := (Array.getElem?_eq_some_iff.1 hx).1
  have hgl : g < w.heap.size := (Array.getElem?_eq_some_iff.1 hg).1
  have hX1 : ∀ v ∈ ([.string x.1, .int .u8 x.2] : List Value), v.oneCell' = true := by intro v hv; simp at hv; rcases hv with rfl | rfl <;> rfl
  have hXs : ∀ (W : World), W.heap[bx]? = some (.cells #[.string x.1, .int .u8 x.2] 25) → ∀ j v, ([.string x.1, .int .u8 x.2] : List Value)[j]? = some v → W.cell? ((⟨bx, 0, none⟩ : Addr).add j) = some v := fun W hW j v hj => by
    rw [Addr.add_lit, Nat.zero_add]
    exact row_cell hW hj
  have hz1 : ¬ ((i : Int) = (n : Int)) := by omega
  have hCi : i * 2 ≤ C.length := by rw [hCl]; exact Nat.mul_le_mul_right _ (by omega)
  by_cases hroom : n + 1 ≤ cap
  · have hw1 : IntKind.i64.wrap ((i : Int) + 1) = (i : Int) + 1 := by rw [IntKind.wrap_i64]; omega
    have hwn : IntKind.i64.wrap ((n : Int) + 1) = (n : Int) + 1 := by rw [IntKind.wrap_i64]; omega
    have hgn0 : ¬ cap = i := by omega
    have hin : i ≤ n := by omega
    have mixed : Tryz.prog.follows .mixedOrders = true := by kernel_rfl
    have hci1 : (i : Int) + 1 ≤ cap := by omega
    have hci2 : (n : Int) + 1 ≤ cap := by omega
    have hci3 : (i : Int) + 1 ≤ (n : Int) + 1 := by omega
    have hci5 : (i : Int) ≤ (n : Int) + 1 := by omega
    have hci4 : ¬ ((cap : Int) < (n : Int) + 1) := by omega
    have hcj : ¬ cap = i + 1 := by omega
    have htn : ((i : Int) + 1).toNat = i + 1 := by omega
    have htn2 : ((n : Int) + 1).toNat = n + 1 := by omega
    have hi0 : (0 : Int) ≤ (i : Int) + 1 := by omega
    have hn0 : (0 : Int) ≤ (n : Int) + 1 := by omega
    have hov : ∀ lb cb, (callFunc 96 #[.slice (some ⟨bx, 0, none⟩) 1 1, .slice (some ⟨g, (i + 1) * 2, none⟩) lb cb]).run Tryz.prog w = .ok (.value (.bool false)) w := fun lb cb => by
      rw [run_callFunc_extern Tryz.func96 (by kernel_rfl) (by kernel_rfl) (by kernel_rfl) (e := Extern.SlicesOverlaps.overlaps #[26, 26] #[4]) (by kernel_rfl),
        Lib.run_overlaps_apart w 26 4 25 Tryz.underlying26 2 (fun w => by simp [Go.sizeOf, typeInfo, t1, t3]) ⟨bx, 0, none⟩ ⟨g, (i + 1) * 2, none⟩ 1 1 lb cb (Ne.symm hgb) 25 25 2 (cap * 2) (by simp [World.shape?, hx]) (by simp [World.shape?, hg, hcs]) (by omega) (by simp [World.frozen?, hx]) (by simp [World.frozen?, hx])]
      rfl
    have hcd : (C.drop (i * 2)).length = (n - i) * 2 := by rw [List.length_drop, hCl]; omega
    have hcl : C.length + 2 ≤ cur.toList.length := by rw [show cur.toList.length = cur.size from Array.length_toList, hcs, hCl]; omega
    have hrw := shift_rows cur.toList C ([.string x.1, .int .u8 x.2] : List Value) (i * 2) 2 hCi rfl (by rw [hCl]; exact hct) hcl
    have ei2 : (i + 1) * 2 = i * 2 + 2 := by omega
    have hcp1 : ∀ ty dc sc, (Builtin.copy_ #[26, 26] ty #[.slice (some ⟨g, (i + 1) * 2, none⟩) (n - i) dc, .slice (some ⟨g, i * 2, none⟩) (n + 1 - i) sc]).run Tryz.prog w.drew = .ok (goInt (Nat.min (n + 1 - i) (n - i) : Nat)) (w.drew.setRow g (cur.toList.take (i * 2 + 2) ++ C.drop (i * 2) ++ cur.toList.drop (i * 2 + 2 + (C.drop (i * 2)).length)).toArray) := fun ty dc sc => by
      rw [ei2]
      exact run_copy_rowk Tryz.prog w.drew 26 26 ty 25 g (i * 2 + 2) (n - i) dc ⟨g, i * 2, none⟩ (n + 1 - i) sc 2 cur 25 (C.drop (i * 2)) Tryz.underlying26 hsz hg (by rw [hcd]; congr 1; exact (Nat.min_eq_right (by omega)).symm) (fun j v hj => by
        rw [List.getElem?_drop] at hj
        rw [Addr.add_lit]
        refine row_cell (show w.drew.heap[g]? = _ from hg) ?_
        have hlt := (List.getElem?_eq_some_iff.1 hj).1
        rw [← hct, List.getElem?_take_of_lt (by omega)] at hj
        exact hj) (by rw [hcd, hcs]; omega) (fun v hv => hC1 v (List.mem_of_mem_drop hv))
    obtain ⟨cur3, hcur3⟩ : ∃ cur3 : List Value, (cur.toList.take (i * 2 + 2) ++ C.drop (i * 2) ++ cur.toList.drop (i * 2 + 2 + (C.drop (i * 2)).length)) = cur3 := ⟨_, rfl⟩
    rw [hcur3] at hcp1 hrw
    have h3l : cur3.length = cur.size := by
      rw [← hcur3]
      simp only [List.length_append, List.length_take, List.length_drop, Array.length_toList, hCl, hcs]
      omega
    obtain ⟨W2, hW2⟩ : ∃ W2, w.drew.setRow g cur3.toArray = W2 := ⟨_, rfl⟩
    have hg2 : W2.heap[g]? = some (.cells cur3.toArray 25 (0, 0)) := by rw [← hW2]; exact setRow_heap w.drew g _ _ _ _ (show w.drew.heap[g]? = _ from hg)
    have hx2 : W2.heap[bx]? = some (.cells #[.string x.1, .int .u8 x.2] 25) := by rw [← hW2, setRow_other w.drew g bx _ (Ne.symm hgb)]; exact hx
    have b2 : Below base w W2 := by rw [← hW2]; exact below_rowG ((Below.refl _ w).drew.mono hb) hbg _
    rw [hW2] at hcp1
    have hcp2 : ∀ ty dc, (Builtin.copy_ #[26, 26] ty #[.slice (some ⟨g, i * 2, none⟩) (n + 1 - i) dc, .slice (some ⟨bx, 0, none⟩) 1 1]).run Tryz.prog W2 = .ok (goInt (Nat.min 1 (n + 1 - i) : Nat)) (W2.setRow g (cur3.take (i * 2) ++ ([.string x.1, .int .u8 x.2] : List Value) ++ cur3.drop (i * 2 + ([.string x.1, .int .u8 x.2] : List Value).length)).toArray) := fun ty dc =>
      run_copy_rowk Tryz.prog W2 26 26 ty 25 g (i * 2) (n + 1 - i) dc ⟨bx, 0, none⟩ 1 1 2 cur3.toArray 25 ([.string x.1, .int .u8 x.2] : List Value) Tryz.underlying26 hsz hg2 (by rw [show Nat.min 1 (n + 1 - i) = 1 from Nat.min_eq_left (by omega)]; rfl) (hXs W2 hx2) (by rw [List.size_toArray, h3l, hcs]; show i * 2 + 2 ≤ _; omega) hX1
    obtain ⟨R4, hR4⟩ : ∃ R4, (cur3.take (i * 2) ++ ([.string x.1, .int .u8 x.2] : List Value) ++ cur3.drop (i * 2 + ([.string x.1, .int .u8 x.2] : List Value).length)) = R4 := ⟨_, rfl⟩
    rw [hR4] at hrw hcp2
    have hgW := setRow_heap W2 g _ R4.toArray _ _ hg2
    have bW : Below base w (W2.setRow g R4.toArray) := below_rowG b2 hbg _
    have HO := hide (show (W2.setRow g R4.toArray).ownsRow base 25 2 (.slice (some ⟨g, 0, none⟩) (n + 1) cap) N O by
      rw [ho2, ho1]
      exact ⟨by rw [← hrw.1, List.length_take, hrw.2, show cur.toList.length = cur.size from Array.length_toList, hcs, hCl]; omega, .inr ⟨g, cap, _, rfl, hbg, hgW, hroom, by unfold maxLen; omega, by rw [List.size_toArray, hrw.2, show cur.toList.length = cur.size from Array.length_toList, hcs], by rw [← hrw.1, hCl, show (n + 1) * 2 = n * 2 + 2 by omega]⟩⟩)
    have HB := hide bW
    clear ei2 hrw hR4 bW hgW hg2 hW2 hcur3 h3l b2 hx2 hg hg0 hx hXs hX1 hcd ho1 hct hcs hCl hcl
    go_enter Tryz.func83, Tryz.ntmps83
    go_wp2_with (simp only [hov])
    clear hov
    go_region_law_o (refine step_copy_runI rfl _ _ 26 26 rfl _ _ (by simp [Act.eval, Act.put]) (by simp [Act.eval, Act.put]) (hcp1 _ _ _) ?_)
    go_wp2_with fail
    go_ret
    exact ⟨_, rfl, HO.out, HB.out⟩
  · have hcn : cap = n := by omega
    subst hcn
    obtain ⟨W1, c2, cur2, hap, hg1, hs2, hc2, hc2m, ht2, b1⟩ := zeros_a (base := base) hg (show i ≤ cap by omega) hl (by omega) hb
    unfold maxLen at hc2m

    go_enter Tryz.func83, Tryz.ntmps83
    have ei : ((cap + 1 - i : Nat) : Int) = (cap : Int) + 1 - i := by omega
    rw [ei] at hap
    clear ei
    go_wp2_with (at_builtin; refine stopNd ?_)
    unfold Hid
    refine l_val rfl _ (ex_appN rfl rfl rfl (hap _)) ?_
    have hc2i : ¬ c2 = i := by omega
    have hgG : g ≠ w.heap.size := by omega
    have hbG : bx ≠ w.heap.size := by omega
    have hx1 := (b1.block _ hbxl).trans hx
    have hg1' := (b1.block _ hgl).trans hg0
    obtain ⟨G, hG⟩ : ∃ G, w.heap.size = G := ⟨_, rfl⟩
    have hsz2 : (C.length + 2) ≤ cur2.toList.length := by rw [show cur2.toList.length = cur2.size from Array.length_toList, hs2, hCl]; omega
    have hcp1 : ∀ ty dc, (Builtin.copy_ #[26, 26] ty #[.slice (some ⟨G, i * 2, none⟩) (cap + 1 - i) dc, .slice (some ⟨bx, 0, none⟩) 1 1]).run Tryz.prog W1 = .ok (goInt (Nat.min 1 (cap + 1 - i) : Nat)) (W1.setRow G (cur2.toList.take (i * 2) ++ ([.string x.1, .int .u8 x.2] : List Value) ++ cur2.toList.drop (i * 2 + ([.string x.1, .int .u8 x.2] : List Value).length)).toArray) := fun ty dc =>
      run_copy_rowk Tryz.prog W1 26 26 ty 25 G (i * 2) (cap + 1 - i) dc ⟨bx, 0, none⟩ 1 1 2 cur2 25 ([.string x.1, .int .u8 x.2] : List Value) Tryz.underlying26 hsz (by rw [← hG]; exact hg1) (by rw [show Nat.min 1 (cap + 1 - i) = 1 from Nat.min_eq_left (by omega)]; rfl) (hXs W1 hx1) (by show i * 2 + 2 ≤ cur2.size; omega) hX1
    obtain ⟨cur3, hcur3⟩ : ∃ cur3 : List Value, cur2.toList.take (i * 2) ++ ([.string x.1, .int .u8 x.2] : List Value) ++ cur2.toList.drop (i * 2 + ([.string x.1, .int .u8 x.2] : List Value).length) = cur3 := ⟨_, rfl⟩
    rw [hcur3] at hcp1
    obtain ⟨W2, hW2⟩ : ∃ W2, W1.setRow G cur3.toArray = W2 := ⟨_, rfl⟩
    have hg2 : W2.heap[G]? = some (.cells cur3.toArray 25 (0, 0)) := by rw [← hW2]; exact setRow_heap W1 G _ _ _ _ (by rw [← hG]; exact hg1)
    have b2 : Below w.heap.size w W2 := by rw [← hW2]; exact below_rowG b1 (by omega) _
    have hg2' : W2.heap[g]? = some (.cells cur 25 (0, 0)) := (b2.block _ hgl).trans hg0
    rw [hW2] at hcp1
    rw [hG]
    go_wp2_with fail
    have hcd : (C.drop (i * 2)).length = (cap - i) * 2 := by rw [List.length_drop, hCl]; omega
    have hrw := ins_rows cur2.toList C ([.string x.1, .int .u8 x.2] : List Value) (i * 2) 2 hCi rfl (by rw [ht2]; conv => rhs; rw [← hct, List.take_take, Nat.min_eq_left (by omega)]) hsz2
    rw [hcur3] at hrw
    have h3l : cur3.length = cur2.toList.length := by rw [← hcur3]; simp; omega
    have ei2 : (i + 1) * 2 = i * 2 + 2 := by omega
    have hcp2 : ∀ (W : World), W.heap = W2.heap → ∀ ty dc sc, (Builtin.copy_ #[26, 26] ty #[.slice (some ⟨G, (i + 1) * 2, none⟩) (cap - i) dc, .slice (some ⟨g, i * 2, none⟩) (cap - i) sc]).run Tryz.prog W = .ok (goInt (Nat.min (cap - i) (cap - i) : Nat)) (W.setRow G (cur3.take (i * 2 + 2) ++ C.drop (i * 2) ++ cur3.drop (i * 2 + 2 + (C.drop (i * 2)).length)).toArray) := fun W hW ty dc sc => by
      rw [ei2]
      exact run_copy_rowk Tryz.prog W 26 26 ty 25 G (i * 2 + 2) (cap - i) dc ⟨g, i * 2, none⟩ (cap - i) sc 2 cur3.toArray 25 (C.drop (i * 2)) Tryz.underlying26 hsz (by rw [hW]; exact hg2) (by rw [hcd]; congr 1; exact (Nat.min_self _).symm) (fun j v hj => by
        rw [List.getElem?_drop] at hj
        rw [Addr.add_lit]
        refine row_cell (by rw [hW]; exact hg2') ?_
        have hlt := (List.getElem?_eq_some_iff.1 hj).1
        rw [← hct, List.getElem?_take_of_lt (by omega)] at hj
        exact hj) (by rw [List.size_toArray, h3l, hcd]; omega) (fun v hv => hC1 v (List.mem_of_mem_drop hv))
    clear ei2
    have hcp3 := fun ty dc sc => hcp2 W2.drew rfl ty dc sc
    clear hcp1 hcp2
    have hgn0 : ¬ cap = i := by omega
    have hin : i ≤ cap := by omega
    have mixed : Tryz.prog.follows .mixedOrders = true := by kernel_rfl
    have hci1 : (i : Int) + 1 ≤ cap + 1 := by omega
    have hc2j : ¬ c2 = i + 1 := by omega
    have hw1 : IntKind.i64.wrap ((i : Int) + 1) = (i : Int) + 1 := by rw [IntKind.wrap_i64]; omega
    have htn : ((i : Int) + 1).toNat = i + 1 := by omega
    have hi0 : (0 : Int) ≤ (i : Int) + 1 := by omega
    obtain ⟨R4, hR4⟩ : ∃ R4, (cur3.take (i * 2 + 2) ++ C.drop (i * 2) ++ cur3.drop (i * 2 + 2 + (C.drop (i * 2)).length)) = R4 := ⟨_, rfl⟩
    rw [hR4] at hrw hcp3
    have hgW := setRow_heap W2.drew G _ R4.toArray _ _ (show W2.drew.heap[G]? = _ from hg2)
    have bW : Below w.heap.size w (W2.drew.setRow G R4.toArray) := below_rowG b2.drew (by omega) _
    have HO := hide (show (W2.drew.setRow G R4.toArray).ownsRow base 25 2 (.slice (some ⟨G, 0, none⟩) (cap + 1) c2) N O by
      rw [ho2, ho1]
      have hl1 := congrArg List.length hrw.1
      exact ⟨by rw [← hrw.1, List.length_take, hrw.2, show cur2.toList.length = cur2.size from Array.length_toList, hs2, hCl]; omega, .inr ⟨G, c2, _, rfl, by omega, hgW, hc2, by unfold maxLen; omega, by rw [List.size_toArray, hrw.2, show cur2.toList.length = cur2.size from Array.length_toList, hs2], by rw [← hrw.1, hCl, show (cap + 1) * 2 = cap * 2 + 2 by omega]⟩⟩)
    have HB := hide (bW.mono hb)
    clear hrw hR4 bW hgW hg2 hg2' hW2 hcur3 h3l b2 b1 hx1 hg1' hg1 hsz2 ht2 hap hg hg0 hx hXs hX1 hcd ho1 hct hcs hCl hs2
    go_region_law_o (refine step_copy_runI rfl _ _ 26 26 rfl _ _ (by simp [Act.eval, Act.put]) (by simp [Act.eval, Act.put]) (hcp3 _ _ _) ?_)
    go_wp2_with fail
    go_ret
    exact ⟨_, rfl, HO.out, HB.out⟩
end Go.Proofs.YtffjmkngdjbjlaaGreatDoor
