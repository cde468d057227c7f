/- CollectDepth: a subscription of a collection reaches just so far down as its depth says. -/
import Derived.Test.YtffjmkngdjbjlaaNd9
import Derived.Test.YtffjmkngdjbjlaaC11
namespace Go.Proofs.Ytffjmkngdjbjlaa
open Go.RowKit

theorem conv_ltN {w : World} {b n : Nat} {c : Int} (hn : n < 12) (hc : c = 97 + n) (h : w.heap[b]? = some (.cells #[.int .u8 c] 5)) : (convert 23 9 (.slice (some ⟨b, 0, none⟩) 1 1)).run Try.prog w = .ok (.string (ltN n)) w := by
  have hx := run_convert_bytes_back (P := Try.prog) w 23 9 5 ⟨b, 0, none⟩ 1 [UInt8.ofNat (97 + n)] Try.underlying23 Try.underlying5 Try.underlying9 (fun j hj => by
    match j, hj with
    | 0, _ =>
      simp [Addr.add, World.cell?, h]
      omega)
  exact hx
def rowC (f d : Nat) (vs : Nat → NdW) (k : Nat) : List Value := (List.range k).flatMap fun i => ndC (ndK f d i) (vs i)
/-- Where the lists of the node number i lie. -/
def LaidN (f d i : Nat) (w : World) (v : NdW) : Prop :=
  v.ia = none ∧ v.ic = 0 ∧ (∃ a, v.aa = some ⟨a, 0, none⟩ ∧ v.ac = 1 ∧ w.heap[a]? = some (.cells #[.string od, .int .u8 5] 26)) ∧
  ((i ≠ f ∧ v.sa = none ∧ v.sc = 0) ∨ (i = f ∧ ∃ b, v.sa = some ⟨b, 0, none⟩ ∧ v.sc = 1 ∧ w.heap[b]? = some (.cells #[.string sd, .bool false, .int .i64 (d : Int)] 34)))
/-- One node more in a row of the call's own. -/
theorem append_nd (w : World) {ops : Array Oper} {rest : List Oper} {o : Oper} {a : Act} {Q : Exit → Act → World → Prop} (hg : o.guard = none) (s x : Operand)
    (hop : o.op = Op.call { callee := Callee.builtin Builtin.append, args := #[s, x], argTypes := #[22, 22] }) (base : Nat) (v : Value) (n : Nat) (xs : List Value) (hs : a.eval s = v) (hE : w.ownsRow base 32 8 v n xs) (y : Nd) (vv : NdW) (bx : Nat)
    (hx : a.eval x = .slice (some ⟨bx, 0, none⟩) 1 1) (hc : w.heap[bx]? = some (.cells (ndA y vv) 32)) (hl : n ≤ 1000) (hb : base ≤ w.heap.size)
    (hK : ∀ v' w', w'.ownsRow base 32 8 v' (n + 1) (xs ++ ndC y vv) → w.grownBy w' v.ownBlock → wpList Try.prog ops Q rest (a.put o.dst v') w') : wpList Try.prog ops Q (o :: rest) a w := by
  obtain ⟨i, hi, hz0, hz1, hz2⟩ := info_parts infoNd
  obtain ⟨v', w', hrun, r1, r2, _, r4⟩ := run_append_own_at (P := Try.prog) w base 22 o.type 32 i _ 8 120 Try.underlying22 hi hz0 hz1 hz2 rfl (by decide) v n xs hE ⟨bx, 0, none⟩ 1 1 (ndC y vv) rfl (fun j z hj => by
    rw [Addr.add_mid, cell_of_row w bx (0 + j) _ _ _ hc]
    simpa [ndA, ndC] using hj) (by simp [ndC, Value.oneCell']) (by unfold maxLen; omega) (by omega) hb
  refine wpList_plain hg fun K hK' => ?_
  unfold Oper.wp
  simp [execOp, hop, resolve, invoke, builtin, hs, hx, hrun, Result.andThen]
  exact hK' _ _ (hK v' w' r1 r2)
theorem LaidN.keep {f d i : Nat} {w w' : World} {v : NdW} (h : LaidN f d i w v) (hk : ∀ (j : Nat) (cs : Array Value) (T : TypeId), w.heap[j]? = some (.cells cs T) → T ≠ 32 → w'.heap[j]? = w.heap[j]?) : LaidN f d i w' v := by
  obtain ⟨h1, h2, ⟨a, h3, h4, h5⟩, h6⟩ := h
  refine ⟨h1, h2, ⟨a, h3, h4, (hk a _ _ h5 (by decide)).trans h5⟩, ?_⟩
  rcases h6 with h6 | ⟨h6, b, h7, h8, h9⟩
  · exact .inl h6
  · exact .inr ⟨h6, b, h7, h8, (hk b _ _ h9 (by decide)).trans h9⟩
theorem rowC_more (f d : Nat) (vs : Nat → NdW) (k : Nat) (vv : NdW) : rowC f d (fun i => if i = k then vv else vs i) (k + 1) = rowC f d vs k ++ ndC (ndK f d k) vv := by
  unfold rowC
  rw [List.range_succ, List.flatMap_append]
  have h1 : (List.range k).map (fun i => ndC (ndK f d i) (if i = k then vv else vs i)) = (List.range k).map (fun i => ndC (ndK f d i) (vs i)) := List.map_congr_left fun i hi => by
    have : i ≠ k := by have := List.mem_range.1 hi; omega
    simp [this]
  rw [List.flatMap_def, List.flatMap_def, h1]
  simp [List.flatMap_def]
theorem rowC_len (f d : Nat) (vs : Nat → NdW) (n : Nat) : (rowC f d vs n).length = n * 8 := by
  induction n with
  | zero => rfl
  | succ n ih =>
    unfold rowC at ih ⊢
    rw [List.range_succ, List.flatMap_append, List.length_append, ih]
    simp [ndC]
    omega
theorem rowC_get (f d : Nat) (vs : Nat → NdW) (k j : Nat) (hj : j < 8) : ∀ n, k < n → (rowC f d vs n)[k * 8 + j]? = (ndC (ndK f d k) (vs k))[j]?
  | 0, h => by omega
  | n + 1, h => by
    have e : rowC f d vs (n + 1) = rowC f d vs n ++ ndC (ndK f d n) (vs n) := by
      unfold rowC
      rw [List.range_succ, List.flatMap_append]
      simp
    have hl := rowC_len f d vs n
    rw [e]
    by_cases hkn : k = n
    · subst hkn
      rw [List.getElem?_append_right (by omega), hl, show k * 8 + j - k * 8 = j by omega]
    · rw [List.getElem?_append_left (by omega)]
      exact rowC_get f d vs k j hj n (by omega)
theorem nds_own {f d base : Nat} {w : World} {ga : Option Addr} {gc : Nat} {vs : Nat → NdW} (h : w.ownsRow base 32 8 (.slice ga (f + 1) gc) (f + 1) (rowC f d vs (f + 1))) (hl : ∀ i, i < f + 1 → LaidN f d i w (vs i)) (hf : f < 100) : NdsMem w.heap.size w ga (nsL f d) vs := by
  refine ⟨by rw [ns_len]; omega, fun k n hk => ?_⟩
  have hkl : k < f + 1 := by have := (List.getElem?_eq_some_iff.1 hk).1; rw [ns_len] at this; exact this
  rw [ns_at f d k hkl] at hk
  cases hk
  obtain ⟨h1, h2, ⟨a, h3, h4, h5⟩, h6⟩ := hl k hkl
  have hal := (Array.getElem?_eq_some_iff.1 h5).1
  refine ⟨⟨⟨by simp [ndK], fun i x hx => ?_⟩, ⟨by simp only [ndK]; split <;> simp, fun i x hx => ?_⟩, by rw [h4]; simp [ndK], ?_⟩, ?_⟩
  · have hx' : [(od, 5)][i]? = some x := hx
    match i, hx' with
    | 0, hx' =>
      simp at hx'
      subst hx'
      exact ⟨a, 0, h3, hal, by simp [World.cell?, h5], by simp [World.cell?, h5]⟩
  · rcases h6 with ⟨h6, _⟩ | ⟨h6, b, h7, h8, h9⟩
    · have hx' : (if k = f then [(sd, false, (d : Int))] else [])[i]? = some x := hx
      rw [if_neg h6] at hx'
      simp at hx'
    · have hx' : (if k = f then [(sd, false, (d : Int))] else [])[i]? = some x := hx
      rw [if_pos h6] at hx'
      match i, hx' with
      | 0, hx' =>
        simp at hx'
        subst hx'
        exact ⟨b, 0, h7, (Array.getElem?_eq_some_iff.1 h9).1, by simp [World.cell?, h9], by simp [World.cell?, h9], by simp [World.cell?, h9]⟩
  · rcases h6 with ⟨h6, _, h8⟩ | ⟨h6, b, h7, h8, h9⟩
    · rw [h8]
      simp [ndK, h6]
    · rw [h8]
      simp [ndK, h6]
  · obtain ⟨_, ⟨e1, e2⟩ | ⟨g, cap, cur, e1, x1, x2, x3, x4, x5, x6⟩⟩ := h
    · omega
    · have e1' : ga = some ⟨g, 0, none⟩ := by cases e1; rfl
      refine ⟨g, 0, e1', (Array.getElem?_eq_some_iff.1 x2).1, fun j hj => ?_⟩
      have hc := rowC_get f d vs k j hj (f + 1) hkl
      have hr : (ndC (ndK f d k) (vs k))[j]? = some ((ndC (ndK f d k) (vs k))[j]'hj) := List.getElem?_eq_getElem hj
      rw [hr, ← x6, List.getElem?_take_of_lt (by omega)] at hc
      simp only [World.cell?, x2, Nat.zero_add]
      simpa using hc
set_option maxRecDepth 100000 in
set_option maxHeartbeats 8000000 in
theorem collectDepth_any (dp fr : Nat) (hdp : dp < 256) (hfr : fr < 256) (w : World) :
    Calls Try.prog 3 #[.int .u8 dp, .int .u8 fr] w fun e w' => e = .returned (.bool true) ∧ Below w.heap.size w w' := by
  obtain ⟨d, hd, hd12⟩ : ∃ d : Nat, (dp : Int) % 12 = d ∧ d < 12 := ⟨dp % 12, by omega, by omega⟩
  obtain ⟨f, hf, hf10⟩ : ∃ f : Nat, (fr : Int) % 10 = f ∧ f < 10 := ⟨fr % 10, by omega, by omega⟩
  go_enter Try.func3, Try.ntmps3
  go_wp2_with fail
  rw [hd, hf]
  clear hd hf
  go_loopw [7, 8] (fun lv iv wr => ∃ (k : Nat) (vs : Nat → NdW) (ga : Option Addr) (gc : Nat), k ≤ f + 1 ∧ iv = .int .i64 k ∧ lv = .slice ga k gc ∧ wr.ownsRow w.heap.size 32 8 (.slice ga k gc) k (rowC f d vs k) ∧ (∀ i, i < k → LaidN f d i wr (vs i)) ∧ Below w.heap.size w wr) (fun _ iv _ => f + 1 - (intOf iv).toNat)
  case atStart => exact ⟨0, fun _ => ⟨none, 0, none, 0, none, 0⟩, none, 0, Nat.zero_le _, rfl, rfl, World.ownsRow_nil _ _ _ _, fun i hi => by omega, Below.refl _ _⟩
  case round =>
    obtain ⟨k, vs, ga, gc, hk, rfl, rfl, hown, hlaid, hbw⟩ := hrel
    have hzw := hbw.size
    have u1 : IntKind.u8.wrap (k : Int) = k := by show (k : Int) % 256 = k; omega
    have u2 : IntKind.u8.wrap ((97 : Int) + k) = 97 + k := by show ((97 : Int) + k) % 256 = _; omega
    have u3 : IntKind.u8.wrap ((97 : Int) + k + 1) = 97 + k + 1 := by show ((97 : Int) + k + 1) % 256 = _; omega
    have u4 : IntKind.i64.wrap ((k : Int) + 1) = k + 1 := by rw [IntKind.wrap_i64]; omega
    by_cases hle : (k : Int) ≤ f
    · have f1 := World.alloc_heap_new wr (.cells #[.int .u8 ((97 : Int) + k)] 5)
      have hcv := conv_ltN (n := k) (by omega) rfl f1
      have HI := hide (And.intro hown (And.intro hlaid hbw))
      clear hown hlaid hbw f1
      by_cases hlt : (k : Int) < f
      · have hne : ¬ ((k : Int) = f) := by omega
        have f2 := World.alloc_heap_new (((wr.alloc (.cells #[.int .u8 ((97 : Int) + k)] 5)).alloc (.cells #[.string ⟨#[111, 64, 100]⟩, .int .u8 5] 26)).alloc (.cells #[.string (ltN k), .bool (decide (0 < k)), .int .u8 0, .int .i64 0, .slice (some ⟨wr.heap.size + 1, 0, none⟩) 1 1, .slice none 0 0, .slice none 0 0, .string ⟨#[]⟩] 32)) (.cells #[.int .u8 ((97 : Int) + k + 1)] 5)
        have zX : (((wr.alloc (.cells #[.int .u8 ((97 : Int) + k)] 5)).alloc (.cells #[.string ⟨#[111, 64, 100]⟩, .int .u8 5] 26)).alloc (.cells #[.string (ltN k), .bool (decide (0 < k)), .int .u8 0, .int .i64 0, .slice (some ⟨wr.heap.size + 1, 0, none⟩) 1 1, .slice none 0 0, .slice none 0 0, .string ⟨#[]⟩] 32)).heap.size = wr.heap.size + 1 + 1 + 1 := by simp
        rw [zX] at f2
        have hcv2 := conv_ltN (n := k + 1) (by omega) (by omega) f2
        clear f2
        go_wp2_with (at_builtin; refine stopNd ?_)
        unfold Hid
        have hA : ndA (ndK f d k) ⟨some ⟨wr.heap.size + 1, 0, none⟩, 1, none, 0, none, 0⟩ = #[.string (ltN k), .bool (decide (0 < k)), .int .u8 0, .int .i64 0, .slice (some ⟨wr.heap.size + 1, 0, none⟩) 1 1, .slice none 0 0, .slice none 0 0, .string (ltN (k + 1))] := by simp [ndA, ndK, show ¬ k = f by omega, show k < f by omega, od]
        obtain ⟨W4, hW4⟩ : ∃ W4, ((((wr.alloc (.cells #[.int .u8 ((97 : Int) + k)] 5)).alloc (.cells #[.string ⟨#[111, 64, 100]⟩, .int .u8 5] 26)).alloc (.cells #[.string (ltN k), .bool (decide (0 < k)), .int .u8 0, .int .i64 0, .slice (some ⟨wr.heap.size + 1, 0, none⟩) 1 1, .slice none 0 0, .slice none 0 0, .string (ltN (k + 1))] 32)).alloc (.cells #[.int .u8 ((97 : Int) + k + 1)] 5)) = W4 := ⟨_, rfl⟩
        have b4 : Below wr.heap.size wr W4 := by rw [← hW4]; exact ((((Below.refl _ wr).alloc (Nat.le_refl _) _).alloc (by simp only [World.size_alloc]; omega) _).alloc (by simp only [World.size_alloc]; omega) _).alloc (by simp only [World.size_alloc]; omega) _
        have z4 : W4.heap.size = wr.heap.size + 1 + 1 + 1 + 1 := by rw [← hW4]; simp
        have ha4 : W4.heap[wr.heap.size + 1]? = some (.cells #[.string ⟨#[111, 64, 100]⟩, .int .u8 5] 26) := by
          rw [← hW4, Below.heap_alloc _ _ _ (by simp only [World.size_alloc]; omega), Below.heap_alloc _ _ _ (by simp only [World.size_alloc]; omega)]
          have h := World.alloc_heap_new (wr.alloc (.cells #[.int .u8 ((97 : Int) + k)] 5)) (.cells #[.string ⟨#[111, 64, 100]⟩, .int .u8 5] 26)
          rw [World.size_alloc] at h
          exact h
        have he4 : W4.heap[wr.heap.size + 1 + 1 + 1]? = some (.cells #[.int .u8 ((97 : Int) + k + 1)] 5) := by
          have h := World.alloc_heap_new (((wr.alloc (.cells #[.int .u8 ((97 : Int) + k)] 5)).alloc (.cells #[.string ⟨#[111, 64, 100]⟩, .int .u8 5] 26)).alloc (.cells #[.string (ltN k), .bool (decide (0 < k)), .int .u8 0, .int .i64 0, .slice (some ⟨wr.heap.size + 1, 0, none⟩) 1 1, .slice none 0 0, .slice none 0 0, .string (ltN (k + 1))] 32)) (.cells #[.int .u8 ((97 : Int) + k + 1)] 5)
          rw [hW4, World.size_alloc, World.size_alloc, World.size_alloc] at h
          exact h
        rw [hW4]
        obtain ⟨hown, hlaid, hbw⟩ := HI.out
        have hown5 : (W4.alloc (.cells #[.string (ltN k), .bool (decide (0 < k)), .int .u8 0, .int .i64 0, .slice (some ⟨wr.heap.size + 1, 0, none⟩) 1 1, .slice none 0 0, .slice none 0 0, .string (ltN (k + 1))] 32)).ownsRow w.heap.size 32 8 (.slice ga k gc) k (rowC f d vs k) := own_same hown (fun g e => (Below.heap_alloc _ _ _ (by have := own_lt hown g e; omega)).trans (b4.block g (own_lt hown g e)))
        have hrow := World.alloc_heap_new W4 (.cells #[.string (ltN k), .bool (decide (0 < k)), .int .u8 0, .int .i64 0, .slice (some ⟨wr.heap.size + 1, 0, none⟩) 1 1, .slice none 0 0, .slice none 0 0, .string (ltN (k + 1))] 32)
        rw [z4, ← hA] at hrow
        rw [← hA] at hown5 ⊢
        refine append_nd _ rfl _ _ rfl w.heap.size _ k (rowC f d vs k) rfl hown5 (ndK f d k) ⟨some ⟨wr.heap.size + 1, 0, none⟩, 1, none, 0, none, 0⟩ (wr.heap.size + 1 + 1 + 1 + 1) rfl hrow (by omega) (by simp; omega) ?_
        intro v7 w7 hown7 hgr7
        obtain ⟨g7, c7, hv7⟩ := own_shape1 hown7
        subst hv7
        have B5 : Below w.heap.size w (W4.alloc (.cells (ndA (ndK f d k) ⟨some ⟨wr.heap.size + 1, 0, none⟩, 1, none, 0, none, 0⟩) 32)) := (hbw.trans (b4.mono hzw)).alloc (by omega) _
        have B7 : Below w.heap.size w w7 := B5.grown hgr7 B5.size (fun g e => own_base hown5 g e)
        have keep : ∀ (j : Nat) (cs : Array Value) (T : TypeId), W4.heap[j]? = some (.cells cs T) → T ≠ 32 → w7.heap[j]? = W4.heap[j]? := fun j cs T hj hT => by
          have hjl : j < W4.heap.size := (Array.getElem?_eq_some_iff.1 hj).1
          have hj5 : (W4.alloc (.cells (ndA (ndK f d k) ⟨some ⟨wr.heap.size + 1, 0, none⟩, 1, none, 0, none, 0⟩) 32)).heap[j]? = some (.cells cs T) := (Below.heap_alloc _ _ _ hjl).trans hj
          exact (hgr7.block j (by simp; omega) (fun e => own_ne0 hown5 hj5 hT j e.symm rfl)).trans (Below.heap_alloc _ _ _ hjl)
        have laid7 : ∀ i, i < k + 1 → LaidN f d i w7 ((fun i => if i = k then ⟨some ⟨wr.heap.size + 1, 0, none⟩, 1, none, 0, none, 0⟩ else vs i) i) := fun i hi => by
          by_cases hik : i = k
          · subst hik
            simp only [if_true]
            exact ⟨rfl, rfl, ⟨_, rfl, rfl, (keep _ _ _ ha4 (by decide)).trans ha4⟩, .inl ⟨by omega, rfl, rfl⟩⟩
          · simp only [hik, if_false]
            refine (hlaid i (by omega)).keep fun j cs T hj hT => ?_
            have hjl := (Array.getElem?_eq_some_iff.1 hj).1
            have hj4 := (b4.block j hjl).trans hj
            exact (keep j cs T hj4 hT).trans (b4.block j hjl)
        have H7 := hide (And.intro hown7 (And.intro B7 laid7))
        clear hown7 hgr7 B5 B7 keep laid7 hrow hown5 hown hlaid hbw b4 z4 ha4 he4 hW4 hA
        go_wp2_with fail
        refine ⟨⟨k + 1, fun i => if i = k then ⟨some ⟨wr.heap.size + 1, 0, none⟩, 1, none, 0, none, 0⟩ else vs i, g7, c7, by omega, by simp, rfl, by rw [rowC_more]; exact H7.out.1, H7.out.2.2, H7.out.2.1⟩, by (simp [intOf] <;> omega)⟩
      · have hkf : f = k := by omega
        subst hkf
        go_wp2_with (at_builtin; refine stopNd ?_)
        unfold Hid
        have hA : ndA (ndK f d f) ⟨some ⟨wr.heap.size + 1, 0, none⟩, 1, some ⟨wr.heap.size + 1 + 1 + 1, 0, none⟩, 1, none, 0⟩ = #[.string (ltN f), .bool (decide (0 < f)), .int .u8 0, .int .i64 0, .slice (some ⟨wr.heap.size + 1, 0, none⟩) 1 1, .slice (some ⟨wr.heap.size + 1 + 1 + 1, 0, none⟩) 1 1, .slice none 0 0, .string ⟨#[]⟩] := by simp [ndA, ndK, od]
        obtain ⟨W4, hW4⟩ : ∃ W4, ((((wr.alloc (.cells #[.int .u8 ((97 : Int) + f)] 5)).alloc (.cells #[.string ⟨#[111, 64, 100]⟩, .int .u8 5] 26)).alloc (.cells #[.string (ltN f), .bool (decide (0 < f)), .int .u8 0, .int .i64 0, .slice (some ⟨wr.heap.size + 1, 0, none⟩) 1 1, .slice (some ⟨wr.heap.size + 1 + 1 + 1, 0, none⟩) 1 1, .slice none 0 0, .string ⟨#[]⟩] 32)).alloc (.cells #[.string ⟨#[115, 64, 100]⟩, .bool false, .int .i64 (d : Int)] 34)) = W4 := ⟨_, rfl⟩
        have b4 : Below wr.heap.size wr W4 := by rw [← hW4]; exact ((((Below.refl _ wr).alloc (Nat.le_refl _) _).alloc (by simp only [World.size_alloc]; omega) _).alloc (by simp only [World.size_alloc]; omega) _).alloc (by simp only [World.size_alloc]; omega) _
        have z4 : W4.heap.size = wr.heap.size + 1 + 1 + 1 + 1 := by rw [← hW4]; simp
        have ha4 : W4.heap[wr.heap.size + 1]? = some (.cells #[.string ⟨#[111, 64, 100]⟩, .int .u8 5] 26) := by
          rw [← hW4, Below.heap_alloc _ _ _ (by simp only [World.size_alloc]; omega), Below.heap_alloc _ _ _ (by simp only [World.size_alloc]; omega)]
          have h := World.alloc_heap_new (wr.alloc (.cells #[.int .u8 ((97 : Int) + f)] 5)) (.cells #[.string ⟨#[111, 64, 100]⟩, .int .u8 5] 26)
          rw [World.size_alloc] at h
          exact h
        have he4 : W4.heap[wr.heap.size + 1 + 1 + 1]? = some (.cells #[.string ⟨#[115, 64, 100]⟩, .bool false, .int .i64 (d : Int)] 34) := by
          have h := World.alloc_heap_new (((wr.alloc (.cells #[.int .u8 ((97 : Int) + f)] 5)).alloc (.cells #[.string ⟨#[111, 64, 100]⟩, .int .u8 5] 26)).alloc (.cells #[.string (ltN f), .bool (decide (0 < f)), .int .u8 0, .int .i64 0, .slice (some ⟨wr.heap.size + 1, 0, none⟩) 1 1, .slice (some ⟨wr.heap.size + 1 + 1 + 1, 0, none⟩) 1 1, .slice none 0 0, .string ⟨#[]⟩] 32)) (.cells #[.string ⟨#[115, 64, 100]⟩, .bool false, .int .i64 (d : Int)] 34)
          rw [hW4, World.size_alloc, World.size_alloc, World.size_alloc] at h
          exact h
        rw [hW4]
        obtain ⟨hown, hlaid, hbw⟩ := HI.out
        have hown5 : (W4.alloc (.cells #[.string (ltN f), .bool (decide (0 < f)), .int .u8 0, .int .i64 0, .slice (some ⟨wr.heap.size + 1, 0, none⟩) 1 1, .slice (some ⟨wr.heap.size + 1 + 1 + 1, 0, none⟩) 1 1, .slice none 0 0, .string ⟨#[]⟩] 32)).ownsRow w.heap.size 32 8 (.slice ga f gc) f (rowC f d vs f) := own_same hown (fun g e => (Below.heap_alloc _ _ _ (by have := own_lt hown g e; omega)).trans (b4.block g (own_lt hown g e)))
        have hrow := World.alloc_heap_new W4 (.cells #[.string (ltN f), .bool (decide (0 < f)), .int .u8 0, .int .i64 0, .slice (some ⟨wr.heap.size + 1, 0, none⟩) 1 1, .slice (some ⟨wr.heap.size + 1 + 1 + 1, 0, none⟩) 1 1, .slice none 0 0, .string ⟨#[]⟩] 32)
        rw [z4, ← hA] at hrow
        rw [← hA] at hown5 ⊢
        refine append_nd _ rfl _ _ rfl w.heap.size _ f (rowC f d vs f) rfl hown5 (ndK f d f) ⟨some ⟨wr.heap.size + 1, 0, none⟩, 1, some ⟨wr.heap.size + 1 + 1 + 1, 0, none⟩, 1, none, 0⟩ (wr.heap.size + 1 + 1 + 1 + 1) rfl hrow (by omega) (by simp; omega) ?_
        intro v7 w7 hown7 hgr7
        obtain ⟨g7, c7, hv7⟩ := own_shape1 hown7
        subst hv7
        have B5 : Below w.heap.size w (W4.alloc (.cells (ndA (ndK f d f) ⟨some ⟨wr.heap.size + 1, 0, none⟩, 1, some ⟨wr.heap.size + 1 + 1 + 1, 0, none⟩, 1, none, 0⟩) 32)) := (hbw.trans (b4.mono hzw)).alloc (by omega) _
        have B7 : Below w.heap.size w w7 := B5.grown hgr7 B5.size (fun g e => own_base hown5 g e)
        have keep : ∀ (j : Nat) (cs : Array Value) (T : TypeId), W4.heap[j]? = some (.cells cs T) → T ≠ 32 → w7.heap[j]? = W4.heap[j]? := fun j cs T hj hT => by
          have hjl : j < W4.heap.size := (Array.getElem?_eq_some_iff.1 hj).1
          have hj5 : (W4.alloc (.cells (ndA (ndK f d f) ⟨some ⟨wr.heap.size + 1, 0, none⟩, 1, some ⟨wr.heap.size + 1 + 1 + 1, 0, none⟩, 1, none, 0⟩) 32)).heap[j]? = some (.cells cs T) := (Below.heap_alloc _ _ _ hjl).trans hj
          exact (hgr7.block j (by simp; omega) (fun e => own_ne0 hown5 hj5 hT j e.symm rfl)).trans (Below.heap_alloc _ _ _ hjl)
        have laid7 : ∀ i, i < f + 1 → LaidN f d i w7 ((fun i => if i = f then ⟨some ⟨wr.heap.size + 1, 0, none⟩, 1, some ⟨wr.heap.size + 1 + 1 + 1, 0, none⟩, 1, none, 0⟩ else vs i) i) := fun i hi => by
          by_cases hik : i = f
          · subst hik
            simp only [if_true]
            exact ⟨rfl, rfl, ⟨_, rfl, rfl, (keep _ _ _ ha4 (by decide)).trans ha4⟩, .inr ⟨by omega, _, rfl, rfl, (keep _ _ _ he4 (by decide)).trans he4⟩⟩
          · simp only [hik, if_false]
            refine (hlaid i (by omega)).keep fun j cs T hj hT => ?_
            have hjl := (Array.getElem?_eq_some_iff.1 hj).1
            have hj4 := (b4.block j hjl).trans hj
            exact (keep j cs T hj4 hT).trans (b4.block j hjl)
        have H7 := hide (And.intro hown7 (And.intro B7 laid7))
        clear hown7 hgr7 B5 B7 keep laid7 hrow hown5 hown hlaid hbw b4 z4 ha4 he4 hW4 hA
        go_wp2_with fail
        refine ⟨⟨f + 1, fun i => if i = f then ⟨some ⟨wr.heap.size + 1, 0, none⟩, 1, some ⟨wr.heap.size + 1 + 1 + 1, 0, none⟩, 1, none, 0⟩ else vs i, g7, c7, by omega, by simp, rfl, by rw [rowC_more]; exact H7.out.1, H7.out.2.2, H7.out.2.1⟩, by (simp [intOf] <;> omega)⟩
    · have hkf : k = f + 1 := by omega
      have hmem := nds_own (hkf ▸ hown) (fun i hi => hlaid i (by omega)) (by omega)
      have hfan := fan_any ga gc (nsL f d) vs ⟨#[97]⟩ 0 (ndK f d 0) (toldK f d) wr hmem (ns_at f d 0 (by omega)) rfl (fun j n hj => by omega) rfl (told_is hd12 hf10) (by unfold toldK; split <;> simp) (role_sd f d) (compact_told f d)
      rw [ns_len, sort_told] at hfan
      have HF := hide (And.intro hfan hbw)
      rw [hkf]
      clear hfan hmem hown hlaid hbw u1 u2 u3 u4 hle hk hkf
      go_wp2_with (go_at_call 4; refine HF.out.1.mono ?_; rintro e w2 ⟨v2, rfl, hown2, b2⟩; refine stopNd ?_)
      unfold Hid
      obtain ⟨g2, c2, hv2⟩ := own_shape1 hown2
      subst hv2
      have B2 : Below w.heap.size w w2 := HF.out.2.trans (b2.mono hzw)
      have hlv := live_any w2
      have H2 := hide (And.intro hlv B2)
      clear hown2 b2 B2 hlv
      by_cases hd0 : d = 0
      · have hT : (toldK f d).length = 1 := by simp [toldK, hd0]
        rw [hT]
        subst hd0
        clear hT
        go_wp2_with (go_at_call 5; refine H2.out.1.mono ?_; rintro e w3 ⟨rfl, b3⟩; have H3 := hide (H2.out.2.trans (b3.mono H2.out.2.size)); clear b3)
        go_ret
        exact ⟨rfl, H3.out⟩
      · have hd0i : ((d : Int) == 0) = false := by rw [beq_eq_false_iff_ne]; omega
        by_cases hfd : (f : Int) ≤ d
        · have hT : (toldK f d).length = 1 := by simp [toldK, show f ≤ d by omega]
          rw [hT]
          clear hT
          go_wp2_with (go_at_call 5; refine H2.out.1.mono ?_; rintro e w3 ⟨rfl, b3⟩; have H3 := hide (H2.out.2.trans (b3.mono H2.out.2.size)); clear b3)
          go_ret
          exact ⟨rfl, H3.out⟩
        · have hf0i : ((f : Int) == 0) = false := by rw [beq_eq_false_iff_ne]; omega
          have hlt : (d : Int) < f := by omega
          have hltn : d < f := by omega
          have hfdn : ¬ f ≤ d := by omega
          have hT : (toldK f d).length = 0 := by simp [toldK, hd0, show ¬ f ≤ d by omega, show ¬ f = 0 by omega]
          rw [hT]
          clear hT
          go_wp2_with (go_at_call 5; refine H2.out.1.mono ?_; rintro e w3 ⟨rfl, b3⟩; have H3 := hide (H2.out.2.trans (b3.mono H2.out.2.size)); clear b3)
          go_ret
          exact ⟨by first | rfl | (simp [hfdn]), H3.out⟩
end Go.Proofs.Ytffjmkngdjbjlaa
