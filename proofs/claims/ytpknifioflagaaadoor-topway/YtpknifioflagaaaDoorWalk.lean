/- The walk over tokens: what it yields, token by token. -/
import Derived.Test.YtpknifioflagaaaDoorKindAt
import Derived.Test.YtpknifioflagaaaDoorRange
import Derived.Deep.RegionHeld3
import Derived.Maps.AppendAt
import Derived.Laws.Rows
namespace Go.Proofs.YtpknifioflagaaaDoor
open Go.RowKit Go.Shelf
attribute [local go_sem] Oper.semAt_some

/-- A step's value. -/
def stepV (ts : List Tok) (av : Nat → Option Addr × Nat) (k : Nat) : Value :=
  match ts[k]? with
  | none => undef
  | some t => .agg #[.int .u8 t.kind, .string t.name, .slice (av k).1 t.attrs.length (av k).2, .string t.text, .int .u8 (kindOf ts (k - 1 : Int)), .int .u8 (kindOf ts (k + 1 : Int)), .string ((openAt ts k).getLast?.getD ⟨#[]⟩), .int .i64 (openAt ts k).length, .int .i64 (openAt ts (k + 1)).length]
theorem own_shape {w : World} {base : Nat} {e : TypeId} {size : Nat} {v : Value} {n : Nat} {xs : List Value} (h : w.ownsRow base e size v n xs) : ∃ ga gc, v = .slice ga n gc := by
  obtain ⟨_, ⟨rfl, rfl⟩ | ⟨g, cap, _, rfl, _⟩⟩ := h
  · exact ⟨none, 0, rfl⟩
  · exact ⟨_, _, rfl⟩
theorem wrap_id (x : Int) (h1 : -9223372036854775808 ≤ x) (h2 : x ≤ 9223372036854775807) : IntKind.i64.wrap x = x := by
  rw [IntKind.wrap_i64]
  omega
/-- A piece of code that ends in one way alone, walked as everywhere. -/
theorem region_cut {P : Program} {n : Nat} {c : Code} {Q : Exit → Act → World → Prop} {a : Act} {w : World} (A : Act) (W0 : World) (h : c.wp P (fun e a w' => e = .normal ∧ a = A ∧ w' = W0) a w) (hq : Q .normal A W0) : c.wpIn Fence.wide n P Q a w :=
  wpIn_mono (wpIn_wide.2 h) (by rintro e a w ⟨rfl, rfl, rfl⟩; exact hq)
theorem stopHere {p : Prop} (h : Hid p) : p := h
def NoRow (o : Obj) : Prop := ∀ c fz, o ≠ .cells c 5 fz

theorem infoString : (Tryd.prog.info? 9).map (fun i => (i.zero, i.size, i.bytes)) = some (some (.string ⟨#[]⟩), 1, 16) := by kernel_rfl
/-- A name is put behind names that the call itself holds: where they lie then. -/
theorem append_name {n : Nat} (w : World) {ops : Array Oper} {rest : List Oper} {o : Oper} {a : Act} {Q : Exit → Act → World → Prop} (hg : o.guard = none) (s x : Operand)
    (hop : o.op = Op.call { callee := Callee.builtin Builtin.append, args := #[s, x], argTypes := #[76, 76] }) (base : Nat) (v : Value) (k : Nat) (xs : List Value) (hs : a.eval s = v) (hown : w.ownsRow base 9 1 v k xs) (ad : Addr) (u : ByteArray)
    (hx : a.eval x = .slice (some ad) 1 1) (hc : ∀ j z, [Value.string u][j]? = some z → w.cell? (ad.add j) = some z) (hk : k ≤ 2199023255488) (hb : base ≤ w.heap.size)
    (hK : ∀ v' w', w'.ownsRow base 9 1 v' (k + 1) (xs ++ [Value.string u]) → w.grownBy w' v.ownBlock → (v'.ownBlock = v.ownBlock ∨ v'.ownBlock = some w.heap.size) → wpListIn Fence.wide n Tryd.prog ops Q rest (a.put o.dst v') w') :
    wpListIn Fence.wide n Tryd.prog ops Q (o :: rest) a w := by
  obtain ⟨i, hi, hz0, hz1, hz2⟩ := info_parts infoString
  obtain ⟨v', w', hr, r1, r2, _, r4⟩ := run_append_own_at (P := Tryd.prog) w base 76 o.type 9 i _ 1 16 Tryd.underlying76 hi hz0 hz1 hz2 rfl (by decide) v k xs hown ad 1 1 [.string u] rfl hc (by simp [Value.oneCell']) (by unfold maxLen; omega) (by omega) hb
  refine wpListIn_plain hg fun K hK' => ?_
  unfold Oper.wpIn
  refine ⟨by simp [Oper.about, hop, resolve, Target.leads, Sem.run_pure], ?_⟩
  rw [Oper.semAt_plain Fence.wide _ _ (by rw [hop]; intro c hc'; cases hc')]
  simp [execOp, hop, resolve, invoke, builtin, hs, hx, hr, Result.andThen]
  exact hK' _ _ (hK v' w' r1 r2 r4)

theorem own_same {A B : World} {base : Nat} {e : TypeId} {size : Nat} {v : Value} {n : Nat} {xs : List Value} (h : A.ownsRow base e size v n xs) (hg : ∀ g, v.ownBlock = some g → B.heap[g]? = A.heap[g]?) : B.ownsRow base e size v n xs := by
  obtain ⟨h1, h2 | ⟨g, cap, cur, rfl, x1, x2, x3⟩⟩ := h
  · exact ⟨h1, .inl h2⟩
  · exact ⟨h1, .inr ⟨g, cap, cur, rfl, x1, (hg g rfl).trans x2, x3⟩⟩
/-- The last name is taken off. -/
theorem own_pop {w : World} {base : Nat} {e : TypeId} {ga : Option Addr} {gc m : Nat} {xs : List Value} {x : Value} (h : w.ownsRow base e 1 (.slice ga (m + 1) gc) (m + 1) (xs ++ [x])) : w.ownsRow base e 1 (.slice ga m gc) m xs := by
  obtain ⟨h1, ⟨h2, h3⟩ | ⟨g, cap, cur, hv, x1, x2, x3, x4, x5, x6⟩⟩ := h
  · omega
  · cases hv
    have hl : xs.length = m := by simpa using h1
    refine ⟨by omega, .inr ⟨g, gc, cur, rfl, x1, x2, by omega, x4, x5, ?_⟩⟩
    have := congrArg (List.take m) x6
    rw [List.take_take, Nat.min_eq_left (by omega)] at this
    rw [Nat.mul_one, this, ← hl]
    exact List.take_left
theorem own_last {w : World} {base : Nat} {e : TypeId} {ga : Option Addr} {gc m : Nat} {xs : List Value} {x : Value} (h : w.ownsRow base e 1 (.slice ga (m + 1) gc) (m + 1) (xs ++ [x])) : ∃ g, ga = some ⟨g, 0, none⟩ ∧ m < gc ∧ w.cell? ⟨g, m, none⟩ = some x := by
  obtain ⟨h1, ⟨h2, h3⟩ | ⟨g, cap, cur, hv, x1, x2, x3, x4, x5, x6⟩⟩ := h
  · omega
  · cases hv
    have hl : xs.length = m := by simpa using h1
    have h7 : (cur.toList.take ((m + 1) * 1))[m]? = some x := by rw [x6, ← hl]; simp
    rw [List.getElem?_take_of_lt (by omega)] at h7
    exact ⟨g, rfl, by omega, by simp [World.cell?, x2]; simpa using h7⟩

theorem own_lt {w : World} {base : Nat} {e : TypeId} {size : Nat} {v : Value} {n : Nat} {xs : List Value} (h : w.ownsRow base e size v n xs) (g : Nat) (hg : v.ownBlock = some g) : g < w.heap.size := by
  obtain ⟨_, ⟨rfl, _⟩ | ⟨g', cap, cur, rfl, x1, x2, x3⟩⟩ := h
  · cases hg
  · cases hg
    exact (Array.getElem?_eq_some_iff.1 x2).1
theorem cells9 {w : World} {b : Nat} {a0 a1 a2 a3 a4 a5 a6 a7 a8 : Value} {ty : TypeId} (h : w.heap[b]? = some (.cells #[a0, a1, a2, a3, a4, a5, a6, a7, a8] ty)) :
    w.cell? ⟨b, 0, none⟩ = some a0 ∧ w.cell? ⟨b, 1, none⟩ = some a1 ∧ w.cell? ⟨b, 2, none⟩ = some a2 ∧ w.cell? ⟨b, 3, none⟩ = some a3 ∧ w.cell? ⟨b, 4, none⟩ = some a4 ∧ w.cell? ⟨b, 5, none⟩ = some a5 ∧ w.cell? ⟨b, 6, none⟩ = some a6 ∧ w.cell? ⟨b, 7, none⟩ = some a7 ∧ w.cell? ⟨b, 8, none⟩ = some a8 ∧ ∀ i, w.frozen? ⟨b, i, none⟩ = false := by
  refine ⟨?_, ?_, ?_, ?_, ?_, ?_, ?_, ?_, ?_, fun i => ?_⟩ <;> simp [World.cell?, World.frozen?, h]

theorem heap_set9 {w : World} {b : Nat} {cs : Array Value} {ty : TypeId} (h : w.heap[b]? = some (.cells cs ty)) (i : Nat) (v : Value) : (w.setCell ⟨b, i, none⟩ v).heap[b]? = some (.cells (cs.setIfInBounds i v) ty) := by
  exact heap_setCell_same w b i cs ty v h
/-- The blocks of the walk: the box of its list, and its names' row. -/
def mine (Bs : Nat) (ov : Value) : Blk := fun j => j = Bs ∨ ov.ownBlock = some j

set_option maxRecDepth 100000 in
set_option maxHeartbeats 4000000 in
theorem walk_seq (n Bs n₀ : Nat) (ao : Option Addr) (cap : Nat) (ts : List Tok) (av : Nat → Option Addr × Nat) (w : World) (hBs : w.heap[Bs]? = some (.cells #[.slice ao ts.length cap] 23)) (hn : n₀ ≤ Bs) (hT : TokMem n₀ w ao ts av) :
    SeqOwn Fence.wide n Tryd.prog 69 #[.pointer (some ⟨Bs, 0, none⟩)] (fun k => #[stepV ts av k]) n₀ ts.length (mine Bs (.slice none 0 0)) NoRow w := fun l J Jx W hW hnw hJ hY h0 => by
  have hT' := hT.below (hW.mono hnw)
  have hBW : W.heap[Bs]? = some (.cells #[.slice ao ts.length cap] 23) := (hW.block Bs (Array.getElem?_eq_some_iff.1 hBs).1).trans hBs
  have hcB : W.cell? ⟨Bs, 0, none⟩ = some (.slice ao ts.length cap) := by simp [World.cell?, hBW]
  obtain ⟨hlen, hc⟩ := hT'
  have hro : Fence.wide.round = none := rfl
  refine callsIn_of_wp Tryd.func69 rfl trivial ?_ hro
  simp only [Tryd.ntmps69, List.size_toArray, List.length_cons, List.length_nil, Nat.reduceAdd, Nat.reduceSub, Array.replicate_succ, Array.replicate_zero, List.push_toArray, List.append_toArray, List.nil_append, List.cons_append]
  gi_wp2
  gi_loopw [3, 9] (fun ov i wr => ∃ k : Nat, k ≤ ts.length ∧ i = .int .i64 k ∧ J (mine Bs ov) k wr ∧ Below n₀ W wr ∧ wr.heap[Bs]? = W.heap[Bs]? ∧ wr.ownsRow n₀ 9 1 ov (openAt ts k).length ((openAt ts k).map Value.string)) (fun _ i _ => ts.length - (intOf i).toNat)
  case atStart => exact ⟨0, Nat.zero_le _, rfl, h0, Below.refl _ _, rfl, World.ownsRow_nil _ _ _ _⟩
  case round =>
    obtain ⟨k, hk, rfl, hJk, hbw, hsB, hrow⟩ := hrel
    by_cases hlt : k < ts.length
    · obtain ⟨t, ht⟩ : ∃ t, ts[k]? = some t := ⟨ts[k], by simp [hlt]⟩
      obtain ⟨hkd, hnm, htx, hat, _, b, off, rfl, hb, c1, c2, c3, c4⟩ := hc k t ht
      have d1 := (hbw.cell (p := ⟨b, _, none⟩) hb).trans c1
      have d2 := (hbw.cell (p := ⟨b, _, none⟩) hb).trans c2
      have d3 := (hbw.cell (p := ⟨b, _, none⟩) hb).trans c3
      have d4 := (hbw.cell (p := ⟨b, _, none⟩) hb).trans c4
      have dB : wr.cell? ⟨Bs, 0, none⟩ = some (.slice (some ⟨b, off, none⟩) ts.length cap) := by simp [World.cell?, hsB, hBW]
      obtain ⟨op, hop⟩ : ∃ op, openAt ts k = op := ⟨_, rfl⟩
      rw [hop] at hrow
      obtain ⟨ga, gc, rfl⟩ := own_shape hrow
      have hT1 : TokMem n₀ wr (some ⟨b, off, none⟩) ts av := hT.below ((hW.mono hnw).trans hbw)
      have HT := hide hT1
      have HC := hide hc
      have HY := hide hY
      have HR := hide hrow
      have HJ := hide (And.intro hJk (And.intro hbw hsB))
      have HX := hide hJ
      have hnr : n₀ ≤ wr.heap.size := Nat.le_trans (Nat.le_trans hnw hW.size) hbw.size
      -- the round, wherever the walk comes to it
      have fin : ∀ (W5 : World) (ov' : Value), Frees n₀ (fun j => (Value.slice ga op.length gc).ownBlock = some j) wr W5 → W5.ownsRow n₀ 9 1 ov' (openAt ts (k + 1)).length ((openAt ts (k + 1)).map Value.string) →
          (ov'.ownBlock = (Value.slice ga op.length gc).ownBlock ∨ ∃ g, ov'.ownBlock = some g ∧ wr.heap.size ≤ g) →
          YieldAt Fence.wide (n - 1) Tryd.prog l #[stepV ts av k] W5 fun e W6 => (e = .returned (.bool true) ∧ J (mine Bs ov') (k + 1) W6 ∧ Below n₀ W W6 ∧ W6.heap[Bs]? = W.heap[Bs]? ∧ W6.ownsRow n₀ 9 1 ov' (openAt ts (k + 1)).length ((openAt ts (k + 1)).map Value.string)) ∨ (e = .returned (.bool false) ∧ Jx (k + 1) W6) := by
        intro W5 ov' hF hr hat'
        have hbs5 : W5.heap[Bs]? = some (.cells #[.slice (some ⟨b, off, none⟩) ts.length cap] 23) := by
          rw [hF.same Bs (lt_of_cell dB) (fun e => ?_), hsB, hBW]
          obtain ⟨_, ⟨e1, _⟩ | ⟨g, _, cur, e1, _, hg, _⟩⟩ := hrow
          · rw [e1] at e; cases e
          · rw [e1] at e
            cases e
            rw [hsB, hBW] at hg
            cases hg
        refine (hY (mine Bs ov') k W5 (hJ _ _ _ _ _ hJk hF.below (fun j hj hm => hF.same j hj (fun e => hm (.inr e))) (fun j hj hm => ?_)) hlt (fun j hj => ?_)).mono ?_
        · rcases hm with rfl | hm
          · exact .inl rfl
          · rcases hat' with e | ⟨g, e, hg⟩
            · exact .inr (e ▸ hm)
            · rw [e] at hm
              cases hm
              omega
        · rcases hj with rfl | hj
          · exact ⟨hn, _, hbs5, fun c fz e => by cases e⟩
          · obtain ⟨_, ⟨e1, _⟩ | ⟨g, _, cur, e1, x1, x2, _⟩⟩ := hr
            · rw [e1] at hj; cases hj
            · rw [e1] at hj
              cases hj
              exact ⟨x1, _, x2, fun c fz e => by cases e⟩
        · rintro e W6 (⟨rfl, h1, h2, h3⟩ | h)
          · exact .inl ⟨rfl, h1, hbw.trans (hF.below.trans h3), (h2 Bs (.inl rfl)).trans (hbs5.trans hBW.symm), own_same hr (fun g hg => h2 g (.inr hg))⟩
          · exact .inr h
      have FIN := hide fin
      clear fin
      clear hT1 hc hY hrow hJk hbw hsB c1 c2 c3 c4 hT hJ
      gi_wp2_with fail
      obtain ⟨W1, hW1⟩ : ∃ W1, wr.alloc (.cells #[.int .u8 t.kind, .string t.name, .slice (av k).1 t.attrs.length (av k).2, .string t.text] 56) = W1 := ⟨_, rfl⟩
      have z1 : W1.heap.size = wr.heap.size + 1 := by rw [← hW1]; simp
      have f1 : W1.heap[wr.heap.size]? = some (.cells #[.int .u8 t.kind, .string t.name, .slice (av k).1 t.attrs.length (av k).2, .string t.text] 56) := by rw [← hW1]; exact World.alloc_heap_new wr _
      have e0 : W1.cell? ⟨wr.heap.size, 0, none⟩ = some (.int .u8 t.kind) := by simp [World.cell?, f1]
      have e1 : W1.cell? ⟨wr.heap.size, 1, none⟩ = some (.string t.name) := by simp [World.cell?, f1]
      have e2 : W1.cell? ⟨wr.heap.size, 2, none⟩ = some (.slice (av k).1 t.attrs.length (av k).2) := by simp [World.cell?, f1]
      have e3 : W1.cell? ⟨wr.heap.size, 3, none⟩ = some (.string t.text) := by simp [World.cell?, f1]
      have hB1 : Below wr.heap.size wr W1 := by rw [← hW1]; exact (Below.refl _ wr).alloc (Nat.le_refl _) _
      have e4 : W1.cell? ⟨Bs, 0, none⟩ = some (.slice (some ⟨b, off, none⟩) ts.length cap) := (hB1.cell (p := ⟨Bs, 0, none⟩) (lt_of_cell dB)).trans dB
      have HT1 := hide (HT.out.below (hB1.mono hnr))
      rw [hW1]
      clear d1 d2 d3 d4 dB
      have HF := hide (And.intro f1 hW1)
      clear f1 hW1
      have wp1 : IntKind.i64.wrap ((k : Int) - 1) = k - 1 := wrap_id _ (by omega) (by omega)
      have wp2 : IntKind.i64.wrap ((k : Int) + 1) = k + 1 := wrap_id _ (by omega) (by omega)
      apply region_cut
      case h =>
       go_region_held3 (fun w' => w'.cell? ⟨wr.heap.size, 0, none⟩ = some (.int .u8 t.kind) ∧ w'.cell? ⟨wr.heap.size, 1, none⟩ = some (.string t.name) ∧ w'.cell? ⟨wr.heap.size, 2, none⟩ = some (.slice (av k).1 t.attrs.length (av k).2) ∧ w'.cell? ⟨wr.heap.size, 3, none⟩ = some (.string t.text) ∧ w'.cell? ⟨Bs, 0, none⟩ = some (.slice (some ⟨b, off, none⟩) ts.length cap)) (go_keep)
         (first | (go_at_call 70; refine (kindAt_any n₀ _ cap ts av _ _ (HT1.out.below ?_) ?_).mono ?_; (first | exact (Below.refl _ _).drew | exact ((Below.refl _ _).alloc (by omega) _).drew); omega; rintro e w' ⟨rfl, rfl⟩))
       all_goals exact ⟨rfl, rfl, rfl⟩
      case hq =>
       obtain ⟨W2, hW2⟩ : ∃ W2, (W1.alloc (.cells #[.int .u8 t.kind, .string t.name, .slice (av k).1 t.attrs.length (av k).2, .string t.text, .int .u8 (kindOf ts (k - 1 : Int)), .int .u8 (kindOf ts (k + 1 : Int)), .string ⟨#[]⟩, .int .i64 op.length, .int .i64 0] 75)).drew = W2 := ⟨_, rfl⟩
       rw [hW2]
       have HW2 := hide hW2
       have z2 : W2.heap.size = wr.heap.size + 2 := by rw [← hW2]; simp; omega
       have hB2 : Below W1.heap.size W1 W2 := by rw [← hW2]; exact ((Below.refl _ W1).alloc (Nat.le_refl _) _).drew
       have f2 : W2.heap[wr.heap.size + 1]? = some (.cells #[.int .u8 t.kind, .string t.name, .slice (av k).1 t.attrs.length (av k).2, .string t.text, .int .u8 (kindOf ts (k - 1 : Int)), .int .u8 (kindOf ts (k + 1 : Int)), .string ⟨#[]⟩, .int .i64 op.length, .int .i64 0] 75) := by rw [← hW2, ← z1]; exact World.alloc_heap_new W1 _
       have t0 : W2.cell? ⟨wr.heap.size, 0, none⟩ = some (.int .u8 t.kind) := (hB2.cell (p := ⟨wr.heap.size, 0, none⟩) (by simp; omega)).trans e0
       have t1 : W2.cell? ⟨wr.heap.size, 1, none⟩ = some (.string t.name) := (hB2.cell (p := ⟨wr.heap.size, 1, none⟩) (by simp; omega)).trans e1
       obtain ⟨s0, s1, s2, s3, s4, s5, s6, s7, s8, zf⟩ := cells9 f2
       have hrow2 := own_same (B := W2) HR.out (fun g hg => ((hB2.block g (by have := own_lt HR.out g hg; omega)).trans (hB1.block g (own_lt HR.out g hg))))
       have HR2 := hide hrow2
       have hfr : Frees n₀ (fun j => (Value.slice ga op.length gc).ownBlock = some j) wr W2 := (((Frees.refl _ _ wr).kept hB1 hnr).kept hB2 hnr)
       have HFR := hide hfr
       clear hrow2 hfr
       have HF2 := hide f2
       clear e0 e1 e2 e3 e4 hW2 f2
       have hol : op.length ≤ 2199023255488 := by rw [← hop]; exact Nat.le_trans (openAt_le ts k) (by omega)
       by_cases hop0 : op = []
       · subst hop0
         simp only [List.length_nil, List.map_nil] at *
         by_cases hk1 : t.kind = 1
         · have hs1 : openAt ts (k + 1) = [t.name] := by rw [openAt_succ ht, hop]; simp [opens, hk1]
           have hst : stepV ts av k = .agg #[.int .u8 1, .string t.name, .slice (av k).1 t.attrs.length (av k).2, .string t.text, .int .u8 (kindOf ts (k - 1 : Int)), .int .u8 (kindOf ts (k + 1 : Int)), .string ⟨#[]⟩, .int .i64 0, .int .i64 1] := by simp [stepV, ht, hop, hs1, hk1] <;> omega
           gi_wp2_with (gi_at_builtin; refine stopHere ?_)
           unfold Hid
           (refine append_name _ rfl _ _ rfl n₀ _ _ _ rfl (HR2.out.alloc _) _ t.name rfl (by have h := cell_one_new W2 (.string t.name) 9; rw [z2] at h; exact h) (by omega) (by simp; omega) ?_; intro v' w1 hown' hgrow hat'; obtain ⟨ga', gc', rfl⟩ := own_shape hown'; have HO := hide (And.intro hown' (And.intro hgrow hat')); clear hown' hat'; have f3 : w1.heap[wr.heap.size + 1]? = _ := (hgrow.block (wr.heap.size + 1) (by first | omega | (simp; omega)) (fun e => by have := own_lt HR.out _ (show _ = _ from e.symm); omega)).trans ((Below.heap_alloc _ _ _ (by first | omega | (simp; omega))).trans HF2.out); obtain ⟨p0, p1, p2, p3, p4, p5, p6, p7, p8, pf⟩ := cells9 f3; clear f3 hgrow)
           obtain ⟨fn, tmps, assign, body, hy, hR⟩ := FIN.out (w1.setCell ⟨wr.heap.size + 1, 8, none⟩ (.int .i64 1)) (.slice ga' 1 gc') (((HFR.out).alloc hnr _).grown hnr HO.out.2.1 (fun r hr => ⟨by
               obtain ⟨_, ⟨e1, _⟩ | ⟨g, _, cur, e1, x1, _⟩⟩ := HR.out
               · rw [e1] at hr; cases hr
               · rw [e1] at hr; cases hr; exact x1, .inl hr⟩) |>.setCell (p := ⟨wr.heap.size + 1, 8, none⟩) (by simp; omega) (.inr (by simp)) _) (by
               rw [hs1]
               refine own_same (A := w1) (by simpa using HO.out.1) (fun g hg => ?_)
               rw [Below.heap_setCell _ _ _ _ (fun e => ?_)]
               rcases HO.out.2.2 with h | h
               · have := own_lt HR.out g (h ▸ hg); simp at e; omega
               · rw [h] at hg; simp at hg e; omega) (by
               rcases HO.out.2.2 with h | h
               · exact .inl h
               · exact .inr ⟨_, h, by simp; omega⟩)
           rw [hst] at hy
           try dsimp only
           gi_wp2
           refine ⟨fun h => by simp [Fence.wide] at h, hR.mono ?_⟩
           rintro e W6 (⟨rfl, j1, j2, j3, j4⟩ | ⟨rfl, j1⟩)
           · gi_wp2_with fail
             go_roundw
             case rel => exact ⟨k + 1, by omega, by simp, j1, j2, j3, j4⟩
             case measure => simp [intOf]; omega
           · gi_wp2_with fail
             refine bodyPost_ret (results_none rfl _ _ _) rfl ?_
             exact ⟨⟨_, rfl⟩, .inr ⟨_, by omega, j1⟩⟩
         · have hs1 : openAt ts (k + 1) = [] := by rw [openAt_succ ht, hop]; simp [opens, hk1]
           have hk1' : (↑t.kind == (1 : Int)) = false := by simp; omega
           by_cases hk2 : t.kind = 2
           · have hst : stepV ts av k = .agg #[.int .u8 2, .string t.name, .slice (av k).1 t.attrs.length (av k).2, .string t.text, .int .u8 (kindOf ts (k - 1 : Int)), .int .u8 (kindOf ts (k + 1 : Int)), .string ⟨#[]⟩, .int .i64 0, .int .i64 0] := by simp [stepV, ht, hop, hs1, hk2] <;> omega
             gi_wp2_with fail
             obtain ⟨fn, tmps, assign, body, hy, hR⟩ := FIN.out (W2.setCell ⟨wr.heap.size + 1, 8, none⟩ (.int .i64 0)) (.slice ga 0 gc) (HFR.out.setCell (p := ⟨wr.heap.size + 1, 8, none⟩) (by simp; omega) (.inr (by simp)) _) (by rw [hs1]; exact own_same (HR2.out) (fun g hg => by
                 have hg' := own_lt HR.out g (by simpa [Value.ownBlock] using hg)
                 rw [Below.heap_setCell _ _ _ _ (show g ≠ wr.heap.size + 1 by omega)])) (.inl rfl)
             rw [hst] at hy
             simp only [hy]
             gi_wp2
             refine ⟨fun h => by simp [Fence.wide] at h, hR.mono ?_⟩
             rintro e W6 (⟨rfl, j1, j2, j3, j4⟩ | ⟨rfl, j1⟩)
             · gi_wp2_with fail
               go_roundw
               case rel => exact ⟨k + 1, by omega, by simp, j1, j2, j3, j4⟩
               case measure => simp [intOf]; omega
             · gi_wp2_with fail
               refine bodyPost_ret (results_none rfl _ _ _) rfl ?_
               exact ⟨⟨_, rfl⟩, .inr ⟨_, by omega, j1⟩⟩
           · have hk2' : (↑t.kind == (2 : Int)) = false := by simp; omega
             have hst : stepV ts av k = .agg #[.int .u8 t.kind, .string t.name, .slice (av k).1 t.attrs.length (av k).2, .string t.text, .int .u8 (kindOf ts (k - 1 : Int)), .int .u8 (kindOf ts (k + 1 : Int)), .string ⟨#[]⟩, .int .i64 0, .int .i64 0] := by simp [stepV, ht, hop, hs1] <;> omega
             gi_wp2_with fail
             obtain ⟨fn, tmps, assign, body, hy, hR⟩ := FIN.out (W2.setCell ⟨wr.heap.size + 1, 8, none⟩ (.int .i64 0)) (.slice ga 0 gc) (HFR.out.setCell (p := ⟨wr.heap.size + 1, 8, none⟩) (by simp; omega) (.inr (by simp)) _) (by rw [hs1]; exact own_same (HR2.out) (fun g hg => by
                 have hg' := own_lt HR.out g (by simpa [Value.ownBlock] using hg)
                 rw [Below.heap_setCell _ _ _ _ (show g ≠ wr.heap.size + 1 by omega)])) (.inl rfl)
             rw [hst] at hy
             simp only [hy]
             gi_wp2
             refine ⟨fun h => by simp [Fence.wide] at h, hR.mono ?_⟩
             rintro e W6 (⟨rfl, j1, j2, j3, j4⟩ | ⟨rfl, j1⟩)
             · gi_wp2_with fail
               go_roundw
               case rel => exact ⟨k + 1, by omega, by simp, j1, j2, j3, j4⟩
               case measure => simp [intOf]; omega
             · gi_wp2_with fail
               refine bodyPost_ret (results_none rfl _ _ _) rfl ?_
               exact ⟨⟨_, rfl⟩, .inr ⟨_, by omega, j1⟩⟩
       · obtain ⟨init, lst, rfl⟩ : ∃ init lst, op = init ++ [lst] := ⟨op.dropLast, op.getLast hop0, (List.dropLast_concat_getLast hop0).symm⟩
         obtain ⟨m, hm⟩ : ∃ m, init.length = m := ⟨_, rfl⟩
         have hm1 : (init ++ [lst]).length = m + 1 := by simp [hm]
         simp only [hm1, List.map_append, List.map_cons, List.map_nil] at *
         obtain ⟨g, rfl, hgc, hgl⟩ := own_last HR2.out
         have hgw : g < wr.heap.size := own_lt HR.out g rfl
         have hgne : ¬ wr.heap.size + 1 = g := by omega
         have hm2 : (0 : Int) < ↑m + 1 := by omega
         have wp3 : IntKind.i64.wrap ((↑(m + 1) : Int) - 1) = m := by rw [wrap_id _ (by omega) (by omega)]; omega
         have hm3 : ¬ ((m : Int) < 0) := by omega
         have hfrb := HFR.out.setCell (p := ⟨wr.heap.size + 1, 6, none⟩) (by simp; omega) (.inr (by simp)) (.string lst)
         have HFB := hide hfrb
         have hrowb : (W2.setCell ⟨wr.heap.size + 1, 6, none⟩ (.string lst)).ownsRow n₀ 9 1 (.slice (some ⟨g, 0, none⟩) (m + 1) gc) (m + 1) (init.map Value.string ++ [.string lst]) := own_same HR2.out (fun g' hg => by
           have hg' := own_lt HR.out g' hg
           rw [Below.heap_setCell _ _ _ _ (show g' ≠ wr.heap.size + 1 by omega)])
         have HRB := hide hrowb
         have f2b := heap_set9 HF2.out 6 (.string lst)
         have HF2b := hide f2b
         have hnewb := cell_one_new (W2.setCell ⟨wr.heap.size + 1, 6, none⟩ (.string lst)) (.string t.name) 9
         rw [World.size_setCell, z2] at hnewb
         have HNB := hide hnewb
         clear hfrb hrowb f2b hnewb
         by_cases hk1 : t.kind = 1
         · have hs1 : openAt ts (k + 1) = init ++ [lst] ++ [t.name] := by rw [openAt_succ ht, hop]; simp [opens, hk1]
           have hst : stepV ts av k = .agg #[.int .u8 1, .string t.name, .slice (av k).1 t.attrs.length (av k).2, .string t.text, .int .u8 (kindOf ts (k - 1 : Int)), .int .u8 (kindOf ts (k + 1 : Int)), .string lst, .int .i64 (m + 1 : Int), .int .i64 (m + 1 + 1 : Int)] := by simp [stepV, ht, hop, hs1, hk1, hm] <;> omega
           gi_wp2_with (gi_at_builtin; refine stopHere ?_)
           unfold Hid
           (refine append_name _ rfl _ _ rfl n₀ _ _ _ rfl (HRB.out.alloc _) _ t.name rfl (HNB.out) (by omega) (by simp; omega) ?_; intro v' w1 hown' hgrow hat'; obtain ⟨ga', gc', rfl⟩ := own_shape hown'; have HO := hide (And.intro hown' (And.intro hgrow hat')); clear hown' hat'; have f3 : w1.heap[wr.heap.size + 1]? = _ := (hgrow.block (wr.heap.size + 1) (by first | omega | (simp; omega)) (fun e => by have := own_lt HR.out _ (show _ = _ from e.symm); omega)).trans ((Below.heap_alloc _ _ _ (by first | omega | (simp; omega))).trans HF2b.out); obtain ⟨p0, p1, p2, p3, p4, p5, p6, p7, p8, pf⟩ := cells9 f3; clear f3 hgrow)
           obtain ⟨fn, tmps, assign, body, hy, hR⟩ := FIN.out (w1.setCell ⟨wr.heap.size + 1, 8, none⟩ (.int .i64 (m + 1 + 1 : Int))) (.slice ga' (m + 1 + 1) gc') (((HFB.out).alloc hnr _).grown hnr HO.out.2.1 (fun r hr => ⟨by
               obtain ⟨_, ⟨e1, _⟩ | ⟨g, _, cur, e1, x1, _⟩⟩ := HR.out
               · rw [e1] at hr; cases hr
               · rw [e1] at hr; cases hr; exact x1, .inl hr⟩) |>.setCell (p := ⟨wr.heap.size + 1, 8, none⟩) (by simp; omega) (.inr (by simp)) _) (by
               rw [hs1]
               refine own_same (A := w1) (by simpa [hm] using HO.out.1) (fun g hg => ?_)
               rw [Below.heap_setCell _ _ _ _ (fun e => ?_)]
               rcases HO.out.2.2 with h | h
               · have := own_lt HR.out g (h ▸ hg); simp at e; omega
               · rw [h] at hg; simp at hg e; omega) (by
               rcases HO.out.2.2 with h | h
               · exact .inl h
               · exact .inr ⟨_, h, by simp; omega⟩)
           rw [hst] at hy
           try dsimp only
           gi_wp2
           refine ⟨fun h => by simp [Fence.wide] at h, hR.mono ?_⟩
           rintro e W6 (⟨rfl, j1, j2, j3, j4⟩ | ⟨rfl, j1⟩)
           · gi_wp2_with fail
             go_roundw
             case rel => exact ⟨k + 1, by omega, by simp, j1, j2, j3, j4⟩
             case measure => simp [intOf]; omega
           · gi_wp2_with fail
             refine bodyPost_ret (results_none rfl _ _ _) rfl ?_
             exact ⟨⟨_, rfl⟩, .inr ⟨_, by omega, j1⟩⟩
         · have hk1' : (↑t.kind == (1 : Int)) = false := by simp; omega
           by_cases hk2 : t.kind = 2
           · have hs1 : openAt ts (k + 1) = init := by rw [openAt_succ ht, hop]; simp [opens, hk2]
             have hst : stepV ts av k = .agg #[.int .u8 2, .string t.name, .slice (av k).1 t.attrs.length (av k).2, .string t.text, .int .u8 (kindOf ts (k - 1 : Int)), .int .u8 (kindOf ts (k + 1 : Int)), .string lst, .int .i64 (m + 1 : Int), .int .i64 m] := by simp [stepV, ht, hop, hs1, hk2, hm] <;> omega
             gi_wp2_with fail
             obtain ⟨fn, tmps, assign, body, hy, hR⟩ := FIN.out ((W2.setCell ⟨wr.heap.size + 1, 6, none⟩ (.string lst)).setCell ⟨wr.heap.size + 1, 8, none⟩ (.int .i64 m)) (.slice (some ⟨g, 0, none⟩) m gc) (HFB.out.setCell (p := ⟨wr.heap.size + 1, 8, none⟩) (by simp; omega) (.inr (by simp)) _) (by rw [hs1]; exact own_same (by have h := own_pop HR2.out; rw [hm]; exact h) (fun g hg => by
                 have hg' := own_lt HR.out g (by simpa [Value.ownBlock] using hg)
                 rw [Below.heap_setCell _ _ _ _ (show g ≠ wr.heap.size + 1 by omega), Below.heap_setCell _ _ _ _ (show g ≠ wr.heap.size + 1 by omega)])) (.inl rfl)
             rw [hst] at hy
             simp only [hy]
             gi_wp2
             refine ⟨fun h => by simp [Fence.wide] at h, hR.mono ?_⟩
             rintro e W6 (⟨rfl, j1, j2, j3, j4⟩ | ⟨rfl, j1⟩)
             · gi_wp2_with fail
               go_roundw
               case rel => exact ⟨k + 1, by omega, by simp, j1, j2, j3, j4⟩
               case measure => simp [intOf]; omega
             · gi_wp2_with fail
               refine bodyPost_ret (results_none rfl _ _ _) rfl ?_
               exact ⟨⟨_, rfl⟩, .inr ⟨_, by omega, j1⟩⟩
           · have hk2' : (↑t.kind == (2 : Int)) = false := by simp; omega
             have hs1 : openAt ts (k + 1) = init ++ [lst] := by rw [openAt_succ ht, hop]; simp [opens, hk1, hk2]
             have hst : stepV ts av k = .agg #[.int .u8 t.kind, .string t.name, .slice (av k).1 t.attrs.length (av k).2, .string t.text, .int .u8 (kindOf ts (k - 1 : Int)), .int .u8 (kindOf ts (k + 1 : Int)), .string lst, .int .i64 (m + 1 : Int), .int .i64 (m + 1 : Int)] := by simp [stepV, ht, hop, hs1, hm] <;> omega
             gi_wp2_with fail
             obtain ⟨fn, tmps, assign, body, hy, hR⟩ := FIN.out ((W2.setCell ⟨wr.heap.size + 1, 6, none⟩ (.string lst)).setCell ⟨wr.heap.size + 1, 8, none⟩ (.int .i64 (m + 1))) (.slice (some ⟨g, 0, none⟩) (m + 1) gc) (HFB.out.setCell (p := ⟨wr.heap.size + 1, 8, none⟩) (by simp; omega) (.inr (by simp)) _) (by rw [hs1]; exact own_same (by have h := HR2.out; simpa [hm] using h) (fun g hg => by
                 have hg' := own_lt HR.out g (by simpa [Value.ownBlock] using hg)
                 rw [Below.heap_setCell _ _ _ _ (show g ≠ wr.heap.size + 1 by omega), Below.heap_setCell _ _ _ _ (show g ≠ wr.heap.size + 1 by omega)])) (.inl rfl)
             rw [hst] at hy
             simp only [hy]
             gi_wp2
             refine ⟨fun h => by simp [Fence.wide] at h, hR.mono ?_⟩
             rintro e W6 (⟨rfl, j1, j2, j3, j4⟩ | ⟨rfl, j1⟩)
             · gi_wp2_with fail
               go_roundw
               case rel => exact ⟨k + 1, by omega, by simp, j1, j2, j3, j4⟩
               case measure => simp [intOf]; omega
             · gi_wp2_with fail
               refine bodyPost_ret (results_none rfl _ _ _) rfl ?_
               exact ⟨⟨_, rfl⟩, .inr ⟨_, by omega, j1⟩⟩
    · obtain rfl : k = ts.length := by omega
      gi_wp2
      go_end0
      exact ⟨⟨_, rfl⟩, .inl ⟨_, hJk⟩⟩
end Go.Proofs.YtpknifioflagaaaDoor
