/- kv.cutPair: a pair at the head of bytes. kv.Load. kv.Load of a row of one's own. -/
import Derived.Test.YtnbemfddcjhcaaaKE
import Derived.Test.YtnbemfddcjhcaaaD0
namespace Go.Proofs.Ytnbemfddcjhcaaa.Kv
open Go.RowKit

def CutPr (w : World) (b cap : Nat) (o : Option (Pr × Str)) (e : Ending) : Prop :=
  match o with
  | none => e = .returned (.tuple #[.agg #[.string ⟨#[]⟩, .string ⟨#[]⟩], .slice none 0 0, .bool false])
  | some (x, t) => ∃ off' cap', e = .returned (.tuple #[.agg #[.string x.1, .string x.2], .slice (some ⟨b, off', none⟩) t.length cap', .bool true]) ∧ t.length ≤ cap' ∧ cap' ≤ cap ∧ Bys w b off' t
theorem Bys.below' {w w' : World} {b off n₀ : Nat} {l : Str} (h : Bys w b off l) (hn : b < n₀) (hb : Below n₀ w w') : Bys w' b off l := fun j c hj =>
  (hb.cell (p := ⟨b, off + j, none⟩) hn).trans (h j c hj)
theorem results_cut {fn : Func} {tmps : Array Value} {w : World} {g : Nat} {u v y z : Value} (h : fn.results = #[.cell 2 26, .tmp 3, .tmp 4]) (hp : tmps[2]?.getD undef = .pointer (some ⟨g, 0, none⟩)) (h0 : w.cell? ⟨g, 0, none⟩ = some u) (h1 : w.cell? ⟨g, 1, none⟩ = some v) (hy : tmps[3]?.getD undef = y) (hz : tmps[4]?.getD undef = z) : (results fn tmps).run Try.prog w = .ok (.tuple #[.agg #[u, v], y, z]) w := by
  simp [results, h, hp, hy, hz, h0, h1, go_sem, Result.andThen]
theorem two_cells {w : World} {g : Nat} {u v : Value} {T : TypeId} (h : w.heap[g]? = some (.cells #[u, v] T)) : w.cell? ⟨g, 0, none⟩ = some u ∧ w.cell? ⟨g, 1, none⟩ = some v ∧ w.frozen? ⟨g, 0, none⟩ = false ∧ w.frozen? ⟨g, 1, none⟩ = false := by simp [World.cell?, World.frozen?, h]
theorem set_two {w : World} {g : Nat} {u v : Value} {T : TypeId} (x y : Value) (h : w.heap[g]? = some (.cells #[u, v] T)) : ((w.setCell ⟨g, 0, none⟩ x).setCell ⟨g, 1, none⟩ y).heap[g]? = some (.cells #[x, y] T) ∧ ∀ n, n ≤ g → Below n w ((w.setCell ⟨g, 0, none⟩ x).setCell ⟨g, 1, none⟩ y) := by
  have h1 := heap_setCell_same _ _ 0 _ _ x h
  refine ⟨heap_setCell_same _ _ 1 _ _ y h1, fun n hn => ?_⟩
  exact ((Below.refl n w).setCell (p := ⟨g, 0, none⟩) hn x).setCell (p := ⟨g, 1, none⟩) hn y
set_option maxRecDepth 100000 in
set_option maxHeartbeats 2000000 in
theorem cutPair_any (b off cap : Nat) (l : Str) (w : World) (hB : Bys w b off l) (hb : b < w.heap.size) (hc : l.length ≤ cap) (hm : cap ≤ 9223372036854775807) :
    Calls Try.prog 23 #[.slice (some ⟨b, off, none⟩) l.length cap] w fun e w' => CutPr w b cap (cutP l) e ∧ Below w.heap.size w w' := by
  obtain ⟨W, hW⟩ : ∃ W, w.alloc (.cells #[.string ⟨#[]⟩, .string ⟨#[]⟩] 26) = W := ⟨_, rfl⟩
  have f1 : W.heap[w.heap.size]? = some (.cells #[.string ⟨#[]⟩, .string ⟨#[]⟩] 26) := by rw [← hW]; exact heap_alloc_new w _
  have hB1 : Below w.heap.size w W := by rw [← hW]; exact (Below.refl _ w).alloc (Nat.le_refl _) _
  have z1 : W.heap.size = w.heap.size + 1 := by rw [← hW]; simp
  have hBW := hB.below' hb hB1
  have HC1 := hide (cutText1_any b off cap l W hBW hc hm)
  have HH := hide (And.intro hB (And.intro hBW (And.intro hB1 f1)))
  unfold cutP
  cases h1 : cut1 l with
  | none =>
    rw [h1] at HC1
    clear hB hBW hB1 f1
    go_enter Try.func23, Try.ntmps23
    go_wp2_with (first
      | (go_at_call 40; refine HC1.out.mono ?_; rintro e w1 ⟨hq, b1⟩; unfold CutT at hq; subst hq; have H1 := hide b1; clear b1; refine stopHere ?_))
    unfold Hid
    have f2 := (H1.out.block w.heap.size (by omega)).trans HH.out.2.2.2
    obtain ⟨k0, k1, k2, k3⟩ := two_cells f2
    obtain ⟨g, hg⟩ : ∃ g, w.heap.size = g := ⟨_, rfl⟩
    rw [hg] at k0 k1 k2 k3
    have HX := hide (set_two (.string ⟨#[]⟩) (.string ⟨#[]⟩) f2)
    go_wp2_with fail
    obtain ⟨x1, x2⟩ := HX.out
    rw [hg] at x1 x2
    obtain ⟨y0, y1, _, _⟩ := two_cells x1
    exact bodyPost_ret (results_cut rfl (by simp [hg]) y0 y1 rfl rfl) rfl ⟨rfl, (HH.out.2.2.1.trans (H1.out.mono (by omega))).trans (x2 _ (by omega))⟩
  | some y =>
    obtain ⟨k, r⟩ := y
    rw [h1] at HC1
    clear hB hBW hB1 f1
    simp only
    cases h2 : cut2 r with
    | none =>
      go_enter Try.func23, Try.ntmps23
      go_wp2_with (first
        | (go_at_call 40; refine HC1.out.mono ?_; rintro e w1 ⟨hq, b1⟩; unfold CutT at hq; obtain ⟨off1, cap1, rfl, q1, q2, q3⟩ := hq; have H1 := hide (And.intro b1 (And.intro q1 (And.intro q2 q3))); clear b1 q1 q2 q3; refine stopHere ?_))
      unfold Hid
      have hz := H1.out.1.size
      have HC2 := hide (cutText2_any b off1 cap1 r w1 (H1.out.2.2.2.below' (by omega) H1.out.1) H1.out.2.1 (by have := H1.out.2.2.1; omega))
      rw [h2] at HC2
      go_wp2_with (first
        | (go_at_call 40; refine HC2.out.mono ?_; rintro e w2 ⟨hq, b2⟩; unfold CutT at hq; subst hq; have H2 := hide b2; clear b2; refine stopHere ?_))
      unfold Hid
      have f2 := (H2.out.block w.heap.size (by omega)).trans ((H1.out.1.block w.heap.size (by omega)).trans HH.out.2.2.2)
      have hz2 := H2.out.size
      obtain ⟨k0, k1, k2, k3⟩ := two_cells f2
      obtain ⟨g, hg⟩ : ∃ g, w.heap.size = g := ⟨_, rfl⟩
      rw [hg] at k0 k1 k2 k3
      have HX := hide (set_two (.string ⟨#[]⟩) (.string ⟨#[]⟩) f2)
      go_wp2_with fail
      obtain ⟨x1, x2⟩ := HX.out
      rw [hg] at x1 x2
      obtain ⟨y0, y1, _, _⟩ := two_cells x1
      exact bodyPost_ret (results_cut rfl (by simp [hg]) y0 y1 rfl rfl) rfl ⟨rfl, (HH.out.2.2.1.trans ((H1.out.1.trans (H2.out.mono hz)).mono (by omega))).trans (x2 _ (by omega))⟩
    | some y =>
      obtain ⟨v, t⟩ := y
      simp only
      go_enter Try.func23, Try.ntmps23
      go_wp2_with (first
        | (go_at_call 40; refine HC1.out.mono ?_; rintro e w1 ⟨hq, b1⟩; unfold CutT at hq; obtain ⟨off1, cap1, rfl, q1, q2, q3⟩ := hq; have H1 := hide (And.intro b1 (And.intro q1 (And.intro q2 q3))); clear b1 q1 q2 q3; refine stopHere ?_))
      unfold Hid
      have hz := H1.out.1.size
      have HC2 := hide (cutText2_any b off1 cap1 r w1 (H1.out.2.2.2.below' (by omega) H1.out.1) H1.out.2.1 (by have := H1.out.2.2.1; omega))
      rw [h2] at HC2
      go_wp2_with (first
        | (go_at_call 40; refine HC2.out.mono ?_; rintro e w2 ⟨hq, b2⟩; unfold CutT at hq; obtain ⟨off2, cap2, rfl, q1, q2, q3⟩ := hq; have H2 := hide (And.intro b2 (And.intro q1 (And.intro q2 q3))); clear b2 q1 q2 q3; refine stopHere ?_))
      unfold Hid
      have f2 := (H2.out.1.block w.heap.size (by omega)).trans ((H1.out.1.block w.heap.size (by omega)).trans HH.out.2.2.2)
      have hz2 := H2.out.1.size
      obtain ⟨k0, k1, k2, k3⟩ := two_cells f2
      obtain ⟨g, hg⟩ : ∃ g, w.heap.size = g := ⟨_, rfl⟩
      rw [hg] at k0 k1 k2 k3
      have HX := hide (set_two (.string (ofS k)) (.string (ofS v)) f2)
      go_wp2_with fail
      obtain ⟨x1, x2⟩ := HX.out
      rw [hg] at x1 x2
      obtain ⟨y0, y1, _, _⟩ := two_cells x1
      refine bodyPost_ret (results_cut rfl (by simp [hg]) y0 y1 rfl rfl) rfl ⟨⟨off2, cap2, rfl, H2.out.2.1, Nat.le_trans H2.out.2.2.1 H1.out.2.2.1, fun j c hj => ?_⟩, (HH.out.2.2.1.trans ((H1.out.1.trans (H2.out.1.mono hz)).mono (by omega))).trans (x2 _ (by omega))⟩
      have hq := H2.out.2.2.2 j c hj
      rw [H1.out.1.cell (p := ⟨b, off2 + j, none⟩) (by show b < W.heap.size; omega), HH.out.2.2.1.cell (p := ⟨b, off2 + j, none⟩) hb] at hq
      exact hq
end Go.Proofs.Ytnbemfddcjhcaaa.Kv
namespace Go.Proofs.Ytnbemfddcjhcaaa.Kv
open Go.RowKit

def lenOf : Value → Nat
  | .slice _ n _ => n
  | _ => 0
/-- What Load answers. -/
def LoadR (l : Str) (w : World) (e : Ending) (w' : World) : Prop :=
  (∃ L p bm, GR L ∧ l = bytesM L ∧ e = .returned (.tuple #[.pointer (some ⟨p, 0, none⟩), .int .i64 0]) ∧ IsM w.heap.size p bm L w') ∨ (Bad l ∧ e = .returned (.tuple #[.pointer none, .int .i64 3]))
theorem results_two {fn : Func} {tmps : Array Value} {w : World} {a b : Nat} {x y : Value} (h : fn.results = #[.tmp a, .tmp b]) (ha : tmps[a]?.getD undef = x) (hb : tmps[b]?.getD undef = y) : (results fn tmps).run Try.prog w = .ok (.tuple #[x, y]) w := by
  simp [results, h, ha, hb]
theorem gr_nil : GR [] := ⟨⟨by simp, fun x hx => by cases hx⟩, List.Pairwise.nil⟩
set_option maxRecDepth 100000 in
set_option maxHeartbeats 2000000 in
theorem load_nil (ao : Option Addr) (cap : Nat) (w : World) :
    Calls Try.prog 10 #[.slice ao 0 cap] w fun e w' => LoadR [] w e w' ∧ Below w.heap.size w w' := by
  have H0 := hide (kvNew_any w.heap.size w (Nat.le_refl _))
  go_enter Try.func10, Try.ntmps10
  go_wp2_with (first
    | (go_at_call 4; refine H0.out.mono ?_; rintro e w1 ⟨p, bm, rfl, d1, b1, _⟩; have H1 := hide (And.intro d1 b1); clear d1 b1))
  refine wp_loop_rounds 1 ?_
  rw [rounds_succ]
  go_wp2_with fail
  exact bodyPost_ret (results_two rfl rfl rfl) rfl ⟨.inl ⟨[], p, bm, gr_nil, rfl, rfl, H1.out.1⟩, H1.out.2⟩
set_option maxRecDepth 100000 in
set_option maxHeartbeats 4000000 in
theorem load_some (b off cap : Nat) (l : Str) (w : World) (hB : Bys w b off l) (hb : b < w.heap.size) (hc : l.length ≤ cap) (hm : cap ≤ 9223372036854775807) :
    Calls Try.prog 10 #[.slice (some ⟨b, off, none⟩) l.length cap] w fun e w' => LoadR l w e w' ∧ Below w.heap.size w w' := by
  have H0 := hide (kvNew_any w.heap.size w (Nat.le_refl _))
  have HH := hide (And.intro hB hc)
  clear hB hc
  go_enter Try.func10, Try.ntmps10
  go_wp2_with (first
    | (go_at_call 4; refine H0.out.mono ?_; rintro e w1 ⟨p, bm, rfl, d1, b1, _⟩; have H1 := hide (And.intro d1 b1); clear d1 b1))
  go_loopw [0, 5] (fun s la wr => ∃ (L : List Pr) (r : Str) (o c : Nat), s = .slice (some ⟨b, o, none⟩) r.length c ∧ la = .string (lastK L) ∧ l = bytesM L ++ r ∧ GR L ∧ IsM w.heap.size p bm L wr ∧ Bys wr b o r ∧ r.length ≤ c ∧ c ≤ cap ∧ Below w.heap.size w wr) (fun s _ _ => lenOf s)
  case atStart => exact ⟨[], l, off, cap, rfl, rfl, rfl, gr_nil, H1.out.1, HH.out.1.below' hb H1.out.2, HH.out.2, Nat.le_refl _, H1.out.2⟩
  case round =>
    obtain ⟨L, r, o, c, rfl, rfl, hl, hG, hM, hBr, hrc, hcc, hbw⟩ := hrel
    have hwz := hbw.size
    obtain ⟨m, hmr⟩ : ∃ m, r.length = m := ⟨_, rfl⟩
    rw [hmr] at hrc
    obtain ⟨la, hla⟩ : ∃ la, lastK L = la := ⟨_, rfl⟩
    have HC := hide (cutPair_any b o c r wr hBr (by omega) (by omega) (by omega))
    have HI := hide (And.intro hl (And.intro hG (And.intro hM (And.intro hBr (And.intro hbw (And.intro hmr hla))))))
    rw [hmr] at HC ⊢
    rw [hla]
    clear hl hG hM hBr hbw hmr hla
    by_cases hm0 : m = 0
    · subst hm0
      go_wp2_with fail
      obtain ⟨hl, hG, hM, hBr, hbw, hmr, hla⟩ := HI.out
      have hr : r = [] := List.eq_nil_of_length_eq_zero hmr
      refine bodyPost_ret (results_two rfl rfl rfl) rfl ⟨.inl ⟨L, p, bm, hG, ?_, rfl, hM⟩, hbw⟩
      rw [hl, hr, List.append_nil]
    · have hm1 : (0 : Int) < m := by omega
      have hrn : r ≠ [] := fun e => hm0 (by rw [← HI.out.2.2.2.2.2.1, e]; rfl)
      cases hq : cutP r with
      | none =>
        rw [hq] at HC
        go_wp2_with (first
          | (go_at_call 23; refine HC.out.mono ?_; rintro e w2 ⟨hq, b2⟩; unfold CutPr at hq; subst hq; have H2 := hide b2; clear b2; refine stopHere ?_))
        unfold Hid
        go_wp2_with fail
        obtain ⟨hl, hG, hM, hBr, hbw, hmr, hla⟩ := HI.out
        refine bodyPost_ret (results_two rfl rfl rfl) rfl ⟨.inr ⟨by rw [hl]; exact bad_cut hG hrn hq, rfl⟩, ?_⟩
        exact (hbw.trans (H2.out.mono hwz)).alloc (by have := H2.out.size; omega) _
      | some y =>
        obtain ⟨x, t⟩ := y
        rw [hq] at HC
        go_wp2_with (first
          | (go_at_call 23; refine HC.out.mono ?_; rintro e w2 ⟨hq, b2⟩; unfold CutPr at hq; obtain ⟨o2, c2, rfl, q1, q2, q3⟩ := hq; have H2 := hide (And.intro b2 (And.intro q1 (And.intro q2 q3))); clear b2 q1 q2 q3; refine stopHere ?_))
        unfold Hid
        have hz2 := H2.out.1.size
        obtain ⟨W3, hW3⟩ : ∃ W3, w2.alloc (.cells #[.string x.1, .string x.2] 26) = W3 := ⟨_, rfl⟩
        have f3 : W3.heap[w2.heap.size]? = some (.cells #[.string x.1, .string x.2] 26) := by rw [← hW3]; exact heap_alloc_new w2 _
        have hB3 : Below w2.heap.size w2 W3 := by rw [← hW3]; exact (Below.refl _ w2).alloc (Nat.le_refl _) _
        have z3 := hB3.size
        obtain ⟨k0, k1, k2, k3⟩ := two_cells f3
        have hM3 : IsM w.heap.size p bm L W3 := (HI.out.2.2.1.below H2.out.1).below hB3
        have hbw3 : Below w.heap.size w W3 := (HI.out.2.2.2.2.1.trans (H2.out.1.mono hwz)).trans (hB3.mono (by omega))
        have H3 := hide (And.intro hM3 (And.intro hbw3 (And.intro f3 hB3)))
        clear hM3 hbw3 f3 hB3
        by_cases hlt : la.toList < x.1.toList
        · have hles := less_no (str_asymm hlt)
          have hles2 : (x.1.toList == la.toList) = false := by
            rw [beq_eq_false_iff_ne]
            intro e
            rw [e] at hlt
            exact str_irrefl _ hlt
          obtain ⟨e1, he1⟩ : ∃ e1 : Nat, putE L x.1 x.2 = e1 := ⟨_, rfl⟩
          by_cases he : e1 = 0
          · subst he
            have hnx : Next L x := ⟨by rw [HI.out.2.2.2.2.2.2]; exact hlt, he1⟩
            have hno := next_ok HI.out.2.1 hnx
            have HN := hide (And.intro hno he1)
            clear hno he1 hnx
            go_wp2_with (first
              | (go_at_call 5; refine (put_any w.heap.size p bm L x.1 x.2 W3 H3.out.1 H3.out.2.1.size).mono ?_; rintro e w4 ⟨rfl, t4⟩; rw [HN.out.2]; have H4 := hide t4; clear t4; refine stopHere ?_))
            unfold Hid
            have hk4 : w4.cell? ⟨w2.heap.size, 0, none⟩ = some (.string x.1) := by
              have h := frees_box H4.out.2 H3.out.2.2.1 (fun hj => by have := (HI.out.2.2.1.lt hj).2; omega)
              exact (two_cells h).1
            go_wp2_with fail
            obtain ⟨hl, hG, hM, hBr, hbw, hmr, hla⟩ := HI.out
            refine ⟨⟨L ++ [x], t, o2, c2, rfl, by rw [lastK_snoc], ?_, HN.out.1.1, by rw [← HN.out.1.2]; exact H4.out.1, ?_, H2.out.2.1, Nat.le_trans H2.out.2.2.1 hcc, H3.out.2.1.trans H4.out.2.below⟩, ?_⟩
            · rw [hl, bytesM_snoc, List.append_assoc, ← cutP_inv hq]
            · exact (((H2.out.2.2.2.below' (by omega) H2.out.1).below' (by omega : b < w2.heap.size) H3.out.2.2.2)).below' hb H4.out.2.below
            · have hlen := congrArg List.length (cutP_inv hq)
              rw [List.length_append, encP_len, hmr] at hlen
              simp only [lenOf, sz1] at hlen ⊢
              omega
          · have hei : (e1 : Int) ≠ 0 := by omega
            go_wp2_with (first
              | (go_at_call 5; refine (put_any w.heap.size p bm L x.1 x.2 W3 H3.out.1 H3.out.2.1.size).mono ?_; rintro e w4 ⟨rfl, t4⟩; rw [he1]; have H4 := hide t4; clear t4; refine stopHere ?_))
            unfold Hid
            go_wp2_with fail
            obtain ⟨hl, hG, hM, hBr, hbw, hmr, hla⟩ := HI.out
            exact bodyPost_ret (results_two rfl rfl rfl) rfl ⟨.inr ⟨by rw [hl]; exact bad_next hG hq (fun h => he (by rw [← he1]; exact h.2)), rfl⟩, H3.out.2.1.trans H4.out.2.below⟩
        · by_cases heq : x.1.toList = la.toList
          · have hles2 : (x.1.toList == la.toList) = true := by rw [heq]; simp
            have hles : Op.bytesLess x.1.toList la.toList = false := by rw [heq]; exact less_no (str_irrefl _)
            go_wp2_with fail
            obtain ⟨hl, hG, hM, hBr, hbw, hmr, hla⟩ := HI.out
            exact bodyPost_ret (results_two rfl rfl rfl) rfl ⟨.inr ⟨by rw [hl]; exact bad_next hG hq (fun h => hlt (by rw [← hla]; exact h.1)), rfl⟩, H3.out.2.1⟩
          · have hles := less_yes (str_total hlt (fun e => heq e.symm))
            go_wp2_with fail
            obtain ⟨hl, hG, hM, hBr, hbw, hmr, hla⟩ := HI.out
            exact bodyPost_ret (results_two rfl rfl rfl) rfl ⟨.inr ⟨by rw [hl]; exact bad_next hG hq (fun h => hlt (by rw [← hla]; exact h.1)), rfl⟩, H3.out.2.1⟩
end Go.Proofs.Ytnbemfddcjhcaaa.Kv
namespace Go.Proofs.Ytnbemfddcjhcaaa.Kv
open Go.RowKit

theorem row_bys {w : World} {base : Nat} {v : Value} {l : Str} (h : Row w base v l) : (l = [] ∧ ∃ ao cap, v = .slice ao 0 cap) ∨ ∃ g cap, v = .slice (some ⟨g, 0, none⟩) l.length cap ∧ l.length ≤ cap ∧ cap ≤ 9223372036854775807 ∧ g < w.heap.size ∧ Bys w g 0 l := by
  obtain ⟨h1, ⟨rfl, h2⟩ | ⟨g, cap, cur, rfl, x1, x2, x3, x4, x5, x6⟩⟩ := h
  · have hl : l = [] := List.eq_nil_of_length_eq_zero h2
    subst hl
    exact .inl ⟨rfl, _, _, rfl⟩
  · refine .inr ⟨g, cap, rfl, x3, by unfold maxLen at x4; omega, (Array.getElem?_eq_some_iff.1 x2).1, fun j c hj => ?_⟩
    have hlt := (List.getElem?_eq_some_iff.1 hj).1
    have hx : (Lib.byteCells l)[j]? = some (.int .u8 (c.toNat : Nat)) := by simp [Lib.byteCells, hj]
    rw [← x6, List.getElem?_take_of_lt (by omega)] at hx
    simp [World.cell?, x2]
    simpa using hx
theorem load_row {w : World} {base : Nat} {v : Value} {l : Str} (h : Row w base v l) : Calls Try.prog 10 #[v] w fun e w' => LoadR l w e w' ∧ Below w.heap.size w w' := by
  rcases row_bys h with ⟨rfl, ao, cap, rfl⟩ | ⟨g, cap, rfl, h1, h2, h3, h4⟩
  · exact load_nil ao cap w
  · exact load_some g 0 cap l w h4 h3 h1 h2
theorem bytes_one {L L' : List Pr} (h : GR L) (h' : GR L') (e : bytesM L = bytesM L') : L = L' := by
  obtain ⟨L₁, e1, e2⟩ := bytes_prefix L' (r := []) h.good.sizes h'.good.sizes (by rw [e, List.append_nil])
  cases L₁ with
  | nil => rw [e1, List.append_nil]
  | cons x L₁ =>
    exfalso
    have : encP x ++ bytesM L₁ = [] := by simpa [bytesM] using e2.symm
    exact encP_ne x (List.append_eq_nil_iff.1 this).1
theorem pr_neq (w : World) (a b : ByteArray) : (binOp .neq 26 (.agg #[.string a, .string b]) (.agg #[.string a, .string b])).run Try.prog w = .ok (.bool false) w := by
  have hS : Try.prog.underlying 26 = some (.struct (Try.prog.fieldsOf 26)) := by kernel_rfl
  have hp : Try.prog.stoodInHeld 26 = false := by kernel_rfl
  have u9 := Try.underlying9
  have a9 := Try.isAgg9
  have z9 := Try.sizeOf9
  rw [run_neq_struct, show (10000 : Nat) = 9999 + 1 from rfl, run_equalIn_agg w 9999 26 _ _ hS hp]
  simp only [Program.fieldsOf, Try.underlying26]
  go_simp
theorem prGuard : Try.prog.eqGuardType Try.prog.depth 26 = false := by kernel_rfl
/-- Pairs that were answered are read again. -/
theorem pair_own {w : World} {base : Nat} {v : Value} {S : List Pr} (h : w.ownsRow base 26 2 v S.length (pairC S)) : ∃ ao cap, v = .slice ao S.length cap ∧ ∀ (k : Nat) (x : Pr), S[k]? = some x → ∃ g, ao = some ⟨g, 0, none⟩ ∧ g < w.heap.size ∧ w.cell? ⟨g, k * 2, none⟩ = some (.string x.1) ∧ w.cell? ⟨g, k * 2 + 1, none⟩ = some (.string x.2) := by
  obtain ⟨h1, ⟨rfl, h2⟩ | ⟨g, cap, cur, rfl, x1, x2, x3, x4, x5, x6⟩⟩ := h
  · have hl : S = [] := List.eq_nil_of_length_eq_zero h2
    subst hl
    exact ⟨none, 0, rfl, fun k x hk => by cases hk⟩
  · refine ⟨_, cap, rfl, fun k x hk => ⟨g, rfl, (Array.getElem?_eq_some_iff.1 x2).1, ?_, ?_⟩⟩
    · have hlt := (List.getElem?_eq_some_iff.1 hk).1
      have hx : (pairC S)[k * 2 + 0]? = some (.string x.1) := flat_at pairC1 2 S (fun _ _ => rfl) k x hk 0 _ rfl
      rw [← x6, List.getElem?_take_of_lt (by omega)] at hx
      simp [World.cell?, x2]
      simpa using hx
    · have hlt := (List.getElem?_eq_some_iff.1 hk).1
      have hx : (pairC S)[k * 2 + 1]? = some (.string x.2) := flat_at pairC1 2 S (fun _ _ => rfl) k x hk 1 _ rfl
      rw [← x6, List.getElem?_take_of_lt (by omega)] at hx
      simp [World.cell?, x2]
      simpa using hx
/-- A map of few small pairs has few bytes. -/
theorem size_few {L : List Pr} (h : ∀ x ∈ L, sz1 x ≤ 127) : sizeM L ≤ L.length * 127 := by
  induction L with
  | nil => simp [sizeM]
  | cons x L ih =>
    have h1 := h x List.mem_cons_self
    have h2 := ih (fun y hy => h y (List.mem_cons_of_mem _ hy))
    have e : sizeM (x :: L) = sz1 x + sizeM L := by simp [sizeM]
    rw [e, List.length_cons, Nat.add_mul]
    omega
/-- What Put adds. -/
theorem put_small {L : List Pr} (hR : Rising L) {n : Nat} (hn : L.length ≤ n) (h : ∀ x ∈ L, x.2.size ≤ 60) (k v : ByteArray) (hv : v.size ≤ 60) : (putL L k v).length ≤ n + 1 ∧ ∀ x ∈ putL L k v, x.2.size ≤ 60 := by
  unfold putL
  split
  · refine ⟨?_, fun x hx => ?_⟩
    · rw [putM_len hR]
      split <;> omega
    · rcases mem_putM.1 hx with rfl | ⟨hx, _⟩
      · exact hv
      · exact h x hx
  · exact ⟨by omega, h⟩
theorem put_rising {L : List Pr} (hR : Rising L) (k v : ByteArray) : Rising (putL L k v) := by
  unfold putL
  split
  · exact putM_rising hR _ _
  · exact hR
end Go.Proofs.Ytnbemfddcjhcaaa.Kv
