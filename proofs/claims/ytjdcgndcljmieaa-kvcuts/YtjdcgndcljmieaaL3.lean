/- kv.Load. -/
import Derived.Test.YtjdcgndcljmieaaL2
namespace Go.Proofs.Ytjdcgndcljmieaa
open Go.RowKit

def lenOf : Value → Nat
  | .slice _ n _ => n
  | _ => 0
/-- What Load answers. -/
def LoadR (l : Str) (w : World) (e : Ending) (w' : World) : Prop :=
  (∃ L p bm, GR L ∧ l = bytesM L ∧ e = .returned (.tuple #[.pointer (some ⟨p, 0, none⟩), .int .i64 0]) ∧ IsM w.heap.size p bm L w') ∨ (Bad l ∧ e = .returned (.tuple #[.pointer none, .int .i64 3]))
theorem results_two {fn : Func} {tmps : Array Value} {w : World} {a b : Nat} {x y : Value} (h : fn.results = #[.tmp a, .tmp b]) (ha : tmps[a]?.getD undef = x) (hb : tmps[b]?.getD undef = y) : (results fn tmps).run Try.prog w = .ok (.tuple #[x, y]) w := by
  simp [results, h, ha, hb]
theorem gr_nil : GR [] := ⟨⟨by simp, fun x hx => by cases hx⟩, List.Pairwise.nil⟩
set_option maxRecDepth 100000 in
set_option maxHeartbeats 2000000 in
theorem load_nil (ao : Option Addr) (cap : Nat) (w : World) :
    Calls Try.prog 12 #[.slice ao 0 cap] w fun e w' => LoadR [] w e w' ∧ Below w.heap.size w w' := by
  have H0 := hide (kvNew_any w.heap.size w (Nat.le_refl _))
  go_enter Try.func12, Try.ntmps12
  go_wp2_with (first
    | (go_at_call 23; refine H0.out.mono ?_; rintro e w1 ⟨p, bm, rfl, d1, b1, _⟩; have H1 := hide (And.intro d1 b1); clear d1 b1))
  refine wp_loop_rounds 1 ?_
  rw [rounds_succ]
  go_wp2_with fail
  exact bodyPost_ret (results_two rfl rfl rfl) rfl ⟨.inl ⟨[], p, bm, gr_nil, rfl, rfl, H1.out.1⟩, H1.out.2⟩
set_option maxRecDepth 100000 in
set_option maxHeartbeats 4000000 in
theorem load_some (b off cap : Nat) (l : Str) (w : World) (hB : Bys w b off l) (hb : b < w.heap.size) (hc : l.length ≤ cap) (hm : cap ≤ 9223372036854775807) :
    Calls Try.prog 12 #[.slice (some ⟨b, off, none⟩) l.length cap] w fun e w' => LoadR l w e w' ∧ Below w.heap.size w w' := by
  have H0 := hide (kvNew_any w.heap.size w (Nat.le_refl _))
  have HH := hide (And.intro hB hc)
  clear hB hc
  go_enter Try.func12, Try.ntmps12
  go_wp2_with (first
    | (go_at_call 23; refine H0.out.mono ?_; rintro e w1 ⟨p, bm, rfl, d1, b1, _⟩; have H1 := hide (And.intro d1 b1); clear d1 b1))
  go_loopw [0, 5] (fun s la wr => ∃ (L : List Pr) (r : Str) (o c : Nat), s = .slice (some ⟨b, o, none⟩) r.length c ∧ la = .string (lastK L) ∧ l = bytesM L ++ r ∧ GR L ∧ IsM w.heap.size p bm L wr ∧ Bys wr b o r ∧ r.length ≤ c ∧ c ≤ cap ∧ Below w.heap.size w wr) (fun s _ _ => lenOf s)
  case atStart => exact ⟨[], l, off, cap, rfl, rfl, rfl, gr_nil, H1.out.1, HH.out.1.below' hb H1.out.2, HH.out.2, Nat.le_refl _, H1.out.2⟩
  case round =>
    obtain ⟨L, r, o, c, rfl, rfl, hl, hG, hM, hBr, hrc, hcc, hbw⟩ := hrel
    have hwz := hbw.size
    obtain ⟨m, hmr⟩ : ∃ m, r.length = m := ⟨_, rfl⟩
    rw [hmr] at hrc
    obtain ⟨la, hla⟩ : ∃ la, lastK L = la := ⟨_, rfl⟩
    have HC := hide (cutPair_any b o c r wr hBr (by omega) (by omega) (by omega))
    have HI := hide (And.intro hl (And.intro hG (And.intro hM (And.intro hBr (And.intro hbw (And.intro hmr hla))))))
    rw [hmr] at HC ⊢
    rw [hla]
    clear hl hG hM hBr hbw hmr hla
    by_cases hm0 : m = 0
    · subst hm0
      go_wp2_with fail
      obtain ⟨hl, hG, hM, hBr, hbw, hmr, hla⟩ := HI.out
      have hr : r = [] := List.eq_nil_of_length_eq_zero hmr
      refine bodyPost_ret (results_two rfl rfl rfl) rfl ⟨.inl ⟨L, p, bm, hG, ?_, rfl, hM⟩, hbw⟩
      rw [hl, hr, List.append_nil]
    · have hm1 : (0 : Int) < m := by omega
      have hrn : r ≠ [] := fun e => hm0 (by rw [← HI.out.2.2.2.2.2.1, e]; rfl)
      cases hq : cutP r with
      | none =>
        rw [hq] at HC
        go_wp2_with (first
          | (go_at_call 32; refine HC.out.mono ?_; rintro e w2 ⟨hq, b2⟩; unfold CutPr at hq; subst hq; have H2 := hide b2; clear b2; refine stopHere ?_))
        unfold Hid
        go_wp2_with fail
        obtain ⟨hl, hG, hM, hBr, hbw, hmr, hla⟩ := HI.out
        refine bodyPost_ret (results_two rfl rfl rfl) rfl ⟨.inr ⟨by rw [hl]; exact bad_cut hG hrn hq, rfl⟩, ?_⟩
        exact (hbw.trans (H2.out.mono hwz)).alloc (by have := H2.out.size; omega) _
      | some y =>
        obtain ⟨x, t⟩ := y
        rw [hq] at HC
        go_wp2_with (first
          | (go_at_call 32; refine HC.out.mono ?_; rintro e w2 ⟨hq, b2⟩; unfold CutPr at hq; obtain ⟨o2, c2, rfl, q1, q2, q3⟩ := hq; have H2 := hide (And.intro b2 (And.intro q1 (And.intro q2 q3))); clear b2 q1 q2 q3; refine stopHere ?_))
        unfold Hid
        have hz2 := H2.out.1.size
        obtain ⟨W3, hW3⟩ : ∃ W3, w2.alloc (.cells #[.string x.1, .string x.2] 55) = W3 := ⟨_, rfl⟩
        have f3 : W3.heap[w2.heap.size]? = some (.cells #[.string x.1, .string x.2] 55) := by rw [← hW3]; exact heap_alloc_new w2 _
        have hB3 : Below w2.heap.size w2 W3 := by rw [← hW3]; exact (Below.refl _ w2).alloc (Nat.le_refl _) _
        have z3 := hB3.size
        obtain ⟨k0, k1, k2, k3⟩ := two_cells f3
        have hM3 : IsM w.heap.size p bm L W3 := (HI.out.2.2.1.below H2.out.1).below hB3
        have hbw3 : Below w.heap.size w W3 := (HI.out.2.2.2.2.1.trans (H2.out.1.mono hwz)).trans (hB3.mono (by omega))
        have H3 := hide (And.intro hM3 (And.intro hbw3 (And.intro f3 hB3)))
        clear hM3 hbw3 f3 hB3
        by_cases hlt : la.toList < x.1.toList
        · have hles := less_no (str_asymm hlt)
          have hles2 : (x.1.toList == la.toList) = false := by
            rw [beq_eq_false_iff_ne]
            intro e
            rw [e] at hlt
            exact str_irrefl _ hlt
          obtain ⟨e1, he1⟩ : ∃ e1 : Nat, putE L x.1 x.2 = e1 := ⟨_, rfl⟩
          by_cases he : e1 = 0
          · subst he
            have hnx : Next L x := ⟨by rw [HI.out.2.2.2.2.2.2]; exact hlt, he1⟩
            have hno := next_ok HI.out.2.1 hnx
            have HN := hide (And.intro hno he1)
            clear hno he1 hnx
            go_wp2_with (first
              | (go_at_call 16; refine (put_any w.heap.size p bm L x.1 x.2 W3 H3.out.1 H3.out.2.1.size).mono ?_; rintro e w4 ⟨rfl, t4⟩; rw [HN.out.2]; have H4 := hide t4; clear t4; refine stopHere ?_))
            unfold Hid
            have hk4 : w4.cell? ⟨w2.heap.size, 0, none⟩ = some (.string x.1) := by
              have h := frees_box H4.out.2 H3.out.2.2.1 (fun hj => by have := (HI.out.2.2.1.lt hj).2; omega)
              exact (two_cells h).1
            go_wp2_with fail
            obtain ⟨hl, hG, hM, hBr, hbw, hmr, hla⟩ := HI.out
            refine ⟨⟨L ++ [x], t, o2, c2, rfl, by rw [lastK_snoc], ?_, HN.out.1.1, by rw [← HN.out.1.2]; exact H4.out.1, ?_, H2.out.2.1, Nat.le_trans H2.out.2.2.1 hcc, H3.out.2.1.trans H4.out.2.below⟩, ?_⟩
            · rw [hl, bytesM_snoc, List.append_assoc, ← cutP_inv hq]
            · exact (((H2.out.2.2.2.below' (by omega) H2.out.1).below' (by omega : b < w2.heap.size) H3.out.2.2.2)).below' hb H4.out.2.below
            · have hlen := congrArg List.length (cutP_inv hq)
              rw [List.length_append, encP_len, hmr] at hlen
              simp only [lenOf, sz1] at hlen ⊢
              omega
          · have hei : (e1 : Int) ≠ 0 := by omega
            go_wp2_with (first
              | (go_at_call 16; refine (put_any w.heap.size p bm L x.1 x.2 W3 H3.out.1 H3.out.2.1.size).mono ?_; rintro e w4 ⟨rfl, t4⟩; rw [he1]; have H4 := hide t4; clear t4; refine stopHere ?_))
            unfold Hid
            go_wp2_with fail
            obtain ⟨hl, hG, hM, hBr, hbw, hmr, hla⟩ := HI.out
            exact bodyPost_ret (results_two rfl rfl rfl) rfl ⟨.inr ⟨by rw [hl]; exact bad_next hG hq (fun h => he (by rw [← he1]; exact h.2)), rfl⟩, H3.out.2.1.trans H4.out.2.below⟩
        · by_cases heq : x.1.toList = la.toList
          · have hles2 : (x.1.toList == la.toList) = true := by rw [heq]; simp
            have hles : Op.bytesLess x.1.toList la.toList = false := by rw [heq]; exact less_no (str_irrefl _)
            go_wp2_with fail
            obtain ⟨hl, hG, hM, hBr, hbw, hmr, hla⟩ := HI.out
            exact bodyPost_ret (results_two rfl rfl rfl) rfl ⟨.inr ⟨by rw [hl]; exact bad_next hG hq (fun h => hlt (by rw [← hla]; exact h.1)), rfl⟩, H3.out.2.1⟩
          · have hles := less_yes (str_total hlt (fun e => heq e.symm))
            go_wp2_with fail
            obtain ⟨hl, hG, hM, hBr, hbw, hmr, hla⟩ := HI.out
            exact bodyPost_ret (results_two rfl rfl rfl) rfl ⟨.inr ⟨by rw [hl]; exact bad_next hG hq (fun h => hlt (by rw [← hla]; exact h.1)), rfl⟩, H3.out.2.1⟩
end Go.Proofs.Ytjdcgndcljmieaa
