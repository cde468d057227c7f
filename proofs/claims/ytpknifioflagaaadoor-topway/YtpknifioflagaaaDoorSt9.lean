/- Stanzas: Error, Result. -/
import Derived.Test.YtpknifioflagaaaDoorSt7
import Derived.Test.YtpknifioflagaaaDoorSt8a
import Derived.Test.YtpknifioflagaaaDoorFlt
namespace Go.Proofs.YtpknifioflagaaaDoor
open Go.RowKit Go.Shelf

/-- A condition's name and type; empty, if it is none. -/
def condN (c : Int) : ByteArray := if 1 ≤ c ∧ c ≤ 10 then tabN c.toNat else ⟨#[]⟩
def condT (c : Int) : ByteArray := if 1 ≤ c ∧ c ≤ 10 then tabT c.toNat else ⟨#[]⟩
theorem fname_any (c : Int) (w : World) (hl : RowsLaid w) : Calls Tryd.prog 46 #[.int .i64 c] w fun e w' => e = .returned (.string (condN c)) ∧ w' = w := by
  unfold condN
  split
  · rename_i h
    exact fname_yes c w h.1 h.2 hl
  · exact fname_no c w (by omega)
theorem ftype_any (c : Int) (w : World) (hl : RowsLaid w) : Calls Tryd.prog 44 #[.int .i64 c] w fun e w' => e = .returned (.string (condT c)) ∧ w' = w := by
  unfold condT
  split
  · rename_i h
    exact ftype_yes c w h.1 h.2 hl
  · exact ftype_no c w (by omega)
theorem cond_small (c : Int) : (condN c).size ≤ 9223372036854775807 ∧ (condT c).size ≤ 9223372036854775807 := by
  unfold condN condT
  split
  · rename_i h
    obtain ⟨k, hk, hk2⟩ : ∃ k : Nat, c.toNat = k ∧ k ≤ 10 := ⟨_, rfl, by omega⟩
    rw [hk]
    match k, hk2 with
    | 0, _ => decide
    | 1, _ => decide
    | 2, _ => decide
    | 3, _ => decide
    | 4, _ => decide
    | 5, _ => decide
    | 6, _ => decide
    | 7, _ => decide
    | 8, _ => decide
    | 9, _ => decide
    | 10, _ => decide
  · decide
/-- The payload of an answer with a condition. -/
def errT (c : Int) : List Tok := elemT ty_error [(⟨#[116, 121, 112, 101]⟩, condT c)] (elemT (condN c) [] [])
theorem results_st4 {fn : Func} {tmps : Array Value} {w : World} {b : Nat} {v0 v1 v2 v3 v4 v5 : Value} (h : fn.results = #[.cell 4 25]) (hp : tmps[4]?.getD undef = .pointer (some ⟨b, 0, none⟩)) (hc : w.heap[b]? = some (.cells #[v0, v1, v2, v3, v4, v5] 25)) : (results fn tmps).run Tryd.prog w = .ok (.agg #[v0, v1, v2, v3, v4, v5]) w := by
  obtain ⟨c0, c1, c2, c3, c4, c5⟩ := cells6 hc
  simp [results, h, hp, c0, c1, c2, c3, c4, c5, go_sem, Tryd.isAgg25, Tryd.sizeOf25]
theorem tokMem_nil (n : Nat) (w : World) : TokMem n w none [] (fun _ => (none, 0)) := ⟨by simp, fun k t h => by simp at h⟩
theorem attrMem_nil (n : Nat) (w : World) : AttrMem n w none [] := ⟨by simp, fun a h => by simp at h, fun j a h => by simp at h⟩
theorem attr_one {w : World} {g : Nat} {a b : ByteArray} {T : TypeId} (h : w.heap[g]? = some (.cells #[.string a, .string b] T)) (ha : a.size ≤ 9223372036854775807) (hb : b.size ≤ 9223372036854775807) : AttrMem w.heap.size w (some ⟨g, 0, none⟩) [(a, b)] := by
  refine ⟨by simp, fun x hx => ?_, fun j x hj => ?_⟩
  · simp at hx
    subst hx
    exact ⟨ha, hb⟩
  · cases j with
    | zero =>
      simp at hj
      subst hj
      exact ⟨g, 0, rfl, (Array.getElem?_eq_some_iff.1 h).1, by simp [World.cell?, h], by simp [World.cell?, h]⟩
    | succ j => simp at hj
theorem ElRow.set {base : Nat} {W : World} {v : Value} {l : List TokV} (h : ElRow base W v l) {b : Nat} (hb : b < base) (i : Nat) (u : Value) : ElRow base (W.setCell ⟨b, i, none⟩ u) v l :=
  ⟨ownsRow_setCell_below h.1 (a := ⟨b, i, none⟩) hb u, fun x hx => ⟨ownsRow_setCell_below (h.2 x hx).1 (a := ⟨b, i, none⟩) hb u, (h.2 x hx).2⟩⟩
theorem ElRow.set6 {base : Nat} {w : World} {v : Value} {l : List TokV} (h : ElRow base w v l) {b : Nat} (hb : b < base) (a0 a1 a2 a3 a4 a5 : Value) : ElRow base ((((((w.setCell ⟨b, 0, none⟩ a0).setCell ⟨b, 1, none⟩ a1).setCell ⟨b, 2, none⟩ a2).setCell ⟨b, 3, none⟩ a3).setCell ⟨b, 4, none⟩ a4).setCell ⟨b, 5, none⟩ a5) v l :=
  (((((h.set hb 0 a0).set hb 1 a1).set hb 2 a2).set hb 3 a3).set hb 4 a4).set hb 5 a5
set_option maxRecDepth 100000 in
set_option maxHeartbeats 4000000 in
theorem error_any (k : Int) (ty fr tt id : ByteArray) (pa : Option Addr) (pn pc : Nat) (c : Int) (w : World) (hl : RowsLaid w) :
    Calls Tryd.prog 24 #[.agg #[.int .u8 k, .string ty, .string fr, .string tt, .string id, .slice pa pn pc], .int .i64 c] w fun e w' => ∃ v l, e = .returned (.agg #[.int .u8 k, .string ty_error, .string tt, .string fr, .string id, v]) ∧ l.map (·.1) = errT c ∧ ElRow w.heap.size w' v l ∧ Below w.heap.size w w' := by
  obtain ⟨Wa, hWa, aa, ba, za⟩ := newV w 25 #[.int .u8 k, .string ty, .string fr, .string tt, .string id, .slice pa pn pc]
  obtain ⟨Wb, hWb, ab, bb, zb⟩ := newV Wa 25 #[.int .u8 0, .string ⟨#[]⟩, .string ⟨#[]⟩, .string ⟨#[]⟩, .string ⟨#[]⟩, .slice none 0 0]
  obtain ⟨Wc, hWc, ac, bc, zc⟩ := newV Wb 58 #[.string ⟨#[116, 121, 112, 101]⟩, .string (condT c)]
  rw [za] at ab zb
  rw [zb] at ac zc
  have bB : Below w.heap.size w Wb := ba.trans (bb.mono (by omega))
  have bC : Below w.heap.size w Wc := bB.trans (bc.mono (by omega))
  have hgs := hl.size
  have hlB : RowsLaid Wb := hl.below bB hgs
  have hlC : RowsLaid Wc := hl.below bC hgs
  have HTy := hide (ftype_any c Wb hlB)
  have HNm := hide (fname_any c Wc hlC)
  have aaC := (bc.block w.heap.size (by omega)).trans ((bb.block w.heap.size (by omega)).trans aa)
  have abC := (bc.block (w.heap.size + 1) (by omega)).trans ab
  have hsm := cond_small c
  have HE1 := hide (element_row (condN c) none 0 [] none 0 [] (fun _ => (none, 0)) Wc hsm.1 (attrMem_nil _ _) (tokMem_nil _ _) (by simp))
  obtain ⟨tn, htn⟩ : ∃ tn, condN c = tn := ⟨_, rfl⟩
  obtain ⟨tt', htt⟩ : ∃ tt', condT c = tt' := ⟨_, rfl⟩
  have H0 := hide (And.intro aaC (And.intro abC (And.intro ac (And.intro bC (And.intro hsm (And.intro htn htt))))))
  rw [htn] at HNm HE1
  rw [htt] at HTy hWc
  rw [show ([] : List (ByteArray × ByteArray)).length = 0 from rfl, show ([] : List Tok).length = 0 from rfl] at HE1
  clear aa ba ab bb ac bc bB bC hlB hlC hl aaC abC hsm htn htt
  go_enter Tryd.func24, Tryd.ntmps24
  go_wp2_with (first
    | (go_at_call 44; refine HTy.out.mono ?_; rintro e w1 ⟨rfl, hww⟩; rw [hww]; clear hww)
    | (go_at_call 46; refine HNm.out.mono ?_; rintro e w1 ⟨rfl, hww⟩; rw [hww]; clear hww)
    | (go_at_call 45; refine HE1.out.mono ?_; rintro e w3 ⟨v3, l3, rfl, m3, r3, b3⟩; refine stopHere ?_))
  unfold Hid
  obtain ⟨aaC, abC, ac, bC, hsm, htn, htt⟩ := H0.out
  have hz3 := b3.size
  have hl3 : l3.length = 2 := by
    have h := congrArg List.length m3
    rw [List.length_map] at h
    rw [h]
    rfl
  obtain ⟨ao3, cap3, hv3, hT3⟩ := tokMem_own r3 (by omega)
  have hA3 := (attr_one ac (by decide) hsm.2).below b3
  have hel := element_row ty_error (some ⟨w.heap.size + 2, 0, none⟩) 1 [(⟨#[116, 121, 112, 101]⟩, condT c)] ao3 cap3 (l3.map (·.1)) (avOf l3) w3 (by decide) (hA3.mono (by omega)) hT3 (by rw [List.length_map]; omega)
  rw [List.length_map, hl3, show ([(⟨#[116, 121, 112, 101]⟩, condT c)] : List (ByteArray × ByteArray)).length = 1 from rfl] at hel
  have HE2 := hide hel
  rw [hl3] at hv3
  subst hv3
  have H3 := hide (And.intro m3 (And.intro ((b3.block _ (by omega)).trans aaC) (And.intro ((b3.block _ (by omega)).trans abC) (bC.trans (b3.mono (by omega))))))
  unfold ty_error at HE2
  clear aaC abC ac bC hsm htn htt m3 r3 b3 hT3 hA3 hel HE1 HTy HNm
  go_wp2_with (go_at_call 45; refine HE2.out.mono ?_; rintro e w4 ⟨v4, l4, rfl, m4, r4, b4⟩; refine stopHere ?_)
  unfold Hid
  obtain ⟨m3, g3, h3, B3⟩ := H3.out
  have hz4 := b4.size
  have g4 := (b4.block _ (by omega)).trans g3
  have h4 := (b4.block _ (by omega)).trans h3
  obtain ⟨x0, x1, x2, x3, x4, x5⟩ := cells6 g4
  obtain ⟨y0, y1, y2, y3, y4, y5⟩ := cells6 h4
  have hf := frozen6 h4
  obtain ⟨ga4, gc4, hv4⟩ := own_shape r4.1
  have H4 := hide (And.intro h4 (And.intro (B3.trans (b4.mono (by omega))) (And.intro m4 (And.intro r4 m3))))
  subst hv4
  clear m3 g3 h3 B3 g4 h4 b4 m4 r4 HE2
  go_wp2_with fail
  obtain ⟨h4, B4, m4, r4, m3⟩ := H4.out
  refine bodyPost_ret (results_st4 rfl rfl (set6 h4 _ _ _ _ _ _)) rfl ⟨_, l4, rfl, ?_, ?_, below6 B4 (by omega) _ _ _ _ _ _⟩
  · rw [m4, m3, ← H0.out.2.2.2.2.2.1]
    rfl
  · exact (r4.set6 (by omega) _ _ _ _ _ _).lower (by omega)
end Go.Proofs.YtpknifioflagaaaDoor
