/- Whether tokens are the same, as the program tells it; the first tokens of many. -/
import Derived.Test.YtimhkgpjfppkmaaDoorRefSame
namespace Go.Proofs.YtimhkgpjfppkmaaDoor
open Go.RowKit

set_option maxRecDepth 100000 in
set_option maxHeartbeats 4000000 in
theorem equalAttrs_any (n₀ : Nat) (a1 a2 : Option Addr) (c1 c2 : Nat) (al bl : List (ByteArray × ByteArray)) (w : World) (h1 : AttrMem n₀ w a1 al) (h2 : AttrMem n₀ w a2 bl) :
    Calls Tryd.prog 45 #[.slice a1 al.length c1, .slice a2 bl.length c2] w fun e w' => Tells (al = bl) e ∧ Below w.heap.size w w' := by
  have hl1 := h1.1
  have hl2 := h2.1
  have HX := hide (And.intro h1 h2)
  clear h1 h2
  by_cases hlen : al.length = bl.length
  · rw [← hlen]
    have HL := hide hlen
    have hgd := attrGuard
    clear hlen hl2
    go_enter Tryd.func45, Tryd.ntmps45
    go_wp2_with fail
    go_loopw [13] (fun i wq => (wq.heap = w.heap ∧ Below w.heap.size w wq) ∧ ∃ j : Nat, j ≤ al.length ∧ i = .int .i64 j ∧ al.take j = bl.take j) (fun i _ => al.length - (intOf i).toNat)
    case atStart => exact ⟨⟨rfl, Below.refl _ _⟩, 0, Nat.zero_le _, rfl, rfl⟩
    case round =>
      obtain ⟨⟨hqh, hqb⟩, j, hj, rfl, hjq⟩ := hrel
      have HQ := hide (And.intro hqh (And.intro hjq hqb))
      clear hqh hjq hqb
      by_cases hjl : j < al.length
      · obtain ⟨x, hx⟩ : ∃ x, al[j]? = some x := ⟨al[j], by simp [hjl]⟩
        obtain ⟨y, hy⟩ : ∃ y, bl[j]? = some y := ⟨bl[j]'(by rw [← HL.out]; exact hjl), by simp [show j < bl.length by rw [← HL.out]; exact hjl]⟩
        obtain ⟨ba, oa, rfl, hba, m1, m2⟩ := HX.out.1.2.2 j x hx
        obtain ⟨bb, ob, rfl, hbb, n1, n2⟩ := HX.out.2.2.2 j y hy
        have m1' : wr.cell? ⟨ba, oa + j * 2, none⟩ = some (.string x.1) := by simpa [World.cell?, HQ.out.1] using m1
        have m2' : wr.cell? ⟨ba, oa + j * 2 + 1, none⟩ = some (.string x.2) := by simpa [World.cell?, HQ.out.1] using m2
        have n1' : wr.cell? ⟨bb, ob + j * 2, none⟩ = some (.string y.1) := by simpa [World.cell?, HQ.out.1] using n1
        have n2' : wr.cell? ⟨bb, ob + j * 2 + 1, none⟩ = some (.string y.2) := by simpa [World.cell?, HQ.out.1] using n2
        clear m1 m2 n1 n2
        by_cases hxy : x = y
        · have hne : ∀ v, (binOp .neq 49 (.agg #[.string x.1, .string x.2]) (.agg #[.string y.1, .string y.2])).run Tryd.prog v = .ok (.bool false) v := fun v => by rw [attr_neq, hxy]; simp
          go_wp2_with fail
          go_quiet (fail)
          go_wp2_with fail
          refine ⟨⟨⟨HQ.out.1, below_drewN HQ.out.2.2 nq⟩, j + 1, by omega, by simp, ?_⟩, by simp [intOf]; omega⟩
          rw [List.take_add_one, List.take_add_one, HQ.out.2.1, hx, hy, hxy]
        · have hne : ∀ v, (binOp .neq 49 (.agg #[.string x.1, .string x.2]) (.agg #[.string y.1, .string y.2])).run Tryd.prog v = .ok (.bool true) v := fun v => by
            rw [attr_neq]
            by_cases h1 : x.1 = y.1
            · have h2 : x.2 ≠ y.2 := fun h2 => hxy (Prod.ext h1 h2)
              simp [str_ne h2]
            · simp [str_ne h1]
          go_wp2_with fail
          go_quiet (fail)
          go_wp2_with fail
          go_ret
          exact ⟨.inr ⟨fun h => hxy (by rw [h, hy] at hx; cases hx; rfl), rfl⟩, below_drewN HQ.out.2.2 nq⟩
      · go_wp2_with fail
        go_ret
        refine ⟨.inl ⟨?_, rfl⟩, HQ.out.2.2⟩
        have h := HQ.out.2.1
        rwa [show j = al.length by omega, List.take_length, HL.out, List.take_length] at h
  · have hq : ((al.length : Int) == bl.length) = false := by rw [beq_eq_false_iff_ne]; omega
    go_enter Tryd.func45, Tryd.ntmps45
    go_wp2_with fail
    go_ret
    exact ⟨.inr ⟨fun h => hlen (by rw [h]), rfl⟩, Below.refl _ _⟩

/-- A token as a value. -/
def tokV (t : Tok) (a : Option Addr) (c : Nat) : Value := .agg #[.int .u8 t.kind, .string t.name, .slice a t.attrs.length c, .string t.text]

set_option maxRecDepth 100000 in
set_option maxHeartbeats 4000000 in
theorem sameOne_any (n₀ : Nat) (t u : Tok) (a1 a2 : Option Addr) (c1 c2 : Nat) (w : World) (h1 : AttrMem n₀ w a1 t.attrs) (h2 : AttrMem n₀ w a2 u.attrs) (hn : n₀ ≤ w.heap.size) :
    Calls Tryd.prog 44 #[tokV t a1 c1, tokV u a2 c2] w fun e w' => Tells (t = u) e ∧ Below w.heap.size w w' := by
  have HX := hide (And.intro h1 h2)
  clear h1 h2
  unfold tokV
  have hb2 : ∀ o1 o2 : Obj, Below w.heap.size w ((w.alloc o1).alloc o2) := fun o1 o2 => (((Below.refl _ w).alloc (Nat.le_refl _) _).alloc (by simp) _)
  have HB := hide hb2
  clear hb2
  by_cases d1 : t.kind = u.kind
  case neg =>
    have z1 : ((t.kind : Int) == u.kind) = false := by rw [beq_eq_false_iff_ne]; omega
    go_enter Tryd.func44, Tryd.ntmps44
    go_wp2_with fail
    go_ret
    exact ⟨.inr ⟨fun h => d1 (by rw [h]), rfl⟩, HB.out _ _⟩
  have z1 : ((t.kind : Int) == u.kind) = true := by simp [d1]
  by_cases d2 : t.name = u.name
  case neg =>
    have z2 := str_ne d2
    go_enter Tryd.func44, Tryd.ntmps44
    go_wp2_with fail
    go_ret
    exact ⟨.inr ⟨fun h => d2 (by rw [h]), rfl⟩, HB.out _ _⟩
  have z2 : (t.name.toList == u.name.toList) = true := by simp [d2]
  by_cases d3 : t.text = u.text
  case neg =>
    have z3 := str_ne d3
    go_enter Tryd.func44, Tryd.ntmps44
    go_wp2_with fail
    go_ret
    exact ⟨.inr ⟨fun h => d3 (by rw [h]), rfl⟩, HB.out _ _⟩
  have z3 : (t.text.toList == u.text.toList) = true := by simp [d3]
  go_enter Tryd.func44, Tryd.ntmps44
  go_wp2_with fail
  refine (equalAttrs_any n₀ _ _ _ _ t.attrs u.attrs _ (HX.out.1.below ((HB.out _ _).mono hn)) (HX.out.2.below ((HB.out _ _).mono hn))).mono ?_
  rintro e w' ⟨⟨hat, rfl⟩ | ⟨hat, rfl⟩, hbw⟩
  · have H := hide ((HB.out _ _).trans (hbw.mono (HB.out _ _).size))
    clear hbw
    go_wp2_with fail
    go_ret
    exact ⟨.inl ⟨by cases t; cases u; simp_all, rfl⟩, H.out⟩
  · have H := hide ((HB.out _ _).trans (hbw.mono (HB.out _ _).size))
    clear hbw
    go_wp2_with fail
    go_ret
    exact ⟨.inr ⟨fun h => hat (by rw [h]), rfl⟩, H.out⟩

set_option maxRecDepth 100000 in
set_option maxHeartbeats 4000000 in
theorem sameFunc_any (a1 a2 : Option Addr) (c1 c2 : Nat) (ts us : List Tok) (av1 av2 : Nat → Option Addr × Nat) (w : World) (h1 : TokMem w.heap.size w a1 ts av1) (h2 : TokMem w.heap.size w a2 us av2) :
    Calls Tryd.prog 43 #[.slice a1 ts.length c1, .slice a2 us.length c2, .func (.func 44) #[] #[]] w fun e w' => Tells (ts = us) e ∧ Below w.heap.size w w' := by
  have hl1 := h1.1
  have hl2 := h2.1
  have HT := hide (And.intro h1 h2)
  clear h1 h2
  by_cases hlen : ts.length = us.length
  · rw [← hlen]
    have HL := hide hlen
    clear hlen hl2
    go_enter Tryd.func43, Tryd.ntmps43
    go_wp2_with fail
    go_loopw [17] (fun i wr => ∃ k : Nat, k ≤ ts.length ∧ i = .int .i64 k ∧ ts.take k = us.take k ∧ Below w.heap.size w wr) (fun i _ => ts.length - (intOf i).toNat)
    case atStart => exact ⟨0, Nat.zero_le _, rfl, rfl, Below.refl _ _⟩
    case round =>
      obtain ⟨k, hk, rfl, heq, hbw⟩ := hrel
      have hsw := hbw.size
      have HB := hide (And.intro heq hbw)
      clear heq hbw
      by_cases hlt : k < ts.length
      · obtain ⟨t, ht⟩ : ∃ t, ts[k]? = some t := ⟨ts[k], by simp [hlt]⟩
        obtain ⟨u, hu⟩ : ∃ u, us[k]? = some u := ⟨us[k]'(by rw [← HL.out]; exact hlt), by simp [show k < us.length by rw [← HL.out]; exact hlt]⟩
        obtain ⟨x1, x2, x3, x4, x5, b, off, rfl, hb, t1, t2, t3, t4⟩ := HT.out.1.2 k t ht
        obtain ⟨y1, y2, y3, y4, y5, b', off', rfl, hb', u1, u2, u3, u4⟩ := HT.out.2.2 k u hu
        have p1 := (HB.out.2.cell (p := ⟨b, _, none⟩) hb).trans t1
        have p2 := (HB.out.2.cell (p := ⟨b, _, none⟩) hb).trans t2
        have p3 := (HB.out.2.cell (p := ⟨b, _, none⟩) hb).trans t3
        have p4 := (HB.out.2.cell (p := ⟨b, _, none⟩) hb).trans t4
        have q1 := (HB.out.2.cell (p := ⟨b', _, none⟩) hb').trans u1
        have q2 := (HB.out.2.cell (p := ⟨b', _, none⟩) hb').trans u2
        have q3 := (HB.out.2.cell (p := ⟨b', _, none⟩) hb').trans u3
        have q4 := (HB.out.2.cell (p := ⟨b', _, none⟩) hb').trans u4
        clear t1 t2 t3 t4 u1 u2 u3 u4
        obtain ⟨aw, haw⟩ : ∃ aw, (av1 k).1 = aw := ⟨_, rfl⟩
        obtain ⟨cw, hcw⟩ : ∃ cw, (av1 k).2 = cw := ⟨_, rfl⟩
        obtain ⟨bw, hbw⟩ : ∃ bw, (av2 k).1 = bw := ⟨_, rfl⟩
        obtain ⟨dw, hdw⟩ : ∃ dw, (av2 k).2 = dw := ⟨_, rfl⟩
        rw [haw, hcw] at p3
        rw [hbw, hdw] at q3
        rw [haw] at x4
        rw [hbw] at y4
        have HX := hide (And.intro x4 y4)
        clear x4 y4
        have hb1 : b < wr.heap.size := by omega
        have hb2 : b' < wr.heap.size := by omega
        have hbx : ∀ o1 o2 : Obj, Below wr.heap.size wr ((wr.alloc o1).alloc o2) := fun o1 o2 => (((Below.refl _ wr).alloc (Nat.le_refl _) _).alloc (by simp) _)
        have HBX := hide hbx
        clear hbx
        go_wp2_with fail
        refine (sameOne_any w.heap.size t u aw bw cw dw _ (HX.out.1.below (HB.out.2.trans ((HBX.out _ _).mono hsw))) (HX.out.2.below (HB.out.2.trans ((HBX.out _ _).mono hsw))) (by simp; omega)).mono ?_
        rintro e w' ⟨⟨htu, rfl⟩ | ⟨htu, rfl⟩, hbw⟩
        · have H := hide (HB.out.2.trans (((HBX.out _ _).trans (hbw.mono (HBX.out _ _).size)).mono hsw))
          clear hbw
          go_wp2_with fail
          go_roundw
          case rel => exact ⟨k + 1, by omega, by simp, by rw [List.take_add_one, List.take_add_one, HB.out.1, ht, hu, htu], H.out⟩
          case measure => simp [intOf]; omega
        · have H := hide (HB.out.2.trans (((HBX.out _ _).trans (hbw.mono (HBX.out _ _).size)).mono hsw))
          clear hbw
          go_wp2_with fail
          go_ret
          exact ⟨.inr ⟨fun h => htu (by rw [h, hu] at ht; cases ht; rfl), rfl⟩, H.out⟩
      · go_wp2_with fail
        go_ret
        refine ⟨.inl ⟨?_, rfl⟩, HB.out.2⟩
        have h := HB.out.1
        rwa [show k = ts.length by omega, List.take_length, HL.out, List.take_length] at h
  · have hq : ((ts.length : Int) == us.length) = false := by rw [beq_eq_false_iff_ne]; omega
    go_enter Tryd.func43, Tryd.ntmps43
    go_wp2_with fail
    go_ret
    exact ⟨.inr ⟨fun h => hlen (by rw [h]), rfl⟩, Below.refl _ _⟩

theorem same_any (a1 a2 : Option Addr) (c1 c2 : Nat) (ts us : List Tok) (av1 av2 : Nat → Option Addr × Nat) (w : World) (h1 : TokMem w.heap.size w a1 ts av1) (h2 : TokMem w.heap.size w a2 us av2) :
    Calls Tryd.prog 20 #[.slice a1 ts.length c1, .slice a2 us.length c2] w fun e w' => Tells (ts = us) e ∧ Below w.heap.size w w' := by
  have H := hide (sameFunc_any a1 a2 c1 c2 ts us av1 av2 w h1 h2)
  clear h1 h2
  go_enter Tryd.func20, Tryd.ntmps20
  go_wp2_with fail
  refine H.out.mono ?_
  rintro e w' ⟨⟨h, rfl⟩ | ⟨h, rfl⟩, hb⟩
  · go_wp2_with fail
    go_ret
    exact ⟨.inl ⟨h, rfl⟩, hb⟩
  · go_wp2_with fail
    go_ret
    exact ⟨.inr ⟨h, rfl⟩, hb⟩

theorem TokMem.take {n₀ : Nat} {w : World} {ao : Option Addr} {ts : List Tok} {av : Nat → Option Addr × Nat} (h : TokMem n₀ w ao ts av) (n : Nat) : TokMem n₀ w ao (ts.take n) av := by
  refine ⟨by have := h.1; simp; omega, fun k t hk => ?_⟩
  have hlt := (List.getElem?_eq_some_iff.1 hk).1
  simp at hlt
  rw [List.getElem?_take_of_lt (by omega)] at hk
  exact h.2 k t hk
end Go.Proofs.YtimhkgpjfppkmaaDoor
