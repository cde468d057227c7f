/- The text of tokens, as the document says it. -/
import Derived.Test.YtaglbikjnaahnabDoorRefWhole
namespace Go.Proofs.YtaglbikjnaahnabDoor
open Go.RowKit

theorem size_of_list {s : ByteArray} {l : List UInt8} (h : s.data.toList = l) : s.size = l.length := by
  rw [← h]
  exact Array.length_toList.symm
theorem of_list {s : ByteArray} {l : List UInt8} (h : s.data.toList = l) : s = ⟨l.toArray⟩ := by
  obtain ⟨⟨x⟩⟩ := s
  subst h
  rfl

set_option maxRecDepth 100000 in
set_option maxHeartbeats 4000000 in
theorem refPrint_any (ao : Option Addr) (cap : Nat) (ts : List Tok) (av : Nat → Option Addr × Nat) (w : World) (hT : TokMem w.heap.size w ao ts av) (hU : Tabs w) :
    Calls Tryd.prog 24 #[.slice ao ts.length cap] w fun e w' => ((RightT ts ∧ e = .returned (.tuple #[.string ⟨(printT ts).toArray⟩, .int .i64 0])) ∨ (¬ RightT ts ∧ e = .returned (.tuple #[.string ⟨#[]⟩, .int .i64 3]))) ∧ Below w.heap.size w w' := by
  have hlen := hT.1
  have HT := hide hT
  have HR := hide (refRight_any ao cap ts av w hT hU)
  clear hT
  go_enter Tryd.func24, Tryd.ntmps24
  go_wp2_with fail
  refine HR.out.mono ?_
  rintro e w1 ⟨⟨hr, rfl⟩ | ⟨hr, rfl⟩, hb1⟩
  case inr =>
    have HB := hide hb1
    clear hb1
    go_wp2_with fail
    go_ret2
    exact ⟨.inr ⟨hr, rfl⟩, HB.out⟩
  have HB := hide hb1
  have hr64 := hr.1
  have HRT := hide hr
  clear hb1 HR hr
  go_wp2_with fail
  go_loopw [4, 5] (fun o i wr => ∃ (k : Nat) (s : ByteArray), k ≤ ts.length ∧ i = .int .i64 k ∧ o = .string s ∧ s.data.toList = printTo ts k ∧ Below w.heap.size w wr) (fun _ i _ => ts.length - (intOf i).toNat)
  case atStart => exact ⟨0, ⟨#[]⟩, Nat.zero_le _, rfl, rfl, rfl, HB.out⟩
  case round =>
    obtain ⟨k, s, hk, rfl, rfl, hs, hbw⟩ := hrel
    have hsw := hbw.size
    have hsz : s.size ≤ 4480000 := by
      rw [size_of_list hs]
      have h := printTo_le HRT.out.2.1 k
      omega
    have HE := hide (And.intro hs hbw)
    clear hs hbw
    by_cases hlt : k < ts.length
    · obtain ⟨t, ht⟩ : ∃ t, ts[k]? = some t := ⟨ts[k], by simp [hlt]⟩
      obtain ⟨x1, x2, x3, x4, x5, b, off, rfl, hb, c1, c2, c3, c4⟩ := HT.out.2 k t ht
      have d1 := (HE.out.2.cell (p := ⟨b, _, none⟩) hb).trans c1
      have d2 := (HE.out.2.cell (p := ⟨b, _, none⟩) hb).trans c2
      have d3 := (HE.out.2.cell (p := ⟨b, _, none⟩) hb).trans c3
      have d4 := (HE.out.2.cell (p := ⟨b, _, none⟩) hb).trans c4
      obtain ⟨aw, haw⟩ : ∃ aw, (av k).1 = aw := ⟨_, rfl⟩
      obtain ⟨cw, hcw⟩ : ∃ cw, (av k).2 = cw := ⟨_, rfl⟩
      rw [haw, hcw] at d3
      rw [haw] at x4
      obtain ⟨e1, e2, e3, e4⟩ := few_of HRT.out.2.1 ht
      have hps := printTo_succ ht
      have hf := HRT.out.2.1 k t ht
      have HX := hide (And.intro x4 (And.intro ht (And.intro hps (And.intro hf e4))))
      clear c1 c2 c3 c4 x4 haw hcw hps e4
      obtain ⟨kv, hkv⟩ : ∃ kv : Int, (t.kind : Int) = kv := ⟨_, rfl⟩
      rw [hkv] at d1
      obtain ⟨W1, hW1⟩ : ∃ W1, wr.alloc (.cells #[.int .u8 kv, .string t.name, .slice aw t.attrs.length cw, .string t.text] 52) = W1 := ⟨_, rfl⟩
      have z1 : W1.heap.size = wr.heap.size + 1 := by rw [← hW1]; simp
      have hB1 : Below wr.heap.size wr W1 := by rw [← hW1]; exact (Below.refl _ wr).alloc (Nat.le_refl _) _
      have f1 : W1.heap[wr.heap.size]? = some (.cells #[.int .u8 kv, .string t.name, .slice aw t.attrs.length cw, .string t.text] 52) := by rw [← hW1]; exact World.alloc_heap_new wr _
      obtain ⟨y0, y1, y2, y3⟩ := cells4 f1
      have H1 := hide (And.intro (HE.out.2.trans (hB1.mono hsw)) f1)
      clear hB1 f1
      have hkind : t.kind = 1 ∨ t.kind = 2 ∨ t.kind = 3 := by
        rcases hf with h | h | h
        · exact .inl h.1
        · exact .inr (.inl h.1)
        · exact .inr (.inr h.1)
      clear hf
      rcases hkind with k1 | k1 | k1
      · obtain rfl : kv = 1 := by omega
        clear hkv
        have hk1 : k + 1 < ts.length := by
          rcases Nat.lt_or_ge (k + 1) ts.length with h | h
          · exact h
          · exact absurd k1 (by
              have he : k + 1 = ts.length := by omega
              have h1 := HRT.out.2.2
              rw [← he, openAt_succ HX.out.2.1] at h1
              intro h2
              simp [opens, h2] at h1)
        obtain ⟨u, hu⟩ : ∃ u, ts[k + 1]? = some u := ⟨ts[k + 1], by simp [hk1]⟩
        obtain ⟨_, _, _, _, _, b', off', e, hb', c1, _⟩ := HT.out.2 (k + 1) u hu
        cases e
        have hnx : kindOf ts ((k : Int) + 1) = u.kind := by rw [show ((k : Int) + 1) = ((k + 1 : Nat) : Int) by omega]; unfold kindOf; rw [if_pos (by omega), Int.toNat_natCast, hu]; rfl
        have hp2 : printTo ts (k + 1) = printTo ts k ++ beginT t (u.kind == 2) := by rw [HX.out.2.2.1, hnx]; simp [tokT, k1]
        have HP := hide (And.intro hp2 c1)
        clear hp2 hnx c1
        have q1 : (⟨#[60]⟩ ++ t.name : ByteArray).size ≤ 2000 := by rw [ByteArray.size_append]; show 1 + _ ≤ _; omega
        have r1 : ∀ w, (Op.stringOp .add ⟨#[60]⟩ t.name).run Tryd.prog w = .ok (.string (⟨#[60]⟩ ++ t.name)) w := fun w => run_string_add_sum w _ _ (by show 1 + _ ≤ _; omega)
        have r2 : ∀ w, (Op.stringOp .add s (⟨#[60]⟩ ++ t.name)).run Tryd.prog w = .ok (.string (s ++ (⟨#[60]⟩ ++ t.name))) w := fun w => run_string_add_sum w _ _ (by omega)
        have hq0 : (s ++ (⟨#[60]⟩ ++ t.name) : ByteArray).data.toList = printTo ts k ++ [60] ++ t.name.data.toList ++ attrsT (t.attrs.take 0) := by
          rw [app_list, HE.out.1, app_list]
          simp [attrsT]
        have HQ0 := hide hq0
        clear hq0
        go_wp2_with fail
        obtain ⟨X, hX⟩ : ∃ X, wr.heap.size = X := ⟨_, rfl⟩
        have hXw : w.heap.size ≤ X := by omega
        rw [hX] at y2 z1 ⊢
        clear hX y0 y1 y3 d1 d2 d3 d4
        go_loopw [4, 7] (fun o i wq => ∃ (j : Nat) (s' : ByteArray), j ≤ t.attrs.length ∧ i = .int .i64 j ∧ o = .string s' ∧ s'.data.toList = printTo ts k ++ [60] ++ t.name.data.toList ++ attrsT (t.attrs.take j) ∧ Below W1.heap.size W1 wq) (fun _ i _ => t.attrs.length - (intOf i).toNat)
        case atStart => exact ⟨0, _, Nat.zero_le _, rfl, rfl, HQ0.out, Below.refl _ _⟩
        case round =>
          obtain ⟨j, s', hj, rfl, rfl, hs', hbq⟩ := hrel
          have hsz' : s'.size ≤ 5000000 := by
            rw [size_of_list hs']
            have h1 := size_of_list HE.out.1
            have h2 := attrsT_le (t.attrs.take j) (fun a ha => HX.out.2.2.2.2 a (List.mem_of_mem_take ha))
            have h3 : (t.attrs.take j).length ≤ 8 := by simp; omega
            have h4 : t.name.data.toList.length = t.name.size := Array.length_toList
            simp only [List.length_append, List.length_cons, List.length_nil]
            omega
          have hqs := hbq.size
          have HQ := hide (And.intro hs' hbq)
          have yq := (hbq.cell (p := ⟨_, 2, none⟩) (lt_of_cell y2)).trans y2
          clear hs' hbq
          by_cases hjl : j < t.attrs.length
          · obtain ⟨a, ha⟩ : ∃ a, t.attrs[j]? = some a := ⟨t.attrs[j], by simp [hjl]⟩
            obtain ⟨ba, oa, rfl, hba, m1, m2⟩ := HX.out.1.2.2 j a ha
            have hbb : Below w.heap.size w wr := H1.out.1.trans (HQ.out.2.mono (by omega))
            have n1 := (hbb.cell (p := ⟨ba, _, none⟩) hba).trans m1
            have n2 := (hbb.cell (p := ⟨ba, _, none⟩) hba).trans m2
            have hsa := HX.out.2.2.2.2 a (List.mem_of_getElem? ha)
            have HBB := hide hbb
            have hba' : ba < wr.heap.size := by have := hbb.size; omega
            clear m1 m2 hbb
            have hel : (⟨(esc a.2.data.toList).toArray⟩ : ByteArray).size ≤ 6000 := by
              have h1 := esc_length a.2.data.toList
              have h2 : a.2.data.toList.length = a.2.size := Array.length_toList
              show (esc a.2.data.toList).toArray.size ≤ 6000
              simp only [List.size_toArray]
              omega
            obtain ⟨ev, hev⟩ : ∃ ev : ByteArray, ⟨(esc a.2.data.toList).toArray⟩ = ev := ⟨_, rfl⟩
            rw [hev] at hel
            have hesc : ∀ w', Calls Tryd.prog 45 #[.string a.2] w' fun e w'' => e = .returned (.string ev) ∧ Below w'.heap.size w' w'' := fun w' => by rw [← hev]; exact refEscape_any a.2 w' (by omega)
            have HES := hide hesc
            have HEV := hide hev
            clear hesc hev
            have p1 : (⟨#[32]⟩ ++ a.1 : ByteArray).size ≤ 2000 := by rw [ByteArray.size_append]; show 1 + _ ≤ _; omega
            have p2 : (⟨#[32]⟩ ++ a.1 ++ ⟨#[61, 39]⟩ : ByteArray).size ≤ 2002 := by rw [ByteArray.size_append]; show _ + 2 ≤ _; omega
            have p3 : (⟨#[32]⟩ ++ a.1 ++ ⟨#[61, 39]⟩ ++ ev : ByteArray).size ≤ 8002 := by rw [ByteArray.size_append]; omega
            have p4 : (⟨#[32]⟩ ++ a.1 ++ ⟨#[61, 39]⟩ ++ ev ++ ⟨#[39]⟩ : ByteArray).size ≤ 8003 := by rw [ByteArray.size_append]; show _ + 1 ≤ _; omega
            have t1 : ∀ w, (Op.stringOp .add ⟨#[32]⟩ a.1).run Tryd.prog w = .ok (.string (⟨#[32]⟩ ++ a.1)) w := fun w => run_string_add_sum w _ _ (by show 1 + _ ≤ _; omega)
            have t2 : ∀ w, (Op.stringOp .add (⟨#[32]⟩ ++ a.1) ⟨#[61, 39]⟩).run Tryd.prog w = .ok (.string (⟨#[32]⟩ ++ a.1 ++ ⟨#[61, 39]⟩)) w := fun w => run_string_add_sum w _ _ (by show _ + 2 ≤ _; omega)
            have t3 : ∀ w, (Op.stringOp .add (⟨#[32]⟩ ++ a.1 ++ ⟨#[61, 39]⟩) ev).run Tryd.prog w = .ok (.string (⟨#[32]⟩ ++ a.1 ++ ⟨#[61, 39]⟩ ++ ev)) w := fun w => run_string_add_sum w _ _ (by omega)
            have t4 : ∀ w, (Op.stringOp .add (⟨#[32]⟩ ++ a.1 ++ ⟨#[61, 39]⟩ ++ ev) ⟨#[39]⟩).run Tryd.prog w = .ok (.string (⟨#[32]⟩ ++ a.1 ++ ⟨#[61, 39]⟩ ++ ev ++ ⟨#[39]⟩)) w := fun w => run_string_add_sum w _ _ (by show _ + 1 ≤ _; omega)
            have t5 : ∀ w, (Op.stringOp .add s' (⟨#[32]⟩ ++ a.1 ++ ⟨#[61, 39]⟩ ++ ev ++ ⟨#[39]⟩)).run Tryd.prog w = .ok (.string (s' ++ (⟨#[32]⟩ ++ a.1 ++ ⟨#[61, 39]⟩ ++ ev ++ ⟨#[39]⟩))) w := fun w => run_string_add_sum w _ _ (by omega)
            go_wp2_with fail
            go_region_held3 (fun w' => w'.cell? ⟨X, 2, none⟩ = some (.slice (some ⟨ba, oa, none⟩) t.attrs.length cw) ∧ w'.cell? ⟨ba, oa + j * 2, none⟩ = some (.string a.1) ∧ w'.cell? ⟨ba, oa + j * 2 + 1, none⟩ = some (.string a.2)) (first | exact ⟨k0, k1', k2⟩ | go_keep)
              (first | (go_at_call 45; refine (HES.out _).mono ?_; rintro e w2 ⟨rfl, hb2⟩; have k0 : w2.cell? ⟨X, 2, none⟩ = some (.slice (some ⟨ba, oa, none⟩) t.attrs.length cw) := ((hb2.cell (p := ⟨X, 2, none⟩) (by simp; omega)).trans (by simpa using yq)); have k1' : w2.cell? ⟨ba, oa + j * 2, none⟩ = some (.string a.1) := ((hb2.cell (p := ⟨ba, _, none⟩) (by simp; omega)).trans (by simpa using n1)); have k2 : w2.cell? ⟨ba, oa + j * 2 + 1, none⟩ = some (.string a.2) := ((hb2.cell (p := ⟨ba, _, none⟩) (by simp; omega)).trans (by simpa using n2))))
            have hbq2 : Below wr.heap.size wr w2 := ((Below.refl _ wr).drew).trans hb2
            have H2 := hide (HQ.out.2.trans (hbq2.mono hqs))
            clear hb2 hbq2 k0 k1' k2
            go_wp2_with fail
            refine ⟨⟨j + 1, _, by omega, by simp, rfl, ?_, H2.out⟩, by simp [intOf]; omega⟩
            rw [app_list, HQ.out.1, attrsT_succ ha, app_list, app_list, app_list, app_list, ← HEV.out]
            simp [attrT]
          · obtain rfl : j = t.attrs.length := by omega
            have hbb : Below w.heap.size w wr := H1.out.1.trans (HQ.out.2.mono (by omega))
            have g1 := (hbb.cell (p := ⟨b, _, none⟩) hb').trans HP.out.2
            have HBB := hide hbb
            clear hbb
            have r5 : ∀ w, (Op.stringOp .add s' ⟨#[62]⟩).run Tryd.prog w = .ok (.string (s' ++ ⟨#[62]⟩)) w := fun w => run_string_add_sum w _ _ (by show _ + 1 ≤ _; omega)
            have p1 : (s' ++ ⟨#[47]⟩ : ByteArray).size ≤ 5000001 := by rw [ByteArray.size_append]; show _ + 1 ≤ _; omega
            have r6 : ∀ w, (Op.stringOp .add s' ⟨#[47]⟩).run Tryd.prog w = .ok (.string (s' ++ ⟨#[47]⟩)) w := fun w => run_string_add_sum w _ _ (by show _ + 1 ≤ _; omega)
            have r7 : ∀ w, (Op.stringOp .add (s' ++ ⟨#[47]⟩) ⟨#[62]⟩).run Tryd.prog w = .ok (.string (s' ++ ⟨#[47]⟩ ++ ⟨#[62]⟩)) w := fun w => run_string_add_sum w _ _ (by show _ + 1 ≤ _; omega)
            by_cases hu2 : u.kind = 2
            · have hu2' : ((u.kind : Int) == 2) = true := by rw [hu2]; rfl
              go_wp2_with fail
              go_roundw
              case rel =>
                refine ⟨k + 1, _, by omega, by simp, rfl, ?_, HBB.out⟩
                rw [app_list, app_list, HQ.out.1, HP.out.1, List.take_length]
                simp [beginT, hu2]
              case measure => simp [intOf]; omega
            · have hu2' : ((u.kind : Int) == 2) = false := by rw [beq_eq_false_iff_ne]; omega
              go_wp2_with fail
              go_roundw
              case rel =>
                refine ⟨k + 1, _, by omega, by simp, rfl, ?_, HBB.out⟩
                rw [app_list, HQ.out.1, HP.out.1, List.take_length]
                simp [beginT, hu2]
              case measure => simp [intOf]; omega
      · obtain rfl : kv = 2 := by omega
        clear hkv
        obtain ⟨k', rfl⟩ : ∃ k', k = k' + 1 := ⟨k - 1, by
          have h := ((fit_two k1).1 HX.out.2.2.2.1).1
          have h2 := openAt_le ts k
          omega⟩
        obtain ⟨u, hu⟩ : ∃ u, ts[k']? = some u := ⟨ts[k'], by simp [show k' < ts.length by omega]⟩
        obtain ⟨_, _, _, _, _, b', off', e, hb', c1, _⟩ := HT.out.2 k' u hu
        cases e
        have g1 := (H1.out.1.cell (p := ⟨b, _, none⟩) hb').trans c1
        have hla : kindOf ts (((k' + 1 : Nat) : Int) - 1) = u.kind := by rw [show (((k' + 1 : Nat) : Int) - 1) = (k' : Int) by omega]; simp [kindOf, hu]
        have hps := HX.out.2.2.1
        rw [hla] at hps
        clear c1 hla
        by_cases hu1 : u.kind = 1
        · have hu1' : ((u.kind : Int) == 1) = true := by rw [hu1]; rfl
          have hp2 : printTo ts (k' + 1 + 1) = printTo ts (k' + 1) := by rw [hps]; simp [tokT, k1, hu1]
          have HP := hide hp2
          clear hp2 hps
          go_wp2_with fail
          go_roundw
          case rel => exact ⟨k' + 1 + 1, s, by omega, by simp, rfl, by rw [HP.out]; exact HE.out.1, H1.out.1⟩
          case measure => simp [intOf]; omega
        · have hu1' : ((u.kind : Int) == 1) = false := by rw [beq_eq_false_iff_ne]; omega
          have hp2 : printTo ts (k' + 1 + 1) = printTo ts (k' + 1) ++ endT t.name := by rw [hps]; simp [tokT, k1, hu1]
          have HP := hide hp2
          clear hp2 hps
          have q1 : (⟨#[60, 47]⟩ ++ t.name : ByteArray).size ≤ 2000 := by rw [ByteArray.size_append]; show 2 + _ ≤ _; omega
          have q2 : (⟨#[60, 47]⟩ ++ t.name ++ ⟨#[62]⟩ : ByteArray).size ≤ 2001 := by rw [ByteArray.size_append]; show _ + 1 ≤ _; omega
          have r1 : ∀ w, (Op.stringOp .add ⟨#[60, 47]⟩ t.name).run Tryd.prog w = .ok (.string (⟨#[60, 47]⟩ ++ t.name)) w := fun w => run_string_add_sum w _ _ (by show 2 + _ ≤ _; omega)
          have r2 : ∀ w, (Op.stringOp .add (⟨#[60, 47]⟩ ++ t.name) ⟨#[62]⟩).run Tryd.prog w = .ok (.string (⟨#[60, 47]⟩ ++ t.name ++ ⟨#[62]⟩)) w := fun w => run_string_add_sum w _ _ (by show _ + 1 ≤ _; omega)
          have r3 : ∀ w, (Op.stringOp .add s (⟨#[60, 47]⟩ ++ t.name ++ ⟨#[62]⟩)).run Tryd.prog w = .ok (.string (s ++ (⟨#[60, 47]⟩ ++ t.name ++ ⟨#[62]⟩))) w := fun w => run_string_add_sum w _ _ (by omega)
          go_wp2_with fail
          go_roundw
          case rel => exact ⟨k' + 1 + 1, _, by omega, by simp, rfl, by rw [HP.out, app_list, HE.out.1, app_list, app_list]; rfl, H1.out.1⟩
          case measure => simp [intOf]; omega
      · obtain rfl : kv = 3 := by omega
        clear hkv
        have hp2 : printTo ts (k + 1) = printTo ts k ++ esc t.text.data.toList := by rw [HX.out.2.2.1]; simp [tokT, k1]
        have hel : (⟨(esc t.text.data.toList).toArray⟩ : ByteArray).size ≤ 6000 := by
          have h1 := esc_length t.text.data.toList
          have h2 : t.text.data.toList.length = t.text.size := Array.length_toList
          show (esc t.text.data.toList).toArray.size ≤ 6000
          simp only [List.size_toArray]
          omega
        obtain ⟨ev, hev⟩ : ∃ ev : ByteArray, ⟨(esc t.text.data.toList).toArray⟩ = ev := ⟨_, rfl⟩
        rw [hev] at hel
        have hesc := refEscape_any t.text W1 (by omega)
        rw [hev] at hesc
        have HP := hide (And.intro hp2 (And.intro hev hesc))
        clear hp2 hev hesc
        have r1 : ∀ w, (Op.stringOp .add s ev).run Tryd.prog w = .ok (.string (s ++ ev)) w := fun w => run_string_add_sum w _ _ (by omega)
        go_wp2_with fail
        refine HP.out.2.2.mono ?_
        rintro e w3 ⟨rfl, hb3⟩
        have H3 := hide (H1.out.1.trans (hb3.mono (by omega)))
        clear hb3
        go_wp2_with fail
        go_roundw
        case rel => exact ⟨k + 1, _, by omega, by simp, rfl, by rw [HP.out.1, app_list, HE.out.1, ← HP.out.2.1], H3.out⟩
        case measure => simp [intOf]; omega
    · obtain rfl : k = ts.length := by omega
      go_wp2_with fail
      go_ret2
      refine ⟨.inl ⟨HRT.out, ?_⟩, HE.out.2⟩
      rw [of_list HE.out.1]
      rfl
end Go.Proofs.YtaglbikjnaahnabDoor
