/- What must be whatever is asked of a request. -/
import Derived.Test.YtimhkgpjfppkmaaDoorRq12
namespace Go.Proofs.YtimhkgpjfppkmaaDoor
open Go.RowKit Go.Shelf

theorem addr_size {s : ByteArray} (h : Jd.addrOk s = true) : s.size ≤ 64 := by
  unfold Jd.addrOk at h
  cases hp : Jd.parseL s.data.toList with
  | none => rw [hp] at h; cases h
  | some j =>
    unfold Jd.parseL at hp
    by_cases hl : 64 < s.data.toList.length
    · rw [if_pos hl] at hp
      cases hp
    · show s.data.size ≤ 64
      simpa using hl
theorem name_size {s : ByteArray} (h : Jd.nameOk s = true) : s.size ≤ 24 := by
  unfold Jd.nameOk at h
  simp only [Bool.and_eq_true, decide_eq_true_eq] at h
  exact h.2.2
theorem addL_P {P : ByteArray × ByteArray → Prop} {b : Bool} {nm s : ByteArray} {al : List (ByteArray × ByteArray)} (h : ∀ a ∈ al, P a) (h1 : b = true → P (nm, s)) : ∀ a ∈ addL b nm s al, P a := by
  intro a ha
  unfold addL at ha
  rcases List.mem_append.1 ha with ha | ha
  · exact h a ha
  · cases b with
    | true =>
      simp at ha
      subst ha
      exact h1 rfl
    | false => simp at ha
theorem itW_small {v : Int} (h0 : 0 ≤ v) (h1 : v ≤ 255) : (itW v).size ≤ 1000 := by
  obtain ⟨k, rfl⟩ : ∃ k : Nat, v = k := ⟨v.toNat, by omega⟩
  show (Lib.itoa (k : Int)).length ≤ _
  rw [Lib.itoa_nonneg]
  have := dec_len (u := k) (k := 4) (by omega) (by omega)
  omega
theorem words_small (L : List ByteArray) (k : Nat) (h : L.all (fun s => decide (s.size ≤ 100)) = true) : (L.getD k ⟨#[]⟩).size ≤ 1000 := by
  rw [List.getD_eq_getElem?_getD]
  cases hk : L[k]? with
  | none => exact Nat.zero_le _
  | some s =>
    have := List.all_eq_true.1 h s (List.mem_of_getElem? hk)
    have h2 := of_decide_eq_true this
    show s.size ≤ _
    omega
/-- The attributes of a right request are short. -/
theorem attrs_small {r : Rq} (h : RightRq r) : ∀ a ∈ attrsR r, a.1.size ≤ 1000 ∧ a.2.size ≤ 1000 := by
  obtain ⟨c0, c1, c2, c3, c4, c5, c6, c7, c8, c9, c10⟩ := h
  have h0 : ∀ a ∈ at0 r, a.1.size ≤ 1000 ∧ a.2.size ≤ 1000 := fun a ha => by simp [at0] at ha
  have hn : r.node.size ≤ 1000 := by
    unfold rnB at c1
    rcases Bool.or_eq_true _ _ ▸ c1 with c | c
    · have := name_size c
      omega
    · have hc := (Bool.and_eq_true _ _).mp c
      rw [of_decide_eq_true hc.2]
      decide
  have h1 := addL_P (P := fun a => a.1.size ≤ 1000 ∧ a.2.size ≤ 1000) (b := nodeB r.verb) (nm := ⟨#[110, 111, 100, 101]⟩) (s := r.node) h0 (fun _ => ⟨show (⟨#[110, 111, 100, 101]⟩ : ByteArray).size ≤ 1000 by decide, hn⟩)
  have h2 := addL_P (P := fun a => a.1.size ≤ 1000 ∧ a.2.size ≤ 1000) (b := itemB r.verb) (nm := ⟨#[105, 116, 101, 109]⟩) (s := r.item) h1 (fun hb => ⟨show (⟨#[105, 116, 101, 109]⟩ : ByteArray).size ≤ 1000 by decide, by rw [hb] at c2; have := name_size (fit_yes c2); show r.item.size ≤ 1000; omega⟩)
  have h3 := addL_P (P := fun a => a.1.size ≤ 1000 ∧ a.2.size ≤ 1000) (b := jidB r.verb) (nm := ⟨#[106, 105, 100]⟩) (s := r.jid) h2 (fun hb => ⟨show (⟨#[106, 105, 100]⟩ : ByteArray).size ≤ 1000 by decide, by rw [hb] at c3; have := addr_size (fit_yes c3); show r.jid.size ≤ 1000; omega⟩)
  have h4 := addL_P (P := fun a => a.1.size ≤ 1000 ∧ a.2.size ≤ 1000) (b := roleB r.verb) (nm := ⟨#[114, 111, 108, 101]⟩) (s := (rolesL.getD r.role ⟨#[]⟩)) h3 (fun _ => ⟨show (⟨#[114, 111, 108, 101]⟩ : ByteArray).size ≤ 1000 by decide, words_small rolesL r.role (by decide)⟩)
  have h5 := addL_P (P := fun a => a.1.size ≤ 1000 ∧ a.2.size ≤ 1000) (b := accB r.verb) (nm := ⟨#[97, 99, 99, 101, 115, 115]⟩) (s := (accsL.getD r.acc ⟨#[]⟩)) h4 (fun _ => ⟨show (⟨#[97, 99, 99, 101, 115, 115]⟩ : ByteArray).size ≤ 1000 by decide, words_small accsL r.acc (by decide)⟩)
  have h6 := addL_P (P := fun a => a.1.size ≤ 1000 ∧ a.2.size ≤ 1000) (b := maxB r.verb) (nm := ⟨#[109, 97, 120]⟩) (s := (itW r.max)) h5 (fun hb => ⟨show (⟨#[109, 97, 120]⟩ : ByteArray).size ≤ 1000 by decide, by rw [hb] at c6; have hh := (Bool.and_eq_true _ _).mp (fit_yes c6); exact itW_small (of_decide_eq_true hh.1) (by have := of_decide_eq_true hh.2; omega)⟩)
  have h7 := addL_P (P := fun a => a.1.size ≤ 1000 ∧ a.2.size ≤ 1000) (b := depthB r.verb) (nm := ⟨#[100, 101, 112, 116, 104]⟩) (s := (itW r.depth)) h6 (fun hb => ⟨show (⟨#[100, 101, 112, 116, 104]⟩ : ByteArray).size ≤ 1000 by decide, by rw [hb] at c7; have hh := (Bool.and_eq_true _ _).mp (fit_yes c7); exact itW_small (of_decide_eq_true hh.1) (by have := of_decide_eq_true hh.2; omega)⟩)
  have h8 := addL_P (P := fun a => a.1.size ≤ 1000 ∧ a.2.size ≤ 1000) (b := parB r.verb) (nm := ⟨#[112, 97, 114, 101, 110, 116]⟩) (s := r.parent) h7 (fun hb => ⟨show (⟨#[112, 97, 114, 101, 110, 116]⟩ : ByteArray).size ≤ 1000 by decide, by rw [hb] at c8; have := name_size (fit_yes c8); show r.parent.size ≤ 1000; omega⟩)
  exact addL_P (P := fun a => a.1.size ≤ 1000 ∧ a.2.size ≤ 1000) (b := kindB r.verb) (nm := ⟨#[116, 121, 112, 101]⟩) (s := (typesL.getD (if r.coll = true then 1 else 0) ⟨#[]⟩)) h8 (fun _ => ⟨show (⟨#[116, 121, 112, 101]⟩ : ByteArray).size ≤ 1000 by decide, words_small typesL _ (by decide)⟩)
theorem enc_small {r : Rq} (h : RightRq r) : ∀ t ∈ encT r, ∀ a ∈ t.attrs, a.2.size ≤ 281474976710656 := by
  intro t ht a ha
  have hs := attrs_small h
  unfold encT elemT charsT at ht
  simp only [List.mem_append, List.mem_cons, List.not_mem_nil, or_false] at ht
  have key : t.attrs = [] ∨ t.attrs = attrsR r := by
    rcases ht with (ht | ((ht | ht) | ht)) | ht
    · rw [ht]; exact .inl rfl
    · rw [ht]; exact .inr rfl
    · split at ht
      · simp at ht
      · simp at ht
        rw [ht]
        exact .inl rfl
    · rw [ht]; exact .inl rfl
    · rw [ht]; exact .inl rfl
  rcases key with k | k
  · rw [k] at ha
    simp at ha
  · rw [k] at ha
    have := (hs a ha).2
    omega
def liveRq : Rq := { zeroRq with verb := 4, node := ⟨#[110]⟩ }
theorem live_right : RightRq liveRq := ⟨by decide, by decide, by decide, rfl, by decide, by decide, by decide, by decide, by decide, by decide, rfl⟩
theorem live_fits : RqFits liveRq := ⟨by decide, by decide, by decide, by decide, by decide, by decide, by decide, by decide, by decide, by decide, by decide, by decide⟩
theorem live_len : (encT liveRq).length = 4 := by
  unfold encT elemT charsT
  rw [if_pos (show liveRq.text = ⟨#[]⟩ from rfl)]
  rfl
theorem live_one : (encT liveRq)[1]? = some ⟨1, verbB 4, attrsR liveRq, ⟨#[]⟩⟩ := rfl
theorem ex_bldL {o : Oper} {a : Act} {w : World} (ho : o.op = .build 26 #[(0, .const (.int .u8 4)), (1, .const (.string ⟨#[110]⟩))]) : (execOp a.eval o).run Tryd.prog w = .ok (.value (.agg (rqA liveRq))) w := by
  unfold execOp
  simp only [ho]
  kernel_rfl
set_option maxRecDepth 100000 in
set_option maxHeartbeats 400000 in
theorem live13_any (w : World) (hG : GlbR w) : Calls Tryd.prog 10 #[] w fun e w' => e = .returned (.bool true) ∧ Below w.heap.size w w' := by
  have HE := hide (encode_any liveRq w live_fits hG)
  have HG := hide hG
  clear hG
  go_enter Tryd.func10, Tryd.ntmps10
  go_wp2_with (refine l_val rfl _ (ex_bldL rfl) ?_)
  refine HE.out.mono ?_
  rintro e w1 ⟨⟨_, v, l, rfl, hl, hER⟩ | ⟨hno, _⟩, b1⟩
  · have hn4 : l.length = 4 := by rw [← live_len, ← hl, List.length_map]
    obtain ⟨ao, cap, rfl, hT⟩ := tokMem_own hER (by omega)
    rw [hl] at hT
    rw [hn4]
    have hD := decode_any ao cap (encT liveRq) (avOf l) w1 hT (enc_small live_right) (HG.out.below b1)
    rw [live_len] at hD
    have HD := hide hD
    have H1 := hide (And.intro hT b1)
    clear hD hT b1 hER hl hn4 HE
    go_wp2_with fail
    refine HD.out.mono ?_
    rintro e w2 ⟨⟨r, hr, he, hff, rfl⟩ | ⟨hno, hee⟩, b2⟩
    · obtain rfl : liveRq = r := (enc_inj hr live_right he).symm
      obtain ⟨b, off, hao, hbl, c1⟩ : ∃ b off, ao = some ⟨b, off, none⟩ ∧ b < w1.heap.size ∧ w1.cell? ⟨b, off + 1 * 4 + 1, none⟩ = some (.string (verbB 4)) := by
        obtain ⟨_, _, _, _, _, b, off, hao, hbl, _, c1, _⟩ := H1.out.1.2 1 _ live_one
        exact ⟨b, off, hao, hbl, c1⟩
      subst hao
      have B2 : Below w.heap.size w w2 := H1.out.2.trans (b2.mono H1.out.2.size)
      have cn := (b2.cell (p := ⟨b, _, none⟩) hbl).trans c1
      have hvb : verbB 4 = ⟨#[115, 117, 98, 115, 99, 114, 105, 98, 101]⟩ := rfl
      rw [hvb] at cn
      obtain ⟨W3, hW3⟩ : ∃ W, w2.alloc (.cells (rqA liveRq) 26) = W := ⟨_, rfl⟩
      have b3 : Below w2.heap.size w2 W3 := by rw [← hW3]; exact (Below.refl _ w2).alloc (Nat.le_refl _) _
      have f3 : W3.heap[w2.heap.size]? = some (.cells (rqA liveRq) 26) := by rw [← hW3]; exact World.alloc_heap_new _ _
      have hbl2 : b < w2.heap.size := Nat.lt_of_lt_of_le hbl b2.size
      have cn3 := (b3.cell (p := ⟨b, _, none⟩) hbl2).trans cn
      have cn5 : W3.cell? ⟨b, off + 5, none⟩ = some (.string ⟨#[115, 117, 98, 115, 99, 114, 105, 98, 101]⟩) := cn3
      have cn6 : W3.cell? ⟨b, off + 4 + 1, none⟩ = some (.string ⟨#[115, 117, 98, 115, 99, 114, 105, 98, 101]⟩) := cn3
      have r0 := (rq_box f3).1
      have r1 := (rq_box f3).2.1
      have HV := hide (verb_any 11 (by decide) W3)
      have HB := hide (B2.trans (b3.mono B2.size))
      have hlit : (rqA liveRq : Array Value) = #[.int .u8 4, .string ⟨#[110]⟩, .string ⟨#[]⟩, .string ⟨#[]⟩, .int .u8 0, .int .u8 0, .int .i64 0, .int .i64 0, .string ⟨#[]⟩, .bool false, .string ⟨#[]⟩] := rfl
      have r0' : W3.cell? ⟨w2.heap.size, 0, none⟩ = some (.int .u8 4) := r0
      have r1' : W3.cell? ⟨w2.heap.size, 1, none⟩ = some (.string ⟨#[110]⟩) := r1
      rw [hlit] at hW3 ⊢
      have HW3 := hide hW3
      rw [← hW3] at HV cn3 cn5 cn6 r0' r1'
      clear hW3
      clear hff hlit b2 b3 f3 hbl hbl2 c1 cn r0 r1 B2 hvb hr he HD H1 HG
      go_wp2_with fail
      refine HV.out.mono ?_
      rintro e w4 ⟨rfl, b4⟩
      have hvp : verbB 11 = ⟨#[112, 117, 114, 103, 101]⟩ := rfl
      rw [hvp]
      have hW : _ = W3 := HW3.out
      rw [hW] at b4
      have HB4 := hide (HB.out.trans (b4.mono HB.out.size))
      clear b4 cn3 cn5 cn6 r0' r1' hvp HV hW
      go_wp2_with fail
      go_ret
      exact ⟨rfl, HB4.out⟩
    · exact absurd rfl (hno liveRq live_right)
  · exact absurd live_right hno
end Go.Proofs.YtimhkgpjfppkmaaDoor
