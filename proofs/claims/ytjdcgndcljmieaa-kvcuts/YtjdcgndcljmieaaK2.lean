/- The program's map: New, has, Get, Len, Put, Delete. -/
import Derived.Test.YtjdcgndcljmieaaK1
import Derived.Test.YtjdcgndcljmieaaDL
import Derived.Test.YtjdcgndcljmieaaA0g
namespace Go.Proofs.Ytjdcgndcljmieaa
open Go.RowKit Go.MapKept
open Go.ChangeMaps (setBlock)

/-- A map in memory, with the pairs L. -/
structure IsM (base p b : Nat) (L : List Pr) (w : World) : Prop where
  low : base ≤ p
  lowb : base ≤ b
  here : w.heap[p]? = some (.cells #[.map (some b)] 70)
  rise : Rising L
  held : ∃ l c, w.heap[b]? = some (.map (enA l) c) ∧ MOk l c ∧ (∀ x, x ∈ prs l ↔ x ∈ L) ∧ l.length = L.length
def footM (p b : Nat) : Blk := fun j => j = p ∨ j = b
def MTo (base p b : Nat) (L' : List Pr) (w w' : World) : Prop := IsM base p b L' w' ∧ Frees base (footM p b) w w'
section
variable {base p b : Nat} {L L' : List Pr} {w w' : World}
theorem IsM.lt (h : IsM base p b L w) {j : Nat} (hj : footM p b j) : base ≤ j ∧ j < w.heap.size := by
  rcases hj with rfl | rfl
  · exact ⟨h.low, hp_lt h.here⟩
  · obtain ⟨l, c, hb, _⟩ := h.held
    exact ⟨h.lowb, hp_lt hb⟩
theorem IsM.same (h : IsM base p b L w) (hs : ∀ j, footM p b j → w'.heap[j]? = w.heap[j]?) : IsM base p b L w' := by
  obtain ⟨l, c, hb, r⟩ := h.held
  exact ⟨h.low, h.lowb, (hs p (.inl rfl)).trans h.here, h.rise, l, c, (hs b (.inr rfl)).trans hb, r⟩
theorem IsM.below (h : IsM base p b L w) (hb : Below w.heap.size w w') : IsM base p b L w' := h.same fun _ hj => hb.block _ (h.lt hj).2
theorem IsM.apart (h : IsM base p b L w) {M : Blk} {n₀ : Nat} (hf : Frees n₀ M w w') (hm : ∀ j, footM p b j → ¬ M j) : IsM base p b L w' := h.same fun j hj => hf.same j (h.lt hj).2 (hm j hj)
theorem IsM.cell (h : IsM base p b L w) : w.cell? ⟨p, 0, none⟩ = some (.map (some b)) := by
  have h := h.here
  simp [World.cell?, h]
theorem IsM.ne (h : IsM base p b L w) : p ≠ b := by
  obtain ⟨l, c, hb, _⟩ := h.held
  intro e
  rw [← e, h.here] at hb
  cases hb
theorem setBlock_same (w : World) (b : Nat) (o : Obj) (hb : b < w.heap.size) : (setBlock w b o).heap[b]? = some o := by
  simp [setBlock, hb]
theorem setBlock_other (w : World) (b j : Nat) (o : Obj) (hj : j ≠ b) : (setBlock w b o).heap[j]? = w.heap[j]? := by
  simp [setBlock, Array.getElem?_setIfInBounds]
  intro e
  exact absurd e.symm hj
theorem frees_block (hb : base ≤ b) (_hw : base ≤ w.heap.size) (o : Obj) : Frees base (footM p b) w (setBlock w b o) :=
  ⟨⟨rfl, rfl, rfl, by simp [setBlock], fun k hk => setBlock_other w b k o (by omega)⟩, fun j _ hn => setBlock_other w b j o (fun e => hn (.inr e))⟩
theorem IsM.turn (h : IsM base p b L w) (hw : base ≤ w.heap.size) {l : List En} {c : Nat} (ho : MOk l c) (hp : ∀ x, x ∈ prs l ↔ x ∈ L') (hl : l.length = L'.length) (hr : Rising L') : MTo base p b L' w (setBlock w b (.map (enA l) c)) := by
  have hlt := (h.lt (.inr rfl : footM p b b)).2
  exact ⟨⟨h.low, h.lowb, (setBlock_other w b p _ h.ne).trans h.here, hr, l, c, setBlock_same w b _ hlt, ho, hp, hl⟩, frees_block h.lowb hw _⟩
theorem MTo.stay (h : IsM base p b L w) (hb : Below w.heap.size w w') (hn : base ≤ w.heap.size) : MTo base p b L w w' := ⟨h.below hb, Frees.of_below hb hn⟩
end
theorem contains_iff {l : List En} {L : List Pr} {k : ByteArray} (_hR : Rising L) (hp : ∀ x, x ∈ prs l ↔ x ∈ L) : (l.map (·.k)).contains k = true ↔ getM L k ≠ none := by
  rw [mem_keys]
  constructor
  · rintro ⟨x, hx, rfl⟩ hn
    exact getM_none hn (x.k, x.v) ((hp _).1 (List.mem_map.2 ⟨x, hx, rfl⟩)) rfl
  · intro hn
    cases hg : getM L k with
    | none => exact absurd hg hn
    | some v =>
      obtain ⟨x, hx, e⟩ := List.mem_map.1 ((hp _).2 (getM_some hg))
      exact ⟨x, hx, congrArg Prod.fst e⟩
theorem updL_len {l : List En} {L : List Pr} {k v : ByteArray} {c : Nat} (hR : Rising L) (hp : ∀ x, x ∈ prs l ↔ x ∈ L) (hl : l.length = L.length) : (updL l k v c).length = (putM L k v).length := by
  rw [putM_len hR]
  unfold updL
  by_cases h : (l.map (·.k)).contains k = true
  · rw [if_pos h, if_neg ((contains_iff hR hp).1 h)]
    simpa using hl
  · rw [if_neg h, if_pos (Classical.not_not.1 (fun hn => h ((contains_iff hR hp).2 hn)))]
    simp [hl]
theorem delL_len {l : List En} {L : List Pr} {k : ByteArray} {c : Nat} (hR : Rising L) (ho : MOk l c) (hp : ∀ x, x ∈ prs l ↔ x ∈ L) (hl : l.length = L.length) : (delL l k).length = (delM L k).length := by
  have h1 : (delL l k).length + 1 = (updL (delL l k) k ⟨#[]⟩ c).length := by
    unfold updL
    rw [if_neg]
    · simp
    · intro h
      obtain ⟨x, hx, e⟩ := mem_keys.1 h
      have := (List.mem_filter.1 hx).2
      simp [e] at this
  have _ := ho
  by_cases hg : getM L k = none
  · have e1 : delL l k = l := by
      unfold delL
      rw [List.filter_eq_self]
      intro x hx
      simp
      intro e
      exact getM_none hg (x.k, x.v) ((hp _).1 (List.mem_map.2 ⟨x, hx, rfl⟩)) e
    rw [e1, delM_none hg, hl]
  · have h2 := putM_len hR k ⟨#[]⟩
    rw [if_neg hg] at h2
    unfold putM at h2
    rw [insM_len] at h2
    have h3 : (delL l k).length + 1 = l.length := by
      obtain ⟨x, hx, e⟩ := mem_keys.1 ((contains_iff hR hp).2 hg)
      obtain ⟨j, hj⟩ := List.getElem?_of_mem hx
      have h4 := erase_one ho.keys hj e
      rw [← h4]
      have hlt := (List.getElem?_eq_some_iff.1 hj).1
      rw [List.length_eraseIdx]
      simp [hlt]
      omega
    omega
theorem stopHere {p : Prop} (h : Hid p) : p := h
theorem ex_len {o : Oper} {a : Act} {w w' : World} {s : Operand} {t : TypeId} {u r : Value} (ho : o.op = .call { callee := .builtin .len, args := #[s], argTypes := #[t] }) (hs : a.eval s = u) (hr : (Builtin.len_ #[t] o.type #[u]).run Try.prog w = .ok r w') : (execOp a.eval o).run Try.prog w = .ok (.value r) w' := by
  simp [execOp, ho, resolve, invoke, builtin, hs, hr, Result.andThen]
theorem ex_delete {o : Oper} {a : Act} {w w' : World} {s x : Operand} {t t' : TypeId} {u v r : Value} (ho : o.op = .call { callee := .builtin .delete, args := #[s, x], argTypes := #[t, t'] }) (hs : a.eval s = u) (hx : a.eval x = v) (hr : (Builtin.delete_ #[t, t'] o.type #[u, v]).run Try.prog w = .ok r w') : (execOp a.eval o).run Try.prog w = .ok (.value r) w' := by
  simp [execOp, ho, resolve, invoke, builtin, hs, hx, hr, Result.andThen]
theorem run_len {l : List En} {c b : Nat} {w : World} {T : TypeId} (hb : w.heap[b]? = some (.map (enA l) c)) : (Builtin.len_ #[68] T #[.map (some b)]).run Try.prog w = .ok (.int .i64 (l.length : Nat)) w := by
  rw [run_len_map (P := Try.prog) w _ T b (enA l) c (by kernel_rfl) hb]
  unfold enA
  simp
  rfl
theorem kvNew_any (base : Nat) (w : World) (hb : base ≤ w.heap.size) :
    Calls Try.prog 23 #[] w fun e w' => ∃ p b, e = .returned (.pointer (some ⟨p, 0, none⟩)) ∧ IsM base p b [] w' ∧ Below w.heap.size w w' ∧ ∀ j, footM p b j → w.heap.size ≤ j := by
  have hmk := run_makeMap (P := Try.prog) 68 w
  go_enter Try.func23, Try.ntmps23
  go_wp2_with fail
  go_ret
  have h1 := heap_alloc_new w (.map #[] 0)
  have h2 := heap_alloc_new (w.alloc (.map #[] 0)) (.cells #[.map (some w.heap.size)] 70)
  have hs : (w.alloc (.map #[] 0)).heap.size = w.heap.size + 1 := by simp
  refine ⟨(w.alloc (.map #[] 0)).heap.size, w.heap.size, by simp, ⟨by omega, hb, h2, List.Pairwise.nil, [], 0, ?_, ⟨by simp, by simp, by simp⟩, by simp [prs], rfl⟩, ((Below.refl _ w).alloc (Nat.le_refl _) _).alloc (by omega) _, ?_⟩
  · rw [Below.heap_alloc _ _ _ (by omega)]
    exact h1
  · rintro j (rfl | rfl)
    · omega
    · exact Nat.le_refl _
set_option maxHeartbeats 1000000 in
theorem has_any (base p b : Nat) (L : List Pr) (k : ByteArray) (w : World) (h : IsM base p b L w) :
    Calls Try.prog 36 #[.pointer (some ⟨p, 0, none⟩), .string k] w fun e w' => e = .returned (.bool (getM L k).isSome) ∧ Below w.heap.size w w' := by
  have c0 := h.cell
  obtain ⟨l, c, hb, ho, hp, hl⟩ := h.held
  have hlk := run_lookup k hb h.rise hp
  obtain ⟨g, hg⟩ : ∃ g, getM L k = g := ⟨_, rfl⟩
  rw [hg] at hlk ⊢
  clear hb ho hp hl h hg
  go_enter Try.func36, Try.ntmps36
  go_wp2_with fail
  go_ret
  exact ⟨rfl, (Below.refl _ w).alloc (Nat.le_refl _) _⟩
set_option maxHeartbeats 1000000 in
theorem get_any (base p b : Nat) (L : List Pr) (k : ByteArray) (w : World) (h : IsM base p b L w) :
    Calls Try.prog 15 #[.pointer (some ⟨p, 0, none⟩), .string k] w fun e w' => e = .returned (.tuple #[.string ((getM L k).getD ⟨#[]⟩), .bool (getM L k).isSome]) ∧ Below w.heap.size w w' := by
  have c0 := h.cell
  obtain ⟨l, c, hb, ho, hp, hl⟩ := h.held
  have hlk := run_lookup k hb h.rise hp
  obtain ⟨g, hg⟩ : ∃ g, (getM L k).isSome = g := ⟨_, rfl⟩
  obtain ⟨v, hv⟩ : ∃ v, (getM L k).getD ⟨#[]⟩ = v := ⟨_, rfl⟩
  rw [hg, hv] at hlk ⊢
  clear hb ho hp hl h hg hv
  go_enter Try.func15, Try.ntmps15
  go_wp2_with fail
  go_ret2
  exact ⟨rfl, (Below.refl _ w).alloc (Nat.le_refl _) _⟩
set_option maxRecDepth 100000 in
theorem len_any (base p b : Nat) (L : List Pr) (w : World) (h : IsM base p b L w) :
    Calls Try.prog 21 #[.pointer (some ⟨p, 0, none⟩)] w fun e w' => e = .returned (.int .i64 L.length) ∧ w' = w := by
  have c0 := h.cell
  obtain ⟨l, c, hb, ho, hp, hl⟩ := h.held
  rw [← hl]
  have HL := run_len (T := 3) hb
  clear ho hp hl h hb
  go_enter Try.func21, Try.ntmps21
  go_wp2_with fail
  go_ret
  exact ⟨rfl, rfl⟩
/-- What Put answers: a key or a value that may not be; no room; fine. -/
def badKV (k v : ByteArray) : Prop := k.size < 1 ∨ 64 < k.size ∨ 4096 < v.size
instance (k v : ByteArray) : Decidable (badKV k v) := inferInstanceAs (Decidable (_ ∨ _ ∨ _))
def putE (L : List Pr) (k v : ByteArray) : Nat := if badKV k v then 2 else if getM L k = none ∧ 128 ≤ L.length then 4 else 0
def putL (L : List Pr) (k v : ByteArray) : List Pr := if putE L k v = 0 then putM L k v else L
set_option maxRecDepth 100000 in
set_option maxHeartbeats 2000000 in
theorem put_any (base p b : Nat) (L : List Pr) (k v : ByteArray) (w : World) (h : IsM base p b L w) (hw : base ≤ w.heap.size) :
    Calls Try.prog 16 #[.pointer (some ⟨p, 0, none⟩), .string k, .string v] w fun e w' => e = .returned (.int .i64 (putE L k v)) ∧ MTo base p b (putL L k v) w w' := by
  by_cases hbad : badKV k v
  · have e0 : putE L k v = 2 := by unfold putE; rw [if_pos hbad]
    have e1 : putL L k v = L := by unfold putL; rw [e0, if_neg (by omega)]
    rw [e0, e1]
    have HS := hide (MTo.stay h (Below.refl _ w) hw)
    clear h e0 e1
    unfold badKV at hbad
    have hcs : ((k.size : Int) < 1) ∨ (¬ ((k.size : Int) < 1) ∧ (64 : Int) < k.size) ∨ (¬ ((k.size : Int) < 1) ∧ ¬ ((64 : Int) < k.size) ∧ (4096 : Int) < v.size) := by omega
    clear hbad
    rcases hcs with h1 | ⟨h1, h2⟩ | ⟨h1, h2, h3⟩
    all_goals
      go_enter Try.func16, Try.ntmps16
      go_wp2_with fail
      go_ret
      exact ⟨rfl, HS.out⟩
  · have hok := hbad
    unfold badKV at hok
    have h1 : ¬ ((k.size : Int) < 1) := by omega
    have h2 : ¬ ((64 : Int) < k.size) := by omega
    have h3 : ¬ ((4096 : Int) < v.size) := by omega
    have HH := hide h
    have HA := hide (has_any base p b L k w h)
    clear hok
    cases hg : getM L k with
    | none =>
      rw [hg] at HA
      by_cases h128 : 128 ≤ L.length
      · have e0 : putE L k v = 4 := by unfold putE; rw [if_neg hbad, if_pos ⟨hg, h128⟩]
        have e1 : putL L k v = L := by unfold putL; rw [e0, if_neg (by omega)]
        rw [e0, e1]
        have hge : (128 : Int) ≤ L.length := by omega
        clear h e0 e1 hbad hg
        go_enter Try.func16, Try.ntmps16
        go_wp2_with (go_at_call 36; refine HA.out.mono ?_; rintro e w1 ⟨rfl, b1⟩; refine stopHere ?_)
        unfold Hid
        have h1' := HH.out.below b1
        have c0 := h1'.cell
        obtain ⟨l, c, hb, ho, hp, hl⟩ := h1'.held
        have HL := run_len (T := 3) hb
        rw [hl] at HL
        clear ho hp hl hb h1'
        go_wp2_with fail
        go_ret
        exact ⟨rfl, MTo.stay HH.out b1 hw⟩
      · have e0 : putE L k v = 0 := by unfold putE; rw [if_neg hbad, if_neg (fun h => h128 h.2)]
        have e1 : putL L k v = putM L k v := by unfold putL; rw [e0, if_pos rfl]
        rw [e0, e1]
        have hge : ¬ ((128 : Int) ≤ L.length) := by omega
        clear h e0 e1 hbad hg
        go_enter Try.func16, Try.ntmps16
        go_wp2_with (go_at_call 36; refine HA.out.mono ?_; rintro e w1 ⟨rfl, b1⟩; refine stopHere ?_)
        unfold Hid
        have h1' := HH.out.below b1
        have c0 := h1'.cell
        obtain ⟨l, c, hb, ho, hp, hl⟩ := h1'.held
        have hup := run_update k v hb ho
        have hfin := h1'.turn (L' := putM L k v) (by have := b1.size; omega) (updL_ok ho k v) (prs_upd hp) (updL_len h1'.rise hp hl) (putM_rising h1'.rise k v)
        have HL := run_len (T := 3) hb
        rw [hl] at HL
        have HF := hide hfin
        clear ho hp hl hb h1' hfin
        go_wp2_with fail
        go_ret
        exact ⟨rfl, HF.out.1, (Frees.of_below (M := footM p b) b1 hw).trans' HF.out.2 (fun _ x => .inl x)⟩
    | some u =>
      rw [hg] at HA
      have e0 : putE L k v = 0 := by unfold putE; rw [if_neg hbad, if_neg (fun h => by rw [hg] at h; cases h.1)]
      have e1 : putL L k v = putM L k v := by unfold putL; rw [e0, if_pos rfl]
      rw [e0, e1]
      clear h e0 e1 hbad hg
      go_enter Try.func16, Try.ntmps16
      go_wp2_with (go_at_call 36; refine HA.out.mono ?_; rintro e w1 ⟨rfl, b1⟩; refine stopHere ?_)
      unfold Hid
      have h1' := HH.out.below b1
      have c0 := h1'.cell
      obtain ⟨l, c, hb, ho, hp, hl⟩ := h1'.held
      have hup := run_update k v hb ho
      have hfin := h1'.turn (L' := putM L k v) (by have := b1.size; omega) (updL_ok ho k v) (prs_upd hp) (updL_len h1'.rise hp hl) (putM_rising h1'.rise k v)
      have HL := run_len (T := 3) hb
      rw [hl] at HL
      have HF := hide hfin
      clear ho hp hl hb h1' hfin
      go_wp2_with fail
      go_ret
      exact ⟨rfl, HF.out.1, (Frees.of_below (M := footM p b) b1 hw).trans' HF.out.2 (fun _ x => .inl x)⟩
def delE (L : List Pr) (k : ByteArray) : Nat := if getM L k = none then 10 else 0
set_option maxRecDepth 100000 in
set_option maxHeartbeats 2000000 in
theorem delete_any (base p b : Nat) (L : List Pr) (k : ByteArray) (w : World) (h : IsM base p b L w) (hw : base ≤ w.heap.size) :
    Calls Try.prog 17 #[.pointer (some ⟨p, 0, none⟩), .string k] w fun e w' => e = .returned (.int .i64 (delE L k)) ∧ MTo base p b (delM L k) w w' := by
  have HH := hide h
  have HA := hide (has_any base p b L k w h)
  cases hg : getM L k with
  | none =>
    rw [hg] at HA
    have e0 : delE L k = 10 := by unfold delE; rw [if_pos hg]
    rw [e0, delM_none hg]
    clear h e0 hg
    go_enter Try.func17, Try.ntmps17
    go_wp2_with (go_at_call 36; refine HA.out.mono ?_; rintro e w1 ⟨rfl, b1⟩)
    go_ret
    exact ⟨rfl, MTo.stay HH.out b1 hw⟩
  | some u =>
    rw [hg] at HA
    have e0 : delE L k = 0 := by unfold delE; rw [if_neg (by rw [hg]; simp)]
    rw [e0]
    clear h e0 hg
    go_enter Try.func17, Try.ntmps17
    go_wp2_with (go_at_call 36; refine HA.out.mono ?_; rintro e w1 ⟨rfl, b1⟩; refine stopHere ?_)
    unfold Hid
    have h1' := HH.out.below b1
    have c0 := h1'.cell
    obtain ⟨l, c, hb, ho, hp, hl⟩ := h1'.held
    have HD := run_delete (T := 0) k hb ho
    have hfin := h1'.turn (L' := delM L k) (by have := b1.size; omega) (delL_ok ho k) (prs_del hp) (delL_len h1'.rise ho hp hl) (delM_rising h1'.rise k)
    have HF := hide hfin
    clear ho hp hl hb h1' hfin
    go_wp2_with fail
    go_ret
    exact ⟨rfl, HF.out.1, (Frees.of_below (M := footM p b) b1 hw).trans' HF.out.2 (fun _ x => .inl x)⟩
end Go.Proofs.Ytjdcgndcljmieaa
