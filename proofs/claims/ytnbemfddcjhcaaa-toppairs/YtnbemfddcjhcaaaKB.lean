/- The program's map: New, has, Get, Len, Put, Delete. A map is ranged over: each entry once, in whatever order; Size. -/
import Derived.Test.YtnbemfddcjhcaaaKA
import Derived.Test.YtnbemfddcjhcaaaDL
import Derived.Test.YtnbemfddcjhcaaaA0g
import Derived.Maps.RangeRun
namespace Go.Proofs.Ytnbemfddcjhcaaa.Kv
open Go.RowKit Go.MapKept
open Go.ChangeMaps (setBlock)

/-- A map in memory, with the pairs L. -/
structure IsM (base p b : Nat) (L : List Pr) (w : World) : Prop where
  low : base ≤ p
  lowb : base ≤ b
  here : w.heap[p]? = some (.cells #[.map (some b)] 43)
  rise : Rising L
  held : ∃ l c, w.heap[b]? = some (.map (enA l) c) ∧ MOk l c ∧ (∀ x, x ∈ prs l ↔ x ∈ L) ∧ l.length = L.length
def footM (p b : Nat) : Blk := fun j => j = p ∨ j = b
def MTo (base p b : Nat) (L' : List Pr) (w w' : World) : Prop := IsM base p b L' w' ∧ Frees base (footM p b) w w'
section
variable {base p b : Nat} {L L' : List Pr} {w w' : World}
theorem IsM.lt (h : IsM base p b L w) {j : Nat} (hj : footM p b j) : base ≤ j ∧ j < w.heap.size := by
  rcases hj with rfl | rfl
  · exact ⟨h.low, hp_lt h.here⟩
  · obtain ⟨l, c, hb, _⟩ := h.held
    exact ⟨h.lowb, hp_lt hb⟩
theorem IsM.same (h : IsM base p b L w) (hs : ∀ j, footM p b j → w'.heap[j]? = w.heap[j]?) : IsM base p b L w' := by
  obtain ⟨l, c, hb, r⟩ := h.held
  exact ⟨h.low, h.lowb, (hs p (.inl rfl)).trans h.here, h.rise, l, c, (hs b (.inr rfl)).trans hb, r⟩
theorem IsM.below (h : IsM base p b L w) (hb : Below w.heap.size w w') : IsM base p b L w' := h.same fun _ hj => hb.block _ (h.lt hj).2
theorem IsM.apart (h : IsM base p b L w) {M : Blk} {n₀ : Nat} (hf : Frees n₀ M w w') (hm : ∀ j, footM p b j → ¬ M j) : IsM base p b L w' := h.same fun j hj => hf.same j (h.lt hj).2 (hm j hj)
theorem IsM.cell (h : IsM base p b L w) : w.cell? ⟨p, 0, none⟩ = some (.map (some b)) := by
  have h := h.here
  simp [World.cell?, h]
theorem IsM.ne (h : IsM base p b L w) : p ≠ b := by
  obtain ⟨l, c, hb, _⟩ := h.held
  intro e
  rw [← e, h.here] at hb
  cases hb
theorem setBlock_same (w : World) (b : Nat) (o : Obj) (hb : b < w.heap.size) : (setBlock w b o).heap[b]? = some o := by
  simp [setBlock, hb]
theorem setBlock_other (w : World) (b j : Nat) (o : Obj) (hj : j ≠ b) : (setBlock w b o).heap[j]? = w.heap[j]? := by
  simp [setBlock, Array.getElem?_setIfInBounds]
  intro e
  exact absurd e.symm hj
theorem frees_block (hb : base ≤ b) (_hw : base ≤ w.heap.size) (o : Obj) : Frees base (footM p b) w (setBlock w b o) :=
  ⟨⟨rfl, rfl, rfl, by simp [setBlock], fun k hk => setBlock_other w b k o (by omega)⟩, fun j _ hn => setBlock_other w b j o (fun e => hn (.inr e))⟩
theorem IsM.turn (h : IsM base p b L w) (hw : base ≤ w.heap.size) {l : List En} {c : Nat} (ho : MOk l c) (hp : ∀ x, x ∈ prs l ↔ x ∈ L') (hl : l.length = L'.length) (hr : Rising L') : MTo base p b L' w (setBlock w b (.map (enA l) c)) := by
  have hlt := (h.lt (.inr rfl : footM p b b)).2
  exact ⟨⟨h.low, h.lowb, (setBlock_other w b p _ h.ne).trans h.here, hr, l, c, setBlock_same w b _ hlt, ho, hp, hl⟩, frees_block h.lowb hw _⟩
theorem MTo.stay (h : IsM base p b L w) (hb : Below w.heap.size w w') (hn : base ≤ w.heap.size) : MTo base p b L w w' := ⟨h.below hb, Frees.of_below hb hn⟩
end
theorem contains_iff {l : List En} {L : List Pr} {k : ByteArray} (_hR : Rising L) (hp : ∀ x, x ∈ prs l ↔ x ∈ L) : (l.map (·.k)).contains k = true ↔ getM L k ≠ none := by
  rw [mem_keys]
  constructor
  · rintro ⟨x, hx, rfl⟩ hn
    exact getM_none hn (x.k, x.v) ((hp _).1 (List.mem_map.2 ⟨x, hx, rfl⟩)) rfl
  · intro hn
    cases hg : getM L k with
    | none => exact absurd hg hn
    | some v =>
      obtain ⟨x, hx, e⟩ := List.mem_map.1 ((hp _).2 (getM_some hg))
      exact ⟨x, hx, congrArg Prod.fst e⟩
theorem updL_len {l : List En} {L : List Pr} {k v : ByteArray} {c : Nat} (hR : Rising L) (hp : ∀ x, x ∈ prs l ↔ x ∈ L) (hl : l.length = L.length) : (updL l k v c).length = (putM L k v).length := by
  rw [putM_len hR]
  unfold updL
  by_cases h : (l.map (·.k)).contains k = true
  · rw [if_pos h, if_neg ((contains_iff hR hp).1 h)]
    simpa using hl
  · rw [if_neg h, if_pos (Classical.not_not.1 (fun hn => h ((contains_iff hR hp).2 hn)))]
    simp [hl]
theorem delL_len {l : List En} {L : List Pr} {k : ByteArray} {c : Nat} (hR : Rising L) (ho : MOk l c) (hp : ∀ x, x ∈ prs l ↔ x ∈ L) (hl : l.length = L.length) : (delL l k).length = (delM L k).length := by
  have h1 : (delL l k).length + 1 = (updL (delL l k) k ⟨#[]⟩ c).length := by
    unfold updL
    rw [if_neg]
    · simp
    · intro h
      obtain ⟨x, hx, e⟩ := mem_keys.1 h
      have := (List.mem_filter.1 hx).2
      simp [e] at this
  have _ := ho
  by_cases hg : getM L k = none
  · have e1 : delL l k = l := by
      unfold delL
      rw [List.filter_eq_self]
      intro x hx
      simp
      intro e
      exact getM_none hg (x.k, x.v) ((hp _).1 (List.mem_map.2 ⟨x, hx, rfl⟩)) e
    rw [e1, delM_none hg, hl]
  · have h2 := putM_len hR k ⟨#[]⟩
    rw [if_neg hg] at h2
    unfold putM at h2
    rw [insM_len] at h2
    have h3 : (delL l k).length + 1 = l.length := by
      obtain ⟨x, hx, e⟩ := mem_keys.1 ((contains_iff hR hp).2 hg)
      obtain ⟨j, hj⟩ := List.getElem?_of_mem hx
      have h4 := erase_one ho.keys hj e
      rw [← h4]
      have hlt := (List.getElem?_eq_some_iff.1 hj).1
      rw [List.length_eraseIdx]
      simp [hlt]
      omega
    omega
theorem stopHere {p : Prop} (h : Hid p) : p := h
theorem ex_len {o : Oper} {a : Act} {w w' : World} {s : Operand} {t : TypeId} {u r : Value} (ho : o.op = .call { callee := .builtin .len, args := #[s], argTypes := #[t] }) (hs : a.eval s = u) (hr : (Builtin.len_ #[t] o.type #[u]).run Try.prog w = .ok r w') : (execOp a.eval o).run Try.prog w = .ok (.value r) w' := by
  simp [execOp, ho, resolve, invoke, builtin, hs, hr, Result.andThen]
theorem ex_delete {o : Oper} {a : Act} {w w' : World} {s x : Operand} {t t' : TypeId} {u v r : Value} (ho : o.op = .call { callee := .builtin .delete, args := #[s, x], argTypes := #[t, t'] }) (hs : a.eval s = u) (hx : a.eval x = v) (hr : (Builtin.delete_ #[t, t'] o.type #[u, v]).run Try.prog w = .ok r w') : (execOp a.eval o).run Try.prog w = .ok (.value r) w' := by
  simp [execOp, ho, resolve, invoke, builtin, hs, hx, hr, Result.andThen]
theorem run_len {l : List En} {c b : Nat} {w : World} {T : TypeId} (hb : w.heap[b]? = some (.map (enA l) c)) : (Builtin.len_ #[41] T #[.map (some b)]).run Try.prog w = .ok (.int .i64 (l.length : Nat)) w := by
  rw [run_len_map (P := Try.prog) w _ T b (enA l) c (by kernel_rfl) hb]
  unfold enA
  simp
  rfl
theorem kvNew_any (base : Nat) (w : World) (hb : base ≤ w.heap.size) :
    Calls Try.prog 4 #[] w fun e w' => ∃ p b, e = .returned (.pointer (some ⟨p, 0, none⟩)) ∧ IsM base p b [] w' ∧ Below w.heap.size w w' ∧ ∀ j, footM p b j → w.heap.size ≤ j := by
  have hmk := run_makeMap (P := Try.prog) 41 w
  go_enter Try.func4, Try.ntmps4
  go_wp2_with fail
  go_ret
  have h1 := heap_alloc_new w (.map #[] 0)
  have h2 := heap_alloc_new (w.alloc (.map #[] 0)) (.cells #[.map (some w.heap.size)] 43)
  have hs : (w.alloc (.map #[] 0)).heap.size = w.heap.size + 1 := by simp
  refine ⟨(w.alloc (.map #[] 0)).heap.size, w.heap.size, by simp, ⟨by omega, hb, h2, List.Pairwise.nil, [], 0, ?_, ⟨by simp, by simp, by simp⟩, by simp [prs], rfl⟩, ((Below.refl _ w).alloc (Nat.le_refl _) _).alloc (by omega) _, ?_⟩
  · rw [Below.heap_alloc _ _ _ (by omega)]
    exact h1
  · rintro j (rfl | rfl)
    · omega
    · exact Nat.le_refl _
set_option maxHeartbeats 1000000 in
theorem has_any (base p b : Nat) (L : List Pr) (k : ByteArray) (w : World) (h : IsM base p b L w) :
    Calls Try.prog 15 #[.pointer (some ⟨p, 0, none⟩), .string k] w fun e w' => e = .returned (.bool (getM L k).isSome) ∧ Below w.heap.size w w' := by
  have c0 := h.cell
  obtain ⟨l, c, hb, ho, hp, hl⟩ := h.held
  have hlk := run_lookup k hb h.rise hp
  obtain ⟨g, hg⟩ : ∃ g, getM L k = g := ⟨_, rfl⟩
  rw [hg] at hlk ⊢
  clear hb ho hp hl h hg
  go_enter Try.func15, Try.ntmps15
  go_wp2_with fail
  go_ret
  exact ⟨rfl, (Below.refl _ w).alloc (Nat.le_refl _) _⟩
set_option maxRecDepth 100000 in
theorem len_any (base p b : Nat) (L : List Pr) (w : World) (h : IsM base p b L w) :
    Calls Try.prog 12 #[.pointer (some ⟨p, 0, none⟩)] w fun e w' => e = .returned (.int .i64 L.length) ∧ w' = w := by
  have c0 := h.cell
  obtain ⟨l, c, hb, ho, hp, hl⟩ := h.held
  rw [← hl]
  have HL := run_len (T := 3) hb
  clear ho hp hl h hb
  go_enter Try.func12, Try.ntmps12
  go_wp2_with fail
  go_ret
  exact ⟨rfl, rfl⟩
/-- What Put answers: a key or a value that may not be; no room; fine. -/
def badKV (k v : ByteArray) : Prop := k.size < 1 ∨ 64 < k.size ∨ 4096 < v.size
instance (k v : ByteArray) : Decidable (badKV k v) := inferInstanceAs (Decidable (_ ∨ _ ∨ _))
def putE (L : List Pr) (k v : ByteArray) : Nat := if badKV k v then 2 else if getM L k = none ∧ 128 ≤ L.length then 4 else 0
def putL (L : List Pr) (k v : ByteArray) : List Pr := if putE L k v = 0 then putM L k v else L
set_option maxRecDepth 100000 in
set_option maxHeartbeats 2000000 in
theorem put_any (base p b : Nat) (L : List Pr) (k v : ByteArray) (w : World) (h : IsM base p b L w) (hw : base ≤ w.heap.size) :
    Calls Try.prog 5 #[.pointer (some ⟨p, 0, none⟩), .string k, .string v] w fun e w' => e = .returned (.int .i64 (putE L k v)) ∧ MTo base p b (putL L k v) w w' := by
  by_cases hbad : badKV k v
  · have e0 : putE L k v = 2 := by unfold putE; rw [if_pos hbad]
    have e1 : putL L k v = L := by unfold putL; rw [e0, if_neg (by omega)]
    rw [e0, e1]
    have HS := hide (MTo.stay h (Below.refl _ w) hw)
    clear h e0 e1
    unfold badKV at hbad
    have hcs : ((k.size : Int) < 1) ∨ (¬ ((k.size : Int) < 1) ∧ (64 : Int) < k.size) ∨ (¬ ((k.size : Int) < 1) ∧ ¬ ((64 : Int) < k.size) ∧ (4096 : Int) < v.size) := by omega
    clear hbad
    rcases hcs with h1 | ⟨h1, h2⟩ | ⟨h1, h2, h3⟩
    all_goals
      go_enter Try.func5, Try.ntmps5
      go_wp2_with fail
      go_ret
      exact ⟨rfl, HS.out⟩
  · have hok := hbad
    unfold badKV at hok
    have h1 : ¬ ((k.size : Int) < 1) := by omega
    have h2 : ¬ ((64 : Int) < k.size) := by omega
    have h3 : ¬ ((4096 : Int) < v.size) := by omega
    have HH := hide h
    have HA := hide (has_any base p b L k w h)
    clear hok
    cases hg : getM L k with
    | none =>
      rw [hg] at HA
      by_cases h128 : 128 ≤ L.length
      · have e0 : putE L k v = 4 := by unfold putE; rw [if_neg hbad, if_pos ⟨hg, h128⟩]
        have e1 : putL L k v = L := by unfold putL; rw [e0, if_neg (by omega)]
        rw [e0, e1]
        have hge : (128 : Int) ≤ L.length := by omega
        clear h e0 e1 hbad hg
        go_enter Try.func5, Try.ntmps5
        go_wp2_with (go_at_call 15; refine HA.out.mono ?_; rintro e w1 ⟨rfl, b1⟩; refine stopHere ?_)
        unfold Hid
        have h1' := HH.out.below b1
        have c0 := h1'.cell
        obtain ⟨l, c, hb, ho, hp, hl⟩ := h1'.held
        have HL := run_len (T := 3) hb
        rw [hl] at HL
        clear ho hp hl hb h1'
        go_wp2_with fail
        go_ret
        exact ⟨rfl, MTo.stay HH.out b1 hw⟩
      · have e0 : putE L k v = 0 := by unfold putE; rw [if_neg hbad, if_neg (fun h => h128 h.2)]
        have e1 : putL L k v = putM L k v := by unfold putL; rw [e0, if_pos rfl]
        rw [e0, e1]
        have hge : ¬ ((128 : Int) ≤ L.length) := by omega
        clear h e0 e1 hbad hg
        go_enter Try.func5, Try.ntmps5
        go_wp2_with (go_at_call 15; refine HA.out.mono ?_; rintro e w1 ⟨rfl, b1⟩; refine stopHere ?_)
        unfold Hid
        have h1' := HH.out.below b1
        have c0 := h1'.cell
        obtain ⟨l, c, hb, ho, hp, hl⟩ := h1'.held
        have hup := run_update k v hb ho
        have hfin := h1'.turn (L' := putM L k v) (by have := b1.size; omega) (updL_ok ho k v) (prs_upd hp) (updL_len h1'.rise hp hl) (putM_rising h1'.rise k v)
        have HL := run_len (T := 3) hb
        rw [hl] at HL
        have HF := hide hfin
        clear ho hp hl hb h1' hfin
        go_wp2_with fail
        go_ret
        exact ⟨rfl, HF.out.1, (Frees.of_below (M := footM p b) b1 hw).trans' HF.out.2 (fun _ x => .inl x)⟩
    | some u =>
      rw [hg] at HA
      have e0 : putE L k v = 0 := by unfold putE; rw [if_neg hbad, if_neg (fun h => by rw [hg] at h; cases h.1)]
      have e1 : putL L k v = putM L k v := by unfold putL; rw [e0, if_pos rfl]
      rw [e0, e1]
      clear h e0 e1 hbad hg
      go_enter Try.func5, Try.ntmps5
      go_wp2_with (go_at_call 15; refine HA.out.mono ?_; rintro e w1 ⟨rfl, b1⟩; refine stopHere ?_)
      unfold Hid
      have h1' := HH.out.below b1
      have c0 := h1'.cell
      obtain ⟨l, c, hb, ho, hp, hl⟩ := h1'.held
      have hup := run_update k v hb ho
      have hfin := h1'.turn (L' := putM L k v) (by have := b1.size; omega) (updL_ok ho k v) (prs_upd hp) (updL_len h1'.rise hp hl) (putM_rising h1'.rise k v)
      have HL := run_len (T := 3) hb
      rw [hl] at HL
      have HF := hide hfin
      clear ho hp hl hb h1' hfin
      go_wp2_with fail
      go_ret
      exact ⟨rfl, HF.out.1, (Frees.of_below (M := footM p b) b1 hw).trans' HF.out.2 (fun _ x => .inl x)⟩
def delE (L : List Pr) (k : ByteArray) : Nat := if getM L k = none then 10 else 0
end Go.Proofs.Ytnbemfddcjhcaaa.Kv
namespace Go.Proofs.Ytnbemfddcjhcaaa.Kv
open Go.RowKit Go.MapKept
open Go.ChangeMaps (setBlock)

/-- The numbers of entries. -/
def bornA (D : List En) : Array Nat := (D.map (·.b)).toArray
theorem born_eq {l : List En} {c : Nat} (h : MOk l c) {x y : En} (hx : x ∈ l) (hy : y ∈ l) (e : x.b = y.b) : x = y := by
  obtain ⟨i, hi⟩ := List.getElem?_of_mem hx
  obtain ⟨j, hj⟩ := List.getElem?_of_mem hy
  have h1 : (l.map (·.b))[i]? = some x.b := by simp [hi]
  have h2 : (l.map (·.b))[j]? = some x.b := by simp [hj, e]
  have hlt := (List.getElem?_eq_some_iff.1 h1).1
  have := (List.getElem?_inj hlt h.born).1 (h1.trans h2.symm)
  subst this
  rw [hi] at hj
  cases hj
  rfl
theorem run_next {l D : List En} {c b r : Nat} {w : World} {T : TypeId} (ho : MOk l c) (hr : w.heap[r]? = some (.mapIter (some b) c (bornA D) c)) (hb : w.heap[b]? = some (.map (enA l) c)) (hD : D.Nodup) (hDl : ∀ x ∈ D, x ∈ l) :
    (D.Perm l ∧ (Instr.next (.pointer (some ⟨r, 0, none⟩)) false T).run Try.prog w = .ok (.tuple #[.bool false]) w) ∨
    ∃ x ∈ l, x ∉ D ∧ ∃ w1 : World, (w1 = w ∨ w1 = w.drew) ∧ (Instr.next (.pointer (some ⟨r, 0, none⟩)) false T).run Try.prog w = .ok (.tuple #[.bool true, .string x.k, .agg #[.string x.v]]) (setBlock w1 r (.mapIter (some b) c (bornA (D ++ [x])) c)) := by
  have hnl : l.Nodup := by
    have := ho.born
    rw [List.nodup_iff_pairwise_ne, List.pairwise_map] at this
    rw [List.nodup_iff_pairwise_ne]
    exact this.imp (fun h e => h (by rw [e]))
  rcases run_next_at (P := Try.prog) w T r b c c (bornA D) (enA l) c hr hb (fun x hx => by
    unfold enA at hx
    simp at hx
    obtain ⟨y, hy, rfl⟩ := hx
    exact ho.lt y hy) (Nat.le_refl _) with ⟨h0, h1⟩ | ⟨e, he, w1, hw1, h1⟩
  · refine .inl ⟨(List.perm_ext_iff_of_nodup hD hnl).2 (fun x => ⟨hDl x, fun hx => ?_⟩), h1⟩
    have hs := all_seen (enA l) (bornA D) h0 (en x) (by unfold enA; simpa using ⟨x, hx, rfl⟩)
    unfold bornA at hs
    simp [en] at hs
    obtain ⟨y, hy, e⟩ := hs
    rw [← born_eq ho (hDl y hy) hx e]
    exact hy
  · obtain ⟨m1, m2⟩ := mem_left he
    unfold enA at m1
    simp at m1
    obtain ⟨x, hx, rfl⟩ := m1
    refine .inr ⟨x, hx, fun hxD => ?_, w1, hw1, ?_⟩
    · unfold bornA at m2
      simp [en] at m2
      exact m2 x hxD rfl
    · rw [h1]
      unfold bornA
      simp [en]
theorem run_entry {l D : List En} {x : En} {c b r : Nat} {w : World} (ho : MOk l c) (hr : w.heap[r]? = some (.mapIter (some b) c (bornA (D ++ [x])) c)) (hb : w.heap[b]? = some (.map (enA l) c)) (hx : x ∈ l) : (Instr.entry (.pointer (some ⟨r, 0, none⟩))).run Try.prog w = .ok (.tuple #[.string x.k, .agg #[.string x.v]]) w := by
  have h := run_entry_at (P := Try.prog) w r b c (bornA D) (enA l) c (en x) (by rw [hr]; unfold bornA; simp [en]) hb (by unfold enA; simpa using ⟨x, hx, rfl⟩) (by unfold enA; simpa [List.map_map, Function.comp_def, en] using ho.born)
  exact h
/-- What is in a map may be in one. -/
structure Good (L : List Pr) : Prop where
  few : L.length ≤ 128
  each : ∀ x ∈ L, 1 ≤ x.1.size ∧ x.1.size ≤ 64 ∧ x.2.size ≤ 4096
def sz1 (x : Pr) : Nat := 3 + x.1.size + x.2.size
def sizeM (L : List Pr) : Nat := (L.map sz1).sum
theorem sum_le {L : List Pr} (h : ∀ x ∈ L, sz1 x ≤ 4163) : sizeM L ≤ L.length * 4163 := by
  induction L with
  | nil => simp [sizeM]
  | cons x L ih =>
    have h1 := h x List.mem_cons_self
    have h2 := ih (fun y hy => h y (List.mem_cons_of_mem _ hy))
    unfold sizeM at h2 ⊢
    simp only [List.map_cons, List.sum_cons, List.length_cons]
    omega
theorem prs_perm {l : List En} {L : List Pr} {c : Nat} (ho : MOk l c) (hR : Rising L) (hp : ∀ x, x ∈ prs l ↔ x ∈ L) : (prs l).Perm L := by
  refine (List.perm_ext_iff_of_nodup ?_ ?_).2 hp
  · have := ho.keys
    unfold prs
    rw [List.nodup_iff_pairwise_ne, List.pairwise_map] at this ⊢
    exact this.imp (fun h e => h (congrArg Prod.fst e))
  · rw [List.nodup_iff_pairwise_ne]
    refine hR.imp (fun h e => ?_)
    rw [e] at h
    exact str_irrefl _ h
theorem sum_perm {A B : List Pr} (h : A.Perm B) : sizeM A = sizeM B := by
  unfold sizeM
  exact (h.map sz1).sum_nat
theorem below_setBlock {B r : Nat} {a w : World} (h : Below B a w) (hr : B ≤ r) (o : Obj) : Below B a (setBlock w r o) :=
  ⟨h.os, h.tape, h.output, by simpa [setBlock] using h.size, fun k hk => (setBlock_other w r k o (by omega)).trans (h.block k hk)⟩
theorem drew_cases {w w1 : World} (h : w1 = w ∨ w1 = w.drew) : Below w.heap.size w w1 ∧ w1.heap = w.heap := by
  rcases h with rfl | rfl
  · exact ⟨Below.refl _ _, rfl⟩
  · exact ⟨(Below.refl _ _).drew, rfl⟩
theorem nodup_len {α : Type} : ∀ {D l : List α}, D.Nodup → (∀ x ∈ D, x ∈ l) → D.length ≤ l.length
  | [], _, _, _ => by simp
  | x :: D, l, hn, hs => by
    obtain ⟨a, c, rfl⟩ := List.append_of_mem (hs x List.mem_cons_self)
    have hn' := List.nodup_cons.1 hn
    have := nodup_len (D := D) (l := a ++ c) hn'.2 (fun y hy => by
      have h := hs y (List.mem_cons_of_mem _ hy)
      rw [List.mem_append, List.mem_cons] at h
      rw [List.mem_append]
      rcases h with h | h | h
      · exact .inl h
      · subst h
        exact absurd hy hn'.1
      · exact .inr h)
    simp at this ⊢
    omega
theorem iter_at {w : World} {r c : Nat} {m : Option Nat} {s : Array Nat} (h : w.heap[r]? = some (.mapIter m c s c)) : w.iterSeen r = s := by simp [World.iterSeen, h]
theorem bornA_size (D : List En) : (bornA D).size = D.length := by simp [bornA]
theorem snoc_nodup {α : Type} {D : List α} {x : α} (h : D.Nodup) (hx : x ∉ D) : (D ++ [x]).Nodup := by
  rw [List.nodup_append]
  refine ⟨h, by simp, fun a ha b hb e => ?_⟩
  simp at hb
  subst hb e
  exact hx ha
theorem sizeM_snoc (D : List En) (x : En) : sizeM (prs (D ++ [x])) = sizeM (prs D) + (3 + x.k.size + x.v.size) := by
  simp [sizeM, prs, sz1]
set_option maxRecDepth 100000 in
set_option maxHeartbeats 4000000 in
theorem size_any (base p b : Nat) (L : List Pr) (w : World) (h : IsM base p b L w) (hG : Good L) :
    Calls Try.prog 13 #[.pointer (some ⟨p, 0, none⟩)] w fun e w' => e = .returned (.int .i64 (sizeM L)) ∧ Below w.heap.size w w' := by
  have c0 := h.cell
  obtain ⟨l, c, hb, ho, hp, hl⟩ := h.held
  have hbl := hp_lt hb
  have hrg := run_range_map (P := Try.prog) w _ _ _ b (enA l) c undM hb
  have hperm := prs_perm ho h.rise hp
  have heach : ∀ x ∈ l, x.k.size ≤ 64 ∧ x.v.size ≤ 4096 := fun x hx => (hG.each (x.k, x.v) ((hp _).1 (List.mem_map.2 ⟨x, hx, rfl⟩))).2
  have hl128 : l.length ≤ 128 := by rw [hl]; exact hG.few
  have HH := hide (And.intro hb (And.intro ho (And.intro hperm heach)))
  clear hp h hG hb ho hperm heach
  go_enter Try.func13, Try.ntmps13
  go_wp2_with fail
  go_loopw [3] (fun n wr => ∃ D : List En, n = .int .i64 (sizeM (prs D) : Nat) ∧ D.Nodup ∧ (∀ x ∈ D, x ∈ l) ∧ wr.heap[w.heap.size]? = some (.mapIter (some b) c (bornA D) c) ∧ Below w.heap.size w wr) (fun _ wr => l.length - (wr.iterSeen w.heap.size).size)
  case atStart => exact ⟨[], rfl, List.nodup_nil, by simp, heap_alloc_new w _, (Below.refl _ w).alloc (Nat.le_refl _) _⟩
  case round =>
    obtain ⟨D, rfl, hD, hDl, hr, hbw⟩ := hrel
    have hbr := (hbw.block b hbl).trans HH.out.1
    have hsr := hp_lt hr
    rcases run_next (T := 0) HH.out.2.1 hr hbr hD hDl with ⟨hpm, hnx⟩ | ⟨x, hx, hxD, w1, hw1, hnx⟩
    · have hs : sizeM (prs D) = sizeM L := (sum_perm (hpm.map _)).trans (sum_perm HH.out.2.2.1)
      rw [hs]
      have HB := hide hbw
      clear hs hbw hr hbr hpm hD hDl
      go_wp2_with fail
      go_ret
      exact ⟨rfl, HB.out⟩
    · obtain ⟨hbd, hheap⟩ := drew_cases hw1
      obtain ⟨W2, hW2⟩ : ∃ W2, setBlock w1 w.heap.size (.mapIter (some b) c (bornA (D ++ [x])) c) = W2 := ⟨_, rfl⟩
      have hr2 : W2.heap[w.heap.size]? = some (.mapIter (some b) c (bornA (D ++ [x])) c) := by
        rw [← hW2]
        exact setBlock_same w1 _ _ (by rw [hheap]; exact hsr)
      have hB2 : Below w.heap.size w W2 := by
        rw [← hW2]
        exact below_setBlock (hbw.trans (hbd.mono hbw.size)) (Nat.le_refl _) _
      have hen := run_entry HH.out.2.1 hr2 ((hB2.block b hbl).trans HH.out.1) hx
      rw [hW2] at hnx
      obtain ⟨hk64, hv4⟩ := HH.out.2.2.2 x hx
      have hDn := snoc_nodup hD hxD
      have hDs : ∀ y ∈ D ++ [x], y ∈ l := fun y hy => by
        rcases List.mem_append.1 hy with h | h
        · exact hDl y h
        · simp at h
          subst h
          exact hx
      have hlen := nodup_len hDn hDs
      rw [List.length_append] at hlen
      simp at hlen
      have hN0 : sizeM (prs D) ≤ 128 * 4163 := Nat.le_trans (sum_le (fun y hy => by
        obtain ⟨z, hz, rfl⟩ := List.mem_map.1 hy
        have := HH.out.2.2.2 z (hDl z hz)
        simp [sz1]
        omega)) (Nat.mul_le_mul_right _ (by simp [prs]; omega))
      have hsn := sizeM_snoc D x
      have hsz1 : (wr.iterSeen w.heap.size).size = D.length := by rw [iter_at hr, bornA_size]
      obtain ⟨N, hN⟩ : ∃ N, sizeM (prs D) = N := ⟨_, rfl⟩
      rw [hN] at hN0 hsn ⊢
      have a1 : IntKind.i64.wrap (1 + (x.k.size : Int)) = 1 + x.k.size := by rw [IntKind.wrap_i64]; omega
      have a2 : IntKind.i64.wrap (1 + (x.k.size : Int) + 2) = 1 + x.k.size + 2 := by rw [IntKind.wrap_i64]; omega
      have a3 : IntKind.i64.wrap (1 + (x.k.size : Int) + 2 + x.v.size) = 1 + x.k.size + 2 + x.v.size := by rw [IntKind.wrap_i64]; omega
      have a4 : IntKind.i64.wrap ((N : Int) + (1 + x.k.size + 2 + x.v.size)) = N + (1 + x.k.size + 2 + x.v.size) := by rw [IntKind.wrap_i64]; omega
      have HB := hide (And.intro hB2 (And.intro hr2 (And.intro hDn (And.intro hDs (And.intro hsn (And.intro hsz1 hlen))))))
      have hz2 : w.heap.size < W2.heap.size := hp_lt hr2
      clear hB2 hr2 hbw hr hbr hDn hDs hD hDl hW2 hbd hheap hw1 hsn hsz1 hlen hN hx hxD
      go_wp2_with fail
      go_roundw
      case rel =>
        refine ⟨D ++ [x], ?_, HB.out.2.2.1, HB.out.2.2.2.1, ?_, HB.out.1.alloc (by omega) _⟩
        · rw [HB.out.2.2.2.2.1]
          congr 1
          simp
          omega
        · rw [Below.heap_alloc _ _ _ hz2]
          exact HB.out.2.1
      case measure =>
        rw [HB.out.2.2.2.2.2.1]
        rw [iter_at (c := c) (m := some b) (s := bornA (D ++ [x])) (by rw [Below.heap_alloc _ _ _ hz2]; exact HB.out.2.1), bornA_size]
        have := HB.out.2.2.2.2.2.2
        simp
        omega
end Go.Proofs.Ytnbemfddcjhcaaa.Kv
