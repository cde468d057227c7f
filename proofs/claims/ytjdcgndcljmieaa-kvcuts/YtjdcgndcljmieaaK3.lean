/- A map is ranged over: each entry once, in whatever order; Size. -/
import Derived.Test.YtjdcgndcljmieaaK2
import Derived.Maps.RangeRun
namespace Go.Proofs.Ytjdcgndcljmieaa
open Go.RowKit Go.MapKept
open Go.ChangeMaps (setBlock)

/-- The numbers of entries. -/
def bornA (D : List En) : Array Nat := (D.map (·.b)).toArray
theorem born_eq {l : List En} {c : Nat} (h : MOk l c) {x y : En} (hx : x ∈ l) (hy : y ∈ l) (e : x.b = y.b) : x = y := by
  obtain ⟨i, hi⟩ := List.getElem?_of_mem hx
  obtain ⟨j, hj⟩ := List.getElem?_of_mem hy
  have h1 : (l.map (·.b))[i]? = some x.b := by simp [hi]
  have h2 : (l.map (·.b))[j]? = some x.b := by simp [hj, e]
  have hlt := (List.getElem?_eq_some_iff.1 h1).1
  have := (List.getElem?_inj hlt h.born).1 (h1.trans h2.symm)
  subst this
  rw [hi] at hj
  cases hj
  rfl
theorem run_next {l D : List En} {c b r : Nat} {w : World} {T : TypeId} (ho : MOk l c) (hr : w.heap[r]? = some (.mapIter (some b) c (bornA D) c)) (hb : w.heap[b]? = some (.map (enA l) c)) (hD : D.Nodup) (hDl : ∀ x ∈ D, x ∈ l) :
    (D.Perm l ∧ (Instr.next (.pointer (some ⟨r, 0, none⟩)) false T).run Try.prog w = .ok (.tuple #[.bool false]) w) ∨
    ∃ x ∈ l, x ∉ D ∧ ∃ w1 : World, (w1 = w ∨ w1 = w.drew) ∧ (Instr.next (.pointer (some ⟨r, 0, none⟩)) false T).run Try.prog w = .ok (.tuple #[.bool true, .string x.k, .agg #[.string x.v]]) (setBlock w1 r (.mapIter (some b) c (bornA (D ++ [x])) c)) := by
  have hnl : l.Nodup := by
    have := ho.born
    rw [List.nodup_iff_pairwise_ne, List.pairwise_map] at this
    rw [List.nodup_iff_pairwise_ne]
    exact this.imp (fun h e => h (by rw [e]))
  rcases run_next_at (P := Try.prog) w T r b c c (bornA D) (enA l) c hr hb (fun x hx => by
    unfold enA at hx
    simp at hx
    obtain ⟨y, hy, rfl⟩ := hx
    exact ho.lt y hy) (Nat.le_refl _) with ⟨h0, h1⟩ | ⟨e, he, w1, hw1, h1⟩
  · refine .inl ⟨(List.perm_ext_iff_of_nodup hD hnl).2 (fun x => ⟨hDl x, fun hx => ?_⟩), h1⟩
    have hs := all_seen (enA l) (bornA D) h0 (en x) (by unfold enA; simpa using ⟨x, hx, rfl⟩)
    unfold bornA at hs
    simp [en] at hs
    obtain ⟨y, hy, e⟩ := hs
    rw [← born_eq ho (hDl y hy) hx e]
    exact hy
  · obtain ⟨m1, m2⟩ := mem_left he
    unfold enA at m1
    simp at m1
    obtain ⟨x, hx, rfl⟩ := m1
    refine .inr ⟨x, hx, fun hxD => ?_, w1, hw1, ?_⟩
    · unfold bornA at m2
      simp [en] at m2
      exact m2 x hxD rfl
    · rw [h1]
      unfold bornA
      simp [en]
theorem run_entry {l D : List En} {x : En} {c b r : Nat} {w : World} (ho : MOk l c) (hr : w.heap[r]? = some (.mapIter (some b) c (bornA (D ++ [x])) c)) (hb : w.heap[b]? = some (.map (enA l) c)) (hx : x ∈ l) : (Instr.entry (.pointer (some ⟨r, 0, none⟩))).run Try.prog w = .ok (.tuple #[.string x.k, .agg #[.string x.v]]) w := by
  have h := run_entry_at (P := Try.prog) w r b c (bornA D) (enA l) c (en x) (by rw [hr]; unfold bornA; simp [en]) hb (by unfold enA; simpa using ⟨x, hx, rfl⟩) (by unfold enA; simpa [List.map_map, Function.comp_def, en] using ho.born)
  exact h
/-- What is in a map may be in one. -/
structure Good (L : List Pr) : Prop where
  few : L.length ≤ 128
  each : ∀ x ∈ L, 1 ≤ x.1.size ∧ x.1.size ≤ 64 ∧ x.2.size ≤ 4096
def sz1 (x : Pr) : Nat := 3 + x.1.size + x.2.size
def sizeM (L : List Pr) : Nat := (L.map sz1).sum
theorem sum_le {L : List Pr} (h : ∀ x ∈ L, sz1 x ≤ 4163) : sizeM L ≤ L.length * 4163 := by
  induction L with
  | nil => simp [sizeM]
  | cons x L ih =>
    have h1 := h x List.mem_cons_self
    have h2 := ih (fun y hy => h y (List.mem_cons_of_mem _ hy))
    unfold sizeM at h2 ⊢
    simp only [List.map_cons, List.sum_cons, List.length_cons]
    omega
theorem prs_perm {l : List En} {L : List Pr} {c : Nat} (ho : MOk l c) (hR : Rising L) (hp : ∀ x, x ∈ prs l ↔ x ∈ L) : (prs l).Perm L := by
  refine (List.perm_ext_iff_of_nodup ?_ ?_).2 hp
  · have := ho.keys
    unfold prs
    rw [List.nodup_iff_pairwise_ne, List.pairwise_map] at this ⊢
    exact this.imp (fun h e => h (congrArg Prod.fst e))
  · rw [List.nodup_iff_pairwise_ne]
    refine hR.imp (fun h e => ?_)
    rw [e] at h
    exact str_irrefl _ h
theorem sum_perm {A B : List Pr} (h : A.Perm B) : sizeM A = sizeM B := by
  unfold sizeM
  exact (h.map sz1).sum_nat
theorem below_setBlock {B r : Nat} {a w : World} (h : Below B a w) (hr : B ≤ r) (o : Obj) : Below B a (setBlock w r o) :=
  ⟨h.os, h.tape, h.output, by simpa [setBlock] using h.size, fun k hk => (setBlock_other w r k o (by omega)).trans (h.block k hk)⟩
theorem drew_cases {w w1 : World} (h : w1 = w ∨ w1 = w.drew) : Below w.heap.size w w1 ∧ w1.heap = w.heap := by
  rcases h with rfl | rfl
  · exact ⟨Below.refl _ _, rfl⟩
  · exact ⟨(Below.refl _ _).drew, rfl⟩
theorem nodup_len {α : Type} : ∀ {D l : List α}, D.Nodup → (∀ x ∈ D, x ∈ l) → D.length ≤ l.length
  | [], _, _, _ => by simp
  | x :: D, l, hn, hs => by
    obtain ⟨a, c, rfl⟩ := List.append_of_mem (hs x List.mem_cons_self)
    have hn' := List.nodup_cons.1 hn
    have := nodup_len (D := D) (l := a ++ c) hn'.2 (fun y hy => by
      have h := hs y (List.mem_cons_of_mem _ hy)
      rw [List.mem_append, List.mem_cons] at h
      rw [List.mem_append]
      rcases h with h | h | h
      · exact .inl h
      · subst h
        exact absurd hy hn'.1
      · exact .inr h)
    simp at this ⊢
    omega
theorem iter_at {w : World} {r c : Nat} {m : Option Nat} {s : Array Nat} (h : w.heap[r]? = some (.mapIter m c s c)) : w.iterSeen r = s := by simp [World.iterSeen, h]
theorem bornA_size (D : List En) : (bornA D).size = D.length := by simp [bornA]
theorem snoc_nodup {α : Type} {D : List α} {x : α} (h : D.Nodup) (hx : x ∉ D) : (D ++ [x]).Nodup := by
  rw [List.nodup_append]
  refine ⟨h, by simp, fun a ha b hb e => ?_⟩
  simp at hb
  subst hb e
  exact hx ha
theorem sizeM_snoc (D : List En) (x : En) : sizeM (prs (D ++ [x])) = sizeM (prs D) + (3 + x.k.size + x.v.size) := by
  simp [sizeM, prs, sz1]
set_option maxRecDepth 100000 in
set_option maxHeartbeats 4000000 in
theorem size_any (base p b : Nat) (L : List Pr) (w : World) (h : IsM base p b L w) (hG : Good L) :
    Calls Try.prog 25 #[.pointer (some ⟨p, 0, none⟩)] w fun e w' => e = .returned (.int .i64 (sizeM L)) ∧ Below w.heap.size w w' := by
  have c0 := h.cell
  obtain ⟨l, c, hb, ho, hp, hl⟩ := h.held
  have hbl := hp_lt hb
  have hrg := run_range_map (P := Try.prog) w _ _ _ b (enA l) c undM hb
  have hperm := prs_perm ho h.rise hp
  have heach : ∀ x ∈ l, x.k.size ≤ 64 ∧ x.v.size ≤ 4096 := fun x hx => (hG.each (x.k, x.v) ((hp _).1 (List.mem_map.2 ⟨x, hx, rfl⟩))).2
  have hl128 : l.length ≤ 128 := by rw [hl]; exact hG.few
  have HH := hide (And.intro hb (And.intro ho (And.intro hperm heach)))
  clear hp h hG hb ho hperm heach
  go_enter Try.func25, Try.ntmps25
  go_wp2_with fail
  go_loopw [3] (fun n wr => ∃ D : List En, n = .int .i64 (sizeM (prs D) : Nat) ∧ D.Nodup ∧ (∀ x ∈ D, x ∈ l) ∧ wr.heap[w.heap.size]? = some (.mapIter (some b) c (bornA D) c) ∧ Below w.heap.size w wr) (fun _ wr => l.length - (wr.iterSeen w.heap.size).size)
  case atStart => exact ⟨[], rfl, List.nodup_nil, by simp, heap_alloc_new w _, (Below.refl _ w).alloc (Nat.le_refl _) _⟩
  case round =>
    obtain ⟨D, rfl, hD, hDl, hr, hbw⟩ := hrel
    have hbr := (hbw.block b hbl).trans HH.out.1
    have hsr := hp_lt hr
    rcases run_next (T := 0) HH.out.2.1 hr hbr hD hDl with ⟨hpm, hnx⟩ | ⟨x, hx, hxD, w1, hw1, hnx⟩
    · have hs : sizeM (prs D) = sizeM L := (sum_perm (hpm.map _)).trans (sum_perm HH.out.2.2.1)
      rw [hs]
      have HB := hide hbw
      clear hs hbw hr hbr hpm hD hDl
      go_wp2_with fail
      go_ret
      exact ⟨rfl, HB.out⟩
    · obtain ⟨hbd, hheap⟩ := drew_cases hw1
      obtain ⟨W2, hW2⟩ : ∃ W2, setBlock w1 w.heap.size (.mapIter (some b) c (bornA (D ++ [x])) c) = W2 := ⟨_, rfl⟩
      have hr2 : W2.heap[w.heap.size]? = some (.mapIter (some b) c (bornA (D ++ [x])) c) := by
        rw [← hW2]
        exact setBlock_same w1 _ _ (by rw [hheap]; exact hsr)
      have hB2 : Below w.heap.size w W2 := by
        rw [← hW2]
        exact below_setBlock (hbw.trans (hbd.mono hbw.size)) (Nat.le_refl _) _
      have hen := run_entry HH.out.2.1 hr2 ((hB2.block b hbl).trans HH.out.1) hx
      rw [hW2] at hnx
      obtain ⟨hk64, hv4⟩ := HH.out.2.2.2 x hx
      have hDn := snoc_nodup hD hxD
      have hDs : ∀ y ∈ D ++ [x], y ∈ l := fun y hy => by
        rcases List.mem_append.1 hy with h | h
        · exact hDl y h
        · simp at h
          subst h
          exact hx
      have hlen := nodup_len hDn hDs
      rw [List.length_append] at hlen
      simp at hlen
      have hN0 : sizeM (prs D) ≤ 128 * 4163 := Nat.le_trans (sum_le (fun y hy => by
        obtain ⟨z, hz, rfl⟩ := List.mem_map.1 hy
        have := HH.out.2.2.2 z (hDl z hz)
        simp [sz1]
        omega)) (Nat.mul_le_mul_right _ (by simp [prs]; omega))
      have hsn := sizeM_snoc D x
      have hsz1 : (wr.iterSeen w.heap.size).size = D.length := by rw [iter_at hr, bornA_size]
      obtain ⟨N, hN⟩ : ∃ N, sizeM (prs D) = N := ⟨_, rfl⟩
      rw [hN] at hN0 hsn ⊢
      have a1 : IntKind.i64.wrap (1 + (x.k.size : Int)) = 1 + x.k.size := by rw [IntKind.wrap_i64]; omega
      have a2 : IntKind.i64.wrap (1 + (x.k.size : Int) + 2) = 1 + x.k.size + 2 := by rw [IntKind.wrap_i64]; omega
      have a3 : IntKind.i64.wrap (1 + (x.k.size : Int) + 2 + x.v.size) = 1 + x.k.size + 2 + x.v.size := by rw [IntKind.wrap_i64]; omega
      have a4 : IntKind.i64.wrap ((N : Int) + (1 + x.k.size + 2 + x.v.size)) = N + (1 + x.k.size + 2 + x.v.size) := by rw [IntKind.wrap_i64]; omega
      have HB := hide (And.intro hB2 (And.intro hr2 (And.intro hDn (And.intro hDs (And.intro hsn (And.intro hsz1 hlen))))))
      have hz2 : w.heap.size < W2.heap.size := hp_lt hr2
      clear hB2 hr2 hbw hr hbr hDn hDs hD hDl hW2 hbd hheap hw1 hsn hsz1 hlen hN hx hxD
      go_wp2_with fail
      go_roundw
      case rel =>
        refine ⟨D ++ [x], ?_, HB.out.2.2.1, HB.out.2.2.2.1, ?_, HB.out.1.alloc (by omega) _⟩
        · rw [HB.out.2.2.2.2.1]
          congr 1
          simp
          omega
        · rw [Below.heap_alloc _ _ _ hz2]
          exact HB.out.2.1
      case measure =>
        rw [HB.out.2.2.2.2.2.1]
        rw [iter_at (c := c) (m := some b) (s := bornA (D ++ [x])) (by rw [Below.heap_alloc _ _ _ hz2]; exact HB.out.2.1), bornA_size]
        have := HB.out.2.2.2.2.2.2
        simp
        omega
end Go.Proofs.Ytjdcgndcljmieaa
