/- The sort, and whether a text begins so. -/
import Derived.Test.YtjdcgndcljmieaaK3
import Derived.Test.YtjdcgndcljmieaaKLay
import Derived.Shelf.Slices.In.SortAlone
import Derived.Shelf.Slices.In.SortNone
import Derived.Sort.EveryDepth
import Derived.Sort.OwnSorted
namespace Go.Proofs.Ytjdcgndcljmieaa
open Go.RowKit Go.Sort Go.Shelf

def strC (l : List ByteArray) : List Value := l.map Value.string
theorem info9 : (Try.prog.info? 9).map (fun i => (i.zero, i.size, i.bytes)) = some (some (.string ⟨#[]⟩), 1, 16) := by kernel_rfl
def ofS (l : Str) : ByteArray := ⟨l.toArray⟩
theorem ofS_toList (a : ByteArray) : ofS a.toList = a := ba_ext (by rw [ByteArray.toList_eq, ByteArray.toList_eq]; simp [ofS])
theorem toList_ofS (l : Str) : (ofS l).toList = l := by rw [ByteArray.toList_eq]; simp [ofS]
/-- Texts, sorted. -/
def sortS (ks : List ByteArray) : List ByteArray := ((ks.map ByteArray.toList).mergeSort fun x y => decide (x ≤ y)).map ofS
theorem sortS_len (ks : List ByteArray) : (sortS ks).length = ks.length := by simp [sortS]
theorem strC_enc (ks : List ByteArray) : strC ks = (ks.map ByteArray.toList).map encStr := by
  unfold strC
  rw [List.map_map]
  apply List.map_congr_left
  intro x _
  show Value.string x = Value.string (ofS x.toList)
  rw [ofS_toList]
theorem sort_any (base : Nat) (v : Value) (ks : List ByteArray) (w : World) (h : w.ownsRow base 9 1 v ks.length (strC ks)) (hs : ks.length ≤ 1000000) :
    Calls Try.prog 45 #[v] w fun e w' => e = .returned (.tuple #[]) ∧ w'.ownsRow base 9 1 v ks.length (strC (sortS ks)) ∧ w.grownBy w' v.ownBlock := by
  obtain ⟨h1, ⟨rfl, h2⟩ | ⟨g, cap, cur, rfl, x1, x2, x3, x4, x5, x6⟩⟩ := h
  · have hk : ks = [] := List.eq_nil_of_length_eq_zero h2
    subst hk
    refine (calls_of_every_depth fun D => AnyS.slices_Sort_string_none_alone lays190 D none 0 w).mono ?_
    rintro e w' ⟨rfl, rfl⟩
    refine ⟨rfl, ?_, World.grownBy.refl _ _⟩
    rw [show sortS [] = [] by simp [sortS]]
    exact World.ownsRow_nil _ _ _ _
  · have hl : (ks.map ByteArray.toList).length = ks.length := by simp
    have hH : Holds encStr w g 0 (ks.map ByteArray.toList).toArray := holds_of_block x2 (by
      rw [hl, ← strC_enc, ← x6, Nat.mul_one])
    have hc := calls_of_every_depth fun D => AnyS.slices_Sort_string_alone lays190 D g 0 cap (ks.map ByteArray.toList) w hH (hp_lt x2) (by rw [hl]; omega)
    rw [hl] at hc
    refine Calls.mono hc ?_
    rintro e w' ⟨rfl, n, os, rfl⟩
    have ho := ownsRow_sorted (w := w) (base := base) (g := g) (cap := cap) (n := n) (e := 9) (os := os) (cur := cur) (ss := ks.map ByteArray.toList) (ts := (ks.map ByteArray.toList).mergeSort fun x y => decide (x ≤ y)) (by simp) x1 x2 (by rw [hl]; exact x3) x4 x5
    rw [hl] at ho
    refine ⟨rfl, ?_, grownBy_sorted _⟩
    have he : strC (sortS ks) = ((ks.map ByteArray.toList).mergeSort fun x y => decide (x ≤ y)).map encStr := by
      unfold strC sortS
      rw [List.map_map]
      rfl
    rw [he]
    exact ho
/-- Does a text begin so? -/
def begB (p k : ByteArray) : Bool := decide (p.size ≤ k.size) && ((k.extract 0 p.size).toList == p.toList)
theorem begins_any (k p : ByteArray) (w : World) : Calls Try.prog 48 #[.string k, .string p] w fun e w' => e = .returned (.bool (begB p k)) ∧ w' = w := by
  unfold begB
  by_cases h : p.size ≤ k.size
  · have hi : (p.size : Int) ≤ k.size := by omega
    rw [decide_eq_true h, Bool.true_and]
    go_enter Try.func48, Try.ntmps48
    go_wp2_with fail
    go_ret
    exact ⟨rfl, rfl⟩
  · have hi : ¬ ((p.size : Int) ≤ k.size) := by omega
    rw [decide_eq_false h, Bool.false_and]
    go_enter Try.func48, Try.ntmps48
    go_wp2_with fail
    go_ret
    exact ⟨rfl, rfl⟩
theorem hasPrefix_any (k p : ByteArray) (w : World) : Calls Try.prog 44 #[.string k, .string p] w fun e w' => e = .returned (.bool (begB p k)) ∧ w' = w := by
  obtain ⟨r, hr⟩ : ∃ r, begB p k = r := ⟨_, rfl⟩
  have H := hide (begins_any k p w)
  rw [hr] at H ⊢
  clear hr
  go_enter Try.func44, Try.ntmps44
  go_wp2_with (go_at_call 48; refine H.out.mono ?_; rintro e w' ⟨rfl, hw⟩; rw [hw]; clear hw)
  go_ret
  exact ⟨rfl, rfl⟩
/-- The pairs whose keys begin so. -/
def scanM (L : List Pr) (p : ByteArray) : List Pr := L.filter fun x => begB p x.1
/-- Keys of entries that begin so, in whatever order, sorted: those of the pairs, rising. -/
theorem sorted_keys {L : List Pr} {D : List En} {l : List En} {c : Nat} {p : ByteArray} (hR : Rising L) (ho : MOk l c) (hp : ∀ x, x ∈ prs l ↔ x ∈ L) (hD : D.Perm l) : sortS ((D.filter fun x => begB p x.k).map (·.k)) = (scanM L p).map (·.1) := by
  have hpm : ((D.filter fun x => begB p x.k).map (·.k)).Perm ((scanM L p).map (·.1)) := by
    have h1 : ((D.filter fun x => begB p x.k).map (·.k)).Perm ((l.filter fun x => begB p x.k).map (·.k)) := (hD.filter _).map _
    have h2 : (l.filter fun x => begB p x.k).map (·.k) = ((prs l).filter fun x => begB p x.1).map (·.1) := by
      unfold prs
      rw [List.filter_map, List.map_map]
      rfl
    rw [h2] at h1
    exact h1.trans (((prs_perm ho hR hp).filter _).map _)
  have hsr : (((scanM L p).map (·.1)).map ByteArray.toList).Pairwise (fun a b => a ≤ b) := by
    rw [List.map_map, List.pairwise_map]
    exact (rising_filter hR _).imp (fun h => List.le_of_lt h)
  unfold sortS
  have hpl := hpm.map ByteArray.toList
  have he : (((D.filter fun x => begB p x.k).map (·.k)).map ByteArray.toList).mergeSort (fun x y => decide (x ≤ y)) = ((scanM L p).map (·.1)).map ByteArray.toList := by
    refine List.Perm.eq_of_pairwise (le := fun a b => a ≤ b) (fun a b _ _ h1 h2 => List.le_antisymm h1 h2) ?_ hsr ((List.mergeSort_perm _ _).trans hpl)
    have := List.pairwise_mergeSort (le := fun (x y : Str) => decide (x ≤ y)) (fun a b c h1 h2 => by simp at *; exact List.le_trans h1 h2) (fun a b => by simp; exact List.le_total a b) (((D.filter fun x => begB p x.k).map (·.k)).map ByteArray.toList)
    exact this.imp (fun h => by simpa using h)
  rw [he, List.map_map]
  conv => rhs; rw [← List.map_id ((scanM L p).map (·.1))]
  apply List.map_congr_left
  intro x _
  exact ofS_toList x
end Go.Proofs.Ytjdcgndcljmieaa
