/- TopAsks: Fan of one node. -/
import Derived.Test.YtffjmkngdjbjlaaGreatDoorNa0
namespace Go.Proofs.YtffjmkngdjbjlaaGreatDoor
open Go.RowKit

theorem ovL_alone {n : Nd} {t : ByteArray} (h : n.name ≠ t) : ovL [n] t = [] := by
  unfold ovL
  refine ovGo_none ?_ _
  show getE (plAdd [] n 0) t = none
  unfold plAdd
  split
  · simp [getE, h]
  · rfl
theorem ndsMem_one {w : World} {p : Nat} {n : Nd} {u : NdW} (h : w.heap[p]? = some (.cells (ndA n u) 30)) (hok : NdOk w.heap.size w n u) : NdsMem w.heap.size w (some ⟨p, 0, none⟩) [n] (fun _ => u) := by
  refine ⟨by simp, fun k x hk => ?_⟩
  match k, hk with
  | 0, hk =>
    simp at hk
    subst hk
    refine ⟨hok, p, 0, rfl, (Array.getElem?_eq_some_iff.1 h).1, fun j hj => ?_⟩
    obtain ⟨c0, c1, c2, c3, c4, c5, c6, c7⟩ := nd_box h
    match j, hj with
    | 0, _ => exact c0
    | 1, _ => exact c1
    | 2, _ => exact c2
    | 3, _ => exact c3
    | 4, _ => exact c4
    | 5, _ => exact c5
    | 6, _ => exact c6
    | 7, _ => exact c7
theorem one_n (n : Nd) (u : NdW) (W : World) : ∃ W3, (Instr.buildSlice 38 1 #[(0, .agg (ndA n u))]).run Tryz.prog W = .ok (.slice (some ⟨W.heap.size, 0, none⟩) 1 1) W3 ∧ W3.heap[W.heap.size]? = some (.cells (ndA n u) 30) ∧ Below W.heap.size W W3 :=
  ⟨W.alloc (.cells (ndA n u) 30), by kernel_rfl, World.alloc_heap_new _ _, (Below.refl _ W).alloc (Nat.le_refl _) _⟩
theorem fanOne_any (n : Nd) (u : NdW) (p : Nat) (T : List ByteArray) (w : World) (h : w.heap[p]? = some (.cells (ndA n u) 30)) (hok : NdOk w.heap.size w n u) (hnp : n.name ≠ n.parent) (hT : reachL 0 n.subs = T) (hTs : sortS T = T) (hTl : T.length ≤ 1000) (hr : ∀ t ∈ T, readsB n t = true) (hc : Lib.compact (T.map ByteArray.toList) = T.map ByteArray.toList) :
    Calls Tryz.prog 7 #[.slice (some ⟨p, 0, none⟩) 1 1, .string n.name] w fun e w' => (∃ ga gc, e = .returned (.slice ga T.length gc)) ∧ Below w.heap.size w w' := by
  have hF := fanz_any (some ⟨p, 0, none⟩) 1 [n] (fun _ => u) n.name 0 n T w (ndsMem_one h hok) rfl rfl (fun j x hj => absurd hj (by omega)) (by rw [ovL_alone hnp]; exact hT) (by omega) (by rw [hTs]; exact hr) (by rw [hTs]; exact hc)
  refine hF.mono ?_
  rintro e w' ⟨v, rfl, hown, hb⟩
  obtain ⟨ga, gc, rfl⟩ := own_shape1 hown
  exact ⟨⟨ga, gc, rfl⟩, hb⟩
theorem fanB_any (yes : Bool) (u : NdW) (p : Nat) (w : World) (h : w.heap[p]? = some (.cells (ndA (akN akO (akB yes)) u) 30)) (hok : NdOk w.heap.size w (akN akO (akB yes)) u) :
    Calls Tryz.prog 7 #[.slice (some ⟨p, 0, none⟩) 1 1, .string ⟨#[110]⟩] w fun e w' => (∃ ga gc, e = .returned (.slice ga (akB yes).length gc)) ∧ Below w.heap.size w w' := by
  cases yes with
  | true => exact fanOne_any (akN akO (akB true)) u p [sD] w h hok (by decide +kernel) (by decide +kernel) (by simp [sortS, ofS_toList]) (by decide) (fun t ht => by simp at ht; subst ht; exact ak_r2 true) (by decide +kernel)
  | false => exact fanOne_any (akN akO (akB false)) u p [] w h hok (by decide +kernel) (by decide +kernel) (by simp [sortS]) (by decide) (fun t ht => by simp at ht) (by decide +kernel)
theorem fanX_any (u : NdW) (p : Nat) (w : World) (h : w.heap[p]? = some (.cells (ndA (akN akX []) u) 30)) (hok : NdOk w.heap.size w (akN akX []) u) :
    Calls Tryz.prog 7 #[.slice (some ⟨p, 0, none⟩) 1 1, .string ⟨#[110]⟩] w fun e w' => (∃ ga gc, e = .returned (.slice ga 0 gc)) ∧ Below w.heap.size w w' :=
  fanOne_any (akN akX []) u p [] w h hok (by decide +kernel) (by decide +kernel) (by simp [sortS]) (by decide) (fun t ht => by simp at ht) (by decide +kernel)
end Go.Proofs.YtffjmkngdjbjlaaGreatDoor
