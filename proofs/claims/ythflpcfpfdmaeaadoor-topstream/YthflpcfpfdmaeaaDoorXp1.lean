/- A parser: what waits is taken out. -/
import Derived.Test.YthflpcfpfdmaeaaDoorXp0
namespace Go.Proofs.YthflpcfpfdmaeaaDoor.Xm
open Go.RowKit

theorem conv_own {w : World} {B : Nat} {v : Value} {acc : List UInt8} (h : w.ownsRow B 5 1 v acc.length (Lib.byteCells acc)) :
    (convert 38 9 v).run Tryd.prog w = .ok (.string ⟨acc.toArray⟩) w := by
  rcases h.2 with ⟨hv, hn⟩ | ⟨g, cap, cur, hv, hbg, hg, _, _, _, htk⟩
  · subst hv
    have : acc = [] := List.eq_nil_of_length_eq_zero hn
    subst this
    exact run_convert_bytes_nil w 38 5 Tryd.underlying38 Tryd.underlying5 0 0 9 Tryd.underlying9
  · subst hv
    refine run_convert_bytes_back w 38 9 5 ⟨g, 0, none⟩ cap acc Tryd.underlying38 Tryd.underlying5 Tryd.underlying9 (fun j hj => ?_)
    have hadd : (⟨g, 0, none⟩ : Addr).add j = ⟨g, j, none⟩ := by unfold Addr.add; split <;> simp_all
    rw [hadd, cell_of_row w g j cur 5 _ hg]
    have h1 : (cur.toList.take (acc.length * 1))[j]? = (Lib.byteCells acc)[j]? := by rw [htk]
    rw [List.getElem?_take_of_lt (by omega)] at h1
    rw [← Array.getElem?_toList, h1]
    simp [Lib.byteCells, hj]
theorem own_zero {w : World} {base n : Nat} {e : TypeId} {ga : Option Addr} {gc : Nat} {xs : List Value} (h : w.ownsRow base e 1 (.slice ga n gc) n xs) : w.ownsRow base e 1 (.slice ga 0 gc) 0 [] := by
  obtain ⟨h1, ⟨h2, h3⟩ | ⟨g, cap, cur, hv, x1, x2, x3, x4, x5, x6⟩⟩ := h
  · cases h2
    exact World.ownsRow_nil _ _ _ _
  · cases hv
    exact ⟨by simp, .inr ⟨g, gc, cur, rfl, x1, x2, Nat.zero_le _, x4, x5, by simp⟩⟩

set_option maxRecDepth 100000 in
theorem piece_any (base p : Nat) (st : PS) (vw vo : Value) (w : World) (hP : IsP base p st vw vo w) (_hl : st.wait.length ≤ 100000) :
    Calls Tryd.prog 41 #[.pointer (some ⟨p, 0, none⟩)] w fun e w' => e = .returned (.string ⟨st.wait.toArray⟩) ∧ (∃ vw', vw'.ownBlock = vw.ownBlock ∧ IsP base p { st with wait := [] } vw' vo w') ∧ Only p w w' := by
  obtain ⟨c0, _, _, _, _, _, cf⟩ := hP.cells
  have cf0 := cf 0 (by omega)
  clear cf
  have cv := conv_own hP.2.2.1
  obtain ⟨ga, gc, rfl⟩ := own_shape hP.2.2.1
  have HP := hide hP
  clear hP
  obtain ⟨n, hn⟩ : ∃ n, st.wait.length = n := ⟨_, rfl⟩
  rw [hn] at c0 cv _hl HP
  have hset : IsP base p { st with wait := [] } (.slice ga 0 gc) vo (w.setCell ⟨p, 0, none⟩ (.slice ga 0 gc)) := by
    obtain ⟨h0, h1, h2, h3⟩ := HP.out
    rw [hn] at h2
    have hz := own_zero h2
    exact ⟨h0, heap_setCell_same _ _ 0 _ _ _ h1, own_same hz (fun g hg => Below.heap_setCell _ _ _ _ (own_ne0 hz h1 (by decide) g hg)), own_same h3 (fun g hg => Below.heap_setCell _ _ _ _ (own_ne0 h3 h1 (by decide) g hg))⟩
  have HS := hide hset
  clear hset hn
  go_enter Tryd.func41, Tryd.ntmps41
  go_wp2_with fail
  go_ret
  exact ⟨rfl, ⟨_, (by cases ga <;> rfl), HS.out⟩, (Only.refl _ _).set _⟩
end Go.Proofs.YthflpcfpfdmaeaaDoor.Xm
