/- A parser in memory; what it does with a byte, the small functions. A parser: what waits is taken out. -/
import Derived.Test.YthmidlmknkbdaaaDoorXRB
import Derived.Test.YthmidlmknkbdaaaDoorRows1
import Derived.Laws.IdiomStrings
import Derived.Laws.BytesArg
import Derived.Lib.UnsafeStr
namespace Go.Proofs.YthmidlmknkbdaaaDoor.Xm
open Go.RowKit

/-- How a parser stands. -/
structure PS where
  wait : List UInt8
  quote : Nat
  op : List ByteArray
  begun : Bool
  rooted : Bool
  broken : Int
def nameCells (op : List ByteArray) : List Value := op.map .string
/-- A parser in memory. -/
def IsP (base p : Nat) (st : PS) (vw vo : Value) (w : World) : Prop :=
  base ≤ p ∧ w.heap[p]? = some (.cells #[vw, .int .u8 st.quote, vo, .bool st.begun, .bool st.rooted, .int .i64 st.broken] 75) ∧
  w.ownsRow base 5 1 vw st.wait.length (Lib.byteCells st.wait) ∧ w.ownsRow base 9 1 vo st.op.length (nameCells st.op)
theorem IsP.cells {base p : Nat} {st : PS} {vw vo : Value} {w : World} (h : IsP base p st vw vo w) : w.cell? ⟨p, 0, none⟩ = some vw ∧ w.cell? ⟨p, 1, none⟩ = some (.int .u8 st.quote) ∧ w.cell? ⟨p, 2, none⟩ = some vo ∧ w.cell? ⟨p, 3, none⟩ = some (.bool st.begun) ∧ w.cell? ⟨p, 4, none⟩ = some (.bool st.rooted) ∧ w.cell? ⟨p, 5, none⟩ = some (.int .i64 st.broken) ∧ ∀ i, i < 6 → w.frozen? ⟨p, i, none⟩ = false := by
  obtain ⟨_, h, _⟩ := h
  refine ⟨by simp [World.cell?, h], by simp [World.cell?, h], by simp [World.cell?, h], by simp [World.cell?, h], by simp [World.cell?, h], by simp [World.cell?, h], fun i _ => by simp [World.frozen?, h]⟩
theorem own_ne0 {W : World} {base e n b : Nat} {size : Nat} {v : Value} {xs : List Value} {cs : Array Value} {T : TypeId} (h : W.ownsRow base e size v n xs) (hb : W.heap[b]? = some (.cells cs T)) (hT : T ≠ e) (g : Nat) (hg : v.ownBlock = some g) : g ≠ b := by
  intro e1
  subst e1
  obtain ⟨_, ⟨rfl, _⟩ | ⟨g', cap, cur, rfl, _, hg', _⟩⟩ := h
  · cases hg
  · cases hg
    rw [hg'] at hb
    cases hb
    exact hT rfl
theorem own_at {w : World} {base n j : Nat} {e : TypeId} {v u : Value} {xs : List Value} (h : w.ownsRow base e 1 v n xs) (hj : xs[j]? = some u) : ∃ g gc, v = .slice (some ⟨g, 0, none⟩) n gc ∧ n ≤ gc ∧ w.cell? ⟨g, j, none⟩ = some u := by
  obtain ⟨h1, ⟨_, h3⟩ | ⟨g, cap, cur, hv, x1, x2, x3, x4, x5, x6⟩⟩ := h
  · have := (List.getElem?_eq_some_iff.1 hj).1
    omega
  · refine ⟨g, cap, hv, x3, ?_⟩
    rw [← x6] at hj
    have hlt := (List.getElem?_eq_some_iff.1 hj).1
    simp at hlt
    rw [List.getElem?_take_of_lt (by omega)] at hj
    simp [World.cell?, x2]
    simpa using hj
def inTagL (l : List UInt8) : Bool := match l with | b :: _ => b == 60 | [] => false

theorem inTag_any (base p : Nat) (st : PS) (vw vo : Value) (w : World) (hP : IsP base p st vw vo w) (hl : st.wait.length ≤ 100000) :
    Calls Tryd.prog 68 #[.pointer (some ⟨p, 0, none⟩)] w fun e w' => e = .returned (.bool (inTagL st.wait)) ∧ w' = w := by
  obtain ⟨c0, _⟩ := hP.cells
  obtain ⟨_, _, ho, _⟩ := hP
  obtain ⟨wl, hwl⟩ : ∃ wl, st.wait = wl := ⟨_, rfl⟩
  rw [hwl] at ho hl ⊢
  cases wl with
  | nil =>
    obtain ⟨ga, gc, rfl⟩ := own_shape ho
    clear ho hwl
    go_enter Tryd.func68, Tryd.ntmps68
    go_wp2_with fail
    go_ret
    exact ⟨rfl, rfl⟩
  | cons b l =>
    obtain ⟨g, gc, rfl, hgc, hc⟩ := own_at (j := 0) (u := .int .u8 b.toNat) ho (by simp [Lib.byteCells])
    clear ho hwl
    have hl0 : (0 : Int) < ((b :: l).length : Nat) := by simp
    obtain ⟨n, hn⟩ : ∃ n, (b :: l).length = n := ⟨_, rfl⟩
    rw [hn] at c0 hl0 hl
    by_cases hb : b = 60
    · subst hb
      go_enter Tryd.func68, Tryd.ntmps68
      go_wp2_with fail
      go_ret
      exact ⟨rfl, rfl⟩
    · have hb' : ((b.toNat : Int) == 60) = false := by
        rw [beq_eq_false_iff_ne]
        intro h
        exact hb (UInt8.toNat_inj.1 (by have h' : (b.toNat : Int) = ((60 : UInt8).toNat : Nat) := h; omega))
      have hi : inTagL (b :: l) = false := by simp [inTagL, hb]
      rw [hi]
      go_enter Tryd.func68, Tryd.ntmps68
      go_wp2_with fail
      go_ret
      exact ⟨rfl, rfl⟩
def mostL (l : List UInt8) : Int := if inTagL l = true then 2048 else 512
theorem most_any (base p : Nat) (st : PS) (vw vo : Value) (w : World) (hP : IsP base p st vw vo w) (hl : st.wait.length ≤ 100000) :
    Calls Tryd.prog 71 #[.pointer (some ⟨p, 0, none⟩)] w fun e w' => e = .returned (.int .i64 (mostL st.wait)) ∧ w' = w := by
  have h := inTag_any base p st vw vo w hP hl
  unfold mostL
  cases hi : inTagL st.wait with
  | true =>
    rw [hi] at h
    have H := hide h
    clear h hP hi
    go_enter Tryd.func71, Tryd.ntmps71
    go_wp2_with fail
    refine H.out.mono ?_
    rintro e w1 ⟨rfl, hw⟩
    subst hw
    go_wp2_with fail
    go_ret
    exact ⟨rfl, rfl⟩
  | false =>
    rw [hi] at h
    have H := hide h
    clear h hP hi
    go_enter Tryd.func71, Tryd.ntmps71
    go_wp2_with fail
    refine H.out.mono ?_
    rintro e w1 ⟨rfl, hw⟩
    subst hw
    go_wp2_with fail
    go_ret
    exact ⟨rfl, rfl⟩

/-- The quote that is open behind a byte, and whether the byte ends the tag. -/
def quoteL (q : Nat) (c : UInt8) : Nat × Bool := if c.toNat = q then (0, false) else if q ≠ 0 then (q, false) else if c = 39 ∨ c = 34 then (c.toNat, false) else (q, decide (c = 62))
theorem endsTag_any (base p : Nat) (st : PS) (vw vo : Value) (c : UInt8) (w : World) (hP : IsP base p st vw vo w) (_hq : st.quote < 256) :
    Calls Tryd.prog 73 #[.pointer (some ⟨p, 0, none⟩), .int .u8 c.toNat] w fun e w' => e = .returned (.bool (quoteL st.quote c).2) ∧ IsP base p { st with quote := (quoteL st.quote c).1 } vw vo w' ∧ Only p w w' := by
  obtain ⟨_, c1, _, _, _, _, cf⟩ := hP.cells
  have cf1 := cf 1 (by omega)
  clear cf
  have hset : ∀ q : Nat, IsP base p { st with quote := q } vw vo (w.setCell ⟨p, 1, none⟩ (.int .u8 q)) := fun q => by
    obtain ⟨h0, h1, h2, h3⟩ := hP
    refine ⟨h0, heap_setCell_same _ _ 1 _ _ _ h1, own_same h2 (fun g hg => Below.heap_setCell _ _ _ _ (own_ne0 h2 h1 (by decide) g hg)), own_same h3 (fun g hg => Below.heap_setCell _ _ _ _ (own_ne0 h3 h1 (by decide) g hg))⟩
  have HS := hide (And.intro hset hP)
  clear hset hP
  unfold quoteL
  have hcn := c.toNat_lt
  by_cases h1 : c.toNat = st.quote
  · have h1' : ((c.toNat : Int) == st.quote) = true := by simp [h1]
    rw [if_pos h1]
    go_enter Tryd.func73, Tryd.ntmps73
    go_wp2_with fail
    go_ret
    exact ⟨rfl, HS.out.1 0, (Only.refl _ _).set _⟩
  · have h1' : ((c.toNat : Int) == st.quote) = false := by rw [beq_eq_false_iff_ne]; omega
    rw [if_neg h1]
    by_cases h2 : st.quote ≠ 0
    · have h2' : ((st.quote : Int) == 0) = false := by rw [beq_eq_false_iff_ne]; omega
      rw [if_pos h2]
      go_enter Tryd.func73, Tryd.ntmps73
      go_wp2_with fail
      go_ret
      exact ⟨rfl, HS.out.2, Only.refl _ _⟩
    · have h2' : ((st.quote : Int) == 0) = true := by simp at h2; simp [h2]
      rw [if_neg h2]
      by_cases h3 : c = 39
      · subst h3
        rw [if_pos (.inl rfl)]
        go_enter Tryd.func73, Tryd.ntmps73
        go_wp2_with fail
        go_ret
        exact ⟨rfl, HS.out.1 39, (Only.refl _ _).set _⟩
      · have h3' : ((c.toNat : Int) == 39) = false := by
          rw [beq_eq_false_iff_ne]
          intro h
          exact h3 (UInt8.toNat_inj.1 (by have h' : (c.toNat : Int) = ((39 : UInt8).toNat : Nat) := h; omega))
        by_cases h4 : c = 34
        · subst h4
          rw [if_pos (.inr rfl)]
          go_enter Tryd.func73, Tryd.ntmps73
          go_wp2_with fail
          go_ret
          exact ⟨rfl, HS.out.1 34, (Only.refl _ _).set _⟩
        · have h4' : ((c.toNat : Int) == 34) = false := by
            rw [beq_eq_false_iff_ne]
            intro h
            exact h4 (UInt8.toNat_inj.1 (by have h' : (c.toNat : Int) = ((34 : UInt8).toNat : Nat) := h; omega))
          rw [if_neg (by simp [h3, h4])]
          by_cases h5 : c = 62
          · subst h5
            go_enter Tryd.func73, Tryd.ntmps73
            go_wp2_with fail
            go_ret
            exact ⟨rfl, HS.out.2, Only.refl _ _⟩
          · have h5' : ((c.toNat : Int) == 62) = false := by
              rw [beq_eq_false_iff_ne]
              intro h
              exact h5 (UInt8.toNat_inj.1 (by have h' : (c.toNat : Int) = ((62 : UInt8).toNat : Nat) := h; omega))
            go_enter Tryd.func73, Tryd.ntmps73
            go_wp2_with fail
            go_ret
            exact ⟨by simp [h5], HS.out.2, Only.refl _ _⟩
end Go.Proofs.YthmidlmknkbdaaaDoor.Xm
namespace Go.Proofs.YthmidlmknkbdaaaDoor.Xm
open Go.RowKit

theorem conv_own {w : World} {B : Nat} {v : Value} {acc : List UInt8} (h : w.ownsRow B 5 1 v acc.length (Lib.byteCells acc)) :
    (convert 33 9 v).run Tryd.prog w = .ok (.string ⟨acc.toArray⟩) w := by
  rcases h.2 with ⟨hv, hn⟩ | ⟨g, cap, cur, hv, hbg, hg, _, _, _, htk⟩
  · subst hv
    have : acc = [] := List.eq_nil_of_length_eq_zero hn
    subst this
    exact run_convert_bytes_nil w 33 5 Tryd.underlying33 Tryd.underlying5 0 0 9 Tryd.underlying9
  · subst hv
    refine run_convert_bytes_back w 33 9 5 ⟨g, 0, none⟩ cap acc Tryd.underlying33 Tryd.underlying5 Tryd.underlying9 (fun j hj => ?_)
    have hadd : (⟨g, 0, none⟩ : Addr).add j = ⟨g, j, none⟩ := by unfold Addr.add; split <;> simp_all
    rw [hadd, cell_of_row w g j cur 5 _ hg]
    have h1 : (cur.toList.take (acc.length * 1))[j]? = (Lib.byteCells acc)[j]? := by rw [htk]
    rw [List.getElem?_take_of_lt (by omega)] at h1
    rw [← Array.getElem?_toList, h1]
    simp [Lib.byteCells, hj]
theorem own_zero {w : World} {base n : Nat} {e : TypeId} {ga : Option Addr} {gc : Nat} {xs : List Value} (h : w.ownsRow base e 1 (.slice ga n gc) n xs) : w.ownsRow base e 1 (.slice ga 0 gc) 0 [] := by
  obtain ⟨h1, ⟨h2, h3⟩ | ⟨g, cap, cur, hv, x1, x2, x3, x4, x5, x6⟩⟩ := h
  · cases h2
    exact World.ownsRow_nil _ _ _ _
  · cases hv
    exact ⟨by simp, .inr ⟨g, gc, cur, rfl, x1, x2, Nat.zero_le _, x4, x5, by simp⟩⟩

set_option maxRecDepth 100000 in
theorem piece_any (base p : Nat) (st : PS) (vw vo : Value) (w : World) (hP : IsP base p st vw vo w) (_hl : st.wait.length ≤ 100000) :
    Calls Tryd.prog 70 #[.pointer (some ⟨p, 0, none⟩)] w fun e w' => e = .returned (.string ⟨st.wait.toArray⟩) ∧ (∃ vw', vw'.ownBlock = vw.ownBlock ∧ IsP base p { st with wait := [] } vw' vo w') ∧ Only p w w' := by
  obtain ⟨c0, _, _, _, _, _, cf⟩ := hP.cells
  have cf0 := cf 0 (by omega)
  clear cf
  have cv := conv_own hP.2.2.1
  obtain ⟨ga, gc, rfl⟩ := own_shape hP.2.2.1
  have HP := hide hP
  clear hP
  obtain ⟨n, hn⟩ : ∃ n, st.wait.length = n := ⟨_, rfl⟩
  rw [hn] at c0 cv _hl HP
  have hset : IsP base p { st with wait := [] } (.slice ga 0 gc) vo (w.setCell ⟨p, 0, none⟩ (.slice ga 0 gc)) := by
    obtain ⟨h0, h1, h2, h3⟩ := HP.out
    rw [hn] at h2
    have hz := own_zero h2
    exact ⟨h0, heap_setCell_same _ _ 0 _ _ _ h1, own_same hz (fun g hg => Below.heap_setCell _ _ _ _ (own_ne0 hz h1 (by decide) g hg)), own_same h3 (fun g hg => Below.heap_setCell _ _ _ _ (own_ne0 h3 h1 (by decide) g hg))⟩
  have HS := hide hset
  clear hset hn
  go_enter Tryd.func70, Tryd.ntmps70
  go_wp2_with fail
  go_ret
  exact ⟨rfl, ⟨_, (by cases ga <;> rfl), HS.out⟩, (Only.refl _ _).set _⟩
end Go.Proofs.YthmidlmknkbdaaaDoor.Xm
