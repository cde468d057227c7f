/- A parser in memory; what it does with a byte, the small functions. A parser: what waits is taken out. A parser: a text, an ending. -/
import Derived.Test.YthflpcfpfdmaeaaDoorXR
import Derived.Test.YthflpcfpfdmaeaaDoorRows1
import Derived.Laws.IdiomStrings
import Derived.Laws.BytesArg
import Derived.Lib.UnsafeStr
import Derived.Test.YthflpcfpfdmaeaaDoorChars
namespace Go.Proofs.YthflpcfpfdmaeaaDoor.Xm
open Go.RowKit

/-- How a parser stands. -/
structure PS where
  wait : List UInt8
  quote : Nat
  op : List ByteArray
  begun : Bool
  rooted : Bool
  broken : Int
def nameCells (op : List ByteArray) : List Value := op.map .string
/-- A parser in memory. -/
def IsP (base p : Nat) (st : PS) (vw vo : Value) (w : World) : Prop :=
  base ≤ p ∧ w.heap[p]? = some (.cells #[vw, .int .u8 st.quote, vo, .bool st.begun, .bool st.rooted, .int .i64 st.broken] 60) ∧
  w.ownsRow base 5 1 vw st.wait.length (Lib.byteCells st.wait) ∧ w.ownsRow base 9 1 vo st.op.length (nameCells st.op)
theorem IsP.cells {base p : Nat} {st : PS} {vw vo : Value} {w : World} (h : IsP base p st vw vo w) : w.cell? ⟨p, 0, none⟩ = some vw ∧ w.cell? ⟨p, 1, none⟩ = some (.int .u8 st.quote) ∧ w.cell? ⟨p, 2, none⟩ = some vo ∧ w.cell? ⟨p, 3, none⟩ = some (.bool st.begun) ∧ w.cell? ⟨p, 4, none⟩ = some (.bool st.rooted) ∧ w.cell? ⟨p, 5, none⟩ = some (.int .i64 st.broken) ∧ ∀ i, i < 6 → w.frozen? ⟨p, i, none⟩ = false := by
  obtain ⟨_, h, _⟩ := h
  refine ⟨by simp [World.cell?, h], by simp [World.cell?, h], by simp [World.cell?, h], by simp [World.cell?, h], by simp [World.cell?, h], by simp [World.cell?, h], fun i _ => by simp [World.frozen?, h]⟩
theorem own_ne0 {W : World} {base e n b : Nat} {size : Nat} {v : Value} {xs : List Value} {cs : Array Value} {T : TypeId} (h : W.ownsRow base e size v n xs) (hb : W.heap[b]? = some (.cells cs T)) (hT : T ≠ e) (g : Nat) (hg : v.ownBlock = some g) : g ≠ b := by
  intro e1
  subst e1
  obtain ⟨_, ⟨rfl, _⟩ | ⟨g', cap, cur, rfl, _, hg', _⟩⟩ := h
  · cases hg
  · cases hg
    rw [hg'] at hb
    cases hb
    exact hT rfl
theorem own_at {w : World} {base n j : Nat} {e : TypeId} {v u : Value} {xs : List Value} (h : w.ownsRow base e 1 v n xs) (hj : xs[j]? = some u) : ∃ g gc, v = .slice (some ⟨g, 0, none⟩) n gc ∧ n ≤ gc ∧ w.cell? ⟨g, j, none⟩ = some u := by
  obtain ⟨h1, ⟨_, h3⟩ | ⟨g, cap, cur, hv, x1, x2, x3, x4, x5, x6⟩⟩ := h
  · have := (List.getElem?_eq_some_iff.1 hj).1
    omega
  · refine ⟨g, cap, hv, x3, ?_⟩
    rw [← x6] at hj
    have hlt := (List.getElem?_eq_some_iff.1 hj).1
    simp at hlt
    rw [List.getElem?_take_of_lt (by omega)] at hj
    simp [World.cell?, x2]
    simpa using hj
def inTagL (l : List UInt8) : Bool := match l with | b :: _ => b == 60 | [] => false

theorem inTag_any (base p : Nat) (st : PS) (vw vo : Value) (w : World) (hP : IsP base p st vw vo w) (hl : st.wait.length ≤ 100000) :
    Calls Tryd.prog 39 #[.pointer (some ⟨p, 0, none⟩)] w fun e w' => e = .returned (.bool (inTagL st.wait)) ∧ w' = w := by
  obtain ⟨c0, _⟩ := hP.cells
  obtain ⟨_, _, ho, _⟩ := hP
  obtain ⟨wl, hwl⟩ : ∃ wl, st.wait = wl := ⟨_, rfl⟩
  rw [hwl] at ho hl ⊢
  cases wl with
  | nil =>
    obtain ⟨ga, gc, rfl⟩ := own_shape ho
    clear ho hwl
    go_enter Tryd.func39, Tryd.ntmps39
    go_wp2_with fail
    go_ret
    exact ⟨rfl, rfl⟩
  | cons b l =>
    obtain ⟨g, gc, rfl, hgc, hc⟩ := own_at (j := 0) (u := .int .u8 b.toNat) ho (by simp [Lib.byteCells])
    clear ho hwl
    have hl0 : (0 : Int) < ((b :: l).length : Nat) := by simp
    obtain ⟨n, hn⟩ : ∃ n, (b :: l).length = n := ⟨_, rfl⟩
    rw [hn] at c0 hl0 hl
    by_cases hb : b = 60
    · subst hb
      go_enter Tryd.func39, Tryd.ntmps39
      go_wp2_with fail
      go_ret
      exact ⟨rfl, rfl⟩
    · have hb' : ((b.toNat : Int) == 60) = false := by
        rw [beq_eq_false_iff_ne]
        intro h
        exact hb (UInt8.toNat_inj.1 (by have h' : (b.toNat : Int) = ((60 : UInt8).toNat : Nat) := h; omega))
      have hi : inTagL (b :: l) = false := by simp [inTagL, hb]
      rw [hi]
      go_enter Tryd.func39, Tryd.ntmps39
      go_wp2_with fail
      go_ret
      exact ⟨rfl, rfl⟩
def mostL (l : List UInt8) : Int := if inTagL l = true then 2048 else 512
theorem most_any (base p : Nat) (st : PS) (vw vo : Value) (w : World) (hP : IsP base p st vw vo w) (hl : st.wait.length ≤ 100000) :
    Calls Tryd.prog 42 #[.pointer (some ⟨p, 0, none⟩)] w fun e w' => e = .returned (.int .i64 (mostL st.wait)) ∧ w' = w := by
  have h := inTag_any base p st vw vo w hP hl
  unfold mostL
  cases hi : inTagL st.wait with
  | true =>
    rw [hi] at h
    have H := hide h
    clear h hP hi
    go_enter Tryd.func42, Tryd.ntmps42
    go_wp2_with fail
    refine H.out.mono ?_
    rintro e w1 ⟨rfl, hw⟩
    subst hw
    go_wp2_with fail
    go_ret
    exact ⟨rfl, rfl⟩
  | false =>
    rw [hi] at h
    have H := hide h
    clear h hP hi
    go_enter Tryd.func42, Tryd.ntmps42
    go_wp2_with fail
    refine H.out.mono ?_
    rintro e w1 ⟨rfl, hw⟩
    subst hw
    go_wp2_with fail
    go_ret
    exact ⟨rfl, rfl⟩

/-- The quote that is open behind a byte, and whether the byte ends the tag. -/
def quoteL (q : Nat) (c : UInt8) : Nat × Bool := if c.toNat = q then (0, false) else if q ≠ 0 then (q, false) else if c = 39 ∨ c = 34 then (c.toNat, false) else (q, decide (c = 62))
theorem endsTag_any (base p : Nat) (st : PS) (vw vo : Value) (c : UInt8) (w : World) (hP : IsP base p st vw vo w) (_hq : st.quote < 256) :
    Calls Tryd.prog 44 #[.pointer (some ⟨p, 0, none⟩), .int .u8 c.toNat] w fun e w' => e = .returned (.bool (quoteL st.quote c).2) ∧ IsP base p { st with quote := (quoteL st.quote c).1 } vw vo w' ∧ Only p w w' := by
  obtain ⟨_, c1, _, _, _, _, cf⟩ := hP.cells
  have cf1 := cf 1 (by omega)
  clear cf
  have hset : ∀ q : Nat, IsP base p { st with quote := q } vw vo (w.setCell ⟨p, 1, none⟩ (.int .u8 q)) := fun q => by
    obtain ⟨h0, h1, h2, h3⟩ := hP
    refine ⟨h0, heap_setCell_same _ _ 1 _ _ _ h1, own_same h2 (fun g hg => Below.heap_setCell _ _ _ _ (own_ne0 h2 h1 (by decide) g hg)), own_same h3 (fun g hg => Below.heap_setCell _ _ _ _ (own_ne0 h3 h1 (by decide) g hg))⟩
  have HS := hide (And.intro hset hP)
  clear hset hP
  unfold quoteL
  have hcn := c.toNat_lt
  by_cases h1 : c.toNat = st.quote
  · have h1' : ((c.toNat : Int) == st.quote) = true := by simp [h1]
    rw [if_pos h1]
    go_enter Tryd.func44, Tryd.ntmps44
    go_wp2_with fail
    go_ret
    exact ⟨rfl, HS.out.1 0, (Only.refl _ _).set _⟩
  · have h1' : ((c.toNat : Int) == st.quote) = false := by rw [beq_eq_false_iff_ne]; omega
    rw [if_neg h1]
    by_cases h2 : st.quote ≠ 0
    · have h2' : ((st.quote : Int) == 0) = false := by rw [beq_eq_false_iff_ne]; omega
      rw [if_pos h2]
      go_enter Tryd.func44, Tryd.ntmps44
      go_wp2_with fail
      go_ret
      exact ⟨rfl, HS.out.2, Only.refl _ _⟩
    · have h2' : ((st.quote : Int) == 0) = true := by simp at h2; simp [h2]
      rw [if_neg h2]
      by_cases h3 : c = 39
      · subst h3
        rw [if_pos (.inl rfl)]
        go_enter Tryd.func44, Tryd.ntmps44
        go_wp2_with fail
        go_ret
        exact ⟨rfl, HS.out.1 39, (Only.refl _ _).set _⟩
      · have h3' : ((c.toNat : Int) == 39) = false := by
          rw [beq_eq_false_iff_ne]
          intro h
          exact h3 (UInt8.toNat_inj.1 (by have h' : (c.toNat : Int) = ((39 : UInt8).toNat : Nat) := h; omega))
        by_cases h4 : c = 34
        · subst h4
          rw [if_pos (.inr rfl)]
          go_enter Tryd.func44, Tryd.ntmps44
          go_wp2_with fail
          go_ret
          exact ⟨rfl, HS.out.1 34, (Only.refl _ _).set _⟩
        · have h4' : ((c.toNat : Int) == 34) = false := by
            rw [beq_eq_false_iff_ne]
            intro h
            exact h4 (UInt8.toNat_inj.1 (by have h' : (c.toNat : Int) = ((34 : UInt8).toNat : Nat) := h; omega))
          rw [if_neg (by simp [h3, h4])]
          by_cases h5 : c = 62
          · subst h5
            go_enter Tryd.func44, Tryd.ntmps44
            go_wp2_with fail
            go_ret
            exact ⟨rfl, HS.out.2, Only.refl _ _⟩
          · have h5' : ((c.toNat : Int) == 62) = false := by
              rw [beq_eq_false_iff_ne]
              intro h
              exact h5 (UInt8.toNat_inj.1 (by have h' : (c.toNat : Int) = ((62 : UInt8).toNat : Nat) := h; omega))
            go_enter Tryd.func44, Tryd.ntmps44
            go_wp2_with fail
            go_ret
            exact ⟨by simp [h5], HS.out.2, Only.refl _ _⟩
end Go.Proofs.YthflpcfpfdmaeaaDoor.Xm
namespace Go.Proofs.YthflpcfpfdmaeaaDoor.Xm
open Go.RowKit

theorem conv_own {w : World} {B : Nat} {v : Value} {acc : List UInt8} (h : w.ownsRow B 5 1 v acc.length (Lib.byteCells acc)) :
    (convert 38 9 v).run Tryd.prog w = .ok (.string ⟨acc.toArray⟩) w := by
  rcases h.2 with ⟨hv, hn⟩ | ⟨g, cap, cur, hv, hbg, hg, _, _, _, htk⟩
  · subst hv
    have : acc = [] := List.eq_nil_of_length_eq_zero hn
    subst this
    exact run_convert_bytes_nil w 38 5 Tryd.underlying38 Tryd.underlying5 0 0 9 Tryd.underlying9
  · subst hv
    refine run_convert_bytes_back w 38 9 5 ⟨g, 0, none⟩ cap acc Tryd.underlying38 Tryd.underlying5 Tryd.underlying9 (fun j hj => ?_)
    have hadd : (⟨g, 0, none⟩ : Addr).add j = ⟨g, j, none⟩ := by unfold Addr.add; split <;> simp_all
    rw [hadd, cell_of_row w g j cur 5 _ hg]
    have h1 : (cur.toList.take (acc.length * 1))[j]? = (Lib.byteCells acc)[j]? := by rw [htk]
    rw [List.getElem?_take_of_lt (by omega)] at h1
    rw [← Array.getElem?_toList, h1]
    simp [Lib.byteCells, hj]
theorem own_zero {w : World} {base n : Nat} {e : TypeId} {ga : Option Addr} {gc : Nat} {xs : List Value} (h : w.ownsRow base e 1 (.slice ga n gc) n xs) : w.ownsRow base e 1 (.slice ga 0 gc) 0 [] := by
  obtain ⟨h1, ⟨h2, h3⟩ | ⟨g, cap, cur, hv, x1, x2, x3, x4, x5, x6⟩⟩ := h
  · cases h2
    exact World.ownsRow_nil _ _ _ _
  · cases hv
    exact ⟨by simp, .inr ⟨g, gc, cur, rfl, x1, x2, Nat.zero_le _, x4, x5, by simp⟩⟩

set_option maxRecDepth 100000 in
theorem piece_any (base p : Nat) (st : PS) (vw vo : Value) (w : World) (hP : IsP base p st vw vo w) (_hl : st.wait.length ≤ 100000) :
    Calls Tryd.prog 41 #[.pointer (some ⟨p, 0, none⟩)] w fun e w' => e = .returned (.string ⟨st.wait.toArray⟩) ∧ (∃ vw', vw'.ownBlock = vw.ownBlock ∧ IsP base p { st with wait := [] } vw' vo w') ∧ Only p w w' := by
  obtain ⟨c0, _, _, _, _, _, cf⟩ := hP.cells
  have cf0 := cf 0 (by omega)
  clear cf
  have cv := conv_own hP.2.2.1
  obtain ⟨ga, gc, rfl⟩ := own_shape hP.2.2.1
  have HP := hide hP
  clear hP
  obtain ⟨n, hn⟩ : ∃ n, st.wait.length = n := ⟨_, rfl⟩
  rw [hn] at c0 cv _hl HP
  have hset : IsP base p { st with wait := [] } (.slice ga 0 gc) vo (w.setCell ⟨p, 0, none⟩ (.slice ga 0 gc)) := by
    obtain ⟨h0, h1, h2, h3⟩ := HP.out
    rw [hn] at h2
    have hz := own_zero h2
    exact ⟨h0, heap_setCell_same _ _ 0 _ _ _ h1, own_same hz (fun g hg => Below.heap_setCell _ _ _ _ (own_ne0 hz h1 (by decide) g hg)), own_same h3 (fun g hg => Below.heap_setCell _ _ _ _ (own_ne0 h3 h1 (by decide) g hg))⟩
  have HS := hide hset
  clear hset hn
  go_enter Tryd.func41, Tryd.ntmps41
  go_wp2_with fail
  go_ret
  exact ⟨rfl, ⟨_, (by cases ga <;> rfl), HS.out⟩, (Only.refl _ _).set _⟩
end Go.Proofs.YthflpcfpfdmaeaaDoor.Xm
namespace Go.Proofs.YthflpcfpfdmaeaaDoor.Xm
open Go.RowKit

section
variable {base p : Nat} {st : PS} {vw vo : Value} {w : World}
theorem IsP.keep (h : IsP base p st vw vo w) {w' : World} (hk : ∀ j, j < w.heap.size → w'.heap[j]? = w.heap[j]?) : IsP base p st vw vo w' := by
  obtain ⟨h0, h1, h2, h3⟩ := h
  exact ⟨h0, (hk p (Array.getElem?_eq_some_iff.1 h1).1).trans h1, own_same h2 (fun g hg => hk g (own_lt h2 g hg)), own_same h3 (fun g hg => hk g (own_lt h3 g hg))⟩
theorem IsP.below (h : IsP base p st vw vo w) {w' : World} (hb : Below w.heap.size w w') : IsP base p st vw vo w' := h.keep hb.block
theorem IsP.lt (h : IsP base p st vw vo w) : p < w.heap.size := (Array.getElem?_eq_some_iff.1 h.2.1).1
theorem IsP.set_begun (h : IsP base p st vw vo w) : IsP base p { st with begun := true } vw vo (w.setCell ⟨p, 3, none⟩ (.bool true)) := by
  obtain ⟨h0, h1, h2, h3⟩ := h
  exact ⟨h0, heap_setCell_same _ _ 3 _ _ _ h1, own_same h2 (fun g hg => Below.heap_setCell _ _ _ _ (own_ne0 h2 h1 (by decide) g hg)), own_same h3 (fun g hg => Below.heap_setCell _ _ _ _ (own_ne0 h3 h1 (by decide) g hg))⟩
theorem IsP.set_rooted (h : IsP base p st vw vo w) : IsP base p { st with rooted := true } vw vo (w.setCell ⟨p, 4, none⟩ (.bool true)) := by
  obtain ⟨h0, h1, h2, h3⟩ := h
  exact ⟨h0, heap_setCell_same _ _ 4 _ _ _ h1, own_same h2 (fun g hg => Below.heap_setCell _ _ _ _ (own_ne0 h2 h1 (by decide) g hg)), own_same h3 (fun g hg => Below.heap_setCell _ _ _ _ (own_ne0 h3 h1 (by decide) g hg))⟩
theorem IsP.set_open (h : IsP base p st vw vo w) {vo' : Value} {op' : List ByteArray} (ho : w.ownsRow base 9 1 vo' op'.length (nameCells op')) : IsP base p { st with op := op' } vw vo' (w.setCell ⟨p, 2, none⟩ vo') := by
  obtain ⟨h0, h1, h2, h3⟩ := h
  exact ⟨h0, heap_setCell_same _ _ 2 _ _ _ h1, own_same h2 (fun g hg => Below.heap_setCell _ _ _ _ (own_ne0 h2 h1 (by decide) g hg)), own_same ho (fun g hg => Below.heap_setCell _ _ _ _ (own_ne0 ho h1 (by decide) g hg))⟩
theorem IsP.set_wait (h : IsP base p st vw vo w) {vw' : Value} {l : List UInt8} (ho : w.ownsRow base 5 1 vw' l.length (Lib.byteCells l)) : IsP base p { st with wait := l } vw' vo (w.setCell ⟨p, 0, none⟩ vw') := by
  obtain ⟨h0, h1, h2, h3⟩ := h
  exact ⟨h0, heap_setCell_same _ _ 0 _ _ _ h1, own_same ho (fun g hg => Below.heap_setCell _ _ _ _ (own_ne0 ho h1 (by decide) g hg)), own_same h3 (fun g hg => Below.heap_setCell _ _ _ _ (own_ne0 h3 h1 (by decide) g hg))⟩
end
theorem one_row {bt : Nat} {w : World} {k : Nat} {nm tx : ByteArray} (hb : bt ≤ w.heap.size) (hk : k < 256) (hn : nm.size ≤ 9223372036854775807) (ht : tx.size ≤ 9223372036854775807) :
    ElRow bt (w.alloc (.cells #[.int .u8 k, .string nm, .slice none 0 0, .string tx] 29)) (.slice (some ⟨w.heap.size, 0, none⟩) 1 1) [(⟨k, nm, [], tx⟩, none, 0)] := by
  refine ⟨⟨by simp [tokC], .inr ⟨w.heap.size, 1, _, rfl, hb, World.alloc_heap_new w _, Nat.le_refl _, by unfold maxLen; omega, by simp, by simp [tokC]⟩⟩, fun x hx => ?_⟩
  simp at hx
  subst hx
  exact ⟨World.ownsRow_nil _ _ _ _, ⟨hk, hn, ht, by simp, fun a h => by simp at h⟩⟩

open Classical in
noncomputable def charsB (l : List UInt8) : Bool := decide (CharsOk l)
theorem charsB_iff (l : List UInt8) : charsB l = true ↔ CharsOk l := by simp [charsB]
/-- What a text says, and how the parser stands behind it. -/
noncomputable def textL (st : PS) (s : List UInt8) : Except Int (PS × List Tok) :=
  if s = [] then .ok (st, []) else
  match unesc s with
  | none => .error 6
  | some t => if charsB s = true then (if 0 < st.op.length then .ok ({ st with begun := true }, [⟨3, ⟨#[]⟩, [], ⟨t.toArray⟩⟩]) else if s.all isBl = true then .ok ({ st with begun := true }, []) else .error 6) else .error 6
theorem un_len : ∀ (f : Nat) (l t : List UInt8), un f l = some t → t.length ≤ l.length
  | 0, _, _, h => by cases h; simp
  | _ + 1, [], _, h => by cases h; simp
  | f + 1, b :: r, t, h => by
    have key : ∀ (k : Nat) (c : UInt8), (un f (r.drop k)).map (c :: ·) = some t → t.length ≤ (b :: r).length := fun k c hk => by
      obtain ⟨u, hu, rfl⟩ := Option.map_eq_some_iff.1 hk
      have := un_len f _ u hu
      rw [List.length_drop] at this
      simp
      omega
    simp only [un] at h
    split at h
    · cases h
    · split at h
      · split at h
        · exact key 4 _ h
        · split at h
          · exact key 3 _ h
          · split at h
            · exact key 3 _ h
            · split at h
              · exact key 5 _ h
              · split at h
                · exact key 5 _ h
                · cases h
      · exact key 0 b (by simpa using h)
theorem unesc_len {l t : List UInt8} (h : unesc l = some t) : t.length ≤ l.length := un_len _ _ _ h
theorem blanks_all (l : List UInt8) : Blanks l ↔ l.all isBl = true := by
  simp [Blanks, List.all_eq_true, isBl_iff]

set_option maxRecDepth 100000 in
set_option maxHeartbeats 2000000 in
theorem takeText_any (base p bt : Nat) (st : PS) (vw vo : Value) (s : ByteArray) (w : World) (hP : IsP base p st vw vo w) (hs : s.size ≤ 100000) (hE : Env w) (h4 : 4 ≤ p) (hbt : bt ≤ w.heap.size) (hol : st.op.length ≤ 100000) :
    Calls Tryd.prog 40 #[.pointer (some ⟨p, 0, none⟩), .string s] w fun e w' => ((∃ st' toks v l, textL st s.data.toList = .ok (st', toks) ∧ e = .returned v ∧ l.map (·.1) = toks ∧ ElRow bt w' v l ∧ IsP base p st' vw vo w') ∨ (∃ err b, textL st s.data.toList = .error err ∧ e = stopE err ∧ IsP base p { st with begun := b } vw vo w')) ∧ Only p w w' := by
  obtain ⟨_, _, c2, c3, _, _, cf⟩ := hP.cells
  have cf3 := cf 3 (by omega)
  clear cf
  by_cases h0 : s.size = 0
  · have h0' := empty_true (s := s) (by omega)
    have hl : s.data.toList = [] := List.eq_nil_of_length_eq_zero (by rw [← size_lst]; exact h0)
    have HP := hide (And.intro hP hl)
    clear hP hl
    go_enter Tryd.func40, Tryd.ntmps40
    go_wp2_with fail
    go_ret
    exact ⟨.inl ⟨st, [], _, [], by simp [textL, HP.out.2], rfl, rfl, ⟨World.ownsRow_nil _ _ _ _, fun x hx => by simp at hx⟩, HP.out.1⟩, Only.refl _ _⟩
  have h0' := empty_false (s := s) (by omega)
  have hne : s.data.toList ≠ [] := fun e => h0 (by rw [size_lst, e]; rfl)
  obtain ⟨go, gc, rfl⟩ := own_shape hP.2.2.2
  have HP := hide hP.set_begun
  have hpl := hP.lt
  have hW := (hP.set_begun).cells.2.2.1
  have HE := hide hE
  clear hP hE
  obtain ⟨W1, hW1⟩ : ∃ W1, w.setCell ⟨p, 3, none⟩ (.bool true) = W1 := ⟨_, rfl⟩
  have hO1 : Only p w W1 := by rw [← hW1]; exact (Only.refl _ _).set _
  rw [hW1] at HP hW
  have hE1 : Env W1 := HE.out.below hO1.below h4
  obtain ⟨m, hm⟩ := hE1.2.2
  have hue := unescape_any s W1 (by omega) hE1.2.1 m hm
  have HU := hide (And.intro hue (And.intro hO1 hE1))
  have hz1 := hO1.size
  clear hue hO1 hE1 hm c2
  go_enter Tryd.func40, Tryd.ntmps40
  go_wp2_with fail
  refine HU.out.1.mono ?_
  rintro e w2 ⟨⟨t, ht, rfl⟩ | ⟨ht, rfl⟩, hb2⟩
  case inr =>
    have H2 := hide (And.intro hb2 ht)
    clear hb2 ht
    go_wp2_with fail
    refine (giveUp_any 6 w2).mono ?_
    rintro e w3 ⟨rfl, hw⟩
    subst hw
    exact ⟨rfl, .inr ⟨6, true, by simp [textL, hne, H2.out.2], rfl, HP.out.below H2.out.1⟩, HU.out.2.1.trans (Only.of_below H2.out.1 (by omega))⟩
  have hE2 := HU.out.2.2.below hb2 (by omega)
  have hch := chars_any s w2 (by unfold maxLen; omega) hE2.1
  have hP2 := HP.out.below hb2
  have k2 := hP2.cells.2.2.1
  have H2 := hide (And.intro hch (And.intro ht (And.intro hP2 (HU.out.2.1.trans (Only.of_below hb2 (by omega))))))
  have hz2 := hb2.size
  clear hch ht hP2 hb2 hE2 hW
  go_wp2_with fail
  refine H2.out.1.mono ?_
  rintro e w3 ⟨⟨hc, rfl⟩ | ⟨hc, rfl⟩, hb3⟩
  case inr =>
    have H3 := hide hb3
    clear hb3
    go_wp2_with fail
    refine (giveUp_any 6 w3).mono ?_
    rintro e w4 ⟨rfl, hw⟩
    subst hw
    have hcb : ¬ charsB s.data.toList = true := fun h => hc ((charsB_iff _).1 h)
    exact ⟨rfl, .inr ⟨6, true, by simp [textL, hne, H2.out.2.1, hcb], rfl, H2.out.2.2.1.below H3.out⟩, H2.out.2.2.2.trans (Only.of_below H3.out (by omega))⟩
  have hcb : charsB s.data.toList = true := (charsB_iff _).2 hc
  have hP3 := H2.out.2.2.1.below hb3
  have k3 := hP3.cells.2.2.1
  have H3 := hide (And.intro hP3 (And.intro (H2.out.2.2.2.trans (Only.of_below hb3 (by omega))) hcb))
  have hz3 := hb3.size
  clear hP3 hb3 hcb k2 hc
  by_cases hop : 0 < (st.op.length : Int)
  · go_wp2_with fail
    go_ret
    have htl := unesc_len H2.out.2.1
    rw [← size_lst] at htl
    refine ⟨.inl ⟨{ st with begun := true }, [⟨3, ⟨#[]⟩, [], ⟨t.toArray⟩⟩], _, [(⟨3, ⟨#[]⟩, [], ⟨t.toArray⟩⟩, none, 0)], ?_, rfl, rfl, one_row (k := 3) (by omega) (by decide) (Nat.zero_le _) (by rw [size_lst, arr_list]; omega), H3.out.1.below ((Below.refl _ _).alloc (Nat.le_refl _) _)⟩, H3.out.2.1.trans (Only.of_below ((Below.refl _ _).alloc (Nat.le_refl _) _) (by omega))⟩
    have h' : 0 < st.op.length := by omega
    simp [textL, hne, H2.out.2.1, H3.out.2.2, h']
  · have h' : ¬ (0 < st.op.length) := by omega
    go_wp2_with fail
    refine (space_any s w3).mono ?_
    rintro e w4 ⟨⟨hb, rfl⟩ | ⟨hb, rfl⟩, hb4⟩
    · have H4 := hide hb4
      have hba := (blanks_all _).1 hb
      clear hb4
      go_wp2_with fail
      go_ret
      refine ⟨.inl ⟨{ st with begun := true }, [], _, [], ?_, rfl, rfl, ⟨World.ownsRow_nil _ _ _ _, fun x hx => by simp at hx⟩, H3.out.1.below H4.out⟩, H3.out.2.1.trans (Only.of_below H4.out (by omega))⟩
      unfold textL
      rw [if_neg hne, H2.out.2.1]
      simp only []
      rw [if_pos H3.out.2.2, if_neg h', if_pos hba]
    · have H4 := hide hb4
      have hba : ¬ (s.data.toList.all isBl = true) := fun h => hb ((blanks_all _).2 h)
      clear hb4
      go_wp2_with fail
      refine (giveUp_any 6 w4).mono ?_
      rintro e w5 ⟨rfl, hw⟩
      subst hw
      refine ⟨rfl, .inr ⟨6, true, ?_, rfl, H3.out.1.below H4.out⟩, H3.out.2.1.trans (Only.of_below H4.out (by omega))⟩
      unfold textL
      rw [if_neg hne, H2.out.2.1]
      simp only []
      rw [if_pos H3.out.2.2, if_neg h', if_neg hba]

/-- An element ends. -/
def endP (st : PS) (nm : ByteArray) : Except Int (PS × List Tok) := if st.op.getLast? = some nm then .ok ({ st with op := st.op.dropLast }, [⟨2, nm, [], ⟨#[]⟩⟩]) else .error 6

set_option maxRecDepth 100000 in
set_option maxHeartbeats 2000000 in
theorem pend_any (base p bt : Nat) (st : PS) (vw vo : Value) (nm : ByteArray) (w : World) (hP : IsP base p st vw vo w) (hn : nm.size ≤ 100000) (hbt : bt ≤ w.heap.size) (hol : st.op.length ≤ 100000) :
    Calls Tryd.prog 52 #[.pointer (some ⟨p, 0, none⟩), .string nm] w fun e w' => ((∃ st' toks v l vo', endP st nm = .ok (st', toks) ∧ e = .returned v ∧ l.map (·.1) = toks ∧ ElRow bt w' v l ∧ IsP base p st' vw vo' w' ∧ vo'.ownBlock = vo.ownBlock) ∨ (endP st nm = .error 6 ∧ e = stopE 6 ∧ w' = w)) ∧ Only p w w' := by
  obtain ⟨_, _, c2, _, _, _, cf⟩ := hP.cells
  have cf2 := cf 2 (by omega)
  clear cf
  rcases List.eq_nil_or_concat st.op with hop | ⟨op', x, hop⟩
  · have ho := hP.2.2.2
    obtain ⟨ga, gc, rfl⟩ := own_shape ho
    rw [hop] at c2
    have he : endP st nm = .error 6 := by simp [endP, hop]
    clear ho
    go_enter Tryd.func52, Tryd.ntmps52
    go_wp2_with fail
    refine (giveUp_any 6 w).mono ?_
    rintro e w5 ⟨rfl, hw⟩
    subst hw
    exact ⟨rfl, .inr ⟨he, rfl, rfl⟩, Only.refl _ _⟩
  · rw [List.concat_eq_append] at hop
    obtain ⟨m, hm⟩ : ∃ m, op'.length = m := ⟨_, rfl⟩
    have hol2 : st.op.length = m + 1 := by rw [hop, ← hm]; simp
    have hnc : nameCells st.op = nameCells op' ++ [.string x] := by rw [hop]; simp [nameCells]
    have hgl : st.op.getLast? = some x := by rw [hop]; simp
    have hdl : st.op.dropLast = op' := by rw [hop]; simp
    have hown3 := hP.2.2.2
    obtain ⟨ga, gc, rfl⟩ := own_shape hown3
    rw [hnc, hol2] at hown3
    obtain ⟨g, hga, hmc, hcx⟩ := own_last hown3
    have hpop := own_pop hown3
    rw [hol2] at c2 hol
    rw [hga] at c2
    have hset := hP.set_open (vo' := .slice ga m gc) (op' := op') (by rw [hm]; exact hpop)
    rw [hga] at hset
    have HS := hide (And.intro hset (And.intro hgl (And.intro hdl (And.intro hga hP))))
    clear hset hgl hdl hpop hown3 hnc hP hop
    have hwm : IntKind.i64.wrap (m : Int) = m := wrap_id _ (by omega) (by omega)
    by_cases hx : x = nm
    · have hxe : (x.toList == nm.toList) = true := by simp [hx]
      go_enter Tryd.func52, Tryd.ntmps52
      go_wp2_with fail
      go_ret
      refine ⟨.inl ⟨{ st with op := op' }, [⟨2, nm, [], ⟨#[]⟩⟩], _, [(⟨2, nm, [], ⟨#[]⟩⟩, none, 0)], _, by simp [endP, HS.out.2.1, hx, HS.out.2.2.1], rfl, rfl, ?_, HS.out.1.below ((Below.refl _ _).alloc (Nat.le_refl _) _), ?_⟩, ?_⟩
      · have h := one_row (bt := bt) (w := w.setCell ⟨p, 2, none⟩ (.slice (some ⟨g, 0, none⟩) m gc)) (k := 2) (nm := nm) (tx := ⟨#[]⟩) (by rw [World.size_setCell]; exact hbt) (by decide) (by omega) (Nat.zero_le _)
        rw [World.size_setCell] at h
        exact h
      · rw [HS.out.2.2.2.1]
        rfl
      · exact ((Only.refl _ _).set _).trans (Only.of_below ((Below.refl _ _).alloc (Nat.le_refl _) _) (by rw [World.size_setCell]; exact Nat.le_of_lt HS.out.2.2.2.2.lt))
    · have hxe : (x.toList == nm.toList) = false := str_ne hx
      have he : endP st nm = .error 6 := by
        unfold endP
        rw [HS.out.2.1, if_neg (by simp [hx])]
      have HEE := hide he
      clear he
      go_enter Tryd.func52, Tryd.ntmps52
      go_wp2_with fail
      refine (giveUp_any 6 w).mono ?_
      rintro e w5 ⟨rfl, hw⟩
      subst hw
      exact ⟨rfl, .inr ⟨HEE.out, rfl, rfl⟩, Only.refl _ _⟩
end Go.Proofs.YthflpcfpfdmaeaaDoor.Xm
