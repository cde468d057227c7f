/- Which requests are right. -/
import Derived.Test.YtimhkgpjfppkmaaDoorRq2
import Derived.Test.YtimhkgpjfppkmaaDoorNq3
import Derived.Test.YtimhkgpjfppkmaaDoorChars
namespace Go.Proofs.YtimhkgpjfppkmaaDoor
open Go.RowKit Go.Shelf

/-- A request. -/
structure Rq where
  verb : Nat
  node : ByteArray
  item : ByteArray
  jid : ByteArray
  role : Nat
  acc : Nat
  max : Int
  depth : Int
  parent : ByteArray
  coll : Bool
  text : ByteArray
def rqA (r : Rq) : Array Value := #[.int .u8 r.verb, .string r.node, .string r.item, .string r.jid, .int .u8 r.role, .int .u8 r.acc, .int .i64 r.max, .int .i64 r.depth, .string r.parent, .bool r.coll, .string r.text]
theorem rq_box {w : World} {b : Nat} {r : Rq} {ty : TypeId} (h : w.heap[b]? = some (.cells (rqA r) ty)) : w.cell? ⟨b, 0, none⟩ = some (.int .u8 r.verb) ∧ w.cell? ⟨b, 1, none⟩ = some (.string r.node) ∧ w.cell? ⟨b, 2, none⟩ = some (.string r.item) ∧ w.cell? ⟨b, 3, none⟩ = some (.string r.jid) ∧ w.cell? ⟨b, 4, none⟩ = some (.int .u8 r.role) ∧ w.cell? ⟨b, 5, none⟩ = some (.int .u8 r.acc) ∧ w.cell? ⟨b, 6, none⟩ = some (.int .i64 r.max) ∧ w.cell? ⟨b, 7, none⟩ = some (.int .i64 r.depth) ∧ w.cell? ⟨b, 8, none⟩ = some (.string r.parent) ∧ w.cell? ⟨b, 9, none⟩ = some (.bool r.coll) ∧ w.cell? ⟨b, 10, none⟩ = some (.string r.text) := by
  unfold rqA at h
  refine ⟨?_, ?_, ?_, ?_, ?_, ?_, ?_, ?_, ?_, ?_, ?_⟩ <;> simp [World.cell?, h]
structure RqFits (r : Rq) : Prop where
  verb : r.verb ≤ 255
  node : r.node.size ≤ 9223372036854775807
  item : r.item.size ≤ 9223372036854775807
  jid : r.jid.size ≤ 9223372036854775807
  role : r.role ≤ 255
  acc : r.acc ≤ 255
  max0 : -9223372036854775808 ≤ r.max
  max1 : r.max ≤ 9223372036854775807
  depth0 : -9223372036854775808 ≤ r.depth
  depth1 : r.depth ≤ 9223372036854775807
  parent : r.parent.size ≤ 9223372036854775807
  text : r.text.size ≤ 9223372036854775807
/-- What these functions read of the variables. -/
structure GlbR (w : World) : Prop where
  max : Jd.MaxG w
  lt : 3 < w.heap.size
  tabs : Lib.Utf8Tabs 0 1 w
  nums : GlobE w
theorem GlbR.below {w w' : World} (h : GlbR w) (hb : Below w.heap.size w w') : GlbR w' := ⟨h.max.below hb h.lt, Nat.lt_of_lt_of_le h.lt hb.size, tabs_below h.tabs hb, h.nums.below hb⟩
def Yes (p : Prop) (e : Ending) : Prop := ∃ b : Bool, e = .returned (.bool b) ∧ (b = true ↔ p)
theorem Yes.t {p : Prop} (h : p) : Yes p (.returned (.bool true)) := ⟨true, rfl, fun _ => h, fun _ => rfl⟩
theorem Yes.f {p : Prop} (h : ¬ p) : Yes p (.returned (.bool false)) := ⟨false, rfl, fun e => (by cases e), fun e => absurd e h⟩
noncomputable def charsD (s : ByteArray) : Bool := @decide (CharsOk s.data.toList) (Classical.propDecidable _)
theorem chars_bool (s : ByteArray) (w : World) (hs : s.size ≤ 9223372036854775807) (hT : GlbR w) : Calls Tryd.prog 31 #[.string s] w fun e w' => e = .returned (.bool (charsD s)) ∧ Below w.heap.size w w' := by
  refine (chars_any s w (by unfold maxLen; omega) hT.tabs).mono ?_
  rintro e w' ⟨⟨h, rfl⟩ | ⟨h, rfl⟩, hb⟩
  · exact ⟨by unfold charsD; rw [@decide_eq_true _ (Classical.propDecidable _) h], hb⟩
  · exact ⟨by unfold charsD; rw [@decide_eq_false _ (Classical.propDecidable _) h], hb⟩
theorem full_ne {s : ByteArray} (h : s ≠ ⟨#[]⟩) : s.toList.isEmpty = false := by
  refine Jd.str_full fun e => h ?_
  obtain ⟨⟨l⟩⟩ := s
  have : l = [] := List.length_eq_zero_iff.1 (by simpa [ByteArray.size] using e)
  rw [this]
def rnB (r : Rq) : Bool := Jd.nameOk r.node || (decide (r.verb = 15) && decide (r.node = ⟨#[]⟩))
set_option maxRecDepth 100000 in
set_option maxHeartbeats 2000000 in
theorem rightNode_any (r : Rq) (w : World) (hf : RqFits r) : Calls Tryd.prog 23 #[.agg (rqA r)] w fun e w' => e = .returned (.bool (rnB r)) ∧ Below w.heap.size w w' := by
  obtain ⟨W1, hW1⟩ : ∃ W1, w.alloc (.cells (rqA r) 26) = W1 := ⟨_, rfl⟩
  have b1 : Below w.heap.size w W1 := by rw [← hW1]; exact (Below.refl _ w).alloc (Nat.le_refl _) _
  have f1 : W1.heap[w.heap.size]? = some (.cells (rqA r) 26) := by rw [← hW1]; exact World.alloc_heap_new _ _
  obtain ⟨c0, c1, c2, c3, c4, c5, c6, c7, c8, c9, c10⟩ := rq_box f1
  have HN := hide (Jd.name_any r.node W1 hf.node)
  have HB := hide b1
  clear c2 c3 c4 c5 c6 c7 c8 c9 c10 f1 b1
  obtain ⟨p, hp⟩ : ∃ p, rnB r = p := ⟨_, rfl⟩
  rw [hp]
  unfold rnB at hp
  obtain ⟨q, hq⟩ : ∃ q, Jd.nameOk r.node = q := ⟨_, rfl⟩
  rw [hq] at hp HN
  cases q with
  | true =>
    obtain rfl : p = true := by rw [← hp]; rfl
    clear hp hq
    go_enter Tryd.func23, Tryd.ntmps23
    go_wp2_with fail
    refine HN.out.mono ?_
    rintro e w2 ⟨rfl, rfl⟩
    go_wp2_with fail
    go_ret
    exact ⟨rfl, HB.out⟩
  | false =>
    rw [Bool.false_or] at hp
    by_cases h15 : (r.verb : Int) = 15
    · rw [decide_eq_true (show r.verb = 15 by omega), Bool.true_and] at hp
      rw [h15] at c0
      by_cases hn : r.node = ⟨#[]⟩
      · obtain rfl : p = true := by rw [← hp, decide_eq_true hn]
        rw [hn] at c1 HN
        clear hp hq hn h15
        go_enter Tryd.func23, Tryd.ntmps23
        go_wp2_with fail
        refine HN.out.mono ?_
        rintro e w2 ⟨rfl, rfl⟩
        go_wp2_with fail
        go_ret
        exact ⟨rfl, HB.out⟩
      · obtain rfl : p = false := by rw [← hp, decide_eq_false hn]
        have hne := full_ne hn
        clear hp hq hn h15
        go_enter Tryd.func23, Tryd.ntmps23
        go_wp2_with fail
        refine HN.out.mono ?_
        rintro e w2 ⟨rfl, rfl⟩
        go_wp2_with fail
        go_ret
        exact ⟨rfl, HB.out⟩
    · obtain rfl : p = false := by rw [← hp, decide_eq_false (show ¬ r.verb = 15 by omega)]; rfl
      have hne : ((r.verb : Int) == 15) = false := by rw [beq_eq_false_iff_ne]; exact h15
      clear hp hq h15
      go_enter Tryd.func23, Tryd.ntmps23
      go_wp2_with fail
      refine HN.out.mono ?_
      rintro e w2 ⟨rfl, rfl⟩
      go_wp2_with fail
      go_ret
      exact ⟨rfl, HB.out⟩
end Go.Proofs.YtimhkgpjfppkmaaDoor
