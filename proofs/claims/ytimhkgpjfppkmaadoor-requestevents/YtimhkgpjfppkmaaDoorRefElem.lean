/- An element's tokens as the document says them; an attribute's value. -/
import Derived.Test.YtimhkgpjfppkmaaDoorElem
import Derived.Test.YtimhkgpjfppkmaaDoorGM
import Derived.Laws.AppendOwnNone
namespace Go.Proofs.YtimhkgpjfppkmaaDoor
open Go.RowKit Go.Shelf

/-- Attributes that lie in memory are put into a new row of the call's own. -/
theorem append_attrs (w : World) {ops : Array Oper} {rest : List Oper} {o : Oper} {a : Act} {Q : Exit → Act → World → Prop} (hg : o.guard = none) (s x : Operand)
    (hop : o.op = Op.call { callee := Callee.builtin Builtin.append, args := #[s, x], argTypes := #[44, 44] }) (base : Nat) (v : Value) (hs : a.eval s = v)
    (hE : w.ownsRow base 49 2 v 0 []) (n₀ : Nat) (ao : Option Addr) (c : Nat) (al : List (ByteArray × ByteArray)) (hx : a.eval x = .slice ao al.length c) (hA : AttrMem n₀ w ao al) (hc : ao = none → c = 0) (hb : base ≤ w.heap.size)
    (hK : ∀ v' w', w'.ownsRow base 49 2 v' al.length (attrCells al) → Below base w w' → wpList Tryd.prog ops Q rest (a.put o.dst v') w') : wpList Tryd.prog ops Q (o :: rest) a w := by
  obtain ⟨i, hi, hz0, hz1, hz2⟩ := info_parts infoAttr
  cases ao with
  | none =>
    have hal : al = [] := by
      cases al with
      | nil => rfl
      | cons y al => obtain ⟨_, _, e, _⟩ := hA.2.2 0 y (by simp); cases e
    subst hal
    obtain rfl := hc rfl
    exact wpList_append_own_none hg s x 44 hop base 49 i 2 Tryd.underlying44 hi v 0 [] hs hE hx (hK v w hE (Below.refl _ _))
  | some ad =>
    refine wpList_append_own w hg s x 44 hop base 49 i _ 2 32 Tryd.underlying44 hi hz0 hz1 hz2 rfl (by decide) v 0 [] hs hE ad al.length c (attrCells al) hx (attrCells_length al) (fun j u hj => ?_) (fun u hu => ?_) (by have := hA.1; unfold maxLen; omega) (by have := hA.1; omega) hb ?_
    · obtain ⟨k, y, hk, hc'⟩ := attrCells_inv hj
      obtain ⟨b', off', e, _, x1, x2⟩ := hA.2.2 k y hk
      cases e
      rw [Go.WideShapes.add_plain]
      rcases hc' with ⟨rfl, rfl⟩ | ⟨rfl, rfl⟩
      · exact x1
      · rw [← Nat.add_assoc]
        exact x2
    · obtain ⟨y, _, h⟩ := List.mem_flatMap.1 hu
      simp at h
      rcases h with rfl | rfl <;> rfl
    · intro v' w' ho hgr _
      exact hK v' w' (by rw [Nat.zero_add, List.nil_append] at ho; exact ho) ((Below.refl base w).grown hgr hb (fun k e => own_base hE k e))

set_option maxRecDepth 100000 in
set_option maxHeartbeats 2000000 in
theorem refAttr_any (n₀ : Nat) (ao : Option Addr) (cap kind len : Nat) (nm tx name : ByteArray) (al : List (ByteArray × ByteArray)) (w : World) (hA : AttrMem n₀ w ao al) (hn : n₀ ≤ w.heap.size) (hl : al.length = len) :
    Calls Tryd.prog 14 #[.agg #[.int .u8 kind, .string nm, .slice ao len cap, .string tx], .string name] w fun e w' =>
      e = .returned (.tuple #[.string ((attrVal al name).getD ⟨#[]⟩), .bool (attrVal al name).isSome]) ∧ Below w.heap.size w w' := by
  subst hl
  have hlen := hA.1
  have HA := hide hA
  clear hA
  go_enter Tryd.func14, Tryd.ntmps14
  go_wp2_with fail
  obtain ⟨W1, hW1⟩ : ∃ W1, w.alloc (.cells #[.int .u8 kind, .string nm, .slice ao al.length cap, .string tx] 46) = W1 := ⟨_, rfl⟩
  have f2 : W1.cell? ⟨w.heap.size, 2, none⟩ = some (.slice ao al.length cap) := by rw [← hW1]; simp
  have hb1 : Below w.heap.size w W1 := by rw [← hW1]; exact (Below.refl _ w).alloc (Nat.le_refl _) _
  rw [hW1]
  clear hW1
  have HB := hide hb1
  clear hb1
  go_loopw [6] (fun i wr => wr = W1 ∧ ∃ k : Nat, k ≤ al.length ∧ i = .int .i64 k ∧ (∀ j a, j < k → al[j]? = some a → a.1 ≠ name)) (fun i _ => al.length - (intOf i).toNat)
  case atStart => exact ⟨rfl, 0, Nat.zero_le _, rfl, fun j a h => by omega⟩
  case round =>
    obtain ⟨hwr, k, hk, rfl, hne⟩ := hrel
    subst hwr
    have HN := hide hne
    clear hne
    by_cases hlt : k < al.length
    · obtain ⟨a, ha⟩ : ∃ a, al[k]? = some a := ⟨al[k], by simp [hlt]⟩
      obtain ⟨b, off, rfl, hb, c1, c2⟩ := HA.out.2.2 k a ha
      have d1 := (HB.out.cell (p := ⟨b, off + k * 2, none⟩) (by simp; omega)).trans c1
      have d2 := (HB.out.cell (p := ⟨b, off + k * 2 + 1, none⟩) (by simp; omega)).trans c2
      clear c1 c2
      by_cases he : a.1 = name
      · have hv := attrVal_some ha he (fun j b hj hb => HN.out j b hj hb)
        have HV := hide hv
        clear hv
        have he' : (a.1.toList == name.toList) = true := by simp [he]
        go_wp2_with fail
        go_ret2
        exact ⟨by rw [HV.out]; rfl, HB.out⟩
      · have he' : (a.1.toList == name.toList) = false := str_ne he
        go_wp2_with fail
        refine ⟨⟨trivial, k + 1, by omega, by simp, fun j x hj hx => ?_⟩, by simp [intOf]; omega⟩
        rcases Nat.lt_or_ge j k with h | h
        · exact HN.out j x h hx
        · obtain rfl : j = k := by omega
          rw [ha] at hx
          cases hx
          exact he
    · obtain rfl : k = al.length := by omega
      have hv : attrVal al name = none := attrVal_none (fun j a hj => HN.out j a (by have := (List.getElem?_eq_some_iff.1 hj).1; omega) hj)
      have HV := hide hv
      clear hv
      go_wp2_with fail
      go_ret2
      exact ⟨by rw [HV.out]; rfl, HB.out⟩

end Go.Proofs.YtimhkgpjfppkmaaDoor
