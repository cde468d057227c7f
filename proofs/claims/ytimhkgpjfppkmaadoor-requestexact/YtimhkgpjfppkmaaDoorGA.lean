/- Addresses: which bytes are parts. Addresses: parts. Addresses: their texts. -/
import Derived.Test.YtimhkgpjfppkmaaDoorChecked
import Derived.Test.YtimhkgpjfppkmaaDoorJidM
import Derived.Test.YtimhkgpjfppkmaaDoorJBase
import Derived.WalkKit
import Derived.WalkLawsBesides
import Derived.LaidEql
import Derived.Outline
import Derived.Lib.OthersKept
import Derived.Laws.RangeAny
import Derived.LoopTactic
import Derived.RangeFuncRecord
namespace Go.Proofs.YtimhkgpjfppkmaaDoor.Jd
open Go.RowKit

set_option maxRecDepth 100000 in
theorem capital_any (c : UInt8) (w : World) : Calls Tryd.prog 68 #[.int .u8 c.toNat] w fun e w' => e = .returned (.bool (capB c)) ∧ w' = w := by
  unfold capB
  obtain ⟨n, hn⟩ : ∃ n : Nat, c.toNat = n := ⟨_, rfl⟩
  rw [hn]
  clear hn
  by_cases h1 : (65 : Int) ≤ n
  · by_cases h2 : (n : Int) ≤ 90
    · rw [decide_eq_true (show 65 ≤ n by omega), decide_eq_true (show n ≤ 90 by omega)]
      go_enter Tryd.func68, Tryd.ntmps68
      go_wp2
      go_ret
      simp
    · rw [decide_eq_true (show 65 ≤ n by omega), decide_eq_false (show ¬ n ≤ 90 by omega)]
      go_enter Tryd.func68, Tryd.ntmps68
      go_wp2
      go_ret
      simp
  · rw [decide_eq_false (show ¬ 65 ≤ n by omega)]
    go_enter Tryd.func68, Tryd.ntmps68
    go_wp2
    go_ret
    simp

theorem ptB_of (c : UInt8) {n : Nat} (hn : c.toNat = n) : ptB c = (decide (65 ≤ n) && decide (n ≤ 90) || (decide (97 ≤ n) && decide (n ≤ 122)) || (decide (48 ≤ n) && decide (n ≤ 57)) || (decide (n = 45) || decide (n = 95) || decide (n = 46))) := by
  subst hn
  unfold ptB capB
  have e : ∀ k : UInt8, (c == k) = decide (c.toNat = k.toNat) := fun k => by
    rw [Bool.eq_iff_iff, beq_iff_eq, decide_eq_true_eq]
    exact ⟨fun h => by rw [h], fun h => UInt8.toNat_inj.1 h⟩
  rw [e, e, e]
  rfl
set_option maxRecDepth 100000 in
theorem partByte_any (c : UInt8) (w : World) : Calls Tryd.prog 67 #[.int .u8 c.toNat] w fun e w' => e = .returned (.bool (ptB c)) ∧ w' = w := by
  have hcap := hide (capital_any c w)
  obtain ⟨n, hn⟩ : ∃ n : Nat, c.toNat = n := ⟨_, rfl⟩
  rw [ptB_of c hn]
  have hc : capB c = (decide (65 ≤ n) && decide (n ≤ 90)) := by unfold capB; rw [hn]
  have hcap2 := hide (hc ▸ hn ▸ hcap.out)
  rw [hn]
  clear hn hc hcap
  rcases (show (65 ≤ n ∧ n ≤ 90) ∨ (97 ≤ n ∧ n ≤ 122) ∨ (48 ≤ n ∧ n ≤ 57) ∨ (¬ (65 ≤ n ∧ n ≤ 90) ∧ ¬ (97 ≤ n ∧ n ≤ 122) ∧ ¬ (48 ≤ n ∧ n ≤ 57)) by omega) with h | h | h | h
  · have h1 : (decide (65 ≤ n) && decide (n ≤ 90)) = true := by simp [h]
    rw [h1] at hcap2 ⊢
    clear h1
    go_enter Tryd.func67, Tryd.ntmps67
    go_wp2_with fail
    refine hcap2.out.mono ?_
    rintro e w2 ⟨rfl, hw⟩
    subst hw
    go_wp2_with fail
    go_ret
    simp
  · have h1 : (decide (65 ≤ n) && decide (n ≤ 90)) = false := by simp; omega
    rw [h1] at hcap2 ⊢
    have h2 : (97 : Int) ≤ n := by omega
    have h3 : (n : Int) ≤ 122 := by omega
    have h4 : decide ((n : Int) ≤ 122) = true := by simp; omega
    go_enter Tryd.func67, Tryd.ntmps67
    go_wp2_with fail
    refine hcap2.out.mono ?_
    rintro e w2 ⟨rfl, hw⟩
    subst hw
    go_wp2_with fail
    go_ret
    simp [h.1, h.2]
  · have h1 : (decide (65 ≤ n) && decide (n ≤ 90)) = false := by simp; omega
    rw [h1] at hcap2 ⊢
    have h2 : ¬ (97 : Int) ≤ n := by omega
    have h3 : (48 : Int) ≤ n := by omega
    have h4 : decide ((n : Int) ≤ 57) = true := by simp; omega
    go_enter Tryd.func67, Tryd.ntmps67
    go_wp2_with fail
    refine hcap2.out.mono ?_
    rintro e w2 ⟨rfl, hw⟩
    subst hw
    go_wp2_with fail
    go_ret
    simp
  · have h1 : (decide (65 ≤ n) && decide (n ≤ 90)) = false := by simp; omega
    have h2 : (decide (97 ≤ n) && decide (n ≤ 122)) = false := by simp; omega
    have h3 : (decide (48 ≤ n) && decide (n ≤ 57)) = false := by simp; omega
    rw [h1] at hcap2 ⊢
    rw [h2, h3]
    have h4 : (97 : Int) ≤ n → decide ((n : Int) ≤ 122) = false := fun _ => by simp; omega
    have h5 : (48 : Int) ≤ n → decide ((n : Int) ≤ 57) = false := fun _ => by simp; omega
    have e45 : decide (n = 45) = decide ((n : Int) = 45) := decide_eq_decide.2 (by omega)
    have e95 : decide (n = 95) = decide ((n : Int) = 95) := decide_eq_decide.2 (by omega)
    have e46 : decide (n = 46) = decide ((n : Int) = 46) := decide_eq_decide.2 (by omega)
    rw [e45, e95, e46]
    clear h1 h2 h3 e45 e95 e46
    by_cases g1 : (n : Int) = 45
    · rw [g1] at hcap2 ⊢
      go_enter Tryd.func67, Tryd.ntmps67
      go_wp2_with fail
      refine hcap2.out.mono ?_
      rintro e w2 ⟨rfl, hw⟩
      subst hw
      go_wp2_with fail
      go_ret
      simp
    · by_cases g2 : (n : Int) = 95
      · rw [g2] at hcap2 ⊢
        go_enter Tryd.func67, Tryd.ntmps67
        go_wp2_with fail
        refine hcap2.out.mono ?_
        rintro e w2 ⟨rfl, hw⟩
        subst hw
        go_wp2_with fail
        go_ret
        simp
      · by_cases g3 : (n : Int) = 46
        · rw [g3] at hcap2 ⊢
          go_enter Tryd.func67, Tryd.ntmps67
          go_wp2_with fail
          refine hcap2.out.mono ?_
          rintro e w2 ⟨rfl, hw⟩
          subst hw
          go_wp2_with fail
          go_ret
          simp
        · rw [decide_eq_false g1, decide_eq_false g2, decide_eq_false g3]
          clear h
          by_cases k1 : (97 : Int) ≤ n
          · have k4 := h4 k1
            have k2 : (48 : Int) ≤ n := by omega
            have k5 := h5 k2
            clear h4 h5
            go_enter Tryd.func67, Tryd.ntmps67
            go_wp2_with fail
            refine hcap2.out.mono ?_
            rintro e w2 ⟨rfl, hw⟩
            subst hw
            go_wp2_with fail
            go_ret
            simp [g1, g2, g3]
          · by_cases k2 : (48 : Int) ≤ n
            · have k5 := h5 k2
              clear h4 h5
              go_enter Tryd.func67, Tryd.ntmps67
              go_wp2_with fail
              refine hcap2.out.mono ?_
              rintro e w2 ⟨rfl, hw⟩
              subst hw
              go_wp2_with fail
              go_ret
              simp [g1, g2, g3]
            · clear h4 h5
              go_enter Tryd.func67, Tryd.ntmps67
              go_wp2_with fail
              refine hcap2.out.mono ?_
              rintro e w2 ⟨rfl, hw⟩
              subst hw
              go_wp2_with fail
              go_ret
              simp [g1, g2, g3]
end Go.Proofs.YtimhkgpjfppkmaaDoor.Jd
namespace Go.Proofs.YtimhkgpjfppkmaaDoor.Jd
open Go.RowKit

theorem bget (s : ByteArray) (k : Nat) (h : k < s.size) : s.data.toList[k]? = some s[k] := by
  rw [List.getElem?_eq_getElem (by rw [Array.length_toList]; exact h), Array.getElem_toList]
  rfl
theorem part_false {s : ByteArray} {k : Nat} (hp : k < s.size) (h : ptB s[k] = false) : partL s.data.toList = false := by
  unfold partL
  rw [Bool.and_eq_false_iff]
  left
  rw [List.all_eq_false]
  exact ⟨s[k], List.mem_of_getElem? (bget s k hp), by rw [h]; decide⟩
theorem part_full {s : ByteArray} (h0 : 0 < s.size) (h : ∀ (j : Nat) (hj : j < s.size), ptB s[j] = true) : partL s.data.toList = true := by
  unfold partL
  rw [Bool.and_eq_true, List.all_eq_true]
  refine ⟨fun b hb => ?_, ?_⟩
  · obtain ⟨j, hj⟩ := List.getElem?_of_mem hb
    have hlt : j < s.size := by
      have := (List.getElem?_eq_some_iff.1 hj).1
      rw [Array.length_toList] at this
      exact this
    rw [bget s j hlt] at hj
    cases hj
    exact h j hlt
  · cases hd : s.data.toList with
    | nil =>
      have := congrArg List.length hd
      rw [Array.length_toList] at this
      exact absurd this (by show s.size ≠ 0; omega)
    | cons a l => rfl
set_option maxRecDepth 100000 in
theorem part_any (s : ByteArray) (w : World) (hs : s.size ≤ 9223372036854775807) : Calls Tryd.prog 59 #[.string s] w fun e w' => e = .returned (.bool (partL s.data.toList)) ∧ w' = w := by
  obtain ⟨pb, hpb⟩ : ∃ pb, partL s.data.toList = pb := ⟨_, rfl⟩
  rw [hpb]
  have HPB := hide hpb
  clear hpb
  go_enter Tryd.func59, Tryd.ntmps59
  go_wp2_with fail
  go_loop [6] (fun i => ∃ k : Nat, k ≤ s.size ∧ i = .int .i64 k ∧ ∀ (j : Nat) (h : j < s.size), j < k → ptB s[j] = true) (fun i => s.size - (intOf i).toNat)
  case atStart => exact ⟨0, Nat.zero_le _, rfl, fun j h h' => by omega⟩
  case round =>
    obtain ⟨k, hk, rfl, hpre⟩ := hrel
    have Hpre := hide hpre
    clear hpre
    by_cases hp : k < s.size
    · have hpb := hide (partByte_any s[k] w)
      go_wp2_with fail
      refine hpb.out.mono ?_
      rintro e w2 ⟨rfl, hw⟩
      subst hw
      cases hq : ptB s[k] with
      | true =>
        have Hq := hide hq
        clear hq
        go_wp2_with fail
        refine ⟨⟨k + 1, by omega, by go_num, fun j h hj => ?_⟩, by simp [intOf]; omega⟩
        rcases Nat.lt_or_ge j k with h1 | h1
        · exact Hpre.out j h h1
        · obtain rfl : j = k := by omega
          exact Hq.out
      | false =>
        have Hq := hide (part_false hp hq)
        clear hq
        go_wp2_with fail
        go_ret
        rw [← HPB.out, Hq.out]
        exact ⟨rfl, rfl⟩
    · have hks : k = s.size := by omega
      by_cases h0 : s.size = 0
      · have hse : s = ⟨#[]⟩ := by
          obtain ⟨⟨l⟩⟩ := s
          cases l with
          | nil => rfl
          | cons a l => simp [ByteArray.size] at h0
        subst hse
        go_wp2_with fail
        go_ret
        rw [← HPB.out]
        exact ⟨rfl, rfl⟩
      · have hne : (s.toList == (⟨#[]⟩ : ByteArray).toList) = false := str_ne (fun e => h0 (by rw [e]; rfl))
        have Hq := hide (part_full (s := s) (by omega) (fun j hj => Hpre.out j hj (by omega)))
        go_wp2_with fail
        go_ret
        rw [← HPB.out, Hq.out]
        simpa using hne

end Go.Proofs.YtimhkgpjfppkmaaDoor.Jd
namespace Go.Proofs.YtimhkgpjfppkmaaDoor.Jd
open Go.RowKit

def emp : ByteArray := ⟨#[]⟩
def joinB (lo dom res : ByteArray) : ByteArray :=
  let s := if lo = emp then dom else lo ++ ⟨#[64]⟩ ++ dom
  if res = emp then s else s ++ (⟨#[47]⟩ ++ res)
def jl (lo dom res : ByteArray) : JL := ⟨lo.data.toList, dom.data.toList, res.data.toList⟩
theorem emp_iff (s : ByteArray) : s = emp ↔ s.data.toList = [] := by
  obtain ⟨⟨l⟩⟩ := s
  constructor
  · intro h
    cases h
    rfl
  · intro h
    have h' : l = [] := h
    subst h'
    rfl
theorem ne_empty {s : ByteArray} (h : s ≠ emp) : s.toList.isEmpty = false := by
  rw [ByteArray.toList_eq]
  cases hl : s.data.toList with
  | nil => exact absurd ((emp_iff s).2 hl) h
  | cons a l => rfl
theorem app_list (a b : ByteArray) : (a ++ b).data.toList = a.data.toList ++ b.data.toList := by simp
theorem joinB_list (lo dom res : ByteArray) : (joinB lo dom res).data.toList = textJ (jl lo dom res) := by
  unfold joinB textJ jl
  by_cases h1 : lo = emp <;> by_cases h2 : res = emp
  · rw [if_pos h1, if_pos h2, if_pos ((emp_iff _).1 h1), if_pos ((emp_iff _).1 h2)]
    simp
  · rw [if_pos h1, if_neg h2, if_pos ((emp_iff _).1 h1), if_neg (fun h => h2 ((emp_iff _).2 h)), app_list, app_list]
    rfl
  · rw [if_neg h1, if_pos h2, if_neg (fun h => h1 ((emp_iff _).2 h)), if_pos ((emp_iff _).1 h2), app_list, app_list]
    simp
  · rw [if_neg h1, if_neg h2, if_neg (fun h => h1 ((emp_iff _).2 h)), if_neg (fun h => h2 ((emp_iff _).2 h)), app_list, app_list, app_list, app_list]
    simp
theorem size_list (s : ByteArray) : s.data.toList.length = s.size := Array.length_toList
theorem size_app (a b : ByteArray) : (a ++ b).size = a.size + b.size := by
  rw [← size_list, app_list, List.length_append, size_list, size_list]

theorem results_jid {fn : Func} {tmps : Array Value} {w : World} {b : Nat} {x y z : Value} (h : fn.results = #[.cell 2 82]) (hp : tmps[2]?.getD undef = .pointer (some ⟨b, 0, none⟩)) (h0 : w.cell? ⟨b, 0, none⟩ = some x) (h1 : w.cell? ⟨b, 1, none⟩ = some y) (h2 : w.cell? ⟨b, 2, none⟩ = some z) : (results fn tmps).run Tryd.prog w = .ok (.agg #[x, y, z]) w := by
  simp [results, h, hp, h0, h1, h2, go_sem, Tryd.isAgg82, Tryd.sizeOf82]
theorem results_jid2 {fn : Func} {tmps : Array Value} {w : World} {b : Nat} {x y z r : Value} (h : fn.results = #[.cell 2 82, .tmp 3]) (hp : tmps[2]?.getD undef = .pointer (some ⟨b, 0, none⟩)) (hr : tmps[3]?.getD undef = r) (h0 : w.cell? ⟨b, 0, none⟩ = some x) (h1 : w.cell? ⟨b, 1, none⟩ = some y) (h2 : w.cell? ⟨b, 2, none⟩ = some z) : (results fn tmps).run Tryd.prog w = .ok (.tuple #[.agg #[x, y, z], r]) w := by
  simp [results, h, hp, hr, h0, h1, h2, go_sem, Tryd.isAgg82, Tryd.sizeOf82]
/-- An address that lies in a block. -/
theorem cells3 {w : World} {b : Nat} {x y z : Value} {T : TypeId} (h : w.heap[b]? = some (.cells #[x, y, z] T)) : w.cell? ⟨b, 0, none⟩ = some x ∧ w.cell? ⟨b, 1, none⟩ = some y ∧ w.cell? ⟨b, 2, none⟩ = some z ∧ w.frozen? ⟨b, 0, none⟩ = false ∧ w.frozen? ⟨b, 1, none⟩ = false ∧ w.frozen? ⟨b, 2, none⟩ = false := by
  refine ⟨by simp [World.cell?, h], by simp [World.cell?, h], by simp [World.cell?, h], by simp [World.frozen?, h], by simp [World.frozen?, h], by simp [World.frozen?, h]⟩
theorem set3 {w : World} {b : Nat} {x y z : Value} {T : TypeId} (h : w.heap[b]? = some (.cells #[x, y, z] T)) (x' y' z' : Value) : (((w.setCell ⟨b, 0, none⟩ x').setCell ⟨b, 1, none⟩ y').setCell ⟨b, 2, none⟩ z').heap[b]? = some (.cells #[x', y', z'] T) := by
  have k1 := heap_setCell_same _ _ 0 _ _ x' h
  have k2 := heap_setCell_same _ _ 1 _ _ y' k1
  have k3 := heap_setCell_same _ _ 2 _ _ z' k2
  exact k3

theorem new2 (w : World) (A B : Obj) : ((w.alloc A).alloc B).heap[w.heap.size + 1]? = some B := by
  have h := World.alloc_heap_new (w.alloc A) B
  rw [show (w.alloc A).heap.size = w.heap.size + 1 by simp] at h
  exact h
end Go.Proofs.YtimhkgpjfppkmaaDoor.Jd
