/- strings.Cut at one byte, of whatever length the text is. -/
import Derived.Test.YtimhkgpjfppkmaaGreatDoorJBase
import Derived.Test.YtimhkgpjfppkmaaGreatDoorShelf
namespace Go.Proofs.YtimhkgpjfppkmaaGreatDoor
open Go.RowKit

theorem ext_l (s : ByteArray) (a b : Nat) : (s.extract a b).data.toList = (s.data.toList.drop a).take (b - a) := by
  rw [ByteArray.data_extract, Array.toList_extract, List.extract_eq_take_drop]
theorem index_byte (c : UInt8) : ∀ l : List UInt8, Lib.index l [c] = Lib.indexByte l c
  | [] => rfl
  | b :: l => by
    have ih := index_byte c l
    have e : (c == b) = (b == c) := by
      exact Bool.eq_iff_iff.2 ⟨fun h => by rw [beq_iff_eq] at h ⊢; exact h.symm, fun h => by rw [beq_iff_eq] at h ⊢; exact h.symm⟩
    simp only [Lib.index, Lib.indexByte, ih, List.isPrefixOf, Bool.and_true, e]
set_option maxRecDepth 100000 in
set_option maxHeartbeats 4000000 in
theorem index1_any (s : ByteArray) (c : UInt8) (w : World) :
    Calls Tryz.prog 102 #[.string s, .string ⟨#[c]⟩] w fun e w' => e = .returned (.int .i64 (Lib.index s.data.toList [c])) ∧ w' = w := by
  have hI := hide (Any.stringslite_IndexByte { Tryz.lays145 with } s (c.toNat : Int) w)
  have hz : (⟨#[c]⟩ : ByteArray).size = 1 := rfl
  by_cases he : (⟨#[c]⟩ : ByteArray) = s
  · have hx : Hid (Lib.index s.data.toList [c] = 0) := hide (by rw [← he]; simp [Lib.index])
    have he' : ((⟨#[c]⟩ : ByteArray).toList == s.toList) = true := by rw [he]; simp
    have he2 : ([c] == s.toList) = true := by simpa using he'
    clear he hI
    go_enter Tryz.func102, Tryz.ntmps102
    go_wp2_with fail
    go_ret
    exact ⟨by rw [hx.out]; rfl, rfl⟩
  · have he' := str_ne he
    have he2 : ([c] == s.toList) = false := by simpa using he'
    have hx := hide (index_byte c s.data.toList)
    clear he
    go_enter Tryz.func102, Tryz.ntmps102
    go_wp2_with fail
    refine hI.out.mono ?_
    rintro e w1 ⟨rfl, rfl⟩
    go_wp2_with fail
    go_ret
    exact ⟨by rw [hx.out]; simp, rfl⟩
set_option maxRecDepth 100000 in
set_option maxHeartbeats 4000000 in
theorem cut1_lite (s : ByteArray) (c : UInt8) (w : World) (hs : s.size ≤ 281474976710656) :
    Calls Tryz.prog 94 #[.string s, .string ⟨#[c]⟩] w fun e w' => e = .returned (.tuple #[.string ⟨(Lib.cut s.data.toList [c]).1.toArray⟩, .string ⟨(Lib.cut s.data.toList [c]).2.1.toArray⟩, .bool (Lib.cut s.data.toList [c]).2.2]) ∧ Below w.heap.size w w' := by
  have HI := hide (index1_any s c w)
  rcases Lib.indexB_cases s ⟨#[c]⟩ with hix | ⟨i, hix, hroom⟩
  · obtain ⟨e1, e2, e3⟩ := Lib.cutB_miss s ⟨#[c]⟩ hix
    have e : Lib.cut s.data.toList [c] = (s.data.toList, [], false) := by
      unfold Lib.cut
      rw [show Lib.index s.data.toList [c] = -1 from hix]
      rfl
    rw [e]
    rw [show Lib.index s.data.toList [c] = -1 from hix] at HI
    clear e e1 e2 e3 hix
    go_enter Tryz.func94, Tryz.ntmps94
    go_wp2_with fail
    refine HI.out.mono ?_
    rintro e w1 ⟨rfl, rfl⟩
    go_wp2_with fail
    go_ret3
    exact ⟨rfl, Below.refl _ _⟩
  · have hroom' : i + 1 ≤ s.size := hroom
    have e : Lib.cut s.data.toList [c] = (s.data.toList.take i, s.data.toList.drop (i + 1), true) := by
      unfold Lib.cut
      rw [show Lib.index s.data.toList [c] = (i : Int) from hix, if_pos (by omega)]
      simp
    rw [e]
    rw [show Lib.index s.data.toList [c] = (i : Int) from hix] at HI
    have x1 : (⟨(s.data.toList.take i).toArray⟩ : ByteArray) = s.extract 0 i := by
      apply ByteArray.ext
      apply Array.ext'
      rw [ext_l]
      simp
    have x2 : (⟨(s.data.toList.drop (i + 1)).toArray⟩ : ByteArray) = s.extract (i + 1) s.size := by
      apply ByteArray.ext
      apply Array.ext'
      rw [ext_l]
      have : s.data.toList.length = s.size := rfl
      simp only
      rw [List.take_of_length_le (by rw [List.length_drop]; omega)]
    have HX := hide (And.intro x1 x2)
    have c1 : (0 : Int) ≤ i := by omega
    have c2 : (i : Int) ≤ s.size := by omega
    have c3 : (i : Int) + 1 ≤ s.size := by omega
    have hz : (⟨#[c]⟩ : ByteArray).size = 1 := rfl
    have mixed : Tryz.prog.follows .mixedOrders = true := by kernel_rfl
    have hwr : IntKind.i64.wrap ((i : Int) + 1) = (i : Int) + 1 := by rw [IntKind.wrap_i64]; omega
    have c4 : (0 : Int) ≤ (i : Int) + 1 := by omega
    clear e hix hroom x1 x2
    go_enter Tryz.func94, Tryz.ntmps94
    go_wp2_with fail
    refine HI.out.mono ?_
    rintro e w1 ⟨rfl, rfl⟩
    go_wp2_with fail
    go_region_o
    go_wp2_with fail
    go_ret3
    rw [HX.out.1, HX.out.2]
    refine ⟨?_, (Below.refl _ _).drew⟩
    simp
end Go.Proofs.YtimhkgpjfppkmaaGreatDoor
