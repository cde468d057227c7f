/- live; a nil map. -/
import Derived.Test.YtjdcgndcljmieaaK8
import Derived.Laws.IdiomStrings
import Derived.Laws.BytesArg
namespace Go.Proofs.Ytjdcgndcljmieaa
open Go.RowKit

/-- Bytes as a text. -/
theorem conv_row {w : World} {base : Nat} {v : Value} {l : List UInt8} (h : Row w base v l) : (convert 30 9 v).run Try.prog w = .ok (.string (ofS l)) w := by
  obtain ⟨h1, ⟨rfl, h2⟩ | ⟨g, cap, cur, rfl, x1, x2, x3, x4, x5, x6⟩⟩ := h
  · have hl : l = [] := List.eq_nil_of_length_eq_zero h2
    subst hl
    exact run_convert_bytes_nil (P := Try.prog) w 30 5 Try.underlying30 Try.underlying5 0 0 9 Try.underlying9
  · refine run_convert_bytes_back (P := Try.prog) w _ 9 5 ⟨g, 0, none⟩ cap l Try.underlying30 Try.underlying5 Try.underlying9 (fun j hj => ?_)
    have hx : (Lib.byteCells l)[j]? = some (.int .u8 (l[j].toNat : Int)) := by simp [Lib.byteCells, hj]
    rw [← x6, List.getElem?_take_of_lt (by omega)] at hx
    rw [Addr.add_mid]
    simp [World.cell?, x2]
    simpa using hx
def kA : ByteArray := ⟨#[97]⟩
def kB : ByteArray := ⟨#[98]⟩
theorem live_put : putE [] kA kB = 0 ∧ putL [] kA kB = [(kA, kB)] := by
  have h : ¬ badKV kA kB := by unfold badKV; simp [kA, kB, ByteArray.size]
  have e : putE [] kA kB = 0 := by unfold putE; rw [if_neg h, if_neg (by simp)]
  refine ⟨e, ?_⟩
  unfold putL
  rw [e, if_pos rfl]
  rfl
theorem live_get : getM [(kA, kB)] kA = some kB := by simp [getM]
theorem live_good : Good [(kA, kB)] := ⟨by simp, fun x hx => by
  simp at hx
  subst hx
  decide⟩
theorem live_size : sizeM [(kA, kB)] = 5 := by decide
theorem ta : kA.toList = [97] := by rw [ByteArray.toList_eq]; rfl
theorem tb : kB.toList = [98] := by rw [ByteArray.toList_eq]; rfl
theorem live_bytes : bytesM [(kA, kB)] = [1, 97, 0, 1, 98] := by
  simp only [bytesM, List.flatMap_cons, List.flatMap_nil, encP, ta, tb, List.append_nil]
  decide
set_option maxRecDepth 100000 in
set_option maxHeartbeats 2000000 in
theorem live_any (w : World) : Calls Try.prog 10 #[] w fun e w' => e = .returned (.bool true) ∧ Below w.heap.size w w' := by
  have H0 := hide (kvNew_any w.heap.size w (Nat.le_refl _))
  go_enter Try.func10, Try.ntmps10
  go_wp2_with (first
    | (go_at_call 23; refine H0.out.mono ?_; rintro e w1 ⟨p, b, rfl, d1, b1, _⟩; have s1 := b1.size; have H1 := hide (And.intro d1 b1); clear d1 b1; refine stopHere ?_))
  unfold Hid
  go_wp2_with (first
    | (go_at_call 16; refine (put_any w.heap.size p b [] kA kB w1 H1.out.1 s1).mono ?_; rintro e w2 ⟨rfl, t2⟩; rw [live_put.1]; rw [live_put.2] at t2; have s2 := t2.2.below.size; have H2 := hide (And.intro t2.1 (H1.out.2.trans t2.2.below)); clear t2; refine stopHere ?_))
  unfold Hid
  go_wp2_with (first
    | (go_at_call 15; refine (get_any w.heap.size p b _ kA w2 H2.out.1).mono ?_; rintro e w3 ⟨rfl, b3⟩; rw [live_get]; have s3 := b3.size; have H3 := hide (And.intro (H2.out.1.below b3) (H2.out.2.trans (b3.mono (by omega)))); clear b3; refine stopHere ?_))
  unfold Hid
  simp only [kB]
  go_wp2_with (first
    | (go_at_call 14; refine (bytes_any w.heap.size p b _ w3 H3.out.1 live_good).mono ?_; rintro e w4 ⟨v4, rfl, r4, b4⟩; rw [live_bytes] at r4; have s4 := b4.size; have H4 := hide (And.intro (H3.out.1.below b4) (H3.out.2.trans (b4.mono (by omega)))); have hcv := conv_row r4; clear b4 r4; refine stopHere ?_))
  unfold Hid
  have ho5 : ofS [1, 97, 0, 1, 98] = ⟨#[1, 97, 0, 1, 98]⟩ := rfl
  rw [ho5] at hcv
  go_wp2_with (first
    | (go_at_call 25; refine (size_any w.heap.size p b _ w4 H4.out.1 live_good).mono ?_; rintro e w5 ⟨rfl, b5⟩; rw [live_size]; have H5 := hide b5; clear b5))
  go_ret
  exact ⟨rfl, H4.out.2.trans (H5.out.mono (by omega))⟩
theorem put_nil (k v : ByteArray) (w : World) : Calls Try.prog 16 #[.pointer none, .string k, .string v] w fun e w' => e = .returned (.int .i64 1) ∧ w' = w := by
  go_enter Try.func16, Try.ntmps16
  go_wp2_with fail
  go_ret
  exact ⟨rfl, rfl⟩
theorem delete_nil (k : ByteArray) (w : World) : Calls Try.prog 17 #[.pointer none, .string k] w fun e w' => e = .returned (.int .i64 1) ∧ w' = w := by
  go_enter Try.func17, Try.ntmps17
  go_wp2_with fail
  go_ret
  exact ⟨rfl, rfl⟩
theorem get_nil (k : ByteArray) (w : World) : Calls Try.prog 15 #[.pointer none, .string k] w fun e w' => e = .returned (.tuple #[.string ⟨#[]⟩, .bool false]) ∧ w' = w := by
  go_enter Try.func15, Try.ntmps15
  go_wp2_with fail
  go_ret2
  exact ⟨rfl, rfl⟩
theorem scan_nil (k : ByteArray) (w : World) : Calls Try.prog 22 #[.pointer none, .string k] w fun e w' => e = .returned (.slice none 0 0) ∧ w' = w := by
  go_enter Try.func22, Try.ntmps22
  go_wp2_with fail
  go_ret
  exact ⟨rfl, rfl⟩
theorem len_nil (w : World) : Calls Try.prog 21 #[.pointer none] w fun e w' => e = .returned (.int .i64 0) ∧ w' = w := by
  go_enter Try.func21, Try.ntmps21
  go_wp2_with fail
  go_ret
  exact ⟨rfl, rfl⟩
theorem size_nil (w : World) : Calls Try.prog 25 #[.pointer none] w fun e w' => e = .returned (.int .i64 0) ∧ w' = w := by
  go_enter Try.func25, Try.ntmps25
  go_wp2_with fail
  go_ret
  exact ⟨rfl, rfl⟩
theorem fork_nil (w : World) : Calls Try.prog 18 #[.pointer none] w fun e w' => e = .returned (.pointer none) ∧ w' = w := by
  go_enter Try.func18, Try.ntmps18
  go_wp2_with fail
  go_ret
  exact ⟨rfl, rfl⟩
set_option maxRecDepth 100000 in
theorem bytes_nil (w : World) : Calls Try.prog 14 #[.pointer none] w fun e w' => e = .returned (.slice none 0 0) ∧ w' = w := by
  go_enter Try.func14, Try.ntmps14
  go_wp2_with fail
  go_ret
  exact ⟨rfl, rfl⟩
end Go.Proofs.Ytjdcgndcljmieaa
