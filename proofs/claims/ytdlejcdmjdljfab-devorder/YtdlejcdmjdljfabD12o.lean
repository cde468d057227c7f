/- sector: one of some bytes; two devices that are the same; a deed on both. -/
import Derived.Test.YtdlejcdmjdljfabD6
namespace Go.Proofs.Ytdlejcdmjdljfab
open Go.RowKit Go.Shelf

/-- The first k bytes are c. -/
def fillS (c : UInt8) (k : Nat) : Sec := List.replicate k c ++ List.replicate (64 - k) 0
theorem fillS_len (c : UInt8) (k : Nat) (h : k ≤ 64) : (fillS c k).length = 64 := by simp [fillS]; omega
theorem fillS_succ (c : UInt8) (k : Nat) (h : k < 64) : (secA (fillS c k)).setIfInBounds k (.int .u8 c.toNat) = secA (fillS c (k + 1)) := by
  apply arr_of_list
  have e : List.replicate (64 - k) (0 : UInt8) = 0 :: List.replicate (64 - (k + 1)) 0 := by rw [← List.replicate_succ]; congr 1; omega
  simp only [secA, Lib.byteCells, fillS, List.setIfInBounds_toArray, List.toList_toArray, e, List.map_append, List.map_cons, List.map_replicate]
  rw [List.set_append_right _ _ (by simp)]
  simp only [List.length_replicate, Nat.sub_self, List.set_cons_zero]
  rw [List.replicate_succ', List.append_assoc]
  rfl
def allC (c : UInt8) : Sec := fillS c 64
theorem results_arr {fn : Func} {tmps : Array Value} {w : World} {b : Nat} {s : Sec} {T : TypeId} {z : Value} {d : TypeDesc} {m : Nat} (h : fn.results = #[.cell 2 T]) (hi : (Try.prog.info? T).map (fun i => (i.zero, i.size, i.bytes)) = some (some z, 64, m)) (hu : Try.prog.underlying T = some d) (hd : d.isRow = true) (hp : tmps[2]?.getD undef = .pointer (some ⟨b, 0, none⟩)) (hs : s.length = 64) (hb : w.heap[b]? = some (.cells (secA s) T)) : (results fn tmps).run Try.prog w = .ok (.agg (secA s)) w := by
  have hl := run_load_row (P := Try.prog) (w := w) (cs := secA s) (g := b) (ty' := T) hi hu hd (by rw [secA_size, hs]) hb
  simp only [Instr.loadAt, Instr.sureAddr, Sem.run_bind, Sem.run_pure, Result.andThen_ok] at hl
  simp [results, h, hp, hl, asAddr]
set_option maxHeartbeats 1000000 in
theorem sector_any (c : UInt8) (w : World) : Calls Try.prog 11 #[.int .u8 c.toNat] w fun e w' => e = .returned (.agg (secA (allC c))) ∧ Below w.heap.size w w' := by
  obtain ⟨W1, hW1⟩ : ∃ W1, w.alloc (.cells (secA sec0) 28) = W1 := ⟨_, rfl⟩
  have f1 : W1.heap[w.heap.size]? = some (.cells (secA sec0) 28) := by rw [← hW1]; exact World.alloc_heap_new w _
  have hB1 : Below w.heap.size w W1 := by rw [← hW1]; exact (Below.refl _ w).alloc (Nat.le_refl _) _
  have HF := hide (And.intro f1 hB1)
  clear f1 hB1
  go_enter Try.func11, Try.ntmps11
  go_wp2_with (refine l_alloc _ infoSecA rfl rfl ?_; rw [show (Lib.byteCells sec0).toArray = secA sec0 from rfl, hW1])
  go_loopw [3] (fun j wr => ∃ k : Nat, k ≤ 64 ∧ j = .int .i64 k ∧ wr.heap[w.heap.size]? = some (.cells (secA (fillS c k)) 28) ∧ Below w.heap.size w wr) (fun j _ => 64 - (intOf j).toNat)
  case atStart => exact ⟨0, Nat.zero_le _, rfl, HF.out.1, HF.out.2⟩
  case round =>
    obtain ⟨k, hk, rfl, e1, hbw⟩ := hrel
    have hw1 : IntKind.i64.wrap ((k : Int) + 1) = k + 1 := by rw [IntKind.wrap_i64]; omega
    by_cases hlt : k < 64
    · have hlen := fillS_len c k hk
      have hc : wr.cell? ⟨w.heap.size, k, none⟩ = some ((secA (fillS c k))[k]'(by rw [secA_size, hlen]; exact hlt)) := by
        rw [cell_of_row _ _ _ _ _ _ e1]
        simp
      have hfz : wr.frozen? ⟨w.heap.size, k, none⟩ = false := by simp [World.frozen?, e1]
      have hs := heap_setCell_same wr _ k _ _ (.int .u8 c.toNat) e1
      rw [fillS_succ c k hlt] at hs
      obtain ⟨u, hu⟩ : ∃ u, (secA (fillS c k))[k]'(by rw [secA_size, hlen]; exact hlt) = u := ⟨_, rfl⟩
      rw [hu] at hc
      have HE := hide (And.intro hs (hbw.setCell (p := ⟨w.heap.size, k, none⟩) (Nat.le_refl _) (.int .u8 c.toNat)))
      have hkb : (k : Int) < 64 := by omega
      clear hs e1 hbw hu
      go_wp2_with fail
      go_roundw
      case rel => exact ⟨k + 1, by omega, by simp, HE.out.1, HE.out.2⟩
      case measure => simp [intOf]; omega
    · obtain rfl : k = 64 := by omega
      have hlo := run_load_row (P := Try.prog) (w := wr) (cs := secA (fillS c 64)) (g := w.heap.size) (ty' := 28) infoSecA undSecA rfl (by rw [secA_size, fillS_len c 64 hk]) e1
      obtain ⟨W3, s1, s2, s3, s4, s5⟩ := run_store_sec (s' := fillS c 64) infoSecA e1 (fillS_len c 64 hk) (fillS_len c 64 hk)
      have HL := hide hlo
      have HS := hide s1
      have HE := hide (And.intro s2 (hbw.trans s5))
      clear hlo s1 s2 s3 s4 s5 e1 hbw
      go_wp2_with (first | (refine l_load _ HL.out rfl rfl rfl ?_) | (refine l_store _ HS.out rfl rfl rfl rfl ?_; refine stopHere ?_))
      unfold Hid
      go_wp2_with fail
      exact bodyPost_ret (results_arr rfl infoSecA undSecA rfl rfl (fillS_len c 64 hk) HE.out.1) rfl ⟨rfl, HE.out.2⟩
end Go.Proofs.Ytdlejcdmjdljfab
