/- Generic lists of a node: the first of a key. -/
import Derived.Test.YtffjmkngdjbjlaaDoorNr3
namespace Go.Proofs.YtffjmkngdjbjlaaDoor
open Go.RowKit

/-- Yes or no. -/
def Yes (p : Prop) (e : Ending) : Prop := ∃ b : Bool, e = .returned (.bool b) ∧ (b = true ↔ p)
theorem Yes.t {p : Prop} (h : p) : Yes p (.returned (.bool true)) := ⟨true, rfl, fun _ => h, fun _ => rfl⟩
theorem Yes.f {p : Prop} (h : ¬ p) : Yes p (.returned (.bool false)) := ⟨false, rfl, fun e => (by cases e), fun e => absurd e h⟩
theorem results_s {fn : Func} {tmps : Array Value} {w : World} {b : Nat} {u0 u1 u2 z : Value} (h : fn.results = #[.cell 6 39, .tmp 7]) (hp : tmps[6]?.getD undef = .pointer (some ⟨b, 0, none⟩)) (hq : tmps[7]?.getD undef = z) (h0 : w.cell? ⟨b, 0, none⟩ = some u0) (h1 : w.cell? ⟨b, 1, none⟩ = some u1) (h2 : w.cell? ⟨b, 2, none⟩ = some u2) : (results fn tmps).run Tryd.prog w = .ok (.tuple #[.agg #[u0, u1, u2], z]) w := by
  simp [results, h, hp, hq, h0, h1, h2, go_sem, Tryd.isAgg39, Tryd.sizeOf39]
theorem cells_s {w : World} {b : Nat} {u0 u1 u2 : Value} {T : TypeId} (h : w.heap[b]? = some (.cells #[u0, u1, u2] T)) : w.cell? ⟨b, 0, none⟩ = some u0 ∧ w.cell? ⟨b, 1, none⟩ = some u1 ∧ w.cell? ⟨b, 2, none⟩ = some u2 ∧ w.frozen? ⟨b, 0, none⟩ = false ∧ w.frozen? ⟨b, 1, none⟩ = false ∧ w.frozen? ⟨b, 2, none⟩ = false := by simp [World.cell?, World.frozen?, h]
theorem set3_s {w : World} {b : Nat} {u0 u1 u2 v0 v1 v2 : Value} {T : TypeId} (h : w.heap[b]? = some (.cells #[u0, u1, u2] T)) : (((w.setCell ⟨b, 0, none⟩ v0).setCell ⟨b, 1, none⟩ v1).setCell ⟨b, 2, none⟩ v2).heap[b]? = some (.cells #[v0, v1, v2] T) := by
  have h0 := heap_setk (i := 0) (v := v0) h
  have h1 := heap_setk (i := 1) (v := v1) h0
  exact heap_setk (i := 2) (v := v2) h1
theorem bel3_s {n : Nat} {w V : World} {b : Nat} {v0 v1 v2 : Value} (h : Below n w V) (hb : n ≤ b) : Below n w (((V.setCell ⟨b, 0, none⟩ v0).setCell ⟨b, 1, none⟩ v1).setCell ⟨b, 2, none⟩ v2) := ((h.setCell (p := ⟨b, 0, none⟩) hb _).setCell (p := ⟨b, 1, none⟩) hb _).setCell (p := ⟨b, 2, none⟩) hb _
def FirstSub (l : List (ByteArray × Bool × Int)) (s : ByteArray) (e : Ending) : Prop := (∃ x, l.find? (fun x => decide (x.1 = s)) = some x ∧ e = .returned (.tuple #[.agg #[.string x.1, .bool x.2.1, .int .i64 x.2.2], .bool true])) ∨ (l.find? (fun x => decide (x.1 = s)) = none ∧ e = .returned (.tuple #[.agg #[.string ⟨#[]⟩, .bool false, .int .i64 0], .bool false]))
set_option maxRecDepth 100000 in
set_option maxHeartbeats 4000000 in
theorem firstSub_any (ao : Option Addr) (cap : Nat) (l : List (ByteArray × Bool × Int)) (s : ByteArray) (w : World) (hm : SubMem w.heap.size w ao l) :
    Calls Tryd.prog 45 #[.slice ao l.length cap, .func (.func 46) #[] #[], .string s] w fun e w' => FirstSub l s e ∧ Below w.heap.size w w' := by
  obtain ⟨m, hml⟩ : ∃ m, l.length = m := ⟨_, rfl⟩
  have hm6 : m ≤ 1000000 := by have := hm.1; omega
  have HH := hide (And.intro hm hml)
  rw [hml]
  clear hm hml
  go_enter Tryd.func45, Tryd.ntmps45
  go_wp2_with fail
  go_loopw [13] (fun iv wr => ∃ k : Nat, k ≤ m ∧ iv = .int .i64 k ∧ (∀ x ∈ l.take k, x.1 ≠ s) ∧ wr.heap[w.heap.size]? = some (.cells #[.string ⟨#[]⟩, .bool false, .int .i64 0] 39) ∧ Below w.heap.size w wr) (fun iv _ => m - (intOf iv).toNat)
  case atStart => exact ⟨0, Nat.zero_le _, rfl, by simp, World.alloc_heap_new w _, (Below.refl _ w).alloc (Nat.le_refl _) _⟩
  case round =>
    obtain ⟨k, hk, rfl, hno, hbx, hbw⟩ := hrel
    have hzw := hbw.size
    have hlw : w.heap.size < wr.heap.size := (Array.getElem?_eq_some_iff.1 hbx).1
    by_cases hlt : (k : Int) < m
    · obtain ⟨x, hx⟩ : ∃ x, l[k]? = some x := ⟨_, List.getElem?_eq_getElem (by have := HH.out.2; omega)⟩
      obtain ⟨b, off, hbe, hb1, d0, d1, d2⟩ := HH.out.1.2 k x hx
      have e0 := (hbw.cell (p := ⟨b, _, none⟩) hb1).trans d0
      have e1 := (hbw.cell (p := ⟨b, _, none⟩) hb1).trans d1
      have e2 := (hbw.cell (p := ⟨b, _, none⟩) hb1).trans d2
      have hk0 : (0 : Int) ≤ k := by omega
      have hky := sKey_any x (wr.alloc (.cells #[.string x.1, .bool x.2.1, .int .i64 x.2.2] 39))
      have HK := hide hky
      have HI := hide (And.intro hno (And.intro hbx (And.intro hbw hx)))
      clear hno hbx hbw d0 d1 d2 hky hx
      rw [hbe]
      go_wp2_with (go_at_call 46; refine HK.out.mono ?_; rintro e w2 ⟨rfl, b2⟩; refine stopNd ?_)
      unfold Hid
      have b1 : Below wr.heap.size wr w2 := ((Below.refl _ wr).alloc (Nat.le_refl _) _).trans (b2.mono (by simp))
      have f2 : w2.heap[wr.heap.size]? = some (.cells #[.string x.1, .bool x.2.1, .int .i64 x.2.2] 39) := (b2.block _ (by simp)).trans (World.alloc_heap_new wr _)
      obtain ⟨g0, g1, g2, _, _, _⟩ := cells_s f2
      have fb := (b1.block _ hlw).trans HI.out.2.1
      obtain ⟨y0, y1, y2, z0, z1, z2⟩ := cells_s fb
      have B2 : Below w.heap.size w w2 := HI.out.2.2.1.trans (b1.mono hzw)
      have H2 := hide (And.intro B2 fb)
      clear b1 b2 f2 B2
      by_cases hs : x.1 = s
      · have hse : (x.1.toList == s.toList) = true := by rw [hs]; simp
        clear fb
        have HF := hide (find_firstK (·.1) HI.out.1 HI.out.2.2.2 hs)
        go_wp2_with fail
        have hset := set3_s (v0 := .string s) (v1 := .bool x.2.1) (v2 := .int .i64 x.2.2) H2.out.2
        obtain ⟨r0, r1, r2, _⟩ := cells_s hset
        exact bodyPost_ret (results_s rfl rfl rfl r0 r1 r2) rfl ⟨.inl ⟨x, HF.out, by rw [← hs]; rfl⟩, bel3_s H2.out.1 (Nat.le_refl _)⟩
      · have hse : (x.1.toList == s.toList) = false := by
          rw [beq_eq_false_iff_ne]
          exact fun e => hs (ba_ext e)
        clear fb
        go_wp2_with fail
        refine ⟨⟨k + 1, by omega, by simp, fun y hy => ?_, H2.out.2, H2.out.1⟩, by simp [intOf]; omega⟩
        rw [List.take_add_one, HI.out.2.2.2] at hy
        rcases List.mem_append.1 hy with hy | hy
        · exact HI.out.1 y hy
        · simp at hy
          rw [hy]
          exact hs
    · have hkm : k = m := by omega
      have hnf : l.find? (fun x => decide (x.1 = s)) = none := by
        rw [List.find?_eq_none]
        intro x hx
        rw [List.take_of_length_le (by have := HH.out.2; omega)] at hno
        simpa using hno x hx
      have HN := hide (And.intro hnf (And.intro hbx hbw))
      obtain ⟨y0, y1, y2, z0, z1, z2⟩ := cells_s hbx
      have H2 := hide (And.intro hbw hbx)
      clear hno hbx hbw hnf
      go_wp2_with fail
      have hset := set3_s (v0 := .string ⟨#[]⟩) (v1 := .bool false) (v2 := .int .i64 0) H2.out.2
      have b3 := bel3_s (v0 := .string ⟨#[]⟩) (v1 := .bool false) (v2 := .int .i64 0) H2.out.1 (Nat.le_refl _)
      have h2 := (Below.heap_alloc (((wr.setCell ⟨w.heap.size, 0, none⟩ (.string ⟨#[]⟩)).setCell ⟨w.heap.size, 1, none⟩ (.bool false)).setCell ⟨w.heap.size, 2, none⟩ (.int .i64 0)) (.cells #[.string ⟨#[]⟩, .bool false, .int .i64 0] 39) w.heap.size (by simpa using hlw)).trans hset
      obtain ⟨r0, r1, r2, _⟩ := cells_s h2
      exact bodyPost_ret (results_s rfl rfl rfl r0 r1 r2) rfl ⟨.inr ⟨HN.out.1, rfl⟩, b3.alloc b3.size _⟩
theorem results_i {fn : Func} {tmps : Array Value} {w : World} {b : Nat} {u0 u1 u2 z : Value} (h : fn.results = #[.cell 6 50, .tmp 7]) (hp : tmps[6]?.getD undef = .pointer (some ⟨b, 0, none⟩)) (hq : tmps[7]?.getD undef = z) (h0 : w.cell? ⟨b, 0, none⟩ = some u0) (h1 : w.cell? ⟨b, 1, none⟩ = some u1) (h2 : w.cell? ⟨b, 2, none⟩ = some u2) : (results fn tmps).run Tryd.prog w = .ok (.tuple #[.agg #[u0, u1, u2], z]) w := by
  simp [results, h, hp, hq, h0, h1, h2, go_sem, Tryd.isAgg50, Tryd.sizeOf50]
theorem cells_i {w : World} {b : Nat} {u0 u1 u2 : Value} {T : TypeId} (h : w.heap[b]? = some (.cells #[u0, u1, u2] T)) : w.cell? ⟨b, 0, none⟩ = some u0 ∧ w.cell? ⟨b, 1, none⟩ = some u1 ∧ w.cell? ⟨b, 2, none⟩ = some u2 ∧ w.frozen? ⟨b, 0, none⟩ = false ∧ w.frozen? ⟨b, 1, none⟩ = false ∧ w.frozen? ⟨b, 2, none⟩ = false := by simp [World.cell?, World.frozen?, h]
theorem set3_i {w : World} {b : Nat} {u0 u1 u2 v0 v1 v2 : Value} {T : TypeId} (h : w.heap[b]? = some (.cells #[u0, u1, u2] T)) : (((w.setCell ⟨b, 0, none⟩ v0).setCell ⟨b, 1, none⟩ v1).setCell ⟨b, 2, none⟩ v2).heap[b]? = some (.cells #[v0, v1, v2] T) := by
  have h0 := heap_setk (i := 0) (v := v0) h
  have h1 := heap_setk (i := 1) (v := v1) h0
  exact heap_setk (i := 2) (v := v2) h1
theorem bel3_i {n : Nat} {w V : World} {b : Nat} {v0 v1 v2 : Value} (h : Below n w V) (hb : n ≤ b) : Below n w (((V.setCell ⟨b, 0, none⟩ v0).setCell ⟨b, 1, none⟩ v1).setCell ⟨b, 2, none⟩ v2) := ((h.setCell (p := ⟨b, 0, none⟩) hb _).setCell (p := ⟨b, 1, none⟩) hb _).setCell (p := ⟨b, 2, none⟩) hb _
def FirstItem (l : List (ByteArray × ByteArray × ByteArray)) (s : ByteArray) (e : Ending) : Prop := (∃ x, l.find? (fun x => decide (x.1 = s)) = some x ∧ e = .returned (.tuple #[.agg #[.string x.1, .string x.2.1, .string x.2.2], .bool true])) ∨ (l.find? (fun x => decide (x.1 = s)) = none ∧ e = .returned (.tuple #[.agg #[.string ⟨#[]⟩, .string ⟨#[]⟩, .string ⟨#[]⟩], .bool false]))
set_option maxRecDepth 100000 in
set_option maxHeartbeats 4000000 in
theorem firstItem_any (ao : Option Addr) (cap : Nat) (l : List (ByteArray × ByteArray × ByteArray)) (s : ByteArray) (w : World) (hm : ItMem w.heap.size w ao l) :
    Calls Tryd.prog 62 #[.slice ao l.length cap, .func (.func 44) #[] #[], .string s] w fun e w' => FirstItem l s e ∧ Below w.heap.size w w' := by
  obtain ⟨m, hml⟩ : ∃ m, l.length = m := ⟨_, rfl⟩
  have hm6 : m ≤ 1000000 := by have := hm.1; omega
  have HH := hide (And.intro hm hml)
  rw [hml]
  clear hm hml
  go_enter Tryd.func62, Tryd.ntmps62
  go_wp2_with fail
  go_loopw [13] (fun iv wr => ∃ k : Nat, k ≤ m ∧ iv = .int .i64 k ∧ (∀ x ∈ l.take k, x.1 ≠ s) ∧ wr.heap[w.heap.size]? = some (.cells #[.string ⟨#[]⟩, .string ⟨#[]⟩, .string ⟨#[]⟩] 50) ∧ Below w.heap.size w wr) (fun iv _ => m - (intOf iv).toNat)
  case atStart => exact ⟨0, Nat.zero_le _, rfl, by simp, World.alloc_heap_new w _, (Below.refl _ w).alloc (Nat.le_refl _) _⟩
  case round =>
    obtain ⟨k, hk, rfl, hno, hbx, hbw⟩ := hrel
    have hzw := hbw.size
    have hlw : w.heap.size < wr.heap.size := (Array.getElem?_eq_some_iff.1 hbx).1
    by_cases hlt : (k : Int) < m
    · obtain ⟨x, hx⟩ : ∃ x, l[k]? = some x := ⟨_, List.getElem?_eq_getElem (by have := HH.out.2; omega)⟩
      obtain ⟨b, off, hbe, hb1, d0, d1, d2⟩ := HH.out.1.2 k x hx
      have e0 := (hbw.cell (p := ⟨b, _, none⟩) hb1).trans d0
      have e1 := (hbw.cell (p := ⟨b, _, none⟩) hb1).trans d1
      have e2 := (hbw.cell (p := ⟨b, _, none⟩) hb1).trans d2
      have hk0 : (0 : Int) ≤ k := by omega
      have hky := iKey_any x (wr.alloc (.cells #[.string x.1, .string x.2.1, .string x.2.2] 50))
      have HK := hide hky
      have HI := hide (And.intro hno (And.intro hbx (And.intro hbw hx)))
      clear hno hbx hbw d0 d1 d2 hky hx
      rw [hbe]
      go_wp2_with (go_at_call 44; refine HK.out.mono ?_; rintro e w2 ⟨rfl, b2⟩; refine stopNd ?_)
      unfold Hid
      have b1 : Below wr.heap.size wr w2 := ((Below.refl _ wr).alloc (Nat.le_refl _) _).trans (b2.mono (by simp))
      have f2 : w2.heap[wr.heap.size]? = some (.cells #[.string x.1, .string x.2.1, .string x.2.2] 50) := (b2.block _ (by simp)).trans (World.alloc_heap_new wr _)
      obtain ⟨g0, g1, g2, _, _, _⟩ := cells_i f2
      have fb := (b1.block _ hlw).trans HI.out.2.1
      obtain ⟨y0, y1, y2, z0, z1, z2⟩ := cells_i fb
      have B2 : Below w.heap.size w w2 := HI.out.2.2.1.trans (b1.mono hzw)
      have H2 := hide (And.intro B2 fb)
      clear b1 b2 f2 B2
      by_cases hs : x.1 = s
      · have hse : (x.1.toList == s.toList) = true := by rw [hs]; simp
        clear fb
        have HF := hide (find_firstK (·.1) HI.out.1 HI.out.2.2.2 hs)
        go_wp2_with fail
        have hset := set3_i (v0 := .string s) (v1 := .string x.2.1) (v2 := .string x.2.2) H2.out.2
        obtain ⟨r0, r1, r2, _⟩ := cells_i hset
        exact bodyPost_ret (results_i rfl rfl rfl r0 r1 r2) rfl ⟨.inl ⟨x, HF.out, by rw [← hs]; rfl⟩, bel3_i H2.out.1 (Nat.le_refl _)⟩
      · have hse : (x.1.toList == s.toList) = false := by
          rw [beq_eq_false_iff_ne]
          exact fun e => hs (ba_ext e)
        clear fb
        go_wp2_with fail
        refine ⟨⟨k + 1, by omega, by simp, fun y hy => ?_, H2.out.2, H2.out.1⟩, by simp [intOf]; omega⟩
        rw [List.take_add_one, HI.out.2.2.2] at hy
        rcases List.mem_append.1 hy with hy | hy
        · exact HI.out.1 y hy
        · simp at hy
          rw [hy]
          exact hs
    · have hkm : k = m := by omega
      have hnf : l.find? (fun x => decide (x.1 = s)) = none := by
        rw [List.find?_eq_none]
        intro x hx
        rw [List.take_of_length_le (by have := HH.out.2; omega)] at hno
        simpa using hno x hx
      have HN := hide (And.intro hnf (And.intro hbx hbw))
      obtain ⟨y0, y1, y2, z0, z1, z2⟩ := cells_i hbx
      have H2 := hide (And.intro hbw hbx)
      clear hno hbx hbw hnf
      go_wp2_with fail
      have hset := set3_i (v0 := .string ⟨#[]⟩) (v1 := .string ⟨#[]⟩) (v2 := .string ⟨#[]⟩) H2.out.2
      have b3 := bel3_i (v0 := .string ⟨#[]⟩) (v1 := .string ⟨#[]⟩) (v2 := .string ⟨#[]⟩) H2.out.1 (Nat.le_refl _)
      have h2 := (Below.heap_alloc (((wr.setCell ⟨w.heap.size, 0, none⟩ (.string ⟨#[]⟩)).setCell ⟨w.heap.size, 1, none⟩ (.string ⟨#[]⟩)).setCell ⟨w.heap.size, 2, none⟩ (.string ⟨#[]⟩)) (.cells #[.string ⟨#[]⟩, .string ⟨#[]⟩, .string ⟨#[]⟩] 50) w.heap.size (by simpa using hlw)).trans hset
      obtain ⟨r0, r1, r2, _⟩ := cells_i h2
      exact bodyPost_ret (results_i rfl rfl rfl r0 r1 r2) rfl ⟨.inr ⟨HN.out.1, rfl⟩, b3.alloc b3.size _⟩
end Go.Proofs.YtffjmkngdjbjlaaDoor
