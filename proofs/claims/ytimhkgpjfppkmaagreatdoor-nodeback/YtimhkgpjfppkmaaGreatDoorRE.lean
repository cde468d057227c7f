/- The list of variables of NodeBack: what it says of a world; a world in which it holds. Bytes that are handed in, as they are read. Nodes and edits that are handed in, as they are read. -/
import Derived.Test.YtimhkgpjfppkmaaGreatDoorQS
import Derived.Test.YtimhkgpjfppkmaaGreatDoorAt0
import Derived.Test.YtimhkgpjfppkmaaGreatDoorRows
import Derived.Test.YtimhkgpjfppkmaaGreatDoorShelfV
import Derived.LaidLaws
import Derived.ChangeSame
import Derived.OpenShut
import Derived.Lib.LaidU8T
import Derived.Lib.LaidTab
import Derived.Shelf.Vars
import Derived.Test.YtimhkgpjfppkmaaGreatDoorQJ
import Derived.ChangeSlices
import Derived.Test.YtimhkgpjfppkmaaGreatDoorRM
import Derived.Deep.Slices
import Derived.ChangeArms
namespace Go.Proofs.YtimhkgpjfppkmaaGreatDoor
open Go.RowKit

def textLaid : List (String × DataW Unit) := [("math/bits.deBruijn32tab", Rows.laid_math_bits_deBruijn32tab), ("math/bits.deBruijn64tab", Rows.laid_math_bits_deBruijn64tab), ("internal/strconv.uint64pow10", Rows.laid_internal_strconv_uint64pow10), ("unicode/utf8.acceptRanges", Rows.laid_unicode_utf8_acceptRanges), ("strconv.ErrRange", Rows.laid_strconv_ErrRange), ("strconv.ErrSyntax", Rows.laid_strconv_ErrSyntax), ("unicode/utf8.first", Rows.laid_unicode_utf8_first)]
theorem first_eq : Rows.laid_unicode_utf8_first = Lib.firstData := by kernel_rfl
theorem accept_eq : (Rows.laid_unicode_utf8_acceptRanges : DataW Unit) = Lib.acceptData := by kernel_rfl
theorem pow_eq : (Rows.laid_internal_strconv_uint64pow10 : DataW Unit) = Lib.tabData .u64 Lib.pow10Tab := by kernel_rfl
theorem max_lt {W : World} (h : MaxG W) : 5 < W.heap.size := by
  obtain ⟨m, hm⟩ := h
  exact World.block_lt_of_cell? W _ hm
theorem text_laid {W : World} (h : laidMet Tryz.prog textLaid W) (hsh : W.ShapedOpen Tryz.prog) : Glob W := by
  have hM : MaxG W := cell_of_shapedOpen_int (P := Tryz.prog) (g := 5) (t := 3) (zero := #[.int .i64 0]) hsh (of_decide_eq_true (by kernel_rfl)) (by kernel_rfl) rfl (by kernel_rfl) (by kernel_rfl) Tryz.underlying3
  refine ⟨hM, max_lt hM, ?_⟩
  have h1 := Lib.laidMet.reads h (n := "unicode/utf8.first") (d := Rows.laid_unicode_utf8_first) (by simp [textLaid])
  have h2 := Lib.laidMet.reads h (n := "unicode/utf8.acceptRanges") (d := Rows.laid_unicode_utf8_acceptRanges) (by simp [textLaid])
  rw [first_eq] at h1
  rw [accept_eq] at h2
  exact utf8Tabs_of_readsT (U8Types.of196 Tryz.lays196) ⟨by kernel_rfl, by kernel_rfl, by kernel_rfl, by kernel_rfl, by kernel_rfl, by kernel_rfl, by kernel_rfl⟩ h1 h2
theorem trod_iface {H : Type} {enc : TypeId × Value → H} {P : Program} {w : World} {base : Nat} {sp : Nat → Bool} {held : Bool} {fuel : Nat} {t : TypeId} {ms : Array (String × TypeId)} {cs : List Value} {nm : String} {d : DataW H} {ps : List MemPlace} (ht : P.underlying t = some (.interface ms)) (h : DataW.trod enc P w base sp held fuel t cs = some (.iface nm d, ps)) : ∃ u v, cs = [.iface u v] := by
  cases fuel with
  | zero => simp [DataW.trod] at h
  | succ n =>
    unfold DataW.trod at h
    rw [ht] at h
    split at h <;> simp_all
theorem err_reads {W : World} {n : String} {nm : String} {d : DataW Unit} {g : Nat} {t : TypeId} {ms : Array (String × TypeId)} (hg : Tryz.prog.globalNamed n = some g) (hty : (Tryz.prog.globals[g]?).map (·.type) = some t) (ht : Tryz.prog.underlying t = some (.interface ms)) (h : Lib.VarReads Tryz.prog W n (.iface nm d)) : ∃ u v, W.cell? ⟨g, 0, none⟩ = some (.iface u v) := by
  obtain ⟨g', t', cs, fuel, p, hg', hty', hvar, hd⟩ := h
  obtain rfl := Option.some.inj (hg.symm.trans hg')
  obtain rfl := Option.some.inj (hty.symm.trans hty')
  obtain ⟨u, v, hc⟩ := trod_iface ht hd
  refine ⟨u, v, ?_⟩
  have := World.var?_cell hg hvar 0
  rw [this, ← Array.getElem?_toList, hc]
  rfl
theorem text_laidE {W : World} (h : laidMet Tryz.prog textLaid W) : GlobE W := by
  have h1 := Lib.laidMet.reads h (n := "strconv.ErrSyntax") (d := Rows.laid_strconv_ErrSyntax) (by simp [textLaid])
  have h2 := Lib.laidMet.reads h (n := "strconv.ErrRange") (d := Rows.laid_strconv_ErrRange) (by simp [textLaid])
  have h3 := Lib.laidMet.reads h (n := "internal/strconv.uint64pow10") (d := Rows.laid_internal_strconv_uint64pow10) (by simp [textLaid])
  rw [pow_eq] at h3
  refine ⟨?_, ?_, ?_⟩
  · exact err_reads (t := 45) (by kernel_rfl) (by kernel_rfl) Tryz.underlying45 h1
  · exact err_reads (t := 45) (by kernel_rfl) (by kernel_rfl) Tryz.underlying45 h2
  · obtain ⟨g, t, cs, fuel, p, hg, hty, hvar, hd⟩ := h3
    have hg0 : Tryz.prog.globalNamed "internal/strconv.uint64pow10" = some 0 := by kernel_rfl
    obtain rfl := Option.some.inj (hg0.symm.trans hg)
    have ht0 : (Tryz.prog.globals[0]?).map (·.type) = some 136 := by kernel_rfl
    obtain rfl := Option.some.inj (ht0.symm.trans hty)
    unfold Lib.TabIs
    rw [hvar, ← Lib.cells_of_tab (t := 136) (e := 121) (n := 20) (by kernel_rfl) (by kernel_rfl) (by kernel_rfl) (by kernel_rfl) hd]
def lay (cs : Array Value) : Obj → Obj
  | .cells _ t frozen => .cells cs t frozen
  | o => o
def firstCs : Array Value := (Lib.firstTab.map fun z => Value.int .u8 z).toArray
def acceptCs : Array Value := ((List.range 16).flatMap fun i => [Value.int .u8 (Lib.accLo i), Value.int .u8 (Lib.accHi i)]).toArray
def powCs : Array Value := (Lib.pow10Tab.map fun z => Value.int .u64 z).toArray
def litOf : DataW Unit → Value
  | .lit (.int k n) => .int k n
  | _ => .nilIface
def tabOf : DataW Unit → Array Value
  | .agg l => (l.map litOf).toArray
  | _ => #[]
def d32Cs : Array Value := tabOf Rows.laid_math_bits_deBruijn32tab
def d64Cs : Array Value := tabOf Rows.laid_math_bits_deBruijn64tab
def errCs (b : Nat) : Array Value := #[.iface 167 (.pointer (some ⟨b, 0, none⟩))]
def rangeB : ByteArray := ⟨#[118, 97, 108, 117, 101, 32, 111, 117, 116, 32, 111, 102, 32, 114, 97, 110, 103, 101]⟩
def syntaxB : ByteArray := ⟨#[105, 110, 118, 97, 108, 105, 100, 32, 115, 121, 110, 116, 97, 120]⟩
def heapB (h : Array Obj) : Array Obj := ((((((((h.modify 1 (lay firstCs)).modify 2 (lay acceptCs)).modify 0 (lay powCs)).modify 3 (lay d32Cs)).modify 4 (lay d64Cs)).modify 7 (lay (errCs h.size))).modify 6 (lay (errCs (h.size + 1)))).push (.cells #[.string rangeB] 169)).push (.cells #[.string syntaxB] 169)
theorem text_met (os : Os) (args : Array Value) : laidMet Tryz.prog textLaid (({ World.holding Tryz.prog os ⟨#[], #[], []⟩ with heap := heapB (World.holding Tryz.prog os ⟨#[], #[], []⟩).heap } : World).forCall (fun _ _ => 0) ⟨#[], args, []⟩).memory :=
  laidMet_of_run' 8 (by kernel_rfl) (by kernel_rfl)
end Go.Proofs.YtimhkgpjfppkmaaGreatDoor
namespace Go.Proofs.YtimhkgpjfppkmaaGreatDoor
open Go.RowKit Go.ChangeShapes Go.WideShapes

theorem bytes_read {H : Type} {enc : TypeId × Value → H} {W : World} {base : Nat} {held : Bool} {fuel : Nat} {v : Value} {x : DataW H × List MemPlace} (h : DataW.trod enc Tryz.prog W base (fun _ => true) held fuel 39 [v] = some x) :
    ∃ ba l cap, v = .slice ba l.length cap ∧ l.length ≤ cap ∧ BytesIn W.heap.size W ba l := by
  rcases open_ints Tryz.underlying39 Tryz.underlying5 (by kernel_rfl) h with ⟨hcs, _⟩ | ⟨a, len, cap, zs, hcs, _, hl, _, hz, _, hcell, hwz⟩
  · cases hcs
    exact ⟨none, [], 0, rfl, Nat.le_refl _, fun j c hj => by simp at hj⟩
  · cases hcs
    simp only [if_true] at hz
    refine ⟨some a, (zs.take len).map (fun z => UInt8.ofNat z.toNat), cap, by simp [List.length_take]; omega, by simp [List.length_take]; omega, fun j c hj => ?_⟩
    have hlt : j < len := by
      have := (List.getElem?_eq_some_iff.1 hj).1
      simp [List.length_take] at this
      omega
    obtain ⟨b, o, rfl, hc⟩ := ints_at hcell (by omega)
    have hcj := hc j (by omega)
    refine ⟨b, o, rfl, World.block_lt_of_cell? W _ hcj, ?_⟩
    rw [hcj]
    have hzj : zs[j]? = some (zs.getD j 0) := by
      rw [List.getD_eq_getElem?_getD, List.getElem?_eq_getElem (by omega)]
      rfl
    have hw := hwz _ (List.mem_of_getElem? hzj)
    have hb := bounds_u8 hw
    rw [List.getElem?_map, List.getElem?_take_of_lt hlt, hzj] at hj
    cases hj
    have : ((UInt8.ofNat (zs.getD j 0).toNat).toNat : Int) = zs.getD j 0 := by
      rw [UInt8.toNat_ofNat']
      omega
    rw [this]
end Go.Proofs.YtimhkgpjfppkmaaGreatDoor
namespace Go.Proofs.YtimhkgpjfppkmaaGreatDoor
open Go.RowKit Go.Deep Go.ChangeShapes Go.WideShapes

section
variable {H : Type} {enc : TypeId × Value → H} {W : World} {fuel : Nat}
theorem n_cells9 : Tryz.prog.cellsOf 9 = 1 := by kernel_rfl
theorem n_cells3 : Tryz.prog.cellsOf 3 = 1 := by kernel_rfl
theorem n_cells4 : Tryz.prog.cellsOf 4 = 1 := by kernel_rfl
theorem n_cellsRole : Tryz.prog.cellsOf 53 = 1 := by kernel_rfl
theorem n_cellsAcc : Tryz.prog.cellsOf 22 = 1 := by kernel_rfl
theorem u8_nat {z : Int} (w : (Lit.int .u8 z).wf = true) : ∃ k : Nat, z = k ∧ k < 256 := by
  have m0 : IntKind.u8.min = 0 := rfl
  have m1 : IntKind.u8.max = 255 := rfl
  simp [Lit.wf, m0, m1] at w
  exact ⟨z.toNat, by omega, by omega⟩
theorem n_cellsAff : Tryz.prog.cellsOf 55 = 2 := by kernel_rfl
theorem n_cellsSlAff : Tryz.prog.cellsOf 23 = 1 := by kernel_rfl
theorem n_cellsSub : Tryz.prog.cellsOf 58 = 3 := by kernel_rfl
theorem n_cellsSlSub : Tryz.prog.cellsOf 24 = 1 := by kernel_rfl
theorem n_cellsItem : Tryz.prog.cellsOf 61 = 3 := by kernel_rfl
theorem n_cellsSlItem : Tryz.prog.cellsOf 25 = 1 := by kernel_rfl
theorem read_Aff {cs : List Value} {x : DataW H × List MemPlace} (h : DataW.trod enc Tryz.prog W 0 (fun _ => true) true fuel 55 cs = some x) (hl : cs.length = 2) :
    ∃ y : ByteArray × Nat, cs = [.string y.1, .int .u8 y.2] ∧ Fits y.1 := by
  match cs, hl with
  | [c0, c1], _ =>
  obtain ⟨xs, m, _, rfl, _, hlen, hf⟩ := DataW.trod_struct Tryz.underlying55 h
  match xs, hlen with
  | [y0, y1], _ =>
  have h0 : DataW.trod enc Tryz.prog W 0 (fun _ => true) true m 9 _ = some y0 := hf 0 _ rfl
  obtain ⟨z0, e0, _, w0⟩ := DataW.trod_string Tryz.underlying9 h0
  have h1 : DataW.trod enc Tryz.prog W 0 (fun _ => true) true m 53 _ = some y1 := hf 1 _ rfl
  obtain ⟨v1, e1, _, w1⟩ := DataW.trod_int Tryz.underlying53 h1
  obtain ⟨z1, rfl, _⟩ := u8_nat w1
  simp [n_cells9, n_cellsRole] at e0 e1
  subst e0 e1
  unfold maxLen at w0
  exact ⟨(z0, z1), rfl, w0⟩
theorem read_Sub {cs : List Value} {x : DataW H × List MemPlace} (h : DataW.trod enc Tryz.prog W 0 (fun _ => true) true fuel 58 cs = some x) (hl : cs.length = 3) :
    ∃ y : ByteArray × Bool × Int, cs = [.string y.1, .bool y.2.1, .int .i64 y.2.2] ∧ Fits y.1 := by
  match cs, hl with
  | [c0, c1, c2], _ =>
  obtain ⟨xs, m, _, rfl, _, hlen, hf⟩ := DataW.trod_struct Tryz.underlying58 h
  match xs, hlen with
  | [y0, y1, y2], _ =>
  have h0 : DataW.trod enc Tryz.prog W 0 (fun _ => true) true m 9 _ = some y0 := hf 0 _ rfl
  obtain ⟨z0, e0, _, w0⟩ := DataW.trod_string Tryz.underlying9 h0
  have h1 : DataW.trod enc Tryz.prog W 0 (fun _ => true) true m 4 _ = some y1 := hf 1 _ rfl
  obtain ⟨z1, e1, _⟩ := DataW.trod_bool Tryz.underlying4 h1
  have h2 : DataW.trod enc Tryz.prog W 0 (fun _ => true) true m 3 _ = some y2 := hf 2 _ rfl
  obtain ⟨z2, e2, _, w2⟩ := DataW.trod_int Tryz.underlying3 h2
  simp [n_cells3, n_cells4, n_cells9] at e0 e1 e2
  subst e0 e1 e2
  unfold maxLen at w0
  exact ⟨(z0, z1, z2), rfl, w0⟩
theorem read_Item {cs : List Value} {x : DataW H × List MemPlace} (h : DataW.trod enc Tryz.prog W 0 (fun _ => true) true fuel 61 cs = some x) (hl : cs.length = 3) :
    ∃ y : ByteArray × ByteArray × ByteArray, cs = [.string y.1, .string y.2.1, .string y.2.2] ∧ Fits y.1 ∧ Fits y.2.1 ∧ Fits y.2.2 := by
  match cs, hl with
  | [c0, c1, c2], _ =>
  obtain ⟨xs, m, _, rfl, _, hlen, hf⟩ := DataW.trod_struct Tryz.underlying61 h
  match xs, hlen with
  | [y0, y1, y2], _ =>
  have h0 : DataW.trod enc Tryz.prog W 0 (fun _ => true) true m 9 _ = some y0 := hf 0 _ rfl
  obtain ⟨z0, e0, _, w0⟩ := DataW.trod_string Tryz.underlying9 h0
  have h1 : DataW.trod enc Tryz.prog W 0 (fun _ => true) true m 9 _ = some y1 := hf 1 _ rfl
  obtain ⟨z1, e1, _, w1⟩ := DataW.trod_string Tryz.underlying9 h1
  have h2 : DataW.trod enc Tryz.prog W 0 (fun _ => true) true m 9 _ = some y2 := hf 2 _ rfl
  obtain ⟨z2, e2, _, w2⟩ := DataW.trod_string Tryz.underlying9 h2
  simp [n_cells9] at e0 e1 e2
  subst e0 e1 e2
  unfold maxLen at w0 w1 w2
  exact ⟨(z0, z1, z2), rfl, ⟨w0, w1, w2⟩⟩
def cells_Aff (y : ByteArray × Nat) : List Value := [.string y.1, .int .u8 y.2]
theorem list_Aff {v : Value} {d : DataW H} {pl : List MemPlace} (h : DataW.trod enc Tryz.prog W 0 (fun _ => true) true fuel 23 [v] = some (d, pl)) :
    ∃ (ao : Option Addr) (l : List (ByteArray × Nat)) (cap : Nat), v = .slice ao l.length cap ∧ l.length ≤ cap ∧ ∀ (i : Nat) (x : ByteArray × Nat), l[i]? = some x → (Fits x.1) ∧ ∃ b off, ao = some ⟨b, off, none⟩ ∧ b < W.heap.size ∧ ∀ j (h : j < 2), W.cell? ⟨b, off + i * 2 + j, none⟩ = some ((cells_Aff x)[j]'h) := by
  rcases open_slice Tryz.underlying23 h with ⟨hcs, _⟩ | ⟨a, len, cap, m, n, D, Pl, hcs, _, hl, hcm, hm, hx, hc⟩
  · cases hcs
    exact ⟨none, [], 0, rfl, by simp, fun k x hk => by simp at hk⟩
  · cases hcs
    simp only [if_true] at hm
    subst hm
    rw [n_cellsAff] at hc
    obtain ⟨f, hf⟩ := choose_lt (n := len) (p := fun i (y : ByteArray × Nat) => (Fits y.1) ∧ ∀ j (h : j < 2), W.cell? ((a.add (i * 2)).add j) = some ((cells_Aff y)[j]'h)) (fun i hi => by
      obtain ⟨cs', h1, h2⟩ := hc i (by omega)
      obtain ⟨_, hl', hg⟩ := World.cells?_some h1
      obtain ⟨y, rfl, hy⟩ := read_Aff h2 hl'
      exact ⟨y, hy, fun j hj => (hg j hj).trans (List.getElem?_eq_getElem (l := cells_Aff y) hj)⟩)
    refine ⟨some a, (List.range len).map f, m, by simp, by simpa using hl, fun k x hk => ?_⟩
    have hkl : k < len := by have h := (List.getElem?_eq_some_iff.1 hk).1; simpa using h
    have hkx : f k = x := by simpa [hkl] using hk
    obtain ⟨b, off, spot⟩ := a
    have h0 := (hf 0 (by omega)).2 0 (by omega)
    have hs : spot = none := by simpa [Addr.add] using World.cell?_spot h0
    subst hs
    obtain ⟨hfit, q1⟩ := hf k hkl
    rw [hkx] at hfit
    have q2 : ∀ j (h : j < 2), W.cell? ⟨b, off + k * 2 + j, none⟩ = some ((cells_Aff x)[j]'h) := fun j hj => by
      have := q1 j hj
      simp only [hkx] at this
      rw [add_add, Go.WideShapes.add_plain, ← Nat.add_assoc] at this
      exact this
    exact ⟨hfit, b, off, rfl, World.block_lt_of_cell? W _ (q2 0 (by omega)), q2⟩
def cells_Sub (y : ByteArray × Bool × Int) : List Value := [.string y.1, .bool y.2.1, .int .i64 y.2.2]
theorem list_Sub {v : Value} {d : DataW H} {pl : List MemPlace} (h : DataW.trod enc Tryz.prog W 0 (fun _ => true) true fuel 24 [v] = some (d, pl)) :
    ∃ (ao : Option Addr) (l : List (ByteArray × Bool × Int)) (cap : Nat), v = .slice ao l.length cap ∧ l.length ≤ cap ∧ ∀ (i : Nat) (x : ByteArray × Bool × Int), l[i]? = some x → (Fits x.1) ∧ ∃ b off, ao = some ⟨b, off, none⟩ ∧ b < W.heap.size ∧ ∀ j (h : j < 3), W.cell? ⟨b, off + i * 3 + j, none⟩ = some ((cells_Sub x)[j]'h) := by
  rcases open_slice Tryz.underlying24 h with ⟨hcs, _⟩ | ⟨a, len, cap, m, n, D, Pl, hcs, _, hl, hcm, hm, hx, hc⟩
  · cases hcs
    exact ⟨none, [], 0, rfl, by simp, fun k x hk => by simp at hk⟩
  · cases hcs
    simp only [if_true] at hm
    subst hm
    rw [n_cellsSub] at hc
    obtain ⟨f, hf⟩ := choose_lt (n := len) (p := fun i (y : ByteArray × Bool × Int) => (Fits y.1) ∧ ∀ j (h : j < 3), W.cell? ((a.add (i * 3)).add j) = some ((cells_Sub y)[j]'h)) (fun i hi => by
      obtain ⟨cs', h1, h2⟩ := hc i (by omega)
      obtain ⟨_, hl', hg⟩ := World.cells?_some h1
      obtain ⟨y, rfl, hy⟩ := read_Sub h2 hl'
      exact ⟨y, hy, fun j hj => (hg j hj).trans (List.getElem?_eq_getElem (l := cells_Sub y) hj)⟩)
    refine ⟨some a, (List.range len).map f, m, by simp, by simpa using hl, fun k x hk => ?_⟩
    have hkl : k < len := by have h := (List.getElem?_eq_some_iff.1 hk).1; simpa using h
    have hkx : f k = x := by simpa [hkl] using hk
    obtain ⟨b, off, spot⟩ := a
    have h0 := (hf 0 (by omega)).2 0 (by omega)
    have hs : spot = none := by simpa [Addr.add] using World.cell?_spot h0
    subst hs
    obtain ⟨hfit, q1⟩ := hf k hkl
    rw [hkx] at hfit
    have q2 : ∀ j (h : j < 3), W.cell? ⟨b, off + k * 3 + j, none⟩ = some ((cells_Sub x)[j]'h) := fun j hj => by
      have := q1 j hj
      simp only [hkx] at this
      rw [add_add, Go.WideShapes.add_plain, ← Nat.add_assoc] at this
      exact this
    exact ⟨hfit, b, off, rfl, World.block_lt_of_cell? W _ (q2 0 (by omega)), q2⟩
def cells_Item (y : ByteArray × ByteArray × ByteArray) : List Value := [.string y.1, .string y.2.1, .string y.2.2]
theorem list_Item {v : Value} {d : DataW H} {pl : List MemPlace} (h : DataW.trod enc Tryz.prog W 0 (fun _ => true) true fuel 25 [v] = some (d, pl)) :
    ∃ (ao : Option Addr) (l : List (ByteArray × ByteArray × ByteArray)) (cap : Nat), v = .slice ao l.length cap ∧ l.length ≤ cap ∧ ∀ (i : Nat) (x : ByteArray × ByteArray × ByteArray), l[i]? = some x → (Fits x.1 ∧ Fits x.2.1 ∧ Fits x.2.2) ∧ ∃ b off, ao = some ⟨b, off, none⟩ ∧ b < W.heap.size ∧ ∀ j (h : j < 3), W.cell? ⟨b, off + i * 3 + j, none⟩ = some ((cells_Item x)[j]'h) := by
  rcases open_slice Tryz.underlying25 h with ⟨hcs, _⟩ | ⟨a, len, cap, m, n, D, Pl, hcs, _, hl, hcm, hm, hx, hc⟩
  · cases hcs
    exact ⟨none, [], 0, rfl, by simp, fun k x hk => by simp at hk⟩
  · cases hcs
    simp only [if_true] at hm
    subst hm
    rw [n_cellsItem] at hc
    obtain ⟨f, hf⟩ := choose_lt (n := len) (p := fun i (y : ByteArray × ByteArray × ByteArray) => (Fits y.1 ∧ Fits y.2.1 ∧ Fits y.2.2) ∧ ∀ j (h : j < 3), W.cell? ((a.add (i * 3)).add j) = some ((cells_Item y)[j]'h)) (fun i hi => by
      obtain ⟨cs', h1, h2⟩ := hc i (by omega)
      obtain ⟨_, hl', hg⟩ := World.cells?_some h1
      obtain ⟨y, rfl, hy⟩ := read_Item h2 hl'
      exact ⟨y, hy, fun j hj => (hg j hj).trans (List.getElem?_eq_getElem (l := cells_Item y) hj)⟩)
    refine ⟨some a, (List.range len).map f, m, by simp, by simpa using hl, fun k x hk => ?_⟩
    have hkl : k < len := by have h := (List.getElem?_eq_some_iff.1 hk).1; simpa using h
    have hkx : f k = x := by simpa [hkl] using hk
    obtain ⟨b, off, spot⟩ := a
    have h0 := (hf 0 (by omega)).2 0 (by omega)
    have hs : spot = none := by simpa [Addr.add] using World.cell?_spot h0
    subst hs
    obtain ⟨hfit, q1⟩ := hf k hkl
    rw [hkx] at hfit
    have q2 : ∀ j (h : j < 3), W.cell? ⟨b, off + k * 3 + j, none⟩ = some ((cells_Item x)[j]'h) := fun j hj => by
      have := q1 j hj
      simp only [hkx] at this
      rw [add_add, Go.WideShapes.add_plain, ← Nat.add_assoc] at this
      exact this
    exact ⟨hfit, b, off, rfl, World.block_lt_of_cell? W _ (q2 0 (by omega)), q2⟩
/-- A node. -/
theorem node_read {cs : List Value} {d : DataW H} {pl : List MemPlace} (h : DataW.trod enc Tryz.prog W 0 (fun _ => true) true fuel 27 cs = some (d, pl)) (hl : cs.length = 8) :
    ∃ (n : Nd) (v : NdW), cs = ndC n v ∧ RawM W n v := by
  match cs, hl with
  | [c0, c1, c2, c3, c4, c5, c6, c7], _ =>
  obtain ⟨xs, m, _, _, _, hlen, hf⟩ := DataW.trod_struct Tryz.underlying27 h
  match xs, hlen with
  | [y0, y1, y2, y3, y4, y5, y6, y7], _ =>
  have h0 : DataW.trod enc Tryz.prog W 0 (fun _ => true) true m 9 _ = some y0 := hf 0 _ rfl
  have h1 : DataW.trod enc Tryz.prog W 0 (fun _ => true) true m 4 _ = some y1 := hf 1 _ rfl
  have h2 : DataW.trod enc Tryz.prog W 0 (fun _ => true) true m 22 _ = some y2 := hf 2 _ rfl
  have h3 : DataW.trod enc Tryz.prog W 0 (fun _ => true) true m 3 _ = some y3 := hf 3 _ rfl
  have h4 : DataW.trod enc Tryz.prog W 0 (fun _ => true) true m 23 _ = some y4 := hf 4 _ rfl
  have h5 : DataW.trod enc Tryz.prog W 0 (fun _ => true) true m 24 _ = some y5 := hf 5 _ rfl
  have h6 : DataW.trod enc Tryz.prog W 0 (fun _ => true) true m 25 _ = some y6 := hf 6 _ rfl
  have h7 : DataW.trod enc Tryz.prog W 0 (fun _ => true) true m 9 _ = some y7 := hf 7 _ rfl
  obtain ⟨z0, e0, _, w0⟩ := DataW.trod_string Tryz.underlying9 h0
  obtain ⟨z1, e1, _⟩ := DataW.trod_bool Tryz.underlying4 h1
  obtain ⟨v2, e2, _, w2⟩ := DataW.trod_int Tryz.underlying22 h2
  obtain ⟨z2, rfl, _⟩ := u8_nat w2
  obtain ⟨z3, e3, _, w3⟩ := DataW.trod_int Tryz.underlying3 h3
  obtain ⟨z7, e7, _, w7⟩ := DataW.trod_string Tryz.underlying9 h7
  simp [n_cells9, n_cells4, n_cells3, n_cellsAcc] at e0 e1 e2 e3 e7
  subst e0 e1 e2 e3 e7
  have h4' : DataW.trod enc Tryz.prog W 0 (fun _ => true) true m 23 [c4] = some y4 := by simpa [n_cellsSlAff] using h4
  have h5' : DataW.trod enc Tryz.prog W 0 (fun _ => true) true m 24 [c5] = some y5 := by simpa [n_cellsSlSub] using h5
  have h6' : DataW.trod enc Tryz.prog W 0 (fun _ => true) true m 25 [c6] = some y6 := by simpa [n_cellsSlItem] using h6
  clear h4 h5 h6
  obtain ⟨d4, p4⟩ := y4
  obtain ⟨d5, p5⟩ := y5
  obtain ⟨d6, p6⟩ := y6
  obtain ⟨aa, la, ac, rfl, hac, hA⟩ := list_Aff h4'
  obtain ⟨sa, ls, sc, rfl, hsc, hS⟩ := list_Sub h5'
  obtain ⟨ia, li, ic, rfl, hic, hI⟩ := list_Item h6'
  unfold maxLen at w0 w7
  have tk : ∀ {α : Type} {L : List α} {i : Nat} {x : α}, (L.take 20)[i]? = some x → L[i]? = some x := fun {α} {L} {i} {x} h => by
    rw [List.getElem?_take] at h
    split at h
    · exact h
    · cases h
  have tm : ∀ {α : Type} {L : List α} {x : α}, x ∈ L.take 20 → ∃ i, L[i]? = some x := fun {α} {L} {x} h => by
    obtain ⟨i, hi⟩ := List.mem_iff_getElem?.1 (List.mem_of_mem_take h)
    exact ⟨i, hi⟩
  refine ⟨⟨z0, z1, z2, z3, la, ls, li, z7⟩, ⟨aa, ac, sa, sc, ia, ic⟩, rfl, ⟨⟨⟨⟨by simp [fewN, List.length_take]; omega, fun i x hx => ?_⟩, ⟨by simp [fewN, List.length_take]; omega, fun i x hx => ?_⟩, by simp [fewN, List.length_take]; omega, by simp [fewN, List.length_take]; omega⟩, ⟨by simp [fewN, List.length_take]; omega, fun i x hx => ?_⟩, by simp [fewN, List.length_take]; omega, ⟨w0, w7, fun x hx => ?_, fun x hx => ?_, fun x hx => ?_⟩⟩, hac, hsc, hic⟩⟩
  · obtain ⟨_, b, off, e, hb, hc⟩ := hA i x (tk hx)
    exact ⟨b, off, e, hb, hc 0 (by omega), hc 1 (by omega)⟩
  · obtain ⟨_, b, off, e, hb, hc⟩ := hS i x (tk hx)
    exact ⟨b, off, e, hb, hc 0 (by omega), hc 1 (by omega), hc 2 (by omega)⟩
  · obtain ⟨_, b, off, e, hb, hc⟩ := hI i x (tk hx)
    exact ⟨b, off, e, hb, hc 0 (by omega), hc 1 (by omega), hc 2 (by omega)⟩
  · obtain ⟨i, hi⟩ := tm hx
    exact (hA i x hi).1
  · obtain ⟨i, hi⟩ := tm hx
    exact (hS i x hi).1
  · obtain ⟨i, hi⟩ := tm hx
    exact (hI i x hi).1
end
end Go.Proofs.YtimhkgpjfppkmaaGreatDoor
