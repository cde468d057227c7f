/- The list of variables of the laws of requests: what it says of a world; a world in which it holds. A request that is handed in, as it is read. -/
import Derived.Test.YtimhkgpjfppkmaaDoorRq3
import Derived.Test.YtimhkgpjfppkmaaDoorAt0
import Derived.Test.YtimhkgpjfppkmaaDoorRows
import Derived.Test.YtimhkgpjfppkmaaDoorShelfV
import Derived.LaidLaws
import Derived.ChangeSame
import Derived.OpenShut
import Derived.Lib.LaidU8T
import Derived.Lib.LaidTab
import Derived.Shelf.Vars
import Derived.Test.YtimhkgpjfppkmaaDoorRq13
import Derived.ChangeSlices
import Derived.Deep.Slices
import Derived.ChangeArms
namespace Go.Proofs.YtimhkgpjfppkmaaDoor
open Go.RowKit

def textLaid : List (String × DataW Unit) := [("math/bits.deBruijn32tab", Rows.laid_math_bits_deBruijn32tab), ("math/bits.deBruijn64tab", Rows.laid_math_bits_deBruijn64tab), ("internal/strconv.uint64pow10", Rows.laid_internal_strconv_uint64pow10), ("unicode/utf8.acceptRanges", Rows.laid_unicode_utf8_acceptRanges), ("strconv.ErrRange", Rows.laid_strconv_ErrRange), ("strconv.ErrSyntax", Rows.laid_strconv_ErrSyntax), ("unicode/utf8.first", Rows.laid_unicode_utf8_first)]
theorem first_eq : Rows.laid_unicode_utf8_first = Lib.firstData := by kernel_rfl
theorem accept_eq : (Rows.laid_unicode_utf8_acceptRanges : DataW Unit) = Lib.acceptData := by kernel_rfl
theorem pow_eq : (Rows.laid_internal_strconv_uint64pow10 : DataW Unit) = Lib.tabData .u64 Lib.pow10Tab := by kernel_rfl
theorem max_lt {W : World} (h : Jd.MaxG W) : 3 < W.heap.size := by
  obtain ⟨m, hm⟩ := h
  exact World.block_lt_of_cell? W _ hm
theorem text_laid {W : World} (h : laidMet Tryd.prog textLaid W) (hsh : W.ShapedOpen Tryd.prog) : Jd.MaxG W ∧ 3 < W.heap.size ∧ Lib.Utf8Tabs 0 1 W := by
  have hM : Jd.MaxG W := cell_of_shapedOpen_int (P := Tryd.prog) (g := 3) (t := 3) (zero := #[.int .i64 0]) hsh (of_decide_eq_true (by kernel_rfl)) (by kernel_rfl) rfl (by kernel_rfl) (by kernel_rfl) Tryd.underlying3
  refine ⟨hM, max_lt hM, ?_⟩
  have h1 := Lib.laidMet.reads h (n := "unicode/utf8.first") (d := Rows.laid_unicode_utf8_first) (by simp [textLaid])
  have h2 := Lib.laidMet.reads h (n := "unicode/utf8.acceptRanges") (d := Rows.laid_unicode_utf8_acceptRanges) (by simp [textLaid])
  rw [first_eq] at h1
  rw [accept_eq] at h2
  exact utf8Tabs_of_readsT (U8Types.of196 Tryd.lays196) ⟨by kernel_rfl, by kernel_rfl, by kernel_rfl, by kernel_rfl, by kernel_rfl, by kernel_rfl, by kernel_rfl⟩ h1 h2
theorem trod_iface {H : Type} {enc : TypeId × Value → H} {P : Program} {w : World} {base : Nat} {sp : Nat → Bool} {held : Bool} {fuel : Nat} {t : TypeId} {ms : Array (String × TypeId)} {cs : List Value} {nm : String} {d : DataW H} {ps : List MemPlace} (ht : P.underlying t = some (.interface ms)) (h : DataW.trod enc P w base sp held fuel t cs = some (.iface nm d, ps)) : ∃ u v, cs = [.iface u v] := by
  cases fuel with
  | zero => simp [DataW.trod] at h
  | succ n =>
    unfold DataW.trod at h
    rw [ht] at h
    split at h <;> simp_all
theorem err_reads {W : World} {n : String} {nm : String} {d : DataW Unit} {g : Nat} {t : TypeId} {ms : Array (String × TypeId)} (hg : Tryd.prog.globalNamed n = some g) (hty : (Tryd.prog.globals[g]?).map (·.type) = some t) (ht : Tryd.prog.underlying t = some (.interface ms)) (h : Lib.VarReads Tryd.prog W n (.iface nm d)) : ∃ u v, W.cell? ⟨g, 0, none⟩ = some (.iface u v) := by
  obtain ⟨g', t', cs, fuel, p, hg', hty', hvar, hd⟩ := h
  obtain rfl := Option.some.inj (hg.symm.trans hg')
  obtain rfl := Option.some.inj (hty.symm.trans hty')
  obtain ⟨u, v, hc⟩ := trod_iface ht hd
  refine ⟨u, v, ?_⟩
  have := World.var?_cell hg hvar 0
  rw [this, ← Array.getElem?_toList, hc]
  rfl
theorem text_laidE {W : World} (h : laidMet Tryd.prog textLaid W) : GlobE W := by
  have h1 := Lib.laidMet.reads h (n := "strconv.ErrSyntax") (d := Rows.laid_strconv_ErrSyntax) (by simp [textLaid])
  have h2 := Lib.laidMet.reads h (n := "strconv.ErrRange") (d := Rows.laid_strconv_ErrRange) (by simp [textLaid])
  have h3 := Lib.laidMet.reads h (n := "internal/strconv.uint64pow10") (d := Rows.laid_internal_strconv_uint64pow10) (by simp [textLaid])
  rw [pow_eq] at h3
  refine ⟨?_, ?_, ?_⟩
  · exact err_reads (t := 101) (by kernel_rfl) (by kernel_rfl) Tryd.underlying101 h1
  · exact err_reads (t := 101) (by kernel_rfl) (by kernel_rfl) Tryd.underlying101 h2
  · obtain ⟨g, t, cs, fuel, p, hg, hty, hvar, hd⟩ := h3
    have hg0 : Tryd.prog.globalNamed "internal/strconv.uint64pow10" = some 2 := by kernel_rfl
    obtain rfl := Option.some.inj (hg0.symm.trans hg)
    have ht0 : (Tryd.prog.globals[2]?).map (·.type) = some 114 := by kernel_rfl
    obtain rfl := Option.some.inj (ht0.symm.trans hty)
    unfold Lib.TabIs
    rw [hvar, ← Lib.cells_of_tab (t := 114) (e := 105) (n := 20) (by kernel_rfl) (by kernel_rfl) (by kernel_rfl) (by kernel_rfl) hd]
theorem text_glob {W : World} (h : laidMet Tryd.prog textLaid W) (hsh : W.ShapedOpen Tryd.prog) : GlbR W :=
  ⟨(text_laid h hsh).1, (text_laid h hsh).2.1, (text_laid h hsh).2.2, text_laidE h⟩
def lay (cs : Array Value) : Obj → Obj
  | .cells _ t frozen => .cells cs t frozen
  | o => o
def firstCs : Array Value := (Lib.firstTab.map fun z => Value.int .u8 z).toArray
def acceptCs : Array Value := ((List.range 16).flatMap fun i => [Value.int .u8 (Lib.accLo i), Value.int .u8 (Lib.accHi i)]).toArray
def powCs : Array Value := (Lib.pow10Tab.map fun z => Value.int .u64 z).toArray
def litOf : DataW Unit → Value
  | .lit (.int k n) => .int k n
  | _ => .nilIface
def tabOf : DataW Unit → Array Value
  | .agg l => (l.map litOf).toArray
  | _ => #[]
def d32Cs : Array Value := tabOf Rows.laid_math_bits_deBruijn32tab
def d64Cs : Array Value := tabOf Rows.laid_math_bits_deBruijn64tab
def errCs (b : Nat) : Array Value := #[.iface 138 (.pointer (some ⟨b, 0, none⟩))]
def rangeB : ByteArray := ⟨#[118, 97, 108, 117, 101, 32, 111, 117, 116, 32, 111, 102, 32, 114, 97, 110, 103, 101]⟩
def syntaxB : ByteArray := ⟨#[105, 110, 118, 97, 108, 105, 100, 32, 115, 121, 110, 116, 97, 120]⟩
def heapB (h : Array Obj) : Array Obj := ((((((((h.modify 0 (lay firstCs)).modify 1 (lay acceptCs)).modify 2 (lay powCs)).modify 6 (lay d32Cs)).modify 7 (lay d64Cs)).modify 5 (lay (errCs h.size))).modify 4 (lay (errCs (h.size + 1)))).push (.cells #[.string rangeB] 140)).push (.cells #[.string syntaxB] 140)
theorem text_met (os : Os) (args : Array Value) : laidMet Tryd.prog textLaid (({ World.holding Tryd.prog os ⟨#[], #[], []⟩ with heap := heapB (World.holding Tryd.prog os ⟨#[], #[], []⟩).heap } : World).forCall (fun _ _ => 0) ⟨#[], args, []⟩).memory :=
  laidMet_of_run' 8 (by kernel_rfl) (by kernel_rfl)
end Go.Proofs.YtimhkgpjfppkmaaDoor
namespace Go.Proofs.YtimhkgpjfppkmaaDoor
open Go.RowKit Go.Deep Go.ChangeShapes Go.WideShapes

section
variable {H : Type} {enc : TypeId × Value → H} {W : World} {fuel : Nat}
theorem r_cells9 : Tryd.prog.cellsOf 9 = 1 := by kernel_rfl
theorem r_cells3 : Tryd.prog.cellsOf 3 = 1 := by kernel_rfl
theorem r_cells4 : Tryd.prog.cellsOf 4 = 1 := by kernel_rfl
theorem r_cellsV : Tryd.prog.cellsOf 22 = 1 := by kernel_rfl
theorem r_cellsR : Tryd.prog.cellsOf 23 = 1 := by kernel_rfl
theorem r_cellsA : Tryd.prog.cellsOf 24 = 1 := by kernel_rfl
theorem u8_nat {z : Int} (w : (Lit.int .u8 z).wf = true) : ∃ k : Nat, z = k ∧ k < 256 := by
  have m0 : IntKind.u8.min = 0 := rfl
  have m1 : IntKind.u8.max = 255 := rfl
  simp [Lit.wf, m0, m1] at w
  exact ⟨z.toNat, by omega, by omega⟩
theorem wf_i64 {z : Int} (w : (Lit.int .i64 z).wf = true) : -9223372036854775808 ≤ z ∧ z ≤ 9223372036854775807 := by
  have m0 : IntKind.i64.min = -9223372036854775808 := rfl
  have m1 : IntKind.i64.max = 9223372036854775807 := rfl
  simp [Lit.wf, m0, m1] at w
  omega
theorem request_read {cs : List Value} {x : DataW H × List MemPlace} (h : DataW.trod enc Tryd.prog W 0 (fun _ => true) true fuel 26 cs = some x) (hl : cs.length = 11) :
    ∃ r : Rq, cs = (rqA r).toList ∧ RqFits r := by
  match cs, hl with
  | [c0, c1, c2, c3, c4, c5, c6, c7, c8, c9, c10], _ =>
  obtain ⟨xs, m, _, rfl, _, hlen, hf⟩ := DataW.trod_struct Tryd.underlying26 h
  match xs, hlen with
  | [y0, y1, y2, y3, y4, y5, y6, y7, y8, y9, y10], _ =>
  have h0 : DataW.trod enc Tryd.prog W 0 (fun _ => true) true m 22 _ = some y0 := hf 0 _ rfl
  obtain ⟨v0, e0, _, x0⟩ := DataW.trod_int Tryd.underlying22 h0
  obtain ⟨z0, rfl, w0⟩ := u8_nat x0
  have h1 : DataW.trod enc Tryd.prog W 0 (fun _ => true) true m 9 _ = some y1 := hf 1 _ rfl
  obtain ⟨z1, e1, _, w1⟩ := DataW.trod_string Tryd.underlying9 h1
  have h2 : DataW.trod enc Tryd.prog W 0 (fun _ => true) true m 9 _ = some y2 := hf 2 _ rfl
  obtain ⟨z2, e2, _, w2⟩ := DataW.trod_string Tryd.underlying9 h2
  have h3 : DataW.trod enc Tryd.prog W 0 (fun _ => true) true m 9 _ = some y3 := hf 3 _ rfl
  obtain ⟨z3, e3, _, w3⟩ := DataW.trod_string Tryd.underlying9 h3
  have h4 : DataW.trod enc Tryd.prog W 0 (fun _ => true) true m 23 _ = some y4 := hf 4 _ rfl
  obtain ⟨v4, e4, _, x4⟩ := DataW.trod_int Tryd.underlying23 h4
  obtain ⟨z4, rfl, w4⟩ := u8_nat x4
  have h5 : DataW.trod enc Tryd.prog W 0 (fun _ => true) true m 24 _ = some y5 := hf 5 _ rfl
  obtain ⟨v5, e5, _, x5⟩ := DataW.trod_int Tryd.underlying24 h5
  obtain ⟨z5, rfl, w5⟩ := u8_nat x5
  have h6 : DataW.trod enc Tryd.prog W 0 (fun _ => true) true m 3 _ = some y6 := hf 6 _ rfl
  obtain ⟨z6, e6, _, v6⟩ := DataW.trod_int Tryd.underlying3 h6
  have w6 := wf_i64 v6
  have h7 : DataW.trod enc Tryd.prog W 0 (fun _ => true) true m 3 _ = some y7 := hf 7 _ rfl
  obtain ⟨z7, e7, _, v7⟩ := DataW.trod_int Tryd.underlying3 h7
  have w7 := wf_i64 v7
  have h8 : DataW.trod enc Tryd.prog W 0 (fun _ => true) true m 9 _ = some y8 := hf 8 _ rfl
  obtain ⟨z8, e8, _, w8⟩ := DataW.trod_string Tryd.underlying9 h8
  have h9 : DataW.trod enc Tryd.prog W 0 (fun _ => true) true m 4 _ = some y9 := hf 9 _ rfl
  obtain ⟨z9, e9, _⟩ := DataW.trod_bool Tryd.underlying4 h9
  have h10 : DataW.trod enc Tryd.prog W 0 (fun _ => true) true m 9 _ = some y10 := hf 10 _ rfl
  obtain ⟨z10, e10, _, w10⟩ := DataW.trod_string Tryd.underlying9 h10
  simp [r_cells3, r_cells4, r_cells9, r_cellsV, r_cellsR, r_cellsA] at e0 e1 e2 e3 e4 e5 e6 e7 e8 e9 e10
  subst e0 e1 e2 e3 e4 e5 e6 e7 e8 e9 e10
  unfold maxLen at w1 w2 w3 w8 w10
  exact ⟨⟨z0, z1, z2, z3, z4, z5, z6, z7, z8, z9, z10⟩, rfl, ⟨by show z0 ≤ 255; omega, w1, w2, w3, by show z4 ≤ 255; omega, by show z5 ≤ 255; omega, w6.1, w6.2, w7.1, w7.2, w8, w10⟩⟩
end
end Go.Proofs.YtimhkgpjfppkmaaDoor
