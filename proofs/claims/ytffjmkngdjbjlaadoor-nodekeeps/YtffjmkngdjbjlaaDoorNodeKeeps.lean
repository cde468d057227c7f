/- NodeKeeps: the items that are kept are the last ones that were published, each id once. -/
import Derived.Test.YtffjmkngdjbjlaaDoorNe20
import Derived.Test.YtffjmkngdjbjlaaDoorQN
import Derived.Test.YtffjmkngdjbjlaaDoorQH
import Derived.Test.YtffjmkngdjbjlaaDoorNe23
namespace Go.Proofs.YtffjmkngdjbjlaaDoor
open Go.RowKit

def xB : ByteArray := ⟨#[120]⟩
def itK (s : ByteArray) : ByteArray × ByteArray × ByteArray := (s, aD, xB)
def woStr (id : ByteArray) (L : List ByteArray) : List ByteArray := L.filter fun s => !decide (s = id)
/-- What is kept behind a publication. -/
def keepL (K : Nat) (L : List ByteArray) (id : ByteArray) : List ByteArray := lastL (woStr id L ++ [id]) K
theorem keep_items (K : Nat) (L : List ByteArray) (id : ByteArray) : lastL (woItem id (L.map itK) ++ [(id, aD, xB)]) K = (keepL K L id).map itK := by
  have e : woItem id (L.map itK) ++ [(id, aD, xB)] = (woStr id L ++ [id]).map itK := by
    rw [List.map_append]
    congr 1
    unfold woItem woStr
    rw [List.filter_map]
    rfl
  rw [e]
  unfold keepL lastL
  rw [List.length_map, List.map_drop]
theorem woStr_more {id x : ByteArray} {L : List ByteArray} {j : Nat} (h : L[j]? = some x) : woStr id (L.take (j + 1)) = if x = id then woStr id (L.take j) else woStr id (L.take j) ++ [x] := by
  unfold woStr
  rw [List.take_add_one, h, List.filter_append]
  by_cases hx : x = id
  · simp [hx]
  · simp [hx]
theorem keep_len (K : Nat) (L : List ByteArray) (id : ByteArray) : (keepL K L id).length ≤ K := lastL_len _ _
/-- Names that are read. -/
def StrM (n₀ : Nat) (w : World) (ao : Option Addr) (l : List ByteArray) : Prop := ∀ k x, l[k]? = some x → ∃ b off, ao = some ⟨b, off, none⟩ ∧ b < n₀ ∧ w.cell? ⟨b, off + k, none⟩ = some (.string x)
theorem StrM.below {n₀ : Nat} {w w' : World} {ao : Option Addr} {l : List ByteArray} (h : StrM n₀ w ao l) (hb : Below n₀ w w') : StrM n₀ w' ao l := fun k x hk => by
  obtain ⟨b, off, e, hb1, c⟩ := h k x hk
  exact ⟨b, off, e, hb1, (hb.cell (p := ⟨b, _, none⟩) hb1).trans c⟩
theorem StrM.raise {n₀ n₁ : Nat} {w : World} {ao : Option Addr} {l : List ByteArray} (h : StrM n₀ w ao l) (hn : n₀ ≤ n₁) : StrM n₁ w ao l := fun k x hk => by
  obtain ⟨b, off, e, hb1, c⟩ := h k x hk
  exact ⟨b, off, e, Nat.lt_of_lt_of_le hb1 hn, c⟩
theorem StrM.move {w w' : World} {ao : Option Addr} {l : List ByteArray} (h : StrM w.heap.size w ao l) (hb : Below w.heap.size w w') : StrM w'.heap.size w' ao l := (h.below hb).raise hb.size
theorem StrM.far {W W' : World} {r : Nat} {la : Option Addr} {L : List ByteArray} (h : StrM W.heap.size W la L) (hz : W'.heap.size = W.heap.size) (hb : ∀ k, k ≠ r → W'.heap[k]? = W.heap[k]?) (hr : ∀ a, la = some a → a.block ≠ r) : StrM W'.heap.size W' la L := by
  intro i x hx
  obtain ⟨sb, so, e1, e2, e3⟩ := h i x hx
  exact ⟨sb, so, e1, by rw [hz]; exact e2, (World.cell?_of_block (hb sb (hr _ e1))).trans e3⟩
theorem ex_geqI {o : Oper} {a : Act} {w : World} {x y : Operand} {s t : Int} (ho : o.op = .binOp .geq 3 x y 3) (hx : a.eval x = .int .i64 s) (hy : a.eval y = .int .i64 t) (hb : ¬ t ≤ s) : (execOp a.eval o).run Tryd.prog w = .ok (.value (.bool false)) w := by
  unfold execOp
  simp only [ho, hx, hy]
  go_simp
theorem ex_neqS {o : Oper} {a : Act} {w : World} {x y : Operand} {s t : ByteArray} (ho : o.op = .binOp .neq 9 x y 9) (hx : a.eval x = .string s) (hy : a.eval y = .string t) (hb : (s.toList == t.toList) = true) : (execOp a.eval o).run Tryd.prog w = .ok (.value (.bool false)) w := by
  unfold execOp
  simp only [ho, hx, hy]
  go_simp
theorem ex_fldI0 {o : Oper} {a : Act} {w : World} {x : Operand} {b off : Nat} (ho : o.op = .fieldAddr 50 x 0) (hx : a.eval x = .pointer (some ⟨b, off, none⟩)) : (execOp a.eval o).run Tryd.prog w = .ok (.value (.pointer (some ⟨b, off, none⟩))) w := by
  unfold execOp
  simp only [ho, hx]
  go_simp
theorem ex_fldI1 {o : Oper} {a : Act} {w : World} {x : Operand} {b off : Nat} (ho : o.op = .fieldAddr 50 x 1) (hx : a.eval x = .pointer (some ⟨b, off, none⟩)) : (execOp a.eval o).run Tryd.prog w = .ok (.value (.pointer (some ⟨b, off + 1, none⟩))) w := by
  unfold execOp
  simp only [ho, hx]
  go_simp
theorem ex_idxStr {o : Oper} {a : Act} {w : World} {x y : Operand} {b off m cap k : Nat} (ho : o.op = .indexAddr 47 x y) (hx : a.eval x = .slice (some ⟨b, off, none⟩) m cap) (hy : a.eval y = .int .i64 k) (hk : k < m) : (execOp a.eval o).run Tryd.prog w = .ok (.value (.pointer (some ⟨b, off + k, none⟩))) w := by
  have hk1 : (k : Int) < m := by omega
  unfold execOp
  simp only [ho, hx, hy]
  go_simp
theorem name_lt : ∀ j, j < 12 → nameOk (ltN j) = true := by decide +kernel
theorem chars_ascN : ∀ l : List UInt8, (∀ b ∈ l, 32 ≤ b.toNat ∧ b.toNat < 128) → CharsOk l
  | [], _ => ⟨rfl, runes_nil⟩
  | b :: t, h => by
    have hb := h b (by simp)
    have ih := chars_ascN t (fun c hc => h c (by simp [hc]))
    refine ⟨by rw [Lib.validD_cons b t hb.2]; exact ih.1, ?_⟩
    rw [runes_step _ (by simp), Lib.decodeL_ascii b t hb.2]
    exact ⟨Or.inr (Or.inr (Or.inr ⟨hb.1, by have := hb.2; omega, by have := hb.2; omega⟩)), ih.2⟩
theorem body_x : BodyOk xB := ⟨by decide, chars_ascN _ (by decide)⟩
theorem keeps_pub {n m : Nd} {id : ByteArray} {c : Int} (hr : RightN n) (hcl : n.coll = false) (hro : roleL n.affs aD = 5) (hid : nameOk id = true) (h : PubC n aD id xB m c) : c = 0 ∧ m = pubN n aD id xB := by
  have hbar : ∀ c, BarC n aD 4 c → c = 0 := by
    rintro c (⟨h, _⟩ | ⟨_, h, _⟩ | ⟨_, _, h, _⟩ | ⟨_, _, _, h⟩)
    · exact absurd hr h
    · rw [hcl] at h; cases h
    · omega
    · exact h
  rcases h with ⟨h1, h2, _⟩ | ⟨_, h2, _⟩ | ⟨_, _, _, h1, h2⟩
  · exact absurd (hbar _ h2) h1
  · exact absurd ⟨hid, body_x⟩ h2
  · exact ⟨h1, h2⟩
theorem keeps_cfg {m : Nd} {c : Int} {K : Nat} (hK : K ≤ 8) (h : CfgC (begN 0 true) aD 0 K m c) : c = 0 ∧ m = cfgN (begN 0 true) 0 K := by
  have hr := begN_right 0 true (by omega)
  have hro : roleL (begN 0 true).affs aD = 5 := by
    unfold roleL
    decide +kernel
  rcases h with ⟨⟨h, _⟩ | ⟨_, h, _⟩, _⟩ | ⟨_, _, ⟨h, _⟩ | ⟨_, _, h1, h2⟩⟩
  · exact absurd hr h
  · exact absurd hro h
  · refine absurd ⟨by omega, ?_⟩ h
    show maxOk K false = true
    unfold maxOk
    rw [if_neg (by decide)]
    exact decide_eq_true (by omega)
  · exact ⟨h1, h2⟩
set_option maxRecDepth 100000 in
set_option maxHeartbeats 2000000 in
theorem nodeKeeps_any (ao : Option Addr) (cap : Nat) (ids : List UInt8) (most : Nat) (hmost : most < 256) (w : World) (hids : BytesIn w.heap.size w ao ids) (hg : Glob w) :
    Calls Tryd.prog 6 #[.slice ao ids.length cap, .int .u8 most] w fun e w' => e = .returned (.bool true) ∧ Below w.heap.size w w' := by
  obtain ⟨M, hM⟩ : ∃ M, ids.length = M := ⟨_, rfl⟩
  have HBe := hide (begun_any 0 true (by omega) w)
  have HL := hide (And.intro hids (And.intro hg hM))
  have hrem : ((most : Int)).tmod 9 = ((most % 9 : Nat) : Int) := tmod_nat most 8
  obtain ⟨K, hK⟩ : ∃ K, most % 9 = K := ⟨_, rfl⟩
  have hK8 : K ≤ 8 := by omega
  have hwm : wrap64 (most : Int) = most := wrap64_small _ hmost
  rw [hK] at hrem
  rw [hM]
  clear hids hg hM hK
  go_enter Tryd.func6, Tryd.ntmps6
  go_wp2_with fail
  refine HBe.out.mono ?_
  rintro e w1 ⟨u0, rfl, hm1, b1⟩
  have HCf := hide (configure_any (begN 0 true) u0 aD 0 K w1 hm1 (HL.out.2.1.below b1))
  have HB1 := hide b1
  clear hm1 b1 HBe
  rw [show begN (0 % 3) true = begN 0 true from rfl]
  go_wp2_with fail
  refine HCf.out.mono ?_
  rintro e w2 ⟨m, u1, c, rfl, hC, hm2, b2, ho2⟩
  obtain ⟨rfl, rfl⟩ := keeps_cfg hK8 hC
  obtain ⟨N0, hN0⟩ : ∃ N0, cfgN (begN 0 true) 0 K = N0 := ⟨_, rfl⟩
  have hr0 : RightN N0 ∧ N0.coll = false ∧ N0.max = K ∧ N0.items = [] ∧ roleL N0.affs aD = 5 := by
    have hr := begN_right 0 true (by omega)
    rw [← hN0]
    refine ⟨⟨hr.1, show (0 : Nat) ≤ 2 by omega, ?_, hr.2.2.2.1, hr.2.2.2.2.1, hr.2.2.2.2.2.1, ?_⟩, rfl, rfl, by simp [cfgN, begN, lastL], show roleL (begN 0 true).affs aD = 5 by unfold roleL; decide +kernel⟩
    · show maxOk K false = true
      unfold maxOk
      rw [if_neg (by decide)]
      exact decide_eq_true (by omega)
    · exact ⟨by simp [cfgN, begN, lastL], fun x hx => by simp [cfgN, begN, lastL] at hx, by simp [cfgN, begN, lastL]⟩
  rw [hN0] at hm2 ⊢
  have f1 := World.alloc_heap_new w2 (.cells (ndA N0 u1) 28)
  have b3 : Below w2.heap.size w2 (w2.alloc (.cells (ndA N0 u1) 28)) := (Below.refl _ w2).alloc (Nat.le_refl _) _
  obtain ⟨W1, hW1⟩ : ∃ W1, w2.alloc (.cells (ndA N0 u1) 28) = W1 := ⟨_, rfl⟩
  rw [hW1] at f1 b3
  obtain ⟨nb, hnb0⟩ : ∃ nb, w2.heap.size = nb := ⟨_, rfl⟩
  have bw := HB1.out.trans (b2.mono HB1.out.size)
  have hnbw : w.heap.size ≤ nb := by have := bw.size; omega
  have HS0 := hide (And.intro (show W1.heap[nb]? = some (.cells (ndA N0 u1) 28) by rw [← hnb0]; exact f1) (And.intro (hm2.move b3) (And.intro hr0 (And.intro (bw.trans (b3.mono bw.size)) hnbw))))
  have hWa : w2.alloc (.cells #[.string N0.name, .bool N0.coll, .int .u8 N0.acc, .int .i64 N0.max, .slice u1.aa N0.affs.length u1.ac, .slice u1.sa N0.subs.length u1.sc, .slice u1.ia N0.items.length u1.ic, .string N0.parent] 28) = W1 := hW1
  have HW1 := hide (And.intro hWa hnb0)
  clear hC hN0 hr0 hm2 b2 ho2 f1 b3 hW1 hnb0 hnbw bw hWa HCf
  rw [show (ndA N0 u1 : Array Value) = #[.string N0.name, .bool N0.coll, .int .u8 N0.acc, .int .i64 N0.max, .slice u1.aa N0.affs.length u1.ac, .slice u1.sa N0.subs.length u1.sc, .slice u1.ia N0.items.length u1.ic, .string N0.parent] from rfl]
  go_wp2_with fail
  have hWa := HW1.out.1
  have hWb := HW1.out.2
  rw [hWa, hWb]
  clear hWa hWb HW1
  go_loopw [7, 8] (fun lv iv wr => ∃ (k : Nat) (n : Nd) (u : NdW) (L : List ByteArray) (la : Option Addr) (lc : Nat), k ≤ M ∧ k ≤ 40 ∧ iv = .int .i64 k ∧ lv = .slice la L.length lc ∧ L.length ≤ lc ∧ L.length ≤ 8 ∧ (StrM wr.heap.size wr la L ∧ ∀ a, la = some a → a.block ≠ nb) ∧ wr.heap[nb]? = some (.cells (ndA n u) 28) ∧ NdM wr.heap.size wr n u ∧ (RightN n ∧ n.coll = false ∧ n.max = K ∧ n.items = L.map itK ∧ roleL n.affs aD = 5) ∧ Below w.heap.size w wr) (fun _ iv _ => 40 - (intOf iv).toNat)
  case atStart => exact ⟨0, N0, u1, [], none, 0, Nat.zero_le _, Nat.zero_le _, rfl, rfl, Nat.zero_le _, Nat.zero_le _, ⟨fun k x hk => by simp at hk, fun a e => by cases e⟩, HS0.out.1, HS0.out.2.1, ⟨HS0.out.2.2.1.1, HS0.out.2.2.1.2.1, HS0.out.2.2.1.2.2.1, HS0.out.2.2.1.2.2.2.1, HS0.out.2.2.1.2.2.2.2⟩, HS0.out.2.2.2.1⟩
  case round =>
    obtain ⟨k, n, u, L, la, lc, hkM, hk40, rfl, rfl, hlc, hl8, ⟨hstr, hlne⟩, hnb, hnm, hst, hbw⟩ := hrel
    obtain ⟨Ln, hLn⟩ : ∃ Ln, L.length = Ln := ⟨_, rfl⟩
    have HR0 := hide (And.intro hst (And.intro hbw (And.intro hnb (And.intro hnm (And.intro hstr (And.intro hLn hlne))))))
    rw [hLn] at hlc hl8 ⊢
    clear hlne
    by_cases hlt : (k : Int) < M
    · by_cases h40 : (k : Int) < 40
      · obtain ⟨cc, hcc⟩ : ∃ cc, ids[k]? = some cc := ⟨_, List.getElem?_eq_getElem (by have := HL.out.2.2; omega)⟩
        obtain ⟨pb, poff, hpe, hpb, hpc⟩ := HL.out.1 k cc hcc
        have e0 := (hbw.cell (p := ⟨pb, _, none⟩) hpb).trans hpc
        have hpl := Nat.lt_of_lt_of_le hpb hbw.size
        have hrc : ((cc.toNat : Int)).tmod 12 = ((cc.toNat % 12 : Nat) : Int) := tmod_nat cc.toNat 11
        obtain ⟨j, hj⟩ : ∃ j, cc.toNat % 12 = j := ⟨_, rfl⟩
        have hj12 : j < 12 := by omega
        rw [hj] at hrc
        have u1_ : IntKind.u8.wrap ((97 : Int) + j) = 97 + j := by show ((97 : Int) + j) % 256 = _; omega
        have b1 : Below wr.heap.size wr (wr.alloc (.cells #[.int .u8 ((97 : Int) + j)] 5)) := (Below.refl _ wr).alloc (Nat.le_refl _) _
        have hcv := conv_ltT (n := j) (by omega) rfl (World.alloc_heap_new wr (.cells #[.int .u8 ((97 : Int) + j)] 5))
        obtain ⟨id, hid⟩ : ∃ id, ltN j = id := ⟨_, rfl⟩
        have hnid : nameOk id = true := by rw [← hid]; exact name_lt j hj12
        have hfid : Fits id := by rw [← hid]; show (1 : Nat) ≤ _; omega
        rw [hid] at hcv
        obtain ⟨W3, hW3⟩ : ∃ W3, wr.alloc (.cells #[.int .u8 ((97 : Int) + j)] 5) = W3 := ⟨_, rfl⟩
        have b1' : Below wr.heap.size wr W3 := by rw [← hW3]; exact b1
        have n3 := (b1'.block _ (Array.getElem?_eq_some_iff.1 hnb).1).trans hnb
        have B3 := hbw.trans (b1'.mono hbw.size)
        have HP := hide (publish_any n u aD id xB W3 (hnm.move b1') (HL.out.2.1.below B3) (by decide) hfid (by decide))
        have H3 := hide (And.intro n3 (And.intro (hnm.move b1') (And.intro (hstr.move b1') (And.intro B3 hnid))))
        have HLd := hide (load_nd n3)
        rw [← hW3] at HLd
        have HW3 := hide hW3
        clear b1 b1' n3 B3 hW3 hnb hnm hst hbw hstr hcc hpc hj hid hfid hnid hpb
        rw [hpe]
        clear hpe
        go_wp2_with (refine l_load _ HLd.out rfl rfl rfl ?_; refine stopNd ?_)
        unfold Hid
        have hW3 := HW3.out
        rw [hW3]
        clear hW3 HW3 HLd hcv e0
        go_wp2_with fail
        refine HP.out.mono ?_
        rintro e w4 ⟨m, u2, c, rfl, hC, hm4, b4, ho4⟩
        obtain ⟨rfl, hmm⟩ := keeps_pub HR0.out.1.1 HR0.out.1.2.1 HR0.out.1.2.2.2.2 H3.out.2.2.2.2 hC
        have hmr : RightN m ∧ m.coll = false ∧ m.max = K ∧ m.items = (keepL K L id).map itK ∧ roleL m.affs aD = 5 := by
          obtain ⟨⟨r1, r2, r3, r4, r5, r6, r7⟩, g2, g3, g4, g5⟩ := HR0.out.1
          have hp2 := put_items HR0.out.1.1 (by rw [g5]; omega) H3.out.2.2.2.2 body_x
          have hi : m.items = (keepL K L id).map itK := by
            rw [hmm]
            show lastL (woItem id n.items ++ [(id, aD, xB)]) n.max.toNat = _
            rw [g3, g4]
            exact keep_items K L id
          refine ⟨?_, by rw [hmm]; exact g2, by rw [hmm]; exact g3, hi, by rw [hmm]; exact g5⟩
          rw [hmm]
          exact ⟨r1, r2, r3, r4, r5, r6, lastL_ok (max_right HR0.out.1.1).1 hp2.1 hp2.2⟩
        have f5 := World.alloc_heap_new w4 (.cells (ndA m u2) 28)
        have b5 : Below w4.heap.size w4 (w4.alloc (.cells (ndA m u2) 28)) := (Below.refl _ w4).alloc (Nat.le_refl _) _
        have HLm := hide (load_nd f5)
        obtain ⟨W5, hW5⟩ : ∃ W5, w4.alloc (.cells (ndA m u2) 28) = W5 := ⟨_, rfl⟩
        have hW5' : w4.alloc (.cells #[.string m.name, .bool m.coll, .int .u8 m.acc, .int .i64 m.max, .slice u2.aa m.affs.length u2.ac, .slice u2.sa m.subs.length u2.sc, .slice u2.ia m.items.length u2.ic, .string m.parent] 28) = W5 := hW5
        have HLm2 := hide (show (Instr.loadAt 28 (.pointer (some ⟨w4.heap.size, 0, none⟩))).run Tryd.prog (w4.alloc (.cells #[.string m.name, .bool m.coll, .int .u8 m.acc, .int .i64 m.max, .slice u2.aa m.affs.length u2.ac, .slice u2.sa m.subs.length u2.sc, .slice u2.ia m.items.length u2.ic, .string m.parent] 28)) = .ok (.agg (ndA m u2)) (w4.alloc (.cells #[.string m.name, .bool m.coll, .int .u8 m.acc, .int .i64 m.max, .slice u2.aa m.affs.length u2.ac, .slice u2.sa m.subs.length u2.sc, .slice u2.ia m.items.length u2.ic, .string m.parent] 28)) from HLm.out)
        rw [hW5] at b5
        have B5 : Below W3.heap.size W3 W5 := b4.trans (b5.mono b4.size)
        have n5 := (B5.block _ (Array.getElem?_eq_some_iff.1 H3.out.1).1).trans H3.out.1
        have hnl := (Array.getElem?_eq_some_iff.1 H3.out.1).1
        have k0 : (setNd W5 nb m u2).heap[nb]? = some (.cells (ndA m u2) 28) := setNd_heap n5
        have hm5 := hm4.move b5
        have k1 : NdM (setNd W5 nb m u2).heap.size (setNd W5 nb m u2) m u2 := ndM_far hm5 setNd_size setNd_far ⟨fun a e => by have := ho4.1 a e; omega, fun a e => by have := ho4.2.1 a e; omega, fun a e => by have := ho4.2.2 a e; omega⟩
        have bw5 := H3.out.2.2.2.1.trans (B5.mono H3.out.2.2.2.1.size)
        have k2 : Below w.heap.size w (setNd W5 nb m u2) := setNd_below bw5 HS0.out.2.2.2.2
        have hs5 := H3.out.2.2.1.move B5
        have k3 : StrM (setNd W5 nb m u2).heap.size (setNd W5 nb m u2) la L := hs5.far setNd_size setNd_far HR0.out.2.2.2.2.2.2
        have HK := hide (And.intro k0 (And.intro k1 (And.intro hmr (And.intro k2 (And.intro k3 (setNd_size (w := W5) (r := nb) (n := m) (u := u2)))))))
        have HN5 := hide n5
        have HW5 := hide hW5'
        clear hC hmm hmr hm4 b4 ho4 f5 b5 hW5 hW5' B5 n5 k0 hm5 k1 bw5 k2 hs5 k3 HP HLm
        rw [show (ndA m u2 : Array Value) = #[.string m.name, .bool m.coll, .int .u8 m.acc, .int .i64 m.max, .slice u2.aa m.affs.length u2.ac, .slice u2.sa m.subs.length u2.sc, .slice u2.ia m.items.length u2.ic, .string m.parent] from rfl]
        go_wp2_with (refine l_load _ HLm2.out rfl rfl rfl ?_; refine stopNd ?_)
        unfold Hid
        have hW5 := HW5.out
        rw [hW5]
        clear hW5
        refine l_store _ (store_nd (n := m) (u := u2) HN5.out) rfl rfl rfl rfl ?_
        obtain ⟨W6, hW6⟩ : ∃ W6, setNd W5 nb m u2 = W6 := ⟨_, rfl⟩
        rw [hW6] at HK ⊢
        have hnl6 : nb < W6.heap.size := (Array.getElem?_eq_some_iff.1 HK.out.1).1
        clear hW6 HLm2 HW5 HN5
        go_wp2_with fail
        go_loopw [12, 13] (fun lv jv wr => ∃ (j : Nat) (ga : Option Addr) (gc : Nat), j ≤ Ln ∧ jv = .int .i64 j ∧ lv = .slice ga (woStr id (L.take j)).length gc ∧ wr.ownsRow W6.heap.size 9 1 (.slice ga (woStr id (L.take j)).length gc) (woStr id (L.take j)).length (strC (woStr id (L.take j))) ∧ Below W6.heap.size W6 wr) (fun _ jv _ => Ln - (intOf jv).toNat)
        case atStart => exact ⟨0, none, 0, Nat.zero_le _, rfl, rfl, World.ownsRow_nil _ _ _ _, Below.refl _ _⟩
        case round =>
          obtain ⟨j, ga, gc, hjL, rfl, rfl, hown, hbt⟩ := hrel
          obtain ⟨R, hR⟩ : ∃ R, woStr id (L.take j) = R := ⟨_, rfl⟩
          have hRl : R.length ≤ 8 := by
            rw [← hR]
            refine Nat.le_trans (List.length_filter_le _ _) ?_
            rw [List.length_take]
            have := HR0.out.2.2.2.2.2.1
            omega
          rw [hR] at hown ⊢
          obtain ⟨Rl, hRle⟩ : ∃ Rl, R.length = Rl := ⟨_, rfl⟩
          have hs6 := HK.out.2.2.2.2.1.move hbt
          have HJ := hide (And.intro hown (And.intro hbt (And.intro hR (And.intro hRle (And.intro hRl hs6)))))
          rw [hRle] at hRl ⊢
          clear hown hbt hR hRle
          by_cases hjl : (j : Int) < Ln
          · obtain ⟨y, hy⟩ : ∃ y, L[j]? = some y := ⟨_, List.getElem?_eq_getElem (by have := HR0.out.2.2.2.2.2.1; omega)⟩
            obtain ⟨sb, so, hla, hsb, s0⟩ := hs6 j y hy
            have hmore := woStr_more (id := id) hy
            rw [HJ.out.2.2.1] at hmore
            have HM := hide hmore
            have HLA := hide hla
            clear hmore hs6 hy
            rw [hla]
            by_cases hyi : y = id
            · have hye : (y.toList == id.toList) = true := by rw [hyi]; simp
              have HY := hide hyi
              clear hyi
              go_wp2_with fail
              go_roundw
              case rel =>
                refine ⟨j + 1, ga, gc, by omega, by simp, ?_, ?_, HJ.out.2.1⟩
                · rw [HM.out, if_pos HY.out, HJ.out.2.2.2.1]
                · rw [HM.out, if_pos HY.out]
                  exact HJ.out.1
              case measure => simp [intOf]; omega
            · have hye : (y.toList == id.toList) = false := by
                rw [beq_eq_false_iff_ne]
                exact fun e => hyi (ba_ext e)
              have HY := hide hyi
              clear hyi
              go_wp2_with (at_builtin; refine stopNd ?_)
              unfold Hid
              have fx := World.alloc_heap_new wr (.cells #[.string y] 9)
              have bx : Below wr.heap.size wr (wr.alloc (.cells #[.string y] 9)) := (Below.refl _ wr).alloc (Nat.le_refl _) _
              obtain ⟨V, hV⟩ : ∃ V, wr.alloc (.cells #[.string y] 9) = V := ⟨_, rfl⟩
              rw [hV] at fx bx ⊢
              have ho := own_same (B := V) HJ.out.1 (fun g e => bx.block g (own_lt HJ.out.1 g e))
              rw [HJ.out.2.2.2.1] at ho
              have hzj := HJ.out.2.1.size
              have hzx := bx.size
              refine append_one _ rfl _ _ rfl W6.heap.size _ R rfl (by rw [HJ.out.2.2.2.1]; exact ho) y wr.heap.size rfl fx (by have := HJ.out.2.2.2.2.1; omega) (by omega) ?_
              intro v7 w7 hown7 hgr7
              have hb7 : Below W6.heap.size W6 w7 := (HJ.out.2.1.trans (bx.mono hzj)).grown hgr7 (by omega) (fun g e => own_base ho g e)
              obtain ⟨g7, c7, hv7⟩ := own_shape1 hown7
              subst hv7
              have H7 := hide (And.intro hown7 hb7)
              clear hown7 hgr7 hb7 fx bx hV ho
              go_wp2_with fail
              go_roundw
              case rel =>
                refine ⟨j + 1, g7, c7, by omega, by simp, ?_, ?_, H7.out.2⟩
                · rw [HM.out, if_neg HY.out, List.length_append]
                  rfl
                · rw [HM.out, if_neg HY.out]
                  exact H7.out.1
              case measure => simp [intOf]; omega
          · have hRw : R = woStr id L := by
              rw [← HJ.out.2.2.1, List.take_of_length_le (by have := HR0.out.2.2.2.2.2.1; omega)]
            have HRw := hide hRw
            clear hs6 hRw
            go_wp2_with (at_builtin; refine stopNd ?_)
            unfold Hid
            have fx := World.alloc_heap_new wr (.cells #[.string id] 9)
            have bx : Below wr.heap.size wr (wr.alloc (.cells #[.string id] 9)) := (Below.refl _ wr).alloc (Nat.le_refl _) _
            obtain ⟨V, hV⟩ : ∃ V, wr.alloc (.cells #[.string id] 9) = V := ⟨_, rfl⟩
            rw [hV] at fx bx ⊢
            have ho := own_same (B := V) HJ.out.1 (fun g e => bx.block g (own_lt HJ.out.1 g e))
            rw [HJ.out.2.2.2.1] at ho
            have hzj := HJ.out.2.1.size
            have hzx := bx.size
            refine append_one _ rfl _ _ rfl W6.heap.size _ R rfl (by rw [HJ.out.2.2.2.1]; exact ho) id wr.heap.size rfl fx (by have := HJ.out.2.2.2.2.1; omega) (by omega) ?_
            intro v7 w7 hown7 hgr7
            have hb7 : Below W6.heap.size W6 w7 := (HJ.out.2.1.trans (bx.mono hzj)).grown hgr7 (by omega) (fun g e => own_base ho g e)
            obtain ⟨T, hT⟩ : ∃ T, R ++ [id] = T := ⟨_, rfl⟩
            have hTl : T.length = Rl + 1 := by rw [← hT, List.length_append, HJ.out.2.2.2.1]; rfl
            rw [hT] at hown7
            obtain ⟨g7, c7, hv7, hgc7, hgl7, hce7⟩ := own_str hown7 (List.getElem?_eq_getElem (by omega : 0 < T.length))
            subst hv7
            have hstT : StrM w7.heap.size w7 (some ⟨g7, 0, none⟩) T := fun k x hk => by
              obtain ⟨g', gc', e, _, h1, h2⟩ := own_str hown7 hk
              cases e
              exact ⟨g7, 0, rfl, h1, by rw [Nat.zero_add]; exact h2⟩
            have hgb := own_base hown7 g7 rfl
            have hkeep : keepL K L id = T.drop (Rl + 1 - K) := by
              unfold keepL lastL
              rw [← HRw.out, hT, hTl]
            have n7 := (hb7.block _ hnl6).trans HK.out.1
            have H7 := hide (And.intro hstT (And.intro n7 (And.intro (HK.out.2.1.move hb7) (And.intro (HK.out.2.2.2.1.trans (hb7.mono HK.out.2.2.2.1.size)) (And.intro hkeep (And.intro hTl (show g7 ≠ nb by omega)))))))
            rw [hTl]
            rw [hTl] at hgc7
            have hRl8 := HJ.out.2.2.2.2.1
            rw [HJ.out.2.2.2.1] at hRl8
            clear hce7 hown7 hgr7 hb7 fx bx hV ho hT hTl hstT hgb hkeep n7 hzj hzx hgl7
            obtain ⟨Q, hQ⟩ : ∃ Q, Rl + 1 = Q := ⟨_, rfl⟩
            rw [hQ] at H7 hgc7 ⊢
            have hQ9 : Q ≤ 9 := by omega
            clear hQ hRl hRl8
            by_cases hgt : (K : Int) < (Q : Int)
            · obtain ⟨lo, hlo⟩ : ∃ lo, Q - K = lo := ⟨_, rfl⟩
              have hwl : IntKind.i64.wrap ((Q : Int) - K) = (lo : Int) := by rw [IntKind.wrap_i64]; omega
              have hloQ : (lo : Int) ≤ (Q : Int) := by omega
              have hQlo : Q - lo ≤ 8 := by omega
              have hQlc : Q - lo ≤ c7 - lo := by omega
              rw [hlo] at H7
              have hkl : (keepL K L id).length = Q - lo := by rw [H7.out.2.2.2.2.1, List.length_drop, H7.out.2.2.2.2.2.1]
              have hdrop : StrM w7.heap.size w7 (some ⟨g7, lo, none⟩) (keepL K L id) := fun i x hx => by
                rw [H7.out.2.2.2.2.1, List.getElem?_drop] at hx
                obtain ⟨sb, so, e1, e2, e3⟩ := H7.out.1 (lo + i) x hx
                cases e1
                rw [Nat.zero_add] at e3
                exact ⟨g7, lo, rfl, e2, e3⟩
              have H8 := hide (And.intro hkl hdrop)
              clear hkl hdrop hlo
              by_cases hcl : c7 = lo
              · have hz : Q - lo = 0 := by omega
                have HZ := hide hz
                clear hz
                go_wp2_with fail
                go_roundw
                case rel =>
                  refine ⟨k + 1, m, u2, keepL K L id, some ⟨g7, 0, none⟩, 0, by omega, by omega, by simp, by rw [H8.out.1], by rw [H8.out.1, HZ.out]; exact Nat.le_refl _, by rw [H8.out.1]; exact hQlo, ⟨fun i x hx => ?_, fun a e => by cases e; exact H7.out.2.2.2.2.2.2⟩, H7.out.2.1, H7.out.2.2.1, HK.out.2.2.1, H7.out.2.2.2.1⟩
                  have := (List.getElem?_eq_some_iff.1 hx).1
                  rw [H8.out.1, HZ.out] at this
                  omega
                case measure => simp [intOf]; omega
              · go_wp2_with fail
                go_roundw
                case rel => exact ⟨k + 1, m, u2, keepL K L id, some ⟨g7, lo, none⟩, c7 - lo, by omega, by omega, by simp, by rw [H8.out.1], by rw [H8.out.1]; exact hQlc, by rw [H8.out.1]; exact hQlo, ⟨H8.out.2, fun a e => by cases e; exact H7.out.2.2.2.2.2.2⟩, H7.out.2.1, H7.out.2.2.1, HK.out.2.2.1, H7.out.2.2.2.1⟩
                case measure => simp [intOf]; omega
            · have hz : Q - K = 0 := by omega
              have hkl : keepL K L id = T := by rw [H7.out.2.2.2.2.1, hz]; rfl
              have H8 := hide (And.intro hkl (show (keepL K L id).length = Q by rw [hkl]; exact H7.out.2.2.2.2.2.1))
              clear hkl hz
              go_wp2_with fail
              go_roundw
              case rel => exact ⟨k + 1, m, u2, keepL K L id, some ⟨g7, 0, none⟩, c7, by omega, by omega, by simp, by rw [H8.out.2], by rw [H8.out.2]; exact hgc7, by rw [H8.out.2]; omega, ⟨by rw [H8.out.1]; exact H7.out.1, fun a e => by cases e; exact H7.out.2.2.2.2.2.2⟩, H7.out.2.1, H7.out.2.2.1, HK.out.2.2.1, H7.out.2.2.2.1⟩
              case measure => simp [intOf]; omega
      · skip
        obtain ⟨wrO, hwrO⟩ : ∃ wrO, wr = wrO := ⟨_, rfl⟩
        rw [hwrO] at HR0 ⊢
        clear hwrO
        have hlen : n.items.length = Ln := by rw [HR0.out.1.2.2.2.1, List.length_map]; exact HR0.out.2.2.2.2.2.1
        clear hnb hnm hst hbw hstr
        go_wp2_with fail
        go_loopw [14] (fun jv wr => ∃ j : Nat, j ≤ Ln ∧ jv = .int .i64 j ∧ Below wrO.heap.size wrO wr) (fun jv _ => Ln - (intOf jv).toNat)
        case atStart => exact ⟨0, Nat.zero_le _, rfl, Below.refl _ _⟩
        case round =>
          obtain ⟨j, hjL, rfl, hbt⟩ := hrel
          have n3 := (hbt.block _ (Array.getElem?_eq_some_iff.1 HR0.out.2.2.1).1).trans HR0.out.2.2.1
          have hm3 := HR0.out.2.2.2.1.move hbt
          have hs3 := HR0.out.2.2.2.2.1.move hbt
          have c6 := (nd_box n3).2.2.2.2.2.2.1
          rw [hlen] at c6
          by_cases hjl : (j : Int) < Ln
          · obtain ⟨y, hy⟩ : ∃ y, L[j]? = some y := ⟨_, List.getElem?_eq_getElem (by have := HR0.out.2.2.2.2.2.1; omega)⟩
            have hyi : n.items[j]? = some (itK y) := by rw [HR0.out.1.2.2.2.1, List.getElem?_map, hy]; rfl
            obtain ⟨ib, io, hia, hib, i0, i1, _⟩ := hm3.it.2 j _ hyi
            obtain ⟨sb, so, hla, hsb, s0⟩ := hs3 j y hy
            have i0' : wr.cell? ⟨ib, io + j * 3, none⟩ = some (.string y) := i0
            have i1' : wr.cell? ⟨ib, io + j * 3 + 1, none⟩ = some (.string ⟨#[97, 64, 100]⟩) := i1
            have hjn : ¬ ((Ln : Int) ≤ (j : Int)) := by omega
            have HB := hide hbt
            have hnbl := (Array.getElem?_eq_some_iff.1 n3).1
            have hjnn : j < Ln := by omega
            clear i0 i1 hyi hy n3 hm3 hs3 hbt
            rw [hia] at c6
            rw [hla]
            go_wp2_with fail
            obtain ⟨V9, hV9⟩ : ∃ V9, wr.drew = V9 := ⟨_, rfl⟩
            have B9 : Below wr.heap.size wr V9 := by rw [← hV9]; exact (Below.refl _ wr).drew
            have v6 := (B9.cell (p := ⟨nb, 6, none⟩) hnbl).trans c6
            have vnl := Nat.lt_of_lt_of_le hnbl B9.size
            have vi0 := (B9.cell (p := ⟨ib, _, none⟩) hib).trans i0'
            have vi1 := (B9.cell (p := ⟨ib, _, none⟩) hib).trans i1'
            have vil := Nat.lt_of_lt_of_le hib B9.size
            have vs0 := (B9.cell (p := ⟨sb, _, none⟩) hsb).trans s0
            have vsl := Nat.lt_of_lt_of_le hsb B9.size
            apply region_one (W0 := V9) (S := fun V => Below V9.heap.size V9 V) (hm := by kernel_rfl)
            case h =>
              rw [hV9]
              have S0 : Below V9.heap.size V9 V9 := Below.refl _ _
              refine anyH_take (i := 0) (v := .int .i64 j) rfl (some 95) rfl (by kernel_rfl) (by kernel_rfl) (by kernel_rfl) (fun _ _ _ h => by cases h.1) (by kernel_rfl) (fun w0 hw0 => by first | rfl | kernel_rfl) S0 ?_
              simp only [Act.put, List.setIfInBounds_toArray, List.set_cons_zero, List.set_cons_succ]
              refine anyH_take (i := 1) (v := .pointer (some ⟨nb, 6, none⟩)) rfl (some 96) rfl (by kernel_rfl) (by kernel_rfl) (by kernel_rfl) (fun _ _ _ h => by cases h.1) (by kernel_rfl) (fun w0 hw0 => by first | rfl | kernel_rfl) S0 ?_
              simp only [Act.put, List.setIfInBounds_toArray, List.set_cons_zero, List.set_cons_succ]
              refine anyH_take (i := 2) (v := .slice (some ⟨ib, io, none⟩) Ln u.ic) rfl (some 97) rfl (by kernel_rfl) (by kernel_rfl) (by kernel_rfl) (fun _ _ _ h => by cases h.1) (by kernel_rfl) (fun w0 hw0 => ex_load rfl rfl (load_one (agg_one26 _) ((hw0.cell (p := ⟨nb, 6, none⟩) vnl).trans v6))) S0 ?_
              simp only [Act.put, List.setIfInBounds_toArray, List.set_cons_zero, List.set_cons_succ]
              refine anyH_take (i := 3) (v := .int .i64 Ln) rfl (some 98) rfl (by kernel_rfl) (by kernel_rfl) (by kernel_rfl) (fun _ _ _ h => by cases h.1) (by kernel_rfl) (fun w0 hw0 => by first | rfl | kernel_rfl) S0 ?_
              simp only [Act.put, List.setIfInBounds_toArray, List.set_cons_zero, List.set_cons_succ]
              refine anyH_take (i := 4) (v := .bool false) rfl (some 99) rfl (by kernel_rfl) (by kernel_rfl) (by kernel_rfl) (fun _ _ _ h => by cases h.1) (by kernel_rfl) (fun _ _ => ex_geqI rfl rfl rfl (by omega)) S0 ?_
              simp only [Act.put, List.setIfInBounds_toArray, List.set_cons_zero, List.set_cons_succ]
              refine anyH_take (i := 5) (v := .bool false) rfl (some 100) rfl (by kernel_rfl) (by kernel_rfl) (by kernel_rfl) (fun _ _ _ h => by cases h.1) (by kernel_rfl) (fun w0 hw0 => by first | rfl | kernel_rfl) S0 ?_
              simp only [Act.put, List.setIfInBounds_toArray, List.set_cons_zero, List.set_cons_succ]
              refine anyH_take (i := 6) (v := .pointer (some ⟨nb, 6, none⟩)) rfl (some 101) rfl (by kernel_rfl) (by kernel_rfl) (by kernel_rfl) (fun _ _ _ h => by cases h.1) (by kernel_rfl) (fun w0 hw0 => by first | rfl | kernel_rfl) S0 ?_
              simp only [Act.put, List.setIfInBounds_toArray, List.set_cons_zero, List.set_cons_succ]
              refine anyH_take (i := 7) (v := .slice (some ⟨ib, io, none⟩) Ln u.ic) rfl (some 102) rfl (by kernel_rfl) (by kernel_rfl) (by kernel_rfl) (fun _ _ _ h => by cases h.1) (by kernel_rfl) (fun w0 hw0 => ex_load rfl rfl (load_one (agg_one26 _) ((hw0.cell (p := ⟨nb, 6, none⟩) vnl).trans v6))) S0 ?_
              simp only [Act.put, List.setIfInBounds_toArray, List.set_cons_zero, List.set_cons_succ]
              refine anyH_take (i := 8) (v := .int .i64 j) rfl (some 103) rfl (by kernel_rfl) (by kernel_rfl) (by kernel_rfl) (fun _ _ _ h => by cases h.1) (by kernel_rfl) (fun w0 hw0 => by first | rfl | kernel_rfl) S0 ?_
              simp only [Act.put, List.setIfInBounds_toArray, List.set_cons_zero, List.set_cons_succ]
              refine anyH_take (i := 9) (v := .pointer (some ⟨ib, io + j * 3, none⟩)) rfl (some 104) rfl (by kernel_rfl) (by kernel_rfl) (by kernel_rfl) (fun _ _ _ h => by cases h.1) (by kernel_rfl) (fun _ _ => ex_idxItem rfl rfl rfl hjnn) S0 ?_
              simp only [Act.put, List.setIfInBounds_toArray, List.set_cons_zero, List.set_cons_succ]
              refine anyH_take (i := 10) (v := .pointer (some ⟨ib, io + j * 3, none⟩)) rfl (some 105) rfl (by kernel_rfl) (by kernel_rfl) (by kernel_rfl) (fun _ _ _ h => by cases h.1) (by kernel_rfl) (fun _ _ => ex_fldI0 rfl rfl) S0 ?_
              simp only [Act.put, List.setIfInBounds_toArray, List.set_cons_zero, List.set_cons_succ]
              refine anyH_take (i := 11) (v := .string y) rfl (some 106) rfl (by kernel_rfl) (by kernel_rfl) (by kernel_rfl) (fun _ _ _ h => by cases h.1) (by kernel_rfl) (fun w0 hw0 => ex_load rfl rfl (load_one (agg_one9 _) ((hw0.cell (p := ⟨ib, _, none⟩) vil).trans vi0))) S0 ?_
              simp only [Act.put, List.setIfInBounds_toArray, List.set_cons_zero, List.set_cons_succ]
              refine anyH_take (i := 12) (v := .slice (some ⟨sb, so, none⟩) Ln lc) rfl (some 107) rfl (by kernel_rfl) (by kernel_rfl) (by kernel_rfl) (fun _ _ _ h => by cases h.1) (by kernel_rfl) (fun w0 hw0 => by first | rfl | kernel_rfl) S0 ?_
              simp only [Act.put, List.setIfInBounds_toArray, List.set_cons_zero, List.set_cons_succ]
              refine anyH_take (i := 13) (v := .int .i64 j) rfl (some 108) rfl (by kernel_rfl) (by kernel_rfl) (by kernel_rfl) (fun _ _ _ h => by cases h.1) (by kernel_rfl) (fun w0 hw0 => by first | rfl | kernel_rfl) S0 ?_
              simp only [Act.put, List.setIfInBounds_toArray, List.set_cons_zero, List.set_cons_succ]
              refine anyH_take (i := 14) (v := .pointer (some ⟨sb, so + j, none⟩)) rfl (some 109) rfl (by kernel_rfl) (by kernel_rfl) (by kernel_rfl) (fun _ _ _ h => by cases h.1) (by kernel_rfl) (fun _ _ => ex_idxStr rfl rfl rfl hjnn) S0 ?_
              simp only [Act.put, List.setIfInBounds_toArray, List.set_cons_zero, List.set_cons_succ]
              refine anyH_take (i := 15) (v := .string y) rfl (some 110) rfl (by kernel_rfl) (by kernel_rfl) (by kernel_rfl) (fun _ _ _ h => by cases h.1) (by kernel_rfl) (fun w0 hw0 => ex_load rfl rfl (load_one (agg_one9 _) ((hw0.cell (p := ⟨sb, _, none⟩) vsl).trans vs0))) S0 ?_
              simp only [Act.put, List.setIfInBounds_toArray, List.set_cons_zero, List.set_cons_succ]
              refine anyH_take (i := 16) (v := .bool false) rfl (some 111) rfl (by kernel_rfl) (by kernel_rfl) (by kernel_rfl) (fun _ _ _ h => by cases h.1) (by kernel_rfl) (fun _ _ => ex_neqS rfl rfl rfl (by simp)) S0 ?_
              simp only [Act.put, List.setIfInBounds_toArray, List.set_cons_zero, List.set_cons_succ]
              refine anyH_take (i := 17) (v := .bool false) rfl (some 112) rfl (by kernel_rfl) (by kernel_rfl) (by kernel_rfl) (fun _ _ _ h => by cases h.1) (by kernel_rfl) (fun _ _ => ex_pkF rfl rfl rfl) S0 ?_
              simp only [Act.put, List.setIfInBounds_toArray, List.set_cons_zero, List.set_cons_succ]
              refine anyH_take (i := 18) (v := .bool false) rfl (some 113) rfl (by kernel_rfl) (by kernel_rfl) (by kernel_rfl) (fun _ _ _ h => by cases h.1) (by kernel_rfl) (fun w0 hw0 => by first | rfl | kernel_rfl) S0 ?_
              simp only [Act.put, List.setIfInBounds_toArray, List.set_cons_zero, List.set_cons_succ]
              refine anyH_take (i := 19) (v := .pointer (some ⟨nb, 6, none⟩)) rfl (some 114) rfl (by kernel_rfl) (by kernel_rfl) (by kernel_rfl) (fun _ _ _ h => by cases h.1) (by kernel_rfl) (fun w0 hw0 => by first | rfl | kernel_rfl) S0 ?_
              simp only [Act.put, List.setIfInBounds_toArray, List.set_cons_zero, List.set_cons_succ]
              refine anyH_take (i := 20) (v := .slice (some ⟨ib, io, none⟩) Ln u.ic) rfl (some 115) rfl (by kernel_rfl) (by kernel_rfl) (by kernel_rfl) (fun _ _ _ h => by cases h.1) (by kernel_rfl) (fun w0 hw0 => ex_load rfl rfl (load_one (agg_one26 _) ((hw0.cell (p := ⟨nb, 6, none⟩) vnl).trans v6))) S0 ?_
              simp only [Act.put, List.setIfInBounds_toArray, List.set_cons_zero, List.set_cons_succ]
              refine anyH_take (i := 21) (v := .int .i64 j) rfl (some 116) rfl (by kernel_rfl) (by kernel_rfl) (by kernel_rfl) (fun _ _ _ h => by cases h.1) (by kernel_rfl) (fun w0 hw0 => by first | rfl | kernel_rfl) S0 ?_
              simp only [Act.put, List.setIfInBounds_toArray, List.set_cons_zero, List.set_cons_succ]
              refine anyH_take (i := 22) (v := .pointer (some ⟨ib, io + j * 3, none⟩)) rfl (some 117) rfl (by kernel_rfl) (by kernel_rfl) (by kernel_rfl) (fun _ _ _ h => by cases h.1) (by kernel_rfl) (fun _ _ => ex_idxItem rfl rfl rfl hjnn) S0 ?_
              simp only [Act.put, List.setIfInBounds_toArray, List.set_cons_zero, List.set_cons_succ]
              refine anyH_take (i := 23) (v := .pointer (some ⟨ib, io + j * 3 + 1, none⟩)) rfl (some 118) rfl (by kernel_rfl) (by kernel_rfl) (by kernel_rfl) (fun _ _ _ h => by cases h.1) (by kernel_rfl) (fun _ _ => ex_fldI1 rfl rfl) S0 ?_
              simp only [Act.put, List.setIfInBounds_toArray, List.set_cons_zero, List.set_cons_succ]
              refine anyH_take (i := 24) (v := .string ⟨#[97, 64, 100]⟩) rfl (some 119) rfl (by kernel_rfl) (by kernel_rfl) (by kernel_rfl) (fun _ _ _ h => by cases h.1) (by kernel_rfl) (fun w0 hw0 => ex_load rfl rfl (load_one (agg_one9 _) ((hw0.cell (p := ⟨ib, _, none⟩) vil).trans vi1))) S0 ?_
              simp only [Act.put, List.setIfInBounds_toArray, List.set_cons_zero, List.set_cons_succ]
              refine anyH_take (i := 25) (v := .bool false) rfl (some 120) rfl (by kernel_rfl) (by kernel_rfl) (by kernel_rfl) (fun _ _ _ h => by cases h.1) (by kernel_rfl) (fun _ _ => ex_neqS rfl rfl rfl (by simp)) S0 ?_
              simp only [Act.put, List.setIfInBounds_toArray, List.set_cons_zero, List.set_cons_succ]
              refine anyH_val (i := 26) (v := .bool false) (by kernel_rfl) rfl (some 121) rfl (by kernel_rfl) (ex_pkF rfl rfl rfl) S0 ?_
              simp only [Act.put, List.setIfInBounds_toArray, List.set_cons_zero, List.set_cons_succ]
              exact wpAnyH_done (by kernel_rfl) ⟨rfl, rfl, rfl⟩ _
            case hq =>
              have HB9 := hide B9
              clear hV9 B9 v6 vnl vi0 vi1 vil vs0 vsl i0' i1' s0 c6 hib hsb hnbl
              go_wp2_with fail
              go_roundw
              case rel => exact ⟨j + 1, by omega, by simp, HB.out.trans (HB9.out.mono HB.out.size)⟩
              case measure => simp [intOf]; omega
          · have hj' : j = Ln := by omega
            have hb2 := HR0.out.2.1.trans (hbt.mono HR0.out.2.1.size)
            have HLi := hide (live11_any wr (HL.out.2.1.below hb2))
            have HN3 := hide n3
            have HB2 := hide hb2
            clear n3 hm3 hs3 hbt hb2 c6
            go_wp2_with fail
            refine HLi.out.mono ?_
            rintro e w9 ⟨rfl, b9⟩
            have c6 := (nd_box ((b9.block _ (Array.getElem?_eq_some_iff.1 HN3.out).1).trans HN3.out)).2.2.2.2.2.2.1
            rw [hlen] at c6
            have H9 := hide (HB2.out.trans (b9.mono HB2.out.size))
            clear b9
            go_wp2_with fail
            go_ret
            exact ⟨rfl, H9.out⟩
    · skip
      obtain ⟨wrO, hwrO⟩ : ∃ wrO, wr = wrO := ⟨_, rfl⟩
      rw [hwrO] at HR0 ⊢
      clear hwrO
      have hlen : n.items.length = Ln := by rw [HR0.out.1.2.2.2.1, List.length_map]; exact HR0.out.2.2.2.2.2.1
      clear hnb hnm hst hbw hstr
      go_wp2_with fail
      go_loopw [14] (fun jv wr => ∃ j : Nat, j ≤ Ln ∧ jv = .int .i64 j ∧ Below wrO.heap.size wrO wr) (fun jv _ => Ln - (intOf jv).toNat)
      case atStart => exact ⟨0, Nat.zero_le _, rfl, Below.refl _ _⟩
      case round =>
        obtain ⟨j, hjL, rfl, hbt⟩ := hrel
        have n3 := (hbt.block _ (Array.getElem?_eq_some_iff.1 HR0.out.2.2.1).1).trans HR0.out.2.2.1
        have hm3 := HR0.out.2.2.2.1.move hbt
        have hs3 := HR0.out.2.2.2.2.1.move hbt
        have c6 := (nd_box n3).2.2.2.2.2.2.1
        rw [hlen] at c6
        by_cases hjl : (j : Int) < Ln
        · obtain ⟨y, hy⟩ : ∃ y, L[j]? = some y := ⟨_, List.getElem?_eq_getElem (by have := HR0.out.2.2.2.2.2.1; omega)⟩
          have hyi : n.items[j]? = some (itK y) := by rw [HR0.out.1.2.2.2.1, List.getElem?_map, hy]; rfl
          obtain ⟨ib, io, hia, hib, i0, i1, _⟩ := hm3.it.2 j _ hyi
          obtain ⟨sb, so, hla, hsb, s0⟩ := hs3 j y hy
          have i0' : wr.cell? ⟨ib, io + j * 3, none⟩ = some (.string y) := i0
          have i1' : wr.cell? ⟨ib, io + j * 3 + 1, none⟩ = some (.string ⟨#[97, 64, 100]⟩) := i1
          have hjn : ¬ ((Ln : Int) ≤ (j : Int)) := by omega
          have HB := hide hbt
          have hnbl := (Array.getElem?_eq_some_iff.1 n3).1
          have hjnn : j < Ln := by omega
          clear i0 i1 hyi hy n3 hm3 hs3 hbt
          rw [hia] at c6
          rw [hla]
          go_wp2_with fail
          obtain ⟨V9, hV9⟩ : ∃ V9, wr.drew = V9 := ⟨_, rfl⟩
          have B9 : Below wr.heap.size wr V9 := by rw [← hV9]; exact (Below.refl _ wr).drew
          have v6 := (B9.cell (p := ⟨nb, 6, none⟩) hnbl).trans c6
          have vnl := Nat.lt_of_lt_of_le hnbl B9.size
          have vi0 := (B9.cell (p := ⟨ib, _, none⟩) hib).trans i0'
          have vi1 := (B9.cell (p := ⟨ib, _, none⟩) hib).trans i1'
          have vil := Nat.lt_of_lt_of_le hib B9.size
          have vs0 := (B9.cell (p := ⟨sb, _, none⟩) hsb).trans s0
          have vsl := Nat.lt_of_lt_of_le hsb B9.size
          apply region_one (W0 := V9) (S := fun V => Below V9.heap.size V9 V) (hm := by kernel_rfl)
          case h =>
            rw [hV9]
            have S0 : Below V9.heap.size V9 V9 := Below.refl _ _
            refine anyH_take (i := 0) (v := .int .i64 j) rfl (some 95) rfl (by kernel_rfl) (by kernel_rfl) (by kernel_rfl) (fun _ _ _ h => by cases h.1) (by kernel_rfl) (fun w0 hw0 => by first | rfl | kernel_rfl) S0 ?_
            simp only [Act.put, List.setIfInBounds_toArray, List.set_cons_zero, List.set_cons_succ]
            refine anyH_take (i := 1) (v := .pointer (some ⟨nb, 6, none⟩)) rfl (some 96) rfl (by kernel_rfl) (by kernel_rfl) (by kernel_rfl) (fun _ _ _ h => by cases h.1) (by kernel_rfl) (fun w0 hw0 => by first | rfl | kernel_rfl) S0 ?_
            simp only [Act.put, List.setIfInBounds_toArray, List.set_cons_zero, List.set_cons_succ]
            refine anyH_take (i := 2) (v := .slice (some ⟨ib, io, none⟩) Ln u.ic) rfl (some 97) rfl (by kernel_rfl) (by kernel_rfl) (by kernel_rfl) (fun _ _ _ h => by cases h.1) (by kernel_rfl) (fun w0 hw0 => ex_load rfl rfl (load_one (agg_one26 _) ((hw0.cell (p := ⟨nb, 6, none⟩) vnl).trans v6))) S0 ?_
            simp only [Act.put, List.setIfInBounds_toArray, List.set_cons_zero, List.set_cons_succ]
            refine anyH_take (i := 3) (v := .int .i64 Ln) rfl (some 98) rfl (by kernel_rfl) (by kernel_rfl) (by kernel_rfl) (fun _ _ _ h => by cases h.1) (by kernel_rfl) (fun w0 hw0 => by first | rfl | kernel_rfl) S0 ?_
            simp only [Act.put, List.setIfInBounds_toArray, List.set_cons_zero, List.set_cons_succ]
            refine anyH_take (i := 4) (v := .bool false) rfl (some 99) rfl (by kernel_rfl) (by kernel_rfl) (by kernel_rfl) (fun _ _ _ h => by cases h.1) (by kernel_rfl) (fun _ _ => ex_geqI rfl rfl rfl (by omega)) S0 ?_
            simp only [Act.put, List.setIfInBounds_toArray, List.set_cons_zero, List.set_cons_succ]
            refine anyH_take (i := 5) (v := .bool false) rfl (some 100) rfl (by kernel_rfl) (by kernel_rfl) (by kernel_rfl) (fun _ _ _ h => by cases h.1) (by kernel_rfl) (fun w0 hw0 => by first | rfl | kernel_rfl) S0 ?_
            simp only [Act.put, List.setIfInBounds_toArray, List.set_cons_zero, List.set_cons_succ]
            refine anyH_take (i := 6) (v := .pointer (some ⟨nb, 6, none⟩)) rfl (some 101) rfl (by kernel_rfl) (by kernel_rfl) (by kernel_rfl) (fun _ _ _ h => by cases h.1) (by kernel_rfl) (fun w0 hw0 => by first | rfl | kernel_rfl) S0 ?_
            simp only [Act.put, List.setIfInBounds_toArray, List.set_cons_zero, List.set_cons_succ]
            refine anyH_take (i := 7) (v := .slice (some ⟨ib, io, none⟩) Ln u.ic) rfl (some 102) rfl (by kernel_rfl) (by kernel_rfl) (by kernel_rfl) (fun _ _ _ h => by cases h.1) (by kernel_rfl) (fun w0 hw0 => ex_load rfl rfl (load_one (agg_one26 _) ((hw0.cell (p := ⟨nb, 6, none⟩) vnl).trans v6))) S0 ?_
            simp only [Act.put, List.setIfInBounds_toArray, List.set_cons_zero, List.set_cons_succ]
            refine anyH_take (i := 8) (v := .int .i64 j) rfl (some 103) rfl (by kernel_rfl) (by kernel_rfl) (by kernel_rfl) (fun _ _ _ h => by cases h.1) (by kernel_rfl) (fun w0 hw0 => by first | rfl | kernel_rfl) S0 ?_
            simp only [Act.put, List.setIfInBounds_toArray, List.set_cons_zero, List.set_cons_succ]
            refine anyH_take (i := 9) (v := .pointer (some ⟨ib, io + j * 3, none⟩)) rfl (some 104) rfl (by kernel_rfl) (by kernel_rfl) (by kernel_rfl) (fun _ _ _ h => by cases h.1) (by kernel_rfl) (fun _ _ => ex_idxItem rfl rfl rfl hjnn) S0 ?_
            simp only [Act.put, List.setIfInBounds_toArray, List.set_cons_zero, List.set_cons_succ]
            refine anyH_take (i := 10) (v := .pointer (some ⟨ib, io + j * 3, none⟩)) rfl (some 105) rfl (by kernel_rfl) (by kernel_rfl) (by kernel_rfl) (fun _ _ _ h => by cases h.1) (by kernel_rfl) (fun _ _ => ex_fldI0 rfl rfl) S0 ?_
            simp only [Act.put, List.setIfInBounds_toArray, List.set_cons_zero, List.set_cons_succ]
            refine anyH_take (i := 11) (v := .string y) rfl (some 106) rfl (by kernel_rfl) (by kernel_rfl) (by kernel_rfl) (fun _ _ _ h => by cases h.1) (by kernel_rfl) (fun w0 hw0 => ex_load rfl rfl (load_one (agg_one9 _) ((hw0.cell (p := ⟨ib, _, none⟩) vil).trans vi0))) S0 ?_
            simp only [Act.put, List.setIfInBounds_toArray, List.set_cons_zero, List.set_cons_succ]
            refine anyH_take (i := 12) (v := .slice (some ⟨sb, so, none⟩) Ln lc) rfl (some 107) rfl (by kernel_rfl) (by kernel_rfl) (by kernel_rfl) (fun _ _ _ h => by cases h.1) (by kernel_rfl) (fun w0 hw0 => by first | rfl | kernel_rfl) S0 ?_
            simp only [Act.put, List.setIfInBounds_toArray, List.set_cons_zero, List.set_cons_succ]
            refine anyH_take (i := 13) (v := .int .i64 j) rfl (some 108) rfl (by kernel_rfl) (by kernel_rfl) (by kernel_rfl) (fun _ _ _ h => by cases h.1) (by kernel_rfl) (fun w0 hw0 => by first | rfl | kernel_rfl) S0 ?_
            simp only [Act.put, List.setIfInBounds_toArray, List.set_cons_zero, List.set_cons_succ]
            refine anyH_take (i := 14) (v := .pointer (some ⟨sb, so + j, none⟩)) rfl (some 109) rfl (by kernel_rfl) (by kernel_rfl) (by kernel_rfl) (fun _ _ _ h => by cases h.1) (by kernel_rfl) (fun _ _ => ex_idxStr rfl rfl rfl hjnn) S0 ?_
            simp only [Act.put, List.setIfInBounds_toArray, List.set_cons_zero, List.set_cons_succ]
            refine anyH_take (i := 15) (v := .string y) rfl (some 110) rfl (by kernel_rfl) (by kernel_rfl) (by kernel_rfl) (fun _ _ _ h => by cases h.1) (by kernel_rfl) (fun w0 hw0 => ex_load rfl rfl (load_one (agg_one9 _) ((hw0.cell (p := ⟨sb, _, none⟩) vsl).trans vs0))) S0 ?_
            simp only [Act.put, List.setIfInBounds_toArray, List.set_cons_zero, List.set_cons_succ]
            refine anyH_take (i := 16) (v := .bool false) rfl (some 111) rfl (by kernel_rfl) (by kernel_rfl) (by kernel_rfl) (fun _ _ _ h => by cases h.1) (by kernel_rfl) (fun _ _ => ex_neqS rfl rfl rfl (by simp)) S0 ?_
            simp only [Act.put, List.setIfInBounds_toArray, List.set_cons_zero, List.set_cons_succ]
            refine anyH_take (i := 17) (v := .bool false) rfl (some 112) rfl (by kernel_rfl) (by kernel_rfl) (by kernel_rfl) (fun _ _ _ h => by cases h.1) (by kernel_rfl) (fun _ _ => ex_pkF rfl rfl rfl) S0 ?_
            simp only [Act.put, List.setIfInBounds_toArray, List.set_cons_zero, List.set_cons_succ]
            refine anyH_take (i := 18) (v := .bool false) rfl (some 113) rfl (by kernel_rfl) (by kernel_rfl) (by kernel_rfl) (fun _ _ _ h => by cases h.1) (by kernel_rfl) (fun w0 hw0 => by first | rfl | kernel_rfl) S0 ?_
            simp only [Act.put, List.setIfInBounds_toArray, List.set_cons_zero, List.set_cons_succ]
            refine anyH_take (i := 19) (v := .pointer (some ⟨nb, 6, none⟩)) rfl (some 114) rfl (by kernel_rfl) (by kernel_rfl) (by kernel_rfl) (fun _ _ _ h => by cases h.1) (by kernel_rfl) (fun w0 hw0 => by first | rfl | kernel_rfl) S0 ?_
            simp only [Act.put, List.setIfInBounds_toArray, List.set_cons_zero, List.set_cons_succ]
            refine anyH_take (i := 20) (v := .slice (some ⟨ib, io, none⟩) Ln u.ic) rfl (some 115) rfl (by kernel_rfl) (by kernel_rfl) (by kernel_rfl) (fun _ _ _ h => by cases h.1) (by kernel_rfl) (fun w0 hw0 => ex_load rfl rfl (load_one (agg_one26 _) ((hw0.cell (p := ⟨nb, 6, none⟩) vnl).trans v6))) S0 ?_
            simp only [Act.put, List.setIfInBounds_toArray, List.set_cons_zero, List.set_cons_succ]
            refine anyH_take (i := 21) (v := .int .i64 j) rfl (some 116) rfl (by kernel_rfl) (by kernel_rfl) (by kernel_rfl) (fun _ _ _ h => by cases h.1) (by kernel_rfl) (fun w0 hw0 => by first | rfl | kernel_rfl) S0 ?_
            simp only [Act.put, List.setIfInBounds_toArray, List.set_cons_zero, List.set_cons_succ]
            refine anyH_take (i := 22) (v := .pointer (some ⟨ib, io + j * 3, none⟩)) rfl (some 117) rfl (by kernel_rfl) (by kernel_rfl) (by kernel_rfl) (fun _ _ _ h => by cases h.1) (by kernel_rfl) (fun _ _ => ex_idxItem rfl rfl rfl hjnn) S0 ?_
            simp only [Act.put, List.setIfInBounds_toArray, List.set_cons_zero, List.set_cons_succ]
            refine anyH_take (i := 23) (v := .pointer (some ⟨ib, io + j * 3 + 1, none⟩)) rfl (some 118) rfl (by kernel_rfl) (by kernel_rfl) (by kernel_rfl) (fun _ _ _ h => by cases h.1) (by kernel_rfl) (fun _ _ => ex_fldI1 rfl rfl) S0 ?_
            simp only [Act.put, List.setIfInBounds_toArray, List.set_cons_zero, List.set_cons_succ]
            refine anyH_take (i := 24) (v := .string ⟨#[97, 64, 100]⟩) rfl (some 119) rfl (by kernel_rfl) (by kernel_rfl) (by kernel_rfl) (fun _ _ _ h => by cases h.1) (by kernel_rfl) (fun w0 hw0 => ex_load rfl rfl (load_one (agg_one9 _) ((hw0.cell (p := ⟨ib, _, none⟩) vil).trans vi1))) S0 ?_
            simp only [Act.put, List.setIfInBounds_toArray, List.set_cons_zero, List.set_cons_succ]
            refine anyH_take (i := 25) (v := .bool false) rfl (some 120) rfl (by kernel_rfl) (by kernel_rfl) (by kernel_rfl) (fun _ _ _ h => by cases h.1) (by kernel_rfl) (fun _ _ => ex_neqS rfl rfl rfl (by simp)) S0 ?_
            simp only [Act.put, List.setIfInBounds_toArray, List.set_cons_zero, List.set_cons_succ]
            refine anyH_val (i := 26) (v := .bool false) (by kernel_rfl) rfl (some 121) rfl (by kernel_rfl) (ex_pkF rfl rfl rfl) S0 ?_
            simp only [Act.put, List.setIfInBounds_toArray, List.set_cons_zero, List.set_cons_succ]
            exact wpAnyH_done (by kernel_rfl) ⟨rfl, rfl, rfl⟩ _
          case hq =>
            have HB9 := hide B9
            clear hV9 B9 v6 vnl vi0 vi1 vil vs0 vsl i0' i1' s0 c6 hib hsb hnbl
            go_wp2_with fail
            go_roundw
            case rel => exact ⟨j + 1, by omega, by simp, HB.out.trans (HB9.out.mono HB.out.size)⟩
            case measure => simp [intOf]; omega
        · have hj' : j = Ln := by omega
          have hb2 := HR0.out.2.1.trans (hbt.mono HR0.out.2.1.size)
          have HLi := hide (live11_any wr (HL.out.2.1.below hb2))
          have HN3 := hide n3
          have HB2 := hide hb2
          clear n3 hm3 hs3 hbt hb2 c6
          go_wp2_with fail
          refine HLi.out.mono ?_
          rintro e w9 ⟨rfl, b9⟩
          have c6 := (nd_box ((b9.block _ (Array.getElem?_eq_some_iff.1 HN3.out).1).trans HN3.out)).2.2.2.2.2.2.1
          rw [hlen] at c6
          have H9 := hide (HB2.out.trans (b9.mono HB2.out.size))
          clear b9
          go_wp2_with fail
          go_ret
          exact ⟨rfl, H9.out⟩
theorem nodeKeeps_int (ao : Option Addr) (cap : Nat) (ids : List UInt8) (z : Int) (h0 : 0 ≤ z) (h1 : z ≤ 255) (w : World) (_ : ids.length ≤ cap) (hids : BytesIn w.heap.size w ao ids) (hg : Glob w) :
    Calls Tryd.prog 6 #[.slice ao ids.length cap, .int .u8 z] w fun e w' => e = .returned (.bool true) ∧ Below w.heap.size w w' := by
  obtain ⟨k, rfl⟩ : ∃ k : Nat, z = k := ⟨z.toNat, by omega⟩
  exact nodeKeeps_any ao cap ids k (by omega) w hids hg
end Go.Proofs.YtffjmkngdjbjlaaDoor
