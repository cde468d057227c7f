/- NodeBack: Decode of Encode is the node, Encode of Decode is the text. -/
import Derived.Test.YtimhkgpjfppkmaaGreatDoorRC
import Derived.Test.YtimhkgpjfppkmaaGreatDoorRD
import Derived.Test.YtimhkgpjfppkmaaGreatDoorQL
import Derived.Test.YtimhkgpjfppkmaaGreatDoorRM
namespace Go.Proofs.YtimhkgpjfppkmaaGreatDoor
open Go.RowKit Go.Shelf

set_option maxRecDepth 100000 in
set_option maxHeartbeats 4000000 in
theorem nodeBack_any (n : Nd) (v : NdW) (s : ByteArray) (w : World) (hr : RawM w n v) (hg : Glob w) (he : GlobE w) (hs : s.size ≤ 281474976710656) :
    Calls Tryz.prog 3 #[.agg (ndA n v), .string s] w fun e w' => e = .returned (.bool true) ∧ Below w.heap.size w w' := by
  obtain ⟨W, hW⟩ : ∃ W, w.alloc (.cells (ndA n v) 27) = W := ⟨_, rfl⟩
  have f0 : W.heap[w.heap.size]? = some (.cells (ndA n v) 27) := by rw [← hW]; exact World.alloc_heap_new _ _
  have bW : Below w.heap.size w W := by rw [← hW]; exact below_refl_alloc w _
  have HFew := hide (few_any n v W (hr.move bW))
  have HG := hide (And.intro hg he)
  have HK := hide (And.intro f0 (And.intro bW (And.intro hr.mem hs)))
  have HA := hide (load_nd f0)
  have HW := hide hW
  rw [← hW] at HFew HA
  obtain ⟨N, hN⟩ : ∃ N, fewN n = N := ⟨_, rfl⟩
  rw [hN] at HFew HK
  clear hr hg he f0 bW hW hs hN
  go_enter Tryz.func3, Tryz.ntmps3
  go_wp2_with (refine l_load _ HA.out rfl rfl rfl ?_)
  refine HFew.out.mono ?_
  rintro e w1 ⟨rfl, b1⟩
  have b1' : Below W.heap.size W w1 := by
    have h : _ = W := HW.out
    rw [h] at b1
    exact b1
  have g0 := (b1'.block _ (Array.getElem?_eq_some_iff.1 HK.out.1).1).trans HK.out.1
  have B1 := HK.out.2.1.trans (b1'.mono HK.out.2.1.size)
  have HR := hide g0
  clear b1 b1' HW HA HFew
  rename_i K1 hK1
  refine hK1 _ _ ?_
  refine l_store _ (store_nd (n := N) (u := v) HR.out) rfl rfl rfl rfl ?_
  have h0 : (setNd w1 w.heap.size N v).heap[w.heap.size]? = some (.cells (ndA N v) 27) := setNd_heap g0
  have B2 : Below w.heap.size w (setNd w1 w.heap.size N v) := setNd_below B1 (Nat.le_refl _)
  obtain ⟨W1, hW1⟩ : ∃ W1, setNd w1 w.heap.size N v = W1 := ⟨_, rfl⟩
  rw [hW1] at h0 B2 ⊢
  have hm1 := HK.out.2.2.1.move B2
  have HEn := hide (encode_any N v W1 hm1 (HG.out.2.below B2) (HG.out.1.below B2))
  have H1 := hide (And.intro h0 (And.intro B2 hm1))
  have HL1 := hide h0
  clear hm1 h0 B2 hW1 HR B1 g0
  go_wp2_with (refine l_load _ (load_nd (n := N) (v := v) HL1.out) rfl rfl rfl ?_)
  refine HEn.out.mono ?_
  rintro e W2 ⟨⟨hr, rfl⟩ | ⟨hr, rfl⟩, b2⟩
  · have B3 : Below w.heap.size w W2 := H1.out.2.1.trans (b2.mono H1.out.2.1.size)
    have hen : (sbT (encN N)).size ≤ 281474976710656 := by
      have h1 := enc_len (wordsN N) (words_small hr)
      rw [words_enc (right_small hr)] at h1
      have h2 := words_count (right_small hr)
      have h3 : (sbT (encN N)).size = (encN N).length := rfl
      omega
    have HD := hide (decode_any (sbT (encN N)) hen W2 (HG.out.2.below B3) (HG.out.1.below B3))
    have f3 := (b2.block _ (Array.getElem?_eq_some_iff.1 H1.out.1).1).trans H1.out.1
    have H2 := hide (And.intro hr (And.intro f3 (And.intro B3 (H1.out.2.2.move b2))))
    clear hr b2 B3 hen f3
    go_wp2_with fail
    refine HD.out.mono ?_
    rintro e W3 ⟨⟨m, u, rfl, hm, _, hn⟩ | ⟨_, hno⟩, b3⟩
    · obtain rfl : m = N := by
        rw [bs_sb, back_enc H2.out.1] at hn
        injection hn with hn
        injection hn with hn _
        exact hn.symm
      obtain ⟨W4, hW4⟩ : ∃ W, W3.alloc (.cells (ndA m u) 27) = W := ⟨_, rfl⟩
      have b4 : Below W3.heap.size W3 W4 := by rw [← hW4]; exact below_refl_alloc W3 _
      have f4 : W4.heap[W3.heap.size]? = some (.cells (ndA m u) 27) := by rw [← hW4]; exact World.alloc_heap_new _ _
      have b24 : Below W2.heap.size W2 W4 := b3.trans (b4.mono b3.size)
      have g4 := (b24.block _ (Array.getElem?_eq_some_iff.1 H2.out.2.1).1).trans H2.out.2.1
      have B4 : Below w.heap.size w W4 := H2.out.2.2.1.trans (b24.mono H2.out.2.2.1.size)
      have HSm := hide (same_yes m u v W4 (hm.move b4) (H2.out.2.2.2.move b24))
      have HF4 := hide f4
      have HG4 := hide g4
      have HW4 := hide hW4
      have HB4 := hide B4
      rw [← hW4] at HSm HF4 HG4
      have hlit : (ndA m u : Array Value) = #[.string m.name, .bool m.coll, .int .u8 m.acc, .int .i64 m.max, .slice u.aa m.affs.length u.ac, .slice u.sa m.subs.length u.sc, .slice u.ia m.items.length u.ic, .string m.parent] := rfl
      have hlit2 : (ndA m v : Array Value) = #[.string m.name, .bool m.coll, .int .u8 m.acc, .int .i64 m.max, .slice v.aa m.affs.length v.ac, .slice v.sa m.subs.length v.sc, .slice v.ia m.items.length v.ic, .string m.parent] := rfl
      rw [hlit] at HSm HF4 HG4 ⊢
      rw [hlit2] at HSm
      clear hlit hlit2 hn hm b3 b4 f4 b24 g4 B4 hW4
      have c0 := (nd_box HG4.out).1
      have c1 := (nd_box HG4.out).2.1
      have c2 := (nd_box HG4.out).2.2.1
      have c3 := (nd_box HG4.out).2.2.2.1
      have c4 := (nd_box HG4.out).2.2.2.2.1
      have c5 := (nd_box HG4.out).2.2.2.2.2.1
      have c6 := (nd_box HG4.out).2.2.2.2.2.2.1
      have c7 := (nd_box HG4.out).2.2.2.2.2.2.2
      go_wp2_with fail
      clear c0 c1 c2 c3 c4 c5 c6 c7
      refine HSm.out.mono ?_
      rintro e W5 ⟨rfl, b5⟩
      have hlit : (ndA m u : Array Value) = #[.string m.name, .bool m.coll, .int .u8 m.acc, .int .i64 m.max, .slice u.aa m.affs.length u.ac, .slice u.sa m.subs.length u.sc, .slice u.ia m.items.length u.ic, .string m.parent] := rfl
      have hW4 : W3.alloc (.cells (ndA m u) 27) = W4 := HW4.out
      rw [← hlit, hW4] at b5
      have HX := hide (HB4.out.trans (b5.mono HB4.out.size))
      clear hlit hW4 b5 HSm HF4 HG4 HW4 HB4
      go_wp2_with fail
      refine (decode_any s HK.out.2.2.2 W5 (HG.out.2.below HX.out) (HG.out.1.below HX.out)).mono ?_
      rintro e X1 ⟨⟨m, u, rfl, hm, hrm, hn⟩ | ⟨rfl, _⟩, bX⟩
      · have B5 : Below w.heap.size w X1 := HX.out.trans (bX.mono HX.out.size)
        obtain ⟨X2, hX2⟩ : ∃ W, X1.alloc (.cells (ndA m u) 27) = W := ⟨_, rfl⟩
        have b6 : Below X1.heap.size X1 X2 := by rw [← hX2]; exact below_refl_alloc X1 _
        have f6 : X2.heap[X1.heap.size]? = some (.cells (ndA m u) 27) := by rw [← hX2]; exact World.alloc_heap_new _ _
        have B6 : Below w.heap.size w X2 := B5.trans (b6.mono B5.size)
        have HE2 := hide (encode_any m u X2 (hm.move b6) (HG.out.2.below B6) (HG.out.1.below B6))
        have H6 := hide (And.intro f6 (And.intro B6 (And.intro hrm (And.intro hn (hm.move b6)))))
        have HF6 := hide f6
        have HX2 := hide hX2
        rw [← hX2] at HE2 HF6
        have hlit : (ndA m u : Array Value) = #[.string m.name, .bool m.coll, .int .u8 m.acc, .int .i64 m.max, .slice u.aa m.affs.length u.ac, .slice u.sa m.subs.length u.sc, .slice u.ia m.items.length u.ic, .string m.parent] := rfl
        rw [hlit] at HE2 HF6 ⊢
        clear hlit bX b6 f6 B6 hX2 hm hrm hn B5
        go_wp2_with (refine l_load _ (load_nd (n := m) (v := u) HF6.out) rfl rfl rfl ?_)
        refine HE2.out.mono ?_
        rintro e X3 ⟨⟨_, rfl⟩ | ⟨hno, _⟩, b7⟩
        · have hlit : (ndA m u : Array Value) = #[.string m.name, .bool m.coll, .int .u8 m.acc, .int .i64 m.max, .slice u.aa m.affs.length u.ac, .slice u.sa m.subs.length u.sc, .slice u.ia m.items.length u.ic, .string m.parent] := rfl
          have hX2 : X1.alloc (.cells (ndA m u) 27) = X2 := HX2.out
          rw [← hlit, hX2] at b7
          have f7 := (b7.block _ (Array.getElem?_eq_some_iff.1 H6.out.1).1).trans H6.out.1
          have B7 : Below w.heap.size w X3 := H6.out.2.1.trans (b7.mono H6.out.2.1.size)
          have m7 := H6.out.2.2.2.2.move b7
          have hst : sbT (encN m) = s := by rw [back_dec H6.out.2.2.2.1, sb_bs]
          have H7 := hide (And.intro f7 (And.intro B7 m7))
          clear hlit hX2 b7 f7 B7 m7 HE2 HF6 HX2
          rw [hst]
          clear hst
          go_wp2_with fail
          refine (live11_any X3 (HG.out.1.below H7.out.2.1)).mono ?_
          rintro e X4 ⟨rfl, b8⟩
          have f8 := (b8.block _ (Array.getElem?_eq_some_iff.1 H7.out.1).1).trans H7.out.1
          have B8 : Below w.heap.size w X4 := H7.out.2.1.trans (b8.mono H7.out.2.1.size)
          have HR8 := hide (rightN_any m u X4 (H7.out.2.2.move b8) (HG.out.1.below B8))
          have HB8 := hide B8
          have hlit : (ndA m u : Array Value) = #[.string m.name, .bool m.coll, .int .u8 m.acc, .int .i64 m.max, .slice u.aa m.affs.length u.ac, .slice u.sa m.subs.length u.sc, .slice u.ia m.items.length u.ic, .string m.parent] := rfl
          rw [hlit] at HR8
          clear hlit
          have c0 := (nd_box f8).1
          have c1 := (nd_box f8).2.1
          have c2 := (nd_box f8).2.2.1
          have c3 := (nd_box f8).2.2.2.1
          have c4 := (nd_box f8).2.2.2.2.1
          have c5 := (nd_box f8).2.2.2.2.2.1
          have c6 := (nd_box f8).2.2.2.2.2.2.1
          have c7 := (nd_box f8).2.2.2.2.2.2.2
          clear f8 b8 B8
          go_wp2_with fail
          clear c0 c1 c2 c3 c4 c5 c6 c7
          refine HR8.out.mono ?_
          rintro e X5 ⟨⟨bb, rfl, hbb⟩, b9⟩
          obtain rfl : bb = true := hbb.2 H6.out.2.2.1
          have HB9 := hide (HB8.out.trans (b9.mono HB8.out.size))
          clear b9 hbb
          go_wp2_with fail
          go_ret
          exact ⟨rfl, HB9.out⟩
        · exact absurd H6.out.2.2.1 hno
      · have B5 : Below w.heap.size w X1 := HX.out.trans (bX.mono HX.out.size)
        obtain ⟨X2, hX2⟩ : ∃ W, X1.alloc (.cells noNd 27) = W := ⟨_, rfl⟩
        have b6 : Below X1.heap.size X1 X2 := by rw [← hX2]; exact below_refl_alloc X1 _
        have f6 : X2.heap[X1.heap.size]? = some (.cells noNd 27) := by rw [← hX2]; exact World.alloc_heap_new _ _
        have B6 : Below w.heap.size w X2 := B5.trans (b6.mono B5.size)
        have HLi := hide (live11_any X2 (HG.out.1.below B6))
        have H6 := hide (And.intro f6 (And.intro B6 hX2))
        rw [← hX2] at HLi
        unfold noNd at HLi ⊢
        clear bX b6 f6 B6 hX2 B5
        go_wp2_with fail
        refine HLi.out.mono ?_
        rintro e X4 ⟨rfl, b8⟩
        have hX2 : X1.alloc (.cells noNd 27) = X2 := H6.out.2.2
        unfold noNd at hX2
        rw [hX2] at b8
        have f8 := (b8.block _ (Array.getElem?_eq_some_iff.1 H6.out.1).1).trans H6.out.1
        have B8 : Below w.heap.size w X4 := H6.out.2.1.trans (b8.mono H6.out.2.1.size)
        have k0 : X4.cell? ⟨X1.heap.size, 0, none⟩ = some (.string ⟨#[]⟩) := by simp [World.cell?, f8, noNd]
        have HB8 := hide B8
        clear hX2 f8 b8 B8
        go_wp2_with fail
        go_ret
        exact ⟨rfl, HB8.out⟩
    · exact absurd (back_enc H2.out.1) (by have h := hno N H2.out.1; rw [bs_sb] at h; exact h)
  · have HX := hide (H1.out.2.1.trans (b2.mono H1.out.2.1.size))
    clear b2 hr
    go_wp2_with fail
    refine (decode_any s HK.out.2.2.2 W2 (HG.out.2.below HX.out) (HG.out.1.below HX.out)).mono ?_
    rintro e X1 ⟨⟨m, u, rfl, hm, hrm, hn⟩ | ⟨rfl, _⟩, bX⟩
    · have B5 : Below w.heap.size w X1 := HX.out.trans (bX.mono HX.out.size)
      obtain ⟨X2, hX2⟩ : ∃ W, X1.alloc (.cells (ndA m u) 27) = W := ⟨_, rfl⟩
      have b6 : Below X1.heap.size X1 X2 := by rw [← hX2]; exact below_refl_alloc X1 _
      have f6 : X2.heap[X1.heap.size]? = some (.cells (ndA m u) 27) := by rw [← hX2]; exact World.alloc_heap_new _ _
      have B6 : Below w.heap.size w X2 := B5.trans (b6.mono B5.size)
      have HE2 := hide (encode_any m u X2 (hm.move b6) (HG.out.2.below B6) (HG.out.1.below B6))
      have H6 := hide (And.intro f6 (And.intro B6 (And.intro hrm (And.intro hn (hm.move b6)))))
      have HF6 := hide f6
      have HX2 := hide hX2
      rw [← hX2] at HE2 HF6
      have hlit : (ndA m u : Array Value) = #[.string m.name, .bool m.coll, .int .u8 m.acc, .int .i64 m.max, .slice u.aa m.affs.length u.ac, .slice u.sa m.subs.length u.sc, .slice u.ia m.items.length u.ic, .string m.parent] := rfl
      rw [hlit] at HE2 HF6 ⊢
      clear hlit bX b6 f6 B6 hX2 hm hrm hn B5
      go_wp2_with (refine l_load _ (load_nd (n := m) (v := u) HF6.out) rfl rfl rfl ?_)
      refine HE2.out.mono ?_
      rintro e X3 ⟨⟨_, rfl⟩ | ⟨hno, _⟩, b7⟩
      · have hlit : (ndA m u : Array Value) = #[.string m.name, .bool m.coll, .int .u8 m.acc, .int .i64 m.max, .slice u.aa m.affs.length u.ac, .slice u.sa m.subs.length u.sc, .slice u.ia m.items.length u.ic, .string m.parent] := rfl
        have hX2 : X1.alloc (.cells (ndA m u) 27) = X2 := HX2.out
        rw [← hlit, hX2] at b7
        have f7 := (b7.block _ (Array.getElem?_eq_some_iff.1 H6.out.1).1).trans H6.out.1
        have B7 : Below w.heap.size w X3 := H6.out.2.1.trans (b7.mono H6.out.2.1.size)
        have m7 := H6.out.2.2.2.2.move b7
        have hst : sbT (encN m) = s := by rw [back_dec H6.out.2.2.2.1, sb_bs]
        have H7 := hide (And.intro f7 (And.intro B7 m7))
        clear hlit hX2 b7 f7 B7 m7 HE2 HF6 HX2
        rw [hst]
        clear hst
        go_wp2_with fail
        refine (live11_any X3 (HG.out.1.below H7.out.2.1)).mono ?_
        rintro e X4 ⟨rfl, b8⟩
        have f8 := (b8.block _ (Array.getElem?_eq_some_iff.1 H7.out.1).1).trans H7.out.1
        have B8 : Below w.heap.size w X4 := H7.out.2.1.trans (b8.mono H7.out.2.1.size)
        have HR8 := hide (rightN_any m u X4 (H7.out.2.2.move b8) (HG.out.1.below B8))
        have HB8 := hide B8
        have hlit : (ndA m u : Array Value) = #[.string m.name, .bool m.coll, .int .u8 m.acc, .int .i64 m.max, .slice u.aa m.affs.length u.ac, .slice u.sa m.subs.length u.sc, .slice u.ia m.items.length u.ic, .string m.parent] := rfl
        rw [hlit] at HR8
        clear hlit
        have c0 := (nd_box f8).1
        have c1 := (nd_box f8).2.1
        have c2 := (nd_box f8).2.2.1
        have c3 := (nd_box f8).2.2.2.1
        have c4 := (nd_box f8).2.2.2.2.1
        have c5 := (nd_box f8).2.2.2.2.2.1
        have c6 := (nd_box f8).2.2.2.2.2.2.1
        have c7 := (nd_box f8).2.2.2.2.2.2.2
        clear f8 b8 B8
        go_wp2_with fail
        clear c0 c1 c2 c3 c4 c5 c6 c7
        refine HR8.out.mono ?_
        rintro e X5 ⟨⟨bb, rfl, hbb⟩, b9⟩
        obtain rfl : bb = true := hbb.2 H6.out.2.2.1
        have HB9 := hide (HB8.out.trans (b9.mono HB8.out.size))
        clear b9 hbb
        go_wp2_with fail
        go_ret
        exact ⟨rfl, HB9.out⟩
      · exact absurd H6.out.2.2.1 hno
    · have B5 : Below w.heap.size w X1 := HX.out.trans (bX.mono HX.out.size)
      obtain ⟨X2, hX2⟩ : ∃ W, X1.alloc (.cells noNd 27) = W := ⟨_, rfl⟩
      have b6 : Below X1.heap.size X1 X2 := by rw [← hX2]; exact below_refl_alloc X1 _
      have f6 : X2.heap[X1.heap.size]? = some (.cells noNd 27) := by rw [← hX2]; exact World.alloc_heap_new _ _
      have B6 : Below w.heap.size w X2 := B5.trans (b6.mono B5.size)
      have HLi := hide (live11_any X2 (HG.out.1.below B6))
      have H6 := hide (And.intro f6 (And.intro B6 hX2))
      rw [← hX2] at HLi
      unfold noNd at HLi ⊢
      clear bX b6 f6 B6 hX2 B5
      go_wp2_with fail
      refine HLi.out.mono ?_
      rintro e X4 ⟨rfl, b8⟩
      have hX2 : X1.alloc (.cells noNd 27) = X2 := H6.out.2.2
      unfold noNd at hX2
      rw [hX2] at b8
      have f8 := (b8.block _ (Array.getElem?_eq_some_iff.1 H6.out.1).1).trans H6.out.1
      have B8 : Below w.heap.size w X4 := H6.out.2.1.trans (b8.mono H6.out.2.1.size)
      have k0 : X4.cell? ⟨X1.heap.size, 0, none⟩ = some (.string ⟨#[]⟩) := by simp [World.cell?, f8, noNd]
      have HB8 := hide B8
      clear hX2 f8 b8 B8
      go_wp2_with fail
      go_ret
      exact ⟨rfl, HB8.out⟩
end Go.Proofs.YtimhkgpjfppkmaaGreatDoor
