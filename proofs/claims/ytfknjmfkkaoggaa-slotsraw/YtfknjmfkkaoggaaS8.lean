/- Slots: the slot that counts. -/
import Derived.Test.YtfknjmfkkaoggaaS7
namespace Go.Proofs.Ytfknjmfkkaoggaa
open Go.RowKit Go.Shelf

/-- What a slot holds. -/
structure Hd where
  slot : Nat
  turn : V
  bytes : List UInt8
instance (d : Dv) (k : Nat) : Decidable (HoldsS d k) := by unfold HoldsS; infer_instance
/-- The best of the first slots. -/
def best (d : Dv) : Nat → Hd
  | 0 => ⟨1, 0#64, []⟩
  | k + 1 => if HoldsS d k ∧ (best d k).turn.toNat < (rT (readS d k)).toNat then ⟨k, rT (readS d k), bytL d k (rN (readS d k)).toNat⟩ else best d k
/-- The slot that counts. -/
def theL (d : Dv) : Hd := best d 2
theorem best_slot (d : Dv) : ∀ k, k ≤ 2 → (best d k).slot ≤ 1
  | 0, _ => Nat.le_refl _
  | k + 1, h => by
    unfold best
    split
    · show k ≤ 1
      omega
    · exact best_slot d k (by omega)
theorem best_yes {d : Dv} {k : Nat} (h : HoldsS d k) (hl : (best d k).turn.toNat < (rT (readS d k)).toNat) : best d (k + 1) = ⟨k, rT (readS d k), bytL d k (rN (readS d k)).toNat⟩ := if_pos ⟨h, hl⟩
theorem best_no {d : Dv} {k : Nat} (h : ¬ (HoldsS d k ∧ (best d k).turn.toNat < (rT (readS d k)).toNat)) : best d (k + 1) = best d k := if_neg h
theorem best_len {d : Dv} (hd : DvOk d) (h3 : d.las.length ≤ 4096) : ∀ k, (best d k).bytes.length ≤ (d.las.length - 2) / 2 * 64
  | 0 => Nat.zero_le _
  | k + 1 => by
    unfold best
    split
    · rename_i h
      show (bytL d k _).length ≤ _
      rw [bytL_len hd]
      exact h.1.2.2.1
    · exact best_len hd h3 k
theorem results_held2 {fn : Func} {tmps : Array Value} {w : World} {b : Nat} {v0 v1 v2 : Value} (h : fn.results = #[.cell 2 77]) (hp : tmps[2]?.getD undef = .pointer (some ⟨b, 0, none⟩)) (hc : w.heap[b]? = some (.cells #[v0, v1, v2] 77)) : (results fn tmps).run Try.prog w = .ok (.agg #[v0, v1, v2]) w := by
  obtain ⟨c0, c1, c2, _⟩ := cells3h hc
  simp [results, h, hp, c0, c1, c2, go_sem, Try.isAgg77, Try.sizeOf77]
theorem holds_yes {base p : Nat} {d : Dv} {vl vw : Value} {k : Nat} {w : World} (h : IsD base p d vl vw w) (hd : DvOk d) (h2 : 4 ≤ d.las.length) (h3 : d.las.length ≤ 4096) (hk : k ≤ 1) (hh : HoldsS d k) :
    Calls Try.prog 59 #[hv p, .int .i64 k] w fun e w' => ∃ ga gc, e = .returned (.tuple #[.agg #[.int .i64 k, .int .u64 (rT (readS d k)).toNat, .slice ga (bytL d k (rN (readS d k)).toNat).length gc], .bool true]) ∧ w'.ownsRow w.heap.size 5 1 (.slice ga (bytL d k (rN (readS d k)).toNat).length gc) (bytL d k (rN (readS d k)).toNat).length (Lib.byteCells (bytL d k (rN (readS d k)).toNat)) ∧ Below w.heap.size w w' := by
  refine (holds_any base p d vl vw k w h hd h2 h3 hk).mono ?_
  rintro e w' ⟨⟨_, v, rfl, o⟩ | ⟨hn, _⟩, b⟩
  · rw [bytL_len hd]
    obtain ⟨ga, gc, rfl⟩ := own_shape o
    exact ⟨ga, gc, rfl, o, b⟩
  · exact absurd hh hn
theorem holds_no {base p : Nat} {d : Dv} {vl vw : Value} {k : Nat} {w : World} (h : IsD base p d vl vw w) (hd : DvOk d) (h2 : 4 ≤ d.las.length) (h3 : d.las.length ≤ 4096) (hk : k ≤ 1) (hh : ¬ HoldsS d k) :
    Calls Try.prog 59 #[hv p, .int .i64 k] w fun e w' => e = .returned (.tuple #[.agg #[.int .i64 0, .int .u64 0, .slice none 0 0], .bool false]) ∧ Below w.heap.size w w' := by
  refine (holds_any base p d vl vw k w h hd h2 h3 hk).mono ?_
  rintro e w' ⟨⟨hn, _⟩ | ⟨_, he⟩, b⟩
  · exact absurd hn hh
  · exact ⟨he, b⟩
set_option maxRecDepth 100000 in
set_option maxHeartbeats 4000000 in
theorem theSlot_any (base p : Nat) (d : Dv) (vl vw : Value) (w : World) (h : IsD base p d vl vw w) (hd : DvOk d) (h2 : 4 ≤ d.las.length) (h3 : d.las.length ≤ 4096) :
    Calls Try.prog 44 #[hv p] w fun e w' => ∃ ga gc, e = .returned (.agg #[.int .i64 (theL d).slot, .int .u64 (theL d).turn.toNat, .slice ga (theL d).bytes.length gc]) ∧ w'.ownsRow w.heap.size 5 1 (.slice ga (theL d).bytes.length gc) (theL d).bytes.length (Lib.byteCells (theL d).bytes) ∧ Below w.heap.size w w' := by
  obtain ⟨W1, hW1, a0, a1, hz, hb⟩ := two_new w (.cells #[.pointer (some ⟨p, 0, none⟩)] 79) (.cells #[.int .i64 0, .int .u64 0, .slice none 0 0] 77)
  obtain ⟨W2, hW2, e2, c2, z2⟩ : ∃ W, W1.alloc (.cells #[.int .i64 1, .int .u64 0, .slice none 0 0] 77) = W ∧ W.heap[W1.heap.size]? = some (.cells #[.int .i64 1, .int .u64 0, .slice none 0 0] 77) ∧ Below W1.heap.size W1 W ∧ W.heap.size = W1.heap.size + 1 := ⟨_, rfl, World.alloc_heap_new _ _, (Below.refl _ _).alloc (Nat.le_refl _) _, by simp⟩
  rw [hz] at e2
  have HST := hide (run_store_new (P := Try.prog) infoHeld W1 (cs := #[.int .i64 1, .int .u64 0, .slice none 0 0]) (c := #[.int .i64 0, .int .u64 0, .slice none 0 0]) rfl rfl (by simp [Value.oneCell']))
  have g0 := (c2.block _ (hp_lt a0)).trans a0
  have g1 := (c2.block _ (hp_lt a1)).trans a1
  have gb : Below w.heap.size w W2 := hb.trans (c2.mono hb.size)
  have HW := hide hW1
  have H0 := hide (And.intro g0 (And.intro g1 (And.intro e2 (And.intro gb (And.intro h hd)))))
  clear hW1 a0 a1 hb h hd g0 g1 e2 gb c2
  unfold hv
  go_enter Try.func44, Try.ntmps44
  go_wp2_with (first
    | (refine l_store 77 HST.out rfl rfl rfl rfl ?_; rw [hW2])
    | (refine l_alloc 77 infoHeld rfl rfl ?_; rw [HW.out])
    | (refine l_alloc 77 infoHeld rfl rfl ?_))
  go_loopw [8] (fun i wr => ∃ (j : Nat) (ga : Option Addr) (gc : Nat), j ≤ 2 ∧ i = .int .i64 j ∧ wr.heap[w.heap.size + 2]? = some (.cells #[.int .i64 (best d j).slot, .int .u64 (best d j).turn.toNat, .slice ga (best d j).bytes.length gc] 77) ∧ wr.ownsRow w.heap.size 5 1 (.slice ga (best d j).bytes.length gc) (best d j).bytes.length (Lib.byteCells (best d j).bytes) ∧ wr.heap[w.heap.size]? = some (.cells #[.pointer (some ⟨p, 0, none⟩)] 79) ∧ wr.heap[w.heap.size + 1]? = some (.cells #[.int .i64 0, .int .u64 0, .slice none 0 0] 77) ∧ Below w.heap.size w wr) (fun i _ => 2 - (intOf i).toNat)
  case atStart => exact ⟨0, none, 0, Nat.zero_le _, rfl, H0.out.2.2.1, World.ownsRow_nil _ _ _ _, H0.out.1, H0.out.2.1, H0.out.2.2.2.1⟩
  case round =>
    obtain ⟨j, ga, gc, hj, rfl, gB, hown, g0, g1, gb⟩ := hrel
    obtain ⟨_, _, _, _, h, hd⟩ := H0.out
    have x0 : wr.cell? ⟨w.heap.size, 0, none⟩ = some (.pointer (some ⟨p, 0, none⟩)) := by simp [World.cell?, g0]
    obtain ⟨y0, y1, y2, y3, y4, y5⟩ := cells3h gB
    obtain ⟨bh, hbh⟩ : ∃ bh, best d j = bh := ⟨_, rfl⟩
    obtain ⟨bs, bt, bl⟩ := bh
    rw [hbh] at gB hown y0 y1 y2
    dsimp only at gB hown y0 y1 y2
    obtain ⟨nl, hnl⟩ : ∃ nl, bl.length = nl := ⟨_, rfl⟩
    rw [hnl] at gB hown y2
    by_cases hlt : j < 2
    · have hlt' : (j : Int) < 2 := by omega
      have hwj : IntKind.i64.wrap ((j : Int) + 1) = (j : Int) + 1 := by rw [IntKind.wrap_i64]; omega
      obtain ⟨rt, hrt⟩ : ∃ rt, rT (readS d j) = rt := ⟨_, rfl⟩
      obtain ⟨rl, hrl⟩ : ∃ rl, bytL d j (rN (readS d j)).toNat = rl := ⟨_, rfl⟩
      obtain ⟨nr, hnr⟩ : ∃ nr, rl.length = nr := ⟨_, rfl⟩
      by_cases hh : HoldsS d j
      · have hHo := holds_yes (h.below gb) hd h2 h3 (show j ≤ 1 by omega) hh
        rw [hrt, hrl, hnr] at hHo
        unfold hv at hHo
        have HHo := hide hHo
        have HI := hide (And.intro gB (And.intro hown (And.intro g0 (And.intro g1 (And.intro gb (And.intro hh (And.intro hbh (And.intro hrt (And.intro hrl (And.intro hnr hnl))))))))))
        clear gB hown g0 g1 gb hh hbh hrt hrl hnr hnl h hd hHo
        go_wp2_with (go_at_call 59; refine HHo.out.mono ?_; rintro e w3 ⟨gr, gd, rfl, o3, b3⟩; refine stopHere ?_)
        unfold Hid
        obtain ⟨W4, hW4, e4, c4, z4⟩ : ∃ W, w3.alloc (.cells #[.int .i64 j, .int .u64 rt.toNat, .slice gr nr gd] 77) = W ∧ W.heap[w3.heap.size]? = some (.cells #[.int .i64 j, .int .u64 rt.toNat, .slice gr nr gd] 77) ∧ Below w3.heap.size w3 W ∧ W.heap.size = w3.heap.size + 1 := ⟨_, rfl, World.alloc_heap_new _ _, (Below.refl _ _).alloc (Nat.le_refl _) _, by simp⟩
        have HS4 := hide (run_store_new (P := Try.prog) infoHeld w3 (cs := #[.int .i64 j, .int .u64 rt.toNat, .slice gr nr gd]) (c := #[.int .i64 0, .int .u64 0, .slice none 0 0]) rfl rfl (by simp [Value.oneCell']))
        obtain ⟨gB, hown, g0, g1, gb, hh, hbh, hrt, hrl, hnr, hnl⟩ := HI.out
        have D4 : Below wr.heap.size wr W4 := b3.trans (c4.mono b3.size)
        have gB4 := (D4.block _ (hp_lt gB)).trans gB
        have g04 := (D4.block _ (hp_lt g0)).trans g0
        have g14 := (D4.block _ (hp_lt g1)).trans g1
        have hown4 := own_same hown (fun g hg => D4.block g (own_lt hown g hg))
        have o4 := own_same o3 (fun g hg => c4.block g (own_lt o3 g hg))
        have gb4 : Below w.heap.size w W4 := gb.trans (D4.mono gb.size)
        clear x0 y0 y1 y2 y3 y4 y5
        obtain ⟨y0, y1, y2, y3, y4, y5⟩ := cells3h gB4
        obtain ⟨z0, z1, z2', _⟩ := cells3h e4
        have hlt4 : w.heap.size + 2 < wr.heap.size := hp_lt gB
        have hwr : wr.heap.size ≤ w3.heap.size := b3.size
        have hwb := gb.size
        have H4 := hide (And.intro gB4 (And.intro g04 (And.intro g14 (And.intro hown4 (And.intro o4 (And.intro gb4 (And.intro hh (And.intro hbh (And.intro hrt (And.intro hrl (And.intro hnr hnl)))))))))))
        clear gB hown g0 g1 gb hh hbh hrt hrl hnr hnl D4 gB4 g04 g14 hown4 o4 gb4 o3 b3 c4 e4 HI HHo z4
        by_cases hgt : bt.toNat < rt.toNat
        · have hgti : (bt.toNat : Int) < (rt.toNat : Int) := by omega
          go_wp2_with (first
            | (refine l_store 77 HS4.out rfl rfl rfl rfl ?_; rw [hW4])
            | (refine l_alloc 77 infoHeld rfl rfl ?_))
          obtain ⟨gB4, g04, g14, hown4, o4, gb4, hh, hbh, hrt, hrl, hnr, hnl⟩ := H4.out
          have hb1 : best d (j + 1) = ⟨j, rt, rl⟩ := by
            rw [best_yes hh (by rw [hbh, hrt]; exact hgt), hrt, hrl]
          refine ⟨⟨j + 1, gr, gd, by omega, by simp, ?_, ?_, ?_, ?_, ?_⟩, by simp [intOf]; omega⟩
          · rw [hb1]
            dsimp only
            rw [hnr]
            exact set3 gB4 _ _ _
          · rw [hb1]
            dsimp only
            rw [hnr]
            exact own_less (own_same o4 (fun g hg => other3 _ _ _ (by have := own_base o4 g hg; omega))) hwb
          · exact (other3 _ _ _ (by omega)).trans g04
          · exact (other3 _ _ _ (by omega)).trans g14
          · exact below3 gb4 (by omega) _ _ _
        · have hgti : ¬ ((bt.toNat : Int) < (rt.toNat : Int)) := by omega
          go_wp2_with (first
            | (refine l_store 77 HS4.out rfl rfl rfl rfl ?_; rw [hW4])
            | (refine l_alloc 77 infoHeld rfl rfl ?_))
          obtain ⟨gB4, g04, g14, hown4, o4, gb4, hh, hbh, hrt, hrl, hnr, hnl⟩ := H4.out
          have hb1 : best d (j + 1) = ⟨bs, bt, bl⟩ := by
            rw [best_no (fun hx => by have := hx.2; rw [hbh, hrt] at this; exact hgt this), hbh]
          refine ⟨⟨j + 1, ga, gc, by omega, by simp, ?_, ?_, g04, g14, gb4⟩, by simp [intOf]; omega⟩
          · rw [hb1]
            dsimp only
            rw [hnl]
            exact gB4
          · rw [hb1]
            dsimp only
            rw [hnl]
            exact hown4
      · have hHo := holds_no (h.below gb) hd h2 h3 (show j ≤ 1 by omega) hh
        unfold hv at hHo
        have HHo := hide hHo
        have HI := hide (And.intro gB (And.intro hown (And.intro g0 (And.intro g1 (And.intro gb (And.intro hh (And.intro hbh hnl)))))))
        clear gB hown g0 g1 gb hh hbh hrt hrl hnr hnl h hd hHo
        go_wp2_with (go_at_call 59; refine HHo.out.mono ?_; rintro e w3 ⟨rfl, b3⟩; refine stopHere ?_)
        unfold Hid
        obtain ⟨W4, hW4, e4, c4, z4⟩ : ∃ W, w3.alloc (.cells #[.int .i64 0, .int .u64 0, .slice none 0 0] 77) = W ∧ W.heap[w3.heap.size]? = some (.cells #[.int .i64 0, .int .u64 0, .slice none 0 0] 77) ∧ Below w3.heap.size w3 W ∧ W.heap.size = w3.heap.size + 1 := ⟨_, rfl, World.alloc_heap_new _ _, (Below.refl _ _).alloc (Nat.le_refl _) _, by simp⟩
        have HS4 := hide (run_store_new (P := Try.prog) infoHeld w3 (cs := #[.int .i64 0, .int .u64 0, .slice none 0 0]) (c := #[.int .i64 0, .int .u64 0, .slice none 0 0]) rfl rfl (by simp [Value.oneCell']))
        obtain ⟨gB, hown, g0, g1, gb, hh, hbh, hnl⟩ := HI.out
        have D4 : Below wr.heap.size wr W4 := b3.trans (c4.mono b3.size)
        have gB4 := (D4.block _ (hp_lt gB)).trans gB
        have g04 := (D4.block _ (hp_lt g0)).trans g0
        have g14 := (D4.block _ (hp_lt g1)).trans g1
        have hown4 := own_same hown (fun g hg => D4.block g (own_lt hown g hg))
        have gb4 : Below w.heap.size w W4 := gb.trans (D4.mono gb.size)
        have H4 := hide (And.intro gB4 (And.intro g04 (And.intro g14 (And.intro hown4 (And.intro gb4 (And.intro hh (And.intro hbh hnl)))))))
        have HW4 := hide hW4
        clear gB hown g0 g1 gb hh hbh hnl D4 gB4 g04 g14 hown4 gb4 b3 c4 e4 HI HHo z4 x0 y0 y1 y2 y3 y4 y5 hW4
        go_wp2_with (first
          | (refine l_store 77 HS4.out rfl rfl rfl rfl ?_; rw [HW4.out])
          | (refine l_alloc 77 infoHeld rfl rfl ?_))
        obtain ⟨gB4, g04, g14, hown4, gb4, hh, hbh, hnl⟩ := H4.out
        have hb1 : best d (j + 1) = ⟨bs, bt, bl⟩ := by
          rw [best_no (fun hx => hh hx.1), hbh]
        refine ⟨⟨j + 1, ga, gc, by omega, by simp, ?_, ?_, g04, g14, gb4⟩, by simp [intOf]; omega⟩
        · rw [hb1]
          dsimp only
          rw [hnl]
          exact gB4
        · rw [hb1]
          dsimp only
          rw [hnl]
          exact hown4
    · obtain rfl : j = 2 := by omega
      obtain ⟨q0, q1, q2, q3, q4, q5⟩ := cells3h g1
      have HI := hide (And.intro gB (And.intro hown (And.intro g1 (And.intro gb (And.intro hbh hnl)))))
      clear gB hown g0 g1 gb hbh hnl h hd
      go_wp2_with fail
      obtain ⟨gB, hown, g1, gb, hbh, hnl⟩ := HI.out
      refine bodyPost_ret (results_held2 rfl rfl (set3 g1 _ _ _)) rfl ⟨ga, gc, ?_, ?_, below3 gb (by omega) _ _ _⟩
      · unfold theL
        rw [hbh]
        dsimp only
        rw [hnl]
      · unfold theL
        rw [hbh]
        dsimp only
        rw [hnl]
        exact own_same hown (fun g hg => other3 _ _ _ (own_ne0 hown g1 (by decide) g hg))
end Go.Proofs.Ytfknjmfkkaoggaa
