/- The nodes above one, the nearest first. -/
import Derived.Test.YtffjmkngdjbjlaaGreatDoorQC
import Derived.Test.YtffjmkngdjbjlaaGreatDoorRangeX
namespace Go.Proofs.YtffjmkngdjbjlaaGreatDoor
open Go.RowKit Go.Shelf Go.MapKept
open Go.ChangeMaps (setBlock)
attribute [local go_sem] Oper.semAt_some

/-- The numbers of the nodes above, so many steps; each that is found is struck off. -/
def ovGo (ns : List Nd) : Nat → List En → ByteArray → List Nat
  | 0, _, _ => []
  | f + 1, l, t => match getE l t with
    | none => []
    | some i => i :: ovGo ns f (delL l t) ((ns[i]?.map (·.parent)).getD ⟨#[]⟩)
theorem ovGo_none {ns : List Nd} {l : List En} {t : ByteArray} (h : getE l t = none) (f : Nat) : ovGo ns f l t = [] := by
  cases f with
  | zero => rfl
  | succ f => simp [ovGo, h]
theorem ovGo_some {ns : List Nd} {l : List En} {t : ByteArray} {i : Nat} (h : getE l t = some i) (f : Nat) : ovGo ns (f + 1) l t = i :: ovGo ns f (delL l t) ((ns[i]?.map (·.parent)).getD ⟨#[]⟩) := by simp [ovGo, h]
theorem ovGo_len (ns : List Nd) : ∀ (f : Nat) (l : List En) (t : ByteArray), (ovGo ns f l t).length ≤ f
  | 0, _, _ => Nat.le_refl _
  | f + 1, l, t => by
    cases h : getE l t with
    | none => rw [ovGo_none h]; simp
    | some i => rw [ovGo_some h]; have := ovGo_len ns f (delL l t) ((ns[i]?.map (·.parent)).getD ⟨#[]⟩); simp; omega
def ovL (ns : List Nd) (t : ByteArray) : List Nat := ovGo ns ns.length (plTo ns ns.length) t
theorem plTo_lt (ns : List Nd) : ∀ k x, x ∈ plTo ns k → x.v < k
  | 0, x, h => by simp [plTo] at h
  | k + 1, x, h => by
    unfold plTo at h
    split at h
    · unfold plAdd at h
      split at h
      · rcases List.mem_append.1 h with h | h
        · have := plTo_lt ns k x h
          omega
        · simp at h
          subst h
          exact Nat.lt_succ_self k
      · have := plTo_lt ns k x h
        omega
    · have := plTo_lt ns k x h
      omega
theorem getE_mem {l : List En} {t : ByteArray} {i : Nat} (h : getE l t = some i) : ∃ x ∈ l, x.v = i := by
  unfold getE at h
  obtain ⟨x, hx, e⟩ := Option.map_eq_some_iff.1 h
  exact ⟨x, List.mem_of_find?_eq_some hx, e⟩
/-- The blocks that are its own: the boxes, and the map. -/
def GO (o : Obj) : Prop := (∃ cs T, o = .cells cs T ∧ (T = 38 ∨ T = 30)) ∨ ∃ es c, o = .map es c
def ovV (ns : List Nd) (vs : Nat → NdW) (S : List Nat) (k : Nat) : Value :=
  match S[k]? with
  | none => undef
  | some i => match ns[i]? with
    | none => undef
    | some n => .agg (ndA n (vs i))
theorem one_cellN {W : World} {b : Nat} {v : Value} {T : TypeId} (h : W.heap[b]? = some (.cells #[v] T)) : W.cell? ⟨b, 0, none⟩ = some v := by simp [World.cell?, h]
set_option maxRecDepth 100000 in
set_option maxHeartbeats 8000000 in
theorem over_seq (n n₀ : Nat) (ao : Option Addr) (cap : Nat) (ns : List Nd) (vs : Nat → NdW) (nd : Nd) (v : NdW) (b1 b2 : Nat) (w : World) (hm : NdsMem n₀ w ao ns vs) (g1 : w.heap[b1]? = some (.cells #[.slice ao ns.length cap] 38)) (g2 : w.heap[b2]? = some (.cells (ndA nd v) 30)) (hb : n₀ ≤ b1 ∧ n₀ ≤ b2) :
    SeqOwn Fence.wide n Tryz.prog 50 #[] #[.pointer (some ⟨b1, 0, none⟩), .pointer (some ⟨b2, 0, none⟩)] (fun k => #[.int .i64 ((k : Int) + 1), ovV ns vs (ovL ns nd.parent) k]) n₀ (ovL ns nd.parent).length (fun j => j = b1 ∨ j = b2) GO w := fun lp J Jx W hW hnw hJ hY h0 => by
  obtain ⟨m, hml⟩ : ∃ m, ns.length = m := ⟨_, rfl⟩
  have hm3 : m ≤ 1000 := by have := hm.1; omega
  have hnW : n₀ ≤ W.heap.size := Nat.le_trans hnw hW.size
  have q1 := (hW.block b1 (Array.getElem?_eq_some_iff.1 g1).1).trans g1
  have q2 := (hW.block b2 (Array.getElem?_eq_some_iff.1 g2).1).trans g2
  have hmW := hm.below (hW.mono hnw)
  have hplc := places_any ao cap ns vs W (hmW.raise hnW)
  obtain ⟨S, hS⟩ : ∃ S, ovL ns nd.parent = S := ⟨_, rfl⟩
  rw [hS] at hY ⊢
  rw [hml] at q1 hplc
  have hS' : ovGo ns m (plTo ns m) nd.parent = S := by rw [← hS, ovL, hml]
  have c1 := one_cellN q1
  have hro : Fence.wide.round = none := rfl
  have HH := hide (And.intro hmW (And.intro q1 (And.intro q2 (And.intro hml (And.intro hS' hplc)))))
  have HJ := hide (And.intro hJ h0)
  have HY := hide hY
  have hl1 : b1 < W.heap.size := (Array.getElem?_eq_some_iff.1 q1).1
  have hl2 : b2 < W.heap.size := (Array.getElem?_eq_some_iff.1 q2).1
  clear hmW hml q1 q2 hJ h0 hY g1 g2 hm hW hS hS' hplc
  refine callsIn_of_wp Tryz.func50 rfl trivial ?_ hro
  simp only [Tryz.ntmps50, List.size_toArray, List.length_cons, List.length_nil, Nat.reduceAdd, Nat.reduceSub, Array.replicate_succ, Array.replicate_zero, List.push_toArray, List.append_toArray, List.nil_append, List.cons_append]
  gi_wp2_with fail
  refine ⟨trivial, fun h => by simp [Fence.wide] at h, (callsIn_wide.2 HH.out.2.2.2.2.2).mono ?_⟩
  rintro e w1 ⟨rfl, hmp, hb1⟩
  obtain ⟨mb, hmb⟩ : ∃ mb, W.heap.size = mb := ⟨_, rfl⟩
  rw [hmb] at hmp ⊢
  have r2 := (hb1.block b2 hl2).trans HH.out.2.2.1
  obtain ⟨_, _, _, _, _, _, _, p7⟩ := nd_box r2
  have hJ1 : J (fun j => (j = b1 ∨ j = b2) ∨ j = mb) 0 w1 := HJ.out.1 _ _ _ _ _ HJ.out.2 (hb1.mono hnW) (fun j hj _ => hb1.block j hj) (fun j hj h => by rcases h with h | h; exact h; omega)
  have H1 := hide (And.intro hmp (And.intro hb1 hJ1))
  clear hmp hb1 hJ1 r2 c1
  gi_wp2_with fail
  gi_loopw [5, 6] (fun par i wr => ∃ (k c : Nat) (t : ByteArray) (l : List En), k ≤ m ∧ i = .int .i64 ((k : Int) + 1) ∧ par = .string t ∧ S = S.take k ++ ovGo ns (m - k) l t ∧ k ≤ S.length ∧ J (fun j => (j = b1 ∨ j = b2) ∨ j = mb) k wr ∧ Below n₀ W wr ∧ (∀ j, (j = b1 ∨ j = b2) → wr.heap[j]? = W.heap[j]?) ∧ wr.heap[mb]? = some (.map (enA l) c) ∧ MOk l c ∧ ∀ x ∈ l, x.v < m) (fun _ i _ => m + 1 - (intOf i).toNat)
  case atStart => exact ⟨0, _, nd.parent, plTo ns m, Nat.zero_le _, rfl, rfl, by rw [List.take_zero, List.nil_append, Nat.sub_zero]; exact HH.out.2.2.2.2.1.symm, Nat.zero_le _, H1.out.2.2, H1.out.2.1.mono hnW, fun j hj => H1.out.2.1.block j (by rcases hj with rfl | rfl; exact hl1; exact hl2), H1.out.1, plTo_ok ns m, plTo_lt ns m⟩
  case round =>
    obtain ⟨k, c, t, l, hk, rfl, rfl, hch, hkN, hJk, hbw, hsB, hmp, hok, hlm⟩ := hrel
    have hw1 : IntKind.i64.wrap ((k : Int) + 1 + 1) = (k : Int) + 1 + 1 := by rw [IntKind.wrap_i64]; omega
    have hnr : n₀ ≤ wr.heap.size := Nat.le_trans hnW hbw.size
    have lt1 : b1 < wr.heap.size := Nat.lt_of_lt_of_le hl1 hbw.size
    have r1 : wr.cell? ⟨b1, 0, none⟩ = some (.slice ao m cap) := one_cellN ((hsB b1 (.inl rfl)).trans HH.out.2.1)
    have hmbl : mb < wr.heap.size := (Array.getElem?_eq_some_iff.1 hmp).1
    by_cases hlt : k < m
    · have hlti : (k : Int) + 1 ≤ m := by omega
      have hlk := run_lookup t hmp hok
      cases hg : getE l t with
      | none =>
        rw [hg] at hlk
        have hN : S.length = k := by
          have h1 := hch
          rw [ovGo_none hg, List.append_nil] at h1
          have h2 := congrArg List.length h1
          rw [List.length_take] at h2
          omega
        have HX := hide (And.intro hN hJk)
        clear hch hkN hJk hbw hsB hmp hok hlm hg hN
        gi_wp2_with fail
        refine ⟨fun f hf => by (cases hf), ?_⟩
        gi_wp2_with fail
        refine bodyPost_ret (results_none rfl _ _ _) rfl ?_
        exact ⟨⟨_, rfl⟩, .inl ⟨_, by rw [HX.out.1]; exact HX.out.2⟩⟩
      | some i =>
        rw [hg] at hlk
        obtain ⟨xe, hxe, hxi⟩ := getE_mem hg
        have him : i < m := by rw [← hxi]; exact hlm xe hxe
        have himi : (i : Int) < m := by omega
        have hi0 : (0 : Int) ≤ i := by omega
        obtain ⟨nn, hnn⟩ : ∃ nn, ns[i]? = some nn := ⟨_, List.getElem?_eq_getElem (by have := HH.out.2.2.2.1; omega)⟩
        obtain ⟨f, hf⟩ : ∃ f, m - k = f + 1 := ⟨m - k - 1, by omega⟩
        have hch' := hch
        rw [hf, ovGo_some hg, hnn] at hch'
        have hkl : (S.take k).length = k := by rw [List.length_take]; omega
        have hkx : S[k]? = some i := by rw [hch', List.getElem?_append_right (by omega), hkl]; simp
        have hkN' : k < S.length := (List.getElem?_eq_some_iff.1 hkx).1
        have hnx : S = S.take (k + 1) ++ ovGo ns (m - (k + 1)) (delL l t) nn.parent := by
          rw [List.take_add_one, hkx, show m - (k + 1) = f by omega]
          simpa using hch'
        obtain ⟨_, b, off, hao, hbl, hc⟩ := (HH.out.1.below hbw).2 i nn hnn
        have d0 := hc 0 (by omega)
        have d1 := hc 1 (by omega)
        have d2 := hc 2 (by omega)
        have d3 := hc 3 (by omega)
        have d4 := hc 4 (by omega)
        have d5 := hc 5 (by omega)
        have d6 := hc 6 (by omega)
        have d7 := hc 7 (by omega)
        simp only [ndC, List.getElem_cons_zero, List.getElem_cons_succ, Nat.add_zero] at d0 d1 d2 d3 d4 d5 d6 d7
        have hev : ovV ns vs S k = .agg (ndA nn (vs i)) := by simp [ovV, hkx, hnn]
        have hfin := (HY.out _ k wr hJk hkN' (fun j hj => by
          rcases hj with (rfl | rfl) | rfl
          · exact ⟨hb.1, _, (hsB _ (.inl rfl)).trans HH.out.2.1, .inl ⟨_, _, rfl, .inl rfl⟩⟩
          · exact ⟨hb.2, _, (hsB _ (.inr rfl)).trans HH.out.2.2.1, .inl ⟨_, _, rfl, .inr rfl⟩⟩
          · exact ⟨by omega, _, hmp, .inr ⟨_, _, rfl⟩⟩)).mono (R' := fun e W6 => (e = .returned (.bool true) ∧ J (fun j => (j = b1 ∨ j = b2) ∨ j = mb) (k + 1) W6 ∧ Below n₀ W W6 ∧ (∀ j, (j = b1 ∨ j = b2) → W6.heap[j]? = W.heap[j]?) ∧ W6.heap[mb]? = some (.map (enA l) c)) ∨ (e = .returned (.bool false) ∧ Jx (k + 1) W6)) (by
          rintro e W6 (⟨rfl, h1, h2, h3⟩ | h)
          · exact .inl ⟨rfl, h1, hbw.trans h3, fun j hj => (h2 j (.inl hj)).trans (hsB j hj), (h2 mb (.inr rfl)).trans hmp⟩
          · exact .inr h)
        obtain ⟨fn, tmps, assign, body, hy, hR⟩ := hfin
        rw [hev] at hy
        unfold ndA at hy
        have HRR := hide hR
        have HX := hide (And.intro hnx (And.intro hkN' (And.intro hok (And.intro hlm hnn))))
        subst hao
        clear hR hch hch' hkl hkx hkN hkN' hnx hev hJk hbw hsB hmp hok hlm hg hxe hxi hnn hc
        gi_wp2_with fail
        refine ⟨fun h => by simp [Fence.wide] at h, HRR.out.mono ?_⟩
        rintro e W6 (⟨rfl, j1, j2, j3, j4⟩ | ⟨rfl, j1⟩)
        · have hdel := run_delete (T := 0) t j4 HX.out.2.2.1
          have hm6 : mb < W6.heap.size := (Array.getElem?_eq_some_iff.1 j4).1
          have bS : Below n₀ W6 (setBlock W6 mb (.map (enA (delL l t)) c)) := below_setBlock (by omega) _
          have hs7 : ∀ j, (j = b1 ∨ j = b2) → (setBlock W6 mb (.map (enA (delL l t)) c)).heap[j]? = W.heap[j]? := fun j hj => (setBlock_off _ _ _ _ (by rcases hj with rfl | rfl <;> omega)).trans (j3 j hj)
          have f1 : (setBlock W6 mb (.map (enA (delL l t)) c)).cell? ⟨b1, 0, none⟩ = some (.slice (some ⟨b, off, none⟩) m cap) := one_cellN ((hs7 b1 (.inl rfl)).trans HH.out.2.1)
          obtain ⟨_, b', off', hao', _, hc7⟩ := (HH.out.1.below (j2.trans bS)).2 i nn HX.out.2.2.2.2
          cases hao'
          have f7 := hc7 7 (by omega)
          simp only [ndC, List.getElem_cons_zero, List.getElem_cons_succ] at f7
          have hJ7 : J (fun j => (j = b1 ∨ j = b2) ∨ j = mb) (k + 1) (setBlock W6 mb (.map (enA (delL l t)) c)) := HJ.out.1 _ _ _ _ _ j1 bS (fun j _ hj => setBlock_off _ _ _ _ (fun e => hj (.inr e))) (fun _ _ h => h)
          have HJ6 := hide (And.intro hJ7 (And.intro (j2.trans bS) (And.intro hs7 (setBlock_here W6 mb (.map (enA (delL l t)) c) hm6))))
          clear j1 j2 j3 j4 bS hs7 hc7 hJ7
          gi_wp2_with fail
          go_roundw
          case rel => exact ⟨k + 1, c, nn.parent, delL l t, by omega, by simp, rfl, HX.out.1, HX.out.2.1, HJ6.out.1, HJ6.out.2.1, HJ6.out.2.2.1, HJ6.out.2.2.2, delL_ok HX.out.2.2.1 t, fun x hx => HX.out.2.2.2.1 x (List.mem_filter.1 hx).1⟩
          case measure => simp [intOf]; omega
        · gi_wp2_with fail
          refine bodyPost_ret (results_none rfl _ _ _) rfl ?_
          exact ⟨⟨_, rfl⟩, .inr ⟨_, HX.out.2.1, j1⟩⟩
    · have hkm : k = m := by omega
      have hlti : ¬ ((k : Int) + 1 ≤ m) := by omega
      have hN : S.length = k := by
        have h1 := congrArg List.length hch
        rw [List.length_append, show m - k = 0 by omega] at h1
        simp only [ovGo, List.length_nil, Nat.add_zero, List.length_take] at h1
        omega
      have HX := hide (And.intro hN hJk)
      clear hch hkN hJk hbw hsB hmp hok hlm hN
      gi_wp2_with fail
      go_end0
      exact ⟨⟨_, rfl⟩, .inl ⟨_, by rw [HX.out.1]; exact HX.out.2⟩⟩
end Go.Proofs.YtffjmkngdjbjlaaGreatDoor
