/- Bytes of pairs, cut again: plain reasoning. kv.cutText: a text behind its length. -/
import Derived.Test.YtnbemfddcjhcaaaKD
namespace Go.Proofs.Ytnbemfddcjhcaaa.Kv
open Go.RowKit

def cut1 : Str → Option (Str × Str)
  | [] => none
  | c :: r => if c.toNat ≤ r.length then some (r.take c.toNat, r.drop c.toNat) else none
def cut2 : Str → Option (Str × Str)
  | c :: d :: r => if c.toNat * 256 + d.toNat ≤ r.length then some (r.take (c.toNat * 256 + d.toNat), r.drop (c.toNat * 256 + d.toNat)) else none
  | _ => none
def cutP (l : Str) : Option (Pr × Str) :=
  match cut1 l with
  | none => none
  | some (k, r) =>
    match cut2 r with
    | none => none
    | some (v, t) => some ((ofS k, ofS v), t)
theorem cut1_enc (s t : Str) (h : s.length < 256) : cut1 ([UInt8.ofNat s.length] ++ s ++ t) = some (s, t) := by
  have hn : (UInt8.ofNat s.length).toNat = s.length := by rw [UInt8.toNat_ofNat']; omega
  simp [cut1, hn]
theorem cut2_enc (s t : Str) (h : s.length < 65536) : cut2 ([UInt8.ofNat (s.length / 256)] ++ [UInt8.ofNat s.length] ++ s ++ t) = some (s, t) := by
  have hn : (UInt8.ofNat (s.length / 256)).toNat * 256 + (UInt8.ofNat s.length).toNat = s.length := by rw [UInt8.toNat_ofNat', UInt8.toNat_ofNat']; omega
  simp only [List.cons_append, List.nil_append, cut2]
  rw [hn]
  simp
theorem cut1_inv {l s t : Str} (h : cut1 l = some (s, t)) : l = [UInt8.ofNat s.length] ++ s ++ t ∧ s.length < 256 := by
  cases l with
  | nil => cases h
  | cons c r =>
    simp only [cut1] at h
    split at h
    · rename_i hc
      cases h
      have hl : (r.take c.toNat).length = c.toNat := by simp [hc]
      have hlt := c.toNat_lt
      refine ⟨?_, by omega⟩
      rw [hl, UInt8.ofNat_toNat]
      simp
    · cases h
theorem cut2_inv {l s t : Str} (h : cut2 l = some (s, t)) : l = [UInt8.ofNat (s.length / 256)] ++ [UInt8.ofNat s.length] ++ s ++ t ∧ s.length < 65536 := by
  match l, h with
  | c :: d :: r, h =>
    simp only [cut2] at h
    split at h
    · rename_i hc
      cases h
      have hl : (r.take (c.toNat * 256 + d.toNat)).length = c.toNat * 256 + d.toNat := by simp [hc]
      have h1 := c.toNat_lt
      have h2 := d.toNat_lt
      refine ⟨?_, by omega⟩
      have e1 : UInt8.ofNat ((c.toNat * 256 + d.toNat) / 256) = c := by
        rw [show (c.toNat * 256 + d.toNat) / 256 = c.toNat by omega, UInt8.ofNat_toNat]
      have e2 : UInt8.ofNat (c.toNat * 256 + d.toNat) = d := by
        apply UInt8.toNat_inj.1
        rw [UInt8.toNat_ofNat']
        omega
      rw [hl, e1, e2]
      simp
    · cases h
theorem ofS_size (l : Str) : (ofS l).size = l.length := by rw [← tl_len, toList_ofS]
theorem encP_ofS (k v : Str) : encP (ofS k, ofS v) = [UInt8.ofNat k.length] ++ k ++ [UInt8.ofNat (v.length / 256)] ++ [UInt8.ofNat v.length] ++ v := by
  simp [encP, ofS_size, toList_ofS]
theorem cutP_enc (x : Pr) (t : Str) (h1 : x.1.size < 256) (h2 : x.2.size < 65536) : cutP (encP x ++ t) = some (x, t) := by
  obtain ⟨k, v⟩ := x
  have e : encP (k, v) ++ t = [UInt8.ofNat k.toList.length] ++ k.toList ++ ([UInt8.ofNat (v.toList.length / 256)] ++ [UInt8.ofNat v.toList.length] ++ v.toList ++ t) := by
    simp [encP, tl_len]
  unfold cutP
  rw [e, cut1_enc _ _ (by rw [tl_len]; exact h1)]
  simp only
  rw [cut2_enc _ _ (by rw [tl_len]; exact h2)]
  simp only [ofS_toList]
theorem cutP_inv {l t : Str} {x : Pr} (h : cutP l = some (x, t)) : l = encP x ++ t := by
  unfold cutP at h
  cases h1 : cut1 l with
  | none => rw [h1] at h; cases h
  | some y =>
    obtain ⟨k, r⟩ := y
    rw [h1] at h
    simp only at h
    cases h2 : cut2 r with
    | none => rw [h2] at h; cases h
    | some z =>
      obtain ⟨v, t'⟩ := z
      rw [h2] at h
      cases h
      rw [encP_ofS, (cut1_inv h1).1, (cut2_inv h2).1]
      simp
/-- What a map may hold. -/
structure GR (L : List Pr) : Prop where
  good : Good L
  rise : Rising L
theorem encP_ne (x : Pr) : encP x ≠ [] := by simp [encP]
/-- Bytes of pairs begin with those of pairs only so. -/
theorem bytes_prefix : ∀ (L₀ : List Pr) {L : List Pr} {r : Str}, (∀ x ∈ L, x.1.size < 256 ∧ x.2.size < 65536) → (∀ x ∈ L₀, x.1.size < 256 ∧ x.2.size < 65536) → bytesM L = bytesM L₀ ++ r → ∃ L₁, L = L₀ ++ L₁ ∧ r = bytesM L₁
  | [], L, r, _, _, h => ⟨L, rfl, by simpa [bytesM] using h.symm⟩
  | x :: L₀, [], r, _, _, h => by
    exfalso
    have h2 : encP x ++ (bytesM L₀ ++ r) = [] := by simpa [bytesM] using h.symm
    exact encP_ne x (List.append_eq_nil_iff.1 h2).1
  | x :: L₀, y :: L, r, hL, h0, h => by
    have e : encP y ++ bytesM L = encP x ++ (bytesM L₀ ++ r) := by simpa [bytesM] using h
    have hy := hL y List.mem_cons_self
    have hx := h0 x List.mem_cons_self
    have h1 := cutP_enc y (bytesM L) hy.1 hy.2
    rw [e, cutP_enc x _ hx.1 hx.2] at h1
    have h2 := Option.some.inj h1
    have h3 : x = y := congrArg Prod.fst h2
    have h4 : bytesM L₀ ++ r = bytesM L := congrArg Prod.snd h2
    obtain ⟨L₁, e1, e2⟩ := bytes_prefix L₀ (fun z hz => hL z (List.mem_cons_of_mem _ hz)) (fun z hz => h0 z (List.mem_cons_of_mem _ hz)) h4.symm
    exact ⟨L₁, by rw [e1, h3]; rfl, e2⟩
theorem Good.sizes {L : List Pr} (h : Good L) : ∀ x ∈ L, x.1.size < 256 ∧ x.2.size < 65536 := fun x hx => by
  have := h.each x hx
  omega
/-- The last key. -/
def lastK (L : List Pr) : ByteArray := ((L.getLast?).map (·.1)).getD ⟨#[]⟩
theorem lastK_nil : lastK [] = ⟨#[]⟩ := rfl
theorem lastK_snoc (L : List Pr) (x : Pr) : lastK (L ++ [x]) = x.1 := by simp [lastK]
theorem empty_list : (⟨#[]⟩ : ByteArray).toList = [] := by rw [ByteArray.toList_eq]
theorem below_last {L : List Pr} (h : Rising L) {k : Str} (hk : (lastK L).toList < k) : ∀ x ∈ L, kb x < k := by
  intro x hx
  rcases List.eq_nil_or_concat L with rfl | ⟨L', y, rfl⟩
  · cases hx
  · rw [List.concat_eq_append] at h hk hx
    rw [lastK_snoc] at hk
    rcases List.mem_append.1 hx with hx | hx
    · exact str_trans ((List.pairwise_append.1 h).2.2 x hx y (by simp)) hk
    · simp at hx
      rw [hx]
      exact hk
theorem rise_snoc {L : List Pr} (h : Rising L) {x : Pr} (hk : ∀ y ∈ L, kb y < kb x) : Rising (L ++ [x]) :=
  List.pairwise_append.2 ⟨h, List.pairwise_singleton _ _, fun a ha b hb => by simp at hb; rw [hb]; exact hk a ha⟩
theorem put_snoc {L : List Pr} (h : Rising L) {k v : ByteArray} (hk : ∀ y ∈ L, kb y < k.toList) : putM L k v = L ++ [(k, v)] := by
  refine rising_unique (putM_rising h k v) (rise_snoc (x := (k, v)) h hk) (fun x => ?_)
  rw [mem_putM, List.mem_append, List.mem_singleton]
  constructor
  · rintro (rfl | ⟨hx, _⟩)
    · exact .inr rfl
    · exact .inl hx
  · rintro (hx | rfl)
    · refine .inr ⟨hx, fun e => ?_⟩
      have := hk x hx
      unfold kb at this
      rw [e] at this
      exact str_irrefl _ this
    · exact .inl rfl
/-- A pair that comes next. -/
def Next (L : List Pr) (x : Pr) : Prop := (lastK L).toList < x.1.toList ∧ putE L x.1 x.2 = 0
theorem bytesM_snoc (L : List Pr) (x : Pr) : bytesM (L ++ [x]) = bytesM L ++ encP x := by simp [bytesM]
theorem next_ok {L : List Pr} (h : GR L) {x : Pr} (hn : Next L x) : GR (L ++ [x]) ∧ putL L x.1 x.2 = L ++ [x] := by
  have hb := below_last h.rise hn.1
  have e : putL L x.1 x.2 = L ++ [x] := by
    unfold putL
    rw [if_pos hn.2]
    exact put_snoc h.rise hb
  refine ⟨⟨?_, rise_snoc h.rise hb⟩, e⟩
  rw [← e]
  exact good_put h.good h.rise _ _
/-- What stands next in the bytes of a map comes next. -/
theorem next_of {L L₁ : List Pr} {x : Pr} (h : GR (L ++ x :: L₁)) : Next L x := by
  have hx := h.good.each x (by simp)
  have hp := List.pairwise_append.1 h.rise
  refine ⟨?_, ?_⟩
  · rcases List.eq_nil_or_concat L with rfl | ⟨L', y, rfl⟩
    · rw [lastK_nil, empty_list]
      cases hq : x.1.toList with
      | nil =>
        have := tl_len x.1
        rw [hq] at this
        simp at this
        omega
      | cons a l => exact List.nil_lt_cons a l
    · rw [List.concat_eq_append, lastK_snoc]
      rw [List.concat_eq_append] at hp
      exact hp.2.2 y (by simp) x (by simp)
  · have hbad : ¬ badKV x.1 x.2 := by unfold badKV; omega
    have hfew := h.good.few
    simp at hfew
    unfold putE
    rw [if_neg hbad, if_neg (fun h => by omega)]
/-- Bytes are those of a map, or they are not. -/
def Bad (l : Str) : Prop := ¬ ∃ L, GR L ∧ l = bytesM L
theorem bad_cut {L : List Pr} {r : Str} (h : GR L) (hr : r ≠ []) (hc : cutP r = none) : Bad (bytesM L ++ r) := by
  rintro ⟨L', g, e⟩
  obtain ⟨L₁, rfl, rfl⟩ := bytes_prefix L g.good.sizes h.good.sizes e.symm
  cases L₁ with
  | nil => exact hr rfl
  | cons x L₁ =>
    have hx := g.good.sizes x (by simp)
    have : bytesM (x :: L₁) = encP x ++ bytesM L₁ := by simp [bytesM]
    rw [this, cutP_enc x _ hx.1 hx.2] at hc
    cases hc
theorem bad_next {L : List Pr} {r t : Str} {x : Pr} (h : GR L) (hc : cutP r = some (x, t)) (hn : ¬ Next L x) : Bad (bytesM L ++ r) := by
  rintro ⟨L', g, e⟩
  obtain ⟨L₁, rfl, rfl⟩ := bytes_prefix L g.good.sizes h.good.sizes e.symm
  cases L₁ with
  | nil => cases hc
  | cons y L₁ =>
    have hy := g.good.sizes y (by simp)
    have : bytesM (y :: L₁) = encP y ++ bytesM L₁ := by simp [bytesM]
    rw [this, cutP_enc y _ hy.1 hy.2] at hc
    cases hc
    exact hn (next_of g)
end Go.Proofs.Ytnbemfddcjhcaaa.Kv
namespace Go.Proofs.Ytnbemfddcjhcaaa.Kv
open Go.RowKit

/-- Bytes in memory from a place on. -/
def Bys (w : World) (b off : Nat) (l : Str) : Prop := ∀ (j : Nat) (c : UInt8), l[j]? = some c → w.cell? ⟨b, off + j, none⟩ = some (.int .u8 (c.toNat : Nat))
theorem Bys.drop {w : World} {b off : Nat} {l : Str} (h : Bys w b off l) (k : Nat) : Bys w b (off + k) (l.drop k) := fun j c hj => by
  rw [List.getElem?_drop] at hj
  rw [Nat.add_assoc]
  exact h (k + j) c hj
theorem Bys.take {w : World} {b off : Nat} {l : Str} (h : Bys w b off l) (k : Nat) : Bys w b off (l.take k) := fun j c hj => by
  rw [List.getElem?_take] at hj
  split at hj
  · exact h j c hj
  · cases hj
theorem Bys.conv {w : World} {b off cap : Nat} {l : Str} (h : Bys w b off l) : (convert 34 9 (.slice (some ⟨b, off, none⟩) l.length cap)).run Try.prog w = .ok (.string (ofS l)) w := by
  refine run_convert_bytes_back (P := Try.prog) w _ 9 5 ⟨b, off, none⟩ cap l Try.underlying34 Try.underlying5 Try.underlying9 (fun j hj => ?_)
  rw [Addr.add_mid]
  exact h j l[j] (by simp)
/-- What cutText answers. -/
def CutT (w : World) (b cap : Nat) (o : Option (Str × Str)) (e : Ending) : Prop :=
  match o with
  | none => e = .returned (.tuple #[.string ⟨#[]⟩, .slice none 0 0, .bool false])
  | some (s, t) => ∃ off' cap', e = .returned (.tuple #[.string (ofS s), .slice (some ⟨b, off', none⟩) t.length cap', .bool true]) ∧ t.length ≤ cap' ∧ cap' ≤ cap ∧ Bys w b off' t
theorem or_i64 (a d : Nat) (ha : a < 256) (hd : d < 256) : bits .or .i64 ((a : Int) * 256) (d : Int) = ((a * 256 + d : Nat) : Int) := by
  have h1 : (BitVec.ofInt 64 ((a : Int) * 256)).toNat = a * 256 := by
    rw [show (a : Int) * 256 = ((a * 256 : Nat) : Int) by omega, BitVec.ofInt_natCast, BitVec.toNat_ofNat]
    exact Nat.mod_eq_of_lt (by omega)
  have h2 : (BitVec.ofInt 64 (d : Int)).toNat = d := by
    rw [BitVec.ofInt_natCast, BitVec.toNat_ofNat]
    exact Nat.mod_eq_of_lt (by omega)
  show IntKind.i64.wrap ((BitVec.ofInt 64 ((a : Int) * 256) ||| BitVec.ofInt 64 (d : Int)).toNat : Int) = _
  have h3 : a * 256 ||| d = a * 256 + d := by
    have := Nat.two_pow_add_eq_or_of_lt (i := 8) (by omega : d < 2 ^ 8) a
    rw [show a * 256 = 2 ^ 8 * a by omega]
    exact this.symm
  rw [BitVec.toNat_or, h1, h2, h3, IntKind.wrap_i64]
  omega
theorem or0_i64 (d : Nat) (hd : d < 256) : bits .or .i64 0 (d : Int) = d := by
  have := or_i64 0 d (by omega) hd
  simpa using this
set_option maxRecDepth 100000 in
set_option maxHeartbeats 2000000 in
theorem cutText1_any (b off cap : Nat) (l : Str) (w : World) (hB : Bys w b off l) (hc : l.length ≤ cap) (hm : cap ≤ 9223372036854775807) :
    Calls Try.prog 40 #[.slice (some ⟨b, off, none⟩) l.length cap, .int .i64 1] w fun e w' => CutT w b cap (cut1 l) e ∧ Below w.heap.size w w' := by
  have HB := hide hB
  cases l with
  | nil =>
    go_enter Try.func40, Try.ntmps40
    go_wp2_with fail
    exact bodyPost_ret (results_three rfl rfl rfl rfl) rfl ⟨rfl, Below.refl _ _⟩
  | cons c r =>
    have c0 : w.cell? ⟨b, off, none⟩ = some (.int .u8 (c.toNat : Nat)) := hB 0 c rfl
    have hB1 : Bys w b (off + 1) r := hB.drop 1
    have hn8 : c.toNat < 256 := c.toNat_lt
    simp only [List.length_cons] at hc
    simp only [List.length_cons, cut1]
    obtain ⟨m, hmr⟩ : ∃ m, r.length = m := ⟨_, rfl⟩
    obtain ⟨n, hn⟩ : ∃ n, c.toNat = n := ⟨_, rfl⟩
    have hor := or0_i64 n (by omega)
    have hcv := Bys.conv (w := w.drew) (cap := cap - 1) (hB1.take n)
    rw [hn] at c0 hn8 ⊢
    rw [hmr] at hc ⊢
    have hl0 : ¬ (((m : Int) + 1) < 1) := by omega
    by_cases hle : n ≤ m
    · rw [if_pos hle]
      have htk : (r.take n).length = n := by simp [hmr, hle]
      rw [htk] at hcv
      have hnm : ¬ ((m : Int) < n) := by omega
      have htd : (r.drop n).length = m - n := by simp [hmr]
      obtain ⟨s, hs⟩ : ∃ s, ofS (r.take n) = s := ⟨_, rfl⟩
      rw [hs] at hcv
      have HS := hide (And.intro hs (And.intro htd hB1))
      clear hs htk hB hB1 hmr hn htd HB
      by_cases h1 : cap = 1
      · subst h1
        obtain rfl : m = 0 := by omega
        obtain rfl : n = 0 := by omega
        have hcv0 := Bys.conv (w := w.drew) (b := b) (off := off) (cap := 0) (l := []) (fun j c hj => by cases hj)
        rw [show ofS [] = s by rw [← HS.out.1]; rfl] at hcv0
        simp only [List.length_nil] at hcv0
        have hor0 : bits .or .i64 0 0 = 0 := or0_i64 0 (by omega)
        clear hcv hor
        go_enter Try.func40, Try.ntmps40
        go_wp2_with fail
        refine wp_loop_rounds 2 ?_
        rw [rounds_succ]
        go_wp2_with fail
        rw [rounds_succ]
        go_wp2_with fail
        go_region
        go_wp2_with fail
        exact bodyPost_ret (results_three rfl rfl rfl rfl) rfl ⟨⟨off, 0, by rw [HS.out.1, HS.out.2.1]; rfl, by rw [HS.out.2.1]; exact Nat.le_refl _, by omega, fun j c hj => by have h := (List.getElem?_eq_some_iff.1 hj).1; rw [HS.out.2.1] at h; omega⟩, (Below.refl _ w).drew⟩
      · by_cases h2 : cap - 1 = n
        · obtain rfl : m = n := by omega
          obtain rfl : cap = m + 1 := by omega
          have h1i : ¬ ((m : Int) = 0) := by omega
          rw [Nat.add_sub_cancel] at hcv
          go_enter Try.func40, Try.ntmps40
          go_wp2_with fail
          refine wp_loop_rounds 2 ?_
          rw [rounds_succ]
          go_wp2_with fail
          rw [rounds_succ]
          go_wp2_with fail
          go_region
          go_wp2_with fail
          exact bodyPost_ret (results_three rfl rfl rfl rfl) rfl ⟨⟨off + 1, 0, by rw [HS.out.1, HS.out.2.1, Nat.sub_self]; rfl, by rw [HS.out.2.1, Nat.sub_self]; exact Nat.le_refl _, by omega, fun j c hj => by have h := (List.getElem?_eq_some_iff.1 hj).1; rw [HS.out.2.1] at h; omega⟩, (Below.refl _ w).drew⟩
        · have h1i : ¬ ((cap : Int) = 1) := by omega
          have h2i : ¬ ((cap : Int) - 1 = n) := by omega
          go_enter Try.func40, Try.ntmps40
          go_wp2_with fail
          refine wp_loop_rounds 2 ?_
          rw [rounds_succ]
          go_wp2_with fail
          rw [rounds_succ]
          go_wp2_with fail
          go_region
          go_wp2_with fail
          exact bodyPost_ret (results_three rfl rfl rfl rfl) rfl ⟨⟨off + 1 + n, cap - 1 - n, by rw [HS.out.1, HS.out.2.1]; rfl, by rw [HS.out.2.1]; omega, by omega, HS.out.2.2.drop n⟩, (Below.refl _ w).drew⟩
    · rw [if_neg hle]
      have hnm : (m : Int) < n := by omega
      clear hcv hB hB1 hmr hn
      go_enter Try.func40, Try.ntmps40
      go_wp2_with fail
      refine wp_loop_rounds 2 ?_
      rw [rounds_succ]
      go_wp2_with fail
      rw [rounds_succ]
      go_wp2_with fail
      all_goals exact bodyPost_ret (results_three rfl rfl rfl rfl) rfl ⟨rfl, Below.refl _ _⟩
set_option maxRecDepth 100000 in
set_option maxHeartbeats 2000000 in
theorem cutText2_any (b off cap : Nat) (l : Str) (w : World) (hB : Bys w b off l) (hc : l.length ≤ cap) (hm : cap ≤ 9223372036854775807) :
    Calls Try.prog 40 #[.slice (some ⟨b, off, none⟩) l.length cap, .int .i64 2] w fun e w' => CutT w b cap (cut2 l) e ∧ Below w.heap.size w w' := by
  match l, hB, hc with
  | [], hB, hc =>
    go_enter Try.func40, Try.ntmps40
    go_wp2_with fail
    exact bodyPost_ret (results_three rfl rfl rfl rfl) rfl ⟨rfl, Below.refl _ _⟩
  | [c], hB, hc =>
    go_enter Try.func40, Try.ntmps40
    go_wp2_with fail
    exact bodyPost_ret (results_three rfl rfl rfl rfl) rfl ⟨rfl, Below.refl _ _⟩
  | c :: d :: r, hB, hc =>
    have c0 : w.cell? ⟨b, off, none⟩ = some (.int .u8 (c.toNat : Nat)) := hB 0 c rfl
    have c1 : w.cell? ⟨b, off + 1, none⟩ = some (.int .u8 (d.toNat : Nat)) := hB 1 d rfl
    have hB1 : Bys w b (off + 2) r := hB.drop 2
    have hn8 : c.toNat < 256 := c.toNat_lt
    have hd8 : d.toNat < 256 := d.toNat_lt
    simp only [List.length_cons] at hc
    simp only [List.length_cons, cut2]
    obtain ⟨m, hmr⟩ : ∃ m, r.length = m := ⟨_, rfl⟩
    obtain ⟨x, hx⟩ : ∃ x, c.toNat = x := ⟨_, rfl⟩
    obtain ⟨y, hy⟩ : ∃ y, d.toNat = y := ⟨_, rfl⟩
    obtain ⟨n, hn⟩ : ∃ n, x * 256 + y = n := ⟨_, rfl⟩
    have hor := or0_i64 x (by omega)
    have hor2 := or_i64 x y (by omega) (by omega)
    rw [hn] at hor2
    rw [hx] at c0 hn8 ⊢
    rw [hy] at c1 hd8 ⊢
    rw [hn]
    have hnn : n < 65536 := by omega
    have hcv := Bys.conv (w := w.drew) (cap := cap - 2) (hB1.take n)
    rw [hmr] at hc ⊢
    have hl0 : ¬ (((m : Int) + 1 + 1) < 2) := by omega
    by_cases hle : n ≤ m
    · rw [if_pos hle]
      have htk : (r.take n).length = n := by simp [hmr, hle]
      rw [htk] at hcv
      have hnm : ¬ ((m : Int) < n) := by omega
      have htd : (r.drop n).length = m - n := by simp [hmr]
      obtain ⟨s, hs⟩ : ∃ s, ofS (r.take n) = s := ⟨_, rfl⟩
      rw [hs] at hcv
      have HS := hide (And.intro hs (And.intro htd hB1))
      clear hs htk hB hB1 hmr hx hy hn htd
      by_cases h1 : cap = 2
      · subst h1
        obtain rfl : m = 0 := by omega
        have hn0 : n = 0 := by omega
        rw [hn0] at hor2 HS ⊢
        have hcv0 := Bys.conv (w := w.drew) (b := b) (off := off) (cap := 0) (l := []) (fun j c hj => by cases hj)
        rw [show ofS [] = s by rw [← HS.out.1]; rfl] at hcv0
        simp only [List.length_nil] at hcv0
        clear hcv hn0 hnm hle hnn
        go_enter Try.func40, Try.ntmps40
        go_wp2_with fail
        refine wp_loop_rounds 3 ?_
        rw [rounds_succ]
        go_wp2_with fail
        rw [rounds_succ]
        go_wp2_with fail
        rw [rounds_succ]
        go_wp2_with fail
        go_region
        go_wp2_with fail
        exact bodyPost_ret (results_three rfl rfl rfl rfl) rfl ⟨⟨off, 0, by rw [HS.out.1, HS.out.2.1]; rfl, by rw [HS.out.2.1]; exact Nat.le_refl _, by omega, fun j c hj => by have h := (List.getElem?_eq_some_iff.1 hj).1; rw [HS.out.2.1] at h; omega⟩, (Below.refl _ w).drew⟩
      · by_cases h2 : cap - 2 = n
        · obtain rfl : m = n := by omega
          obtain rfl : cap = m + 2 := by omega
          have h1i : ¬ ((m : Int) = 0) := by omega
          rw [Nat.add_sub_cancel] at hcv
          go_enter Try.func40, Try.ntmps40
          go_wp2_with fail
          refine wp_loop_rounds 3 ?_
          rw [rounds_succ]
          go_wp2_with fail
          rw [rounds_succ]
          go_wp2_with fail
          rw [rounds_succ]
          go_wp2_with fail
          go_region
          go_wp2_with fail
          exact bodyPost_ret (results_three rfl rfl rfl rfl) rfl ⟨⟨off + 2, 0, by rw [HS.out.1, HS.out.2.1, Nat.sub_self]; rfl, by rw [HS.out.2.1, Nat.sub_self]; exact Nat.le_refl _, by omega, fun j c hj => by have h := (List.getElem?_eq_some_iff.1 hj).1; rw [HS.out.2.1] at h; omega⟩, (Below.refl _ w).drew⟩
        · have h1i : ¬ ((cap : Int) = 2) := by omega
          have h2i : ¬ ((cap : Int) - 2 = n) := by omega
          go_enter Try.func40, Try.ntmps40
          go_wp2_with fail
          refine wp_loop_rounds 3 ?_
          rw [rounds_succ]
          go_wp2_with fail
          rw [rounds_succ]
          go_wp2_with fail
          rw [rounds_succ]
          go_wp2_with fail
          go_region
          go_wp2_with fail
          exact bodyPost_ret (results_three rfl rfl rfl rfl) rfl ⟨⟨off + 2 + n, cap - 2 - n, by rw [HS.out.1, HS.out.2.1]; rfl, by rw [HS.out.2.1]; omega, by omega, HS.out.2.2.drop n⟩, (Below.refl _ w).drew⟩
    · rw [if_neg hle]
      have hnm : (m : Int) < n := by omega
      clear hcv hB hB1 hmr hx hy hn
      go_enter Try.func40, Try.ntmps40
      go_wp2_with fail
      refine wp_loop_rounds 3 ?_
      rw [rounds_succ]
      go_wp2_with fail
      rw [rounds_succ]
      go_wp2_with fail
      rw [rounds_succ]
      go_wp2_with fail
      all_goals exact bodyPost_ret (results_three rfl rfl rfl rfl) rfl ⟨rfl, Below.refl _ _⟩
end Go.Proofs.Ytnbemfddcjhcaaa.Kv
