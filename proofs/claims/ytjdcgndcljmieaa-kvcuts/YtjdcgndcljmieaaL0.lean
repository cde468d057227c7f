/- Bytes of pairs, cut again: plain reasoning. -/
import Derived.Test.YtjdcgndcljmieaaKG
namespace Go.Proofs.Ytjdcgndcljmieaa
open Go.RowKit

def cut1 : Str → Option (Str × Str)
  | [] => none
  | c :: r => if c.toNat ≤ r.length then some (r.take c.toNat, r.drop c.toNat) else none
def cut2 : Str → Option (Str × Str)
  | c :: d :: r => if c.toNat * 256 + d.toNat ≤ r.length then some (r.take (c.toNat * 256 + d.toNat), r.drop (c.toNat * 256 + d.toNat)) else none
  | _ => none
def cutP (l : Str) : Option (Pr × Str) :=
  match cut1 l with
  | none => none
  | some (k, r) =>
    match cut2 r with
    | none => none
    | some (v, t) => some ((ofS k, ofS v), t)
theorem cut1_enc (s t : Str) (h : s.length < 256) : cut1 ([UInt8.ofNat s.length] ++ s ++ t) = some (s, t) := by
  have hn : (UInt8.ofNat s.length).toNat = s.length := by rw [UInt8.toNat_ofNat']; omega
  simp [cut1, hn]
theorem cut2_enc (s t : Str) (h : s.length < 65536) : cut2 ([UInt8.ofNat (s.length / 256)] ++ [UInt8.ofNat s.length] ++ s ++ t) = some (s, t) := by
  have hn : (UInt8.ofNat (s.length / 256)).toNat * 256 + (UInt8.ofNat s.length).toNat = s.length := by rw [UInt8.toNat_ofNat', UInt8.toNat_ofNat']; omega
  simp only [List.cons_append, List.nil_append, cut2]
  rw [hn]
  simp
theorem cut1_inv {l s t : Str} (h : cut1 l = some (s, t)) : l = [UInt8.ofNat s.length] ++ s ++ t ∧ s.length < 256 := by
  cases l with
  | nil => cases h
  | cons c r =>
    simp only [cut1] at h
    split at h
    · rename_i hc
      cases h
      have hl : (r.take c.toNat).length = c.toNat := by simp [hc]
      have hlt := c.toNat_lt
      refine ⟨?_, by omega⟩
      rw [hl, UInt8.ofNat_toNat]
      simp
    · cases h
theorem cut2_inv {l s t : Str} (h : cut2 l = some (s, t)) : l = [UInt8.ofNat (s.length / 256)] ++ [UInt8.ofNat s.length] ++ s ++ t ∧ s.length < 65536 := by
  match l, h with
  | c :: d :: r, h =>
    simp only [cut2] at h
    split at h
    · rename_i hc
      cases h
      have hl : (r.take (c.toNat * 256 + d.toNat)).length = c.toNat * 256 + d.toNat := by simp [hc]
      have h1 := c.toNat_lt
      have h2 := d.toNat_lt
      refine ⟨?_, by omega⟩
      have e1 : UInt8.ofNat ((c.toNat * 256 + d.toNat) / 256) = c := by
        rw [show (c.toNat * 256 + d.toNat) / 256 = c.toNat by omega, UInt8.ofNat_toNat]
      have e2 : UInt8.ofNat (c.toNat * 256 + d.toNat) = d := by
        apply UInt8.toNat_inj.1
        rw [UInt8.toNat_ofNat']
        omega
      rw [hl, e1, e2]
      simp
    · cases h
theorem ofS_size (l : Str) : (ofS l).size = l.length := by rw [← tl_len, toList_ofS]
theorem encP_ofS (k v : Str) : encP (ofS k, ofS v) = [UInt8.ofNat k.length] ++ k ++ [UInt8.ofNat (v.length / 256)] ++ [UInt8.ofNat v.length] ++ v := by
  simp [encP, ofS_size, toList_ofS]
theorem cutP_enc (x : Pr) (t : Str) (h1 : x.1.size < 256) (h2 : x.2.size < 65536) : cutP (encP x ++ t) = some (x, t) := by
  obtain ⟨k, v⟩ := x
  have e : encP (k, v) ++ t = [UInt8.ofNat k.toList.length] ++ k.toList ++ ([UInt8.ofNat (v.toList.length / 256)] ++ [UInt8.ofNat v.toList.length] ++ v.toList ++ t) := by
    simp [encP, tl_len]
  unfold cutP
  rw [e, cut1_enc _ _ (by rw [tl_len]; exact h1)]
  simp only
  rw [cut2_enc _ _ (by rw [tl_len]; exact h2)]
  simp only [ofS_toList]
theorem cutP_inv {l t : Str} {x : Pr} (h : cutP l = some (x, t)) : l = encP x ++ t := by
  unfold cutP at h
  cases h1 : cut1 l with
  | none => rw [h1] at h; cases h
  | some y =>
    obtain ⟨k, r⟩ := y
    rw [h1] at h
    simp only at h
    cases h2 : cut2 r with
    | none => rw [h2] at h; cases h
    | some z =>
      obtain ⟨v, t'⟩ := z
      rw [h2] at h
      cases h
      rw [encP_ofS, (cut1_inv h1).1, (cut2_inv h2).1]
      simp
/-- What a map may hold. -/
structure GR (L : List Pr) : Prop where
  good : Good L
  rise : Rising L
theorem encP_ne (x : Pr) : encP x ≠ [] := by simp [encP]
/-- Bytes of pairs begin with those of pairs only so. -/
theorem bytes_prefix : ∀ (L₀ : List Pr) {L : List Pr} {r : Str}, (∀ x ∈ L, x.1.size < 256 ∧ x.2.size < 65536) → (∀ x ∈ L₀, x.1.size < 256 ∧ x.2.size < 65536) → bytesM L = bytesM L₀ ++ r → ∃ L₁, L = L₀ ++ L₁ ∧ r = bytesM L₁
  | [], L, r, _, _, h => ⟨L, rfl, by simpa [bytesM] using h.symm⟩
  | x :: L₀, [], r, _, _, h => by
    exfalso
    have h2 : encP x ++ (bytesM L₀ ++ r) = [] := by simpa [bytesM] using h.symm
    exact encP_ne x (List.append_eq_nil_iff.1 h2).1
  | x :: L₀, y :: L, r, hL, h0, h => by
    have e : encP y ++ bytesM L = encP x ++ (bytesM L₀ ++ r) := by simpa [bytesM] using h
    have hy := hL y List.mem_cons_self
    have hx := h0 x List.mem_cons_self
    have h1 := cutP_enc y (bytesM L) hy.1 hy.2
    rw [e, cutP_enc x _ hx.1 hx.2] at h1
    have h2 := Option.some.inj h1
    have h3 : x = y := congrArg Prod.fst h2
    have h4 : bytesM L₀ ++ r = bytesM L := congrArg Prod.snd h2
    obtain ⟨L₁, e1, e2⟩ := bytes_prefix L₀ (fun z hz => hL z (List.mem_cons_of_mem _ hz)) (fun z hz => h0 z (List.mem_cons_of_mem _ hz)) h4.symm
    exact ⟨L₁, by rw [e1, h3]; rfl, e2⟩
theorem Good.sizes {L : List Pr} (h : Good L) : ∀ x ∈ L, x.1.size < 256 ∧ x.2.size < 65536 := fun x hx => by
  have := h.each x hx
  omega
/-- The last key. -/
def lastK (L : List Pr) : ByteArray := ((L.getLast?).map (·.1)).getD ⟨#[]⟩
theorem lastK_nil : lastK [] = ⟨#[]⟩ := rfl
theorem lastK_snoc (L : List Pr) (x : Pr) : lastK (L ++ [x]) = x.1 := by simp [lastK]
theorem empty_list : (⟨#[]⟩ : ByteArray).toList = [] := by rw [ByteArray.toList_eq]
theorem below_last {L : List Pr} (h : Rising L) {k : Str} (hk : (lastK L).toList < k) : ∀ x ∈ L, kb x < k := by
  intro x hx
  rcases List.eq_nil_or_concat L with rfl | ⟨L', y, rfl⟩
  · cases hx
  · rw [List.concat_eq_append] at h hk hx
    rw [lastK_snoc] at hk
    rcases List.mem_append.1 hx with hx | hx
    · exact str_trans ((List.pairwise_append.1 h).2.2 x hx y (by simp)) hk
    · simp at hx
      rw [hx]
      exact hk
theorem rise_snoc {L : List Pr} (h : Rising L) {x : Pr} (hk : ∀ y ∈ L, kb y < kb x) : Rising (L ++ [x]) :=
  List.pairwise_append.2 ⟨h, List.pairwise_singleton _ _, fun a ha b hb => by simp at hb; rw [hb]; exact hk a ha⟩
theorem put_snoc {L : List Pr} (h : Rising L) {k v : ByteArray} (hk : ∀ y ∈ L, kb y < k.toList) : putM L k v = L ++ [(k, v)] := by
  refine rising_unique (putM_rising h k v) (rise_snoc (x := (k, v)) h hk) (fun x => ?_)
  rw [mem_putM, List.mem_append, List.mem_singleton]
  constructor
  · rintro (rfl | ⟨hx, _⟩)
    · exact .inr rfl
    · exact .inl hx
  · rintro (hx | rfl)
    · refine .inr ⟨hx, fun e => ?_⟩
      have := hk x hx
      unfold kb at this
      rw [e] at this
      exact str_irrefl _ this
    · exact .inl rfl
/-- A pair that comes next. -/
def Next (L : List Pr) (x : Pr) : Prop := (lastK L).toList < x.1.toList ∧ putE L x.1 x.2 = 0
theorem bytesM_snoc (L : List Pr) (x : Pr) : bytesM (L ++ [x]) = bytesM L ++ encP x := by simp [bytesM]
theorem next_ok {L : List Pr} (h : GR L) {x : Pr} (hn : Next L x) : GR (L ++ [x]) ∧ putL L x.1 x.2 = L ++ [x] := by
  have hb := below_last h.rise hn.1
  have e : putL L x.1 x.2 = L ++ [x] := by
    unfold putL
    rw [if_pos hn.2]
    exact put_snoc h.rise hb
  refine ⟨⟨?_, rise_snoc h.rise hb⟩, e⟩
  rw [← e]
  exact good_put h.good h.rise _ _
/-- What stands next in the bytes of a map comes next. -/
theorem next_of {L L₁ : List Pr} {x : Pr} (h : GR (L ++ x :: L₁)) : Next L x := by
  have hx := h.good.each x (by simp)
  have hp := List.pairwise_append.1 h.rise
  refine ⟨?_, ?_⟩
  · rcases List.eq_nil_or_concat L with rfl | ⟨L', y, rfl⟩
    · rw [lastK_nil, empty_list]
      cases hq : x.1.toList with
      | nil =>
        have := tl_len x.1
        rw [hq] at this
        simp at this
        omega
      | cons a l => exact List.nil_lt_cons a l
    · rw [List.concat_eq_append, lastK_snoc]
      rw [List.concat_eq_append] at hp
      exact hp.2.2 y (by simp) x (by simp)
  · have hbad : ¬ badKV x.1 x.2 := by unfold badKV; omega
    have hfew := h.good.few
    simp at hfew
    unfold putE
    rw [if_neg hbad, if_neg (fun h => by omega)]
/-- Bytes are those of a map, or they are not. -/
def Bad (l : Str) : Prop := ¬ ∃ L, GR L ∧ l = bytesM L
theorem bad_cut {L : List Pr} {r : Str} (h : GR L) (hr : r ≠ []) (hc : cutP r = none) : Bad (bytesM L ++ r) := by
  rintro ⟨L', g, e⟩
  obtain ⟨L₁, rfl, rfl⟩ := bytes_prefix L g.good.sizes h.good.sizes e.symm
  cases L₁ with
  | nil => exact hr rfl
  | cons x L₁ =>
    have hx := g.good.sizes x (by simp)
    have : bytesM (x :: L₁) = encP x ++ bytesM L₁ := by simp [bytesM]
    rw [this, cutP_enc x _ hx.1 hx.2] at hc
    cases hc
theorem bad_next {L : List Pr} {r t : Str} {x : Pr} (h : GR L) (hc : cutP r = some (x, t)) (hn : ¬ Next L x) : Bad (bytesM L ++ r) := by
  rintro ⟨L', g, e⟩
  obtain ⟨L₁, rfl, rfl⟩ := bytes_prefix L g.good.sizes h.good.sizes e.symm
  cases L₁ with
  | nil => cases hc
  | cons y L₁ =>
    have hy := g.good.sizes y (by simp)
    have : bytesM (y :: L₁) = encP y ++ bytesM L₁ := by simp [bytesM]
    rw [this, cutP_enc y _ hy.1 hy.2] at hc
    cases hc
    exact hn (next_of g)
end Go.Proofs.Ytjdcgndcljmieaa
