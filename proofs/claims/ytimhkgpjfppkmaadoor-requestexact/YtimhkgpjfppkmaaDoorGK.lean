/- Whole: whether tokens are right, and one element. Elements about what is right, and elements one behind the other: no program in it. Whether tokens are one element, and their text, as the document says it. -/
import Derived.Test.YtimhkgpjfppkmaaDoorGM
import Derived.Test.YtimhkgpjfppkmaaDoorElem
import Derived.Test.YtimhkgpjfppkmaaDoorGI
import Derived.Test.YtimhkgpjfppkmaaDoorGJ
namespace Go.Proofs.YtimhkgpjfppkmaaDoor
open Go.RowKit Go.Shelf
attribute [local go_sem] Oper.semAt_some

/-- How many of the first k tokens stand where nothing is open. -/
def topsTo (ts : List Tok) : Nat → Nat
  | 0 => 0
  | k + 1 => topsTo ts k + (if (openAt ts k).length = 0 then 1 else 0)
theorem topsTo_le (ts : List Tok) : ∀ k, topsTo ts k ≤ k
  | 0 => Nat.le_refl _
  | k + 1 => by
    have := topsTo_le ts k
    unfold topsTo
    split <;> omega
def WholeT (ts : List Tok) : Prop := RightT ts ∧ topsTo ts ts.length = 1

theorem results_tmp1 {fn : Func} {i : Nat} (h : fn.results = #[.tmp i]) (tmps : Array Value) (w : World) : (results fn tmps).run Tryd.prog w = .ok (tmps[i]?.getD undef) w := by
  simp [results, h, go_sem]

end Go.Proofs.YtimhkgpjfppkmaaDoor
namespace Go.Proofs.YtimhkgpjfppkmaaDoor

def Fits (ts : List Tok) : Prop := ∀ k t, ts[k]? = some t → Fit (openAt ts k) (kindOf ts (k - 1 : Int)) t

theorem elemT_length (name : ByteArray) (al : List (ByteArray × ByteArray)) (ts : List Tok) : (elemT name al ts).length = ts.length + 2 := by simp [elemT]
theorem elemT_zero (name : ByteArray) (al : List (ByteArray × ByteArray)) (ts : List Tok) : (elemT name al ts)[0]? = some ⟨1, name, al, ⟨#[]⟩⟩ := by simp [elemT]
theorem elemT_mid (name : ByteArray) (al : List (ByteArray × ByteArray)) {ts : List Tok} {k : Nat} (h : k < ts.length) : (elemT name al ts)[k + 1]? = ts[k]? := by
  simp only [elemT, List.cons_append, List.nil_append, List.getElem?_cons_succ]
  rw [List.getElem?_append_left h]
theorem elemT_end (name : ByteArray) (al : List (ByteArray × ByteArray)) (ts : List Tok) : (elemT name al ts)[ts.length + 1]? = some ⟨2, name, [], ⟨#[]⟩⟩ := by
  simp only [elemT, List.cons_append, List.nil_append, List.getElem?_cons_succ]
  rw [List.getElem?_append_right (Nat.le_refl _)]
  simp
theorem opens_cons {name : ByteArray} {op : List ByteArray} {la : Nat} {t : Tok} (h : Fit op la t) : opens (name :: op) t = name :: opens op t := by
  rcases h with ⟨h1, _⟩ | ⟨h1, h2, _⟩ | ⟨h1, _⟩
  · simp [opens, h1]
  · have hne : op ≠ [] := fun e => by simp [e] at h2
    simp [opens, h1, List.dropLast_cons_of_ne_nil hne]
  · simp [opens, h1]
theorem el_open (name : ByteArray) (al : List (ByteArray × ByteArray)) {ts : List Tok} (hf : Fits ts) : ∀ k, k ≤ ts.length → openAt (elemT name al ts) (k + 1) = name :: openAt ts k
  | 0, _ => by
    rw [openAt_succ (elemT_zero name al ts)]
    simp [openAt, opens]
  | k + 1, hk => by
    obtain ⟨t, ht⟩ : ∃ t, ts[k]? = some t := ⟨ts[k], by simp [show k < ts.length by omega]⟩
    rw [openAt_succ ((elemT_mid name al (show k < ts.length by omega)).trans ht), el_open name al hf k (by omega), openAt_succ ht]
    exact opens_cons (hf k t ht)
theorem fit_cons {name : ByteArray} {op : List ByteArray} {la la' : Nat} {t : Tok} (h : Fit op la t) (hd : t.kind = 1 → op.length + 2 ≤ 8) (hla : 0 < op.length → la' = la) : Fit (name :: op) la' t := by
  rcases h with ⟨h1, _, h3⟩ | ⟨h1, h2, h3, h4⟩ | ⟨h1, h2, h3, h4⟩
  · exact .inl ⟨h1, by have := hd h1; simp; omega, h3⟩
  · refine .inr (.inl ⟨h1, by simp, ?_, h4⟩)
    cases op with
    | nil => simp at h2
    | cons x op => rw [List.getLast?_cons_cons]; exact h3
  · exact .inr (.inr ⟨h1, by simp, by rw [hla h2]; exact h3, h4⟩)
theorem kind_mid (name : ByteArray) (al : List (ByteArray × ByteArray)) {ts : List Tok} {k : Nat} (h : k + 1 < ts.length) : kindOf (elemT name al ts) (((k + 1 + 1 : Nat) : Int) - 1) = kindOf ts (((k + 1 : Nat) : Int) - 1) := by
  have e1 : (((k + 1 + 1 : Nat) : Int) - 1) = ((k + 1 : Nat) : Int) := by omega
  have e2 : (((k + 1 : Nat) : Int) - 1) = (k : Int) := by omega
  rw [e1, e2]
  unfold kindOf
  rw [if_pos (by omega), if_pos (by omega), Int.toNat_natCast, Int.toNat_natCast, elemT_mid name al (by omega)]

theorem right_elem {name : ByteArray} {ts : List Tok} (hR : RightT ts) (hd : ∀ k, k ≤ ts.length → (openAt ts k).length ≤ 7) (hl : ts.length + 2 ≤ 64) : RightT (elemT name [] ts) ↔ NameOk name := by
  constructor
  · intro h
    exact ((fit_one rfl).1 (h.2.1 0 _ (elemT_zero name [] ts))).2.1
  · intro hn
    have hz : openAt ts ts.length = [] := List.eq_nil_of_length_eq_zero hR.2.2
    refine ⟨by rw [elemT_length]; exact hl, fun k t hk => ?_, ?_⟩
    · have hlt := (List.getElem?_eq_some_iff.1 hk).1
      rw [elemT_length] at hlt
      match k, hk with
      | 0, hk =>
        rw [elemT_zero] at hk
        cases hk
        exact (fit_one rfl).2 ⟨by simp [openAt], hn, rfl, by simp, fun i a h => by simp at h⟩
      | k + 1, hk =>
        rw [el_open name [] hR.2.1 k (by omega)]
        by_cases hkl : k < ts.length
        · rw [elemT_mid name [] hkl] at hk
          refine fit_cons (hR.2.1 k t hk) (fun h1 => ?_) (fun h0 => ?_)
          · have h := hd (k + 1) (by omega)
            rw [openAt_succ hk] at h
            simp [opens, h1] at h
            omega
          · cases k with
            | zero => simp [openAt] at h0
            | succ k => exact kind_mid name [] hkl
        · obtain rfl : k = ts.length := by omega
          rw [elemT_end] at hk
          cases hk
          rw [hz]
          exact (fit_two rfl).2 ⟨by simp, rfl, rfl, rfl⟩
    · rw [elemT_length, openAt_succ (elemT_end name [] ts), el_open name [] hR.2.1 _ (Nat.le_refl _), hz]
      rfl
theorem tops_elem {name : ByteArray} {ts : List Tok} (hR : RightT ts) : ∀ k, k ≤ ts.length + 1 → topsTo (elemT name [] ts) (k + 1) = 1
  | 0, _ => by simp [topsTo, openAt]
  | k + 1, hk => by
    rw [topsTo, tops_elem hR k (by omega), el_open name [] hR.2.1 k (by omega)]
    simp
theorem whole_elem {name : ByteArray} {ts : List Tok} (hR : RightT ts) (hd : ∀ k, k ≤ ts.length → (openAt ts k).length ≤ 7) (hl : ts.length + 2 ≤ 64) : WholeT (elemT name [] ts) ↔ NameOk name := by
  unfold WholeT
  rw [right_elem hR hd hl, elemT_length, tops_elem hR (ts.length + 1) (Nat.le_refl _)]
  simp
theorem right_nil : RightT [] := ⟨by simp, by simp, by simp [openAt]⟩
theorem right_named {name : ByteArray} : RightT [⟨1, name, [], ⟨#[]⟩⟩, ⟨2, name, [], ⟨#[]⟩⟩] ↔ NameOk name :=
  right_elem (ts := []) right_nil (fun k hk => by simp [openAt]) (by simp)

/-- How deep the first k tokens lead; how deep they led at the most. -/
def dep (ts : List Tok) : Nat → Int
  | 0 => 0
  | k + 1 => dep ts k + (match ts[k]? with | some t => if t.kind = 1 then 1 else if t.kind = 2 then -1 else 0 | none => 0)
def mostTo (ts : List Tok) : Nat → Int
  | 0 => 0
  | k + 1 => if mostTo ts k < dep ts (k + 1) then dep ts (k + 1) else mostTo ts k
theorem dep_le (ts : List Tok) : ∀ k : Nat, -(k : Int) ≤ dep ts k ∧ dep ts k ≤ k
  | 0 => by simp [dep]
  | k + 1 => by
    have := dep_le ts k
    unfold dep
    split
    · split
      · omega
      · split <;> omega
    · omega
theorem most_le (ts : List Tok) : ∀ k : Nat, 0 ≤ mostTo ts k ∧ mostTo ts k ≤ k
  | 0 => by simp [mostTo]
  | k + 1 => by
    have := most_le ts k
    have := dep_le ts (k + 1)
    unfold mostTo
    split <;> omega
theorem dep_most (ts : List Tok) : ∀ k j : Nat, j ≤ k → dep ts j ≤ mostTo ts k
  | 0, j, h => by
    obtain rfl : j = 0 := by omega
    simp [dep, mostTo]
  | k + 1, j, h => by
    have ih := dep_most ts k
    unfold mostTo
    rcases Nat.lt_or_ge j (k + 1) with h1 | h1
    · have := ih j (by omega)
      split <;> omega
    · obtain rfl : j = k + 1 := by omega
      split <;> omega
theorem dep_open {ts : List Tok} (hf : Fits ts) : ∀ k : Nat, k ≤ ts.length → dep ts k = ((openAt ts k).length : Int)
  | 0, _ => by simp [dep, openAt]
  | k + 1, hk => by
    obtain ⟨t, ht⟩ : ∃ t, ts[k]? = some t := ⟨ts[k], by simp [show k < ts.length by omega]⟩
    rw [dep, dep_open hf k (by omega), openAt_succ ht, ht]
    rcases hf k t ht with ⟨h1, _⟩ | ⟨h1, h2, _⟩ | ⟨h1, _⟩
    · simp [opens, h1]
    · simp [opens, h1]
      omega
    · simp [opens, h1]
theorem shallow {ts : List Tok} (hR : RightT ts) (h : ¬ (8 ≤ mostTo ts ts.length)) (k : Nat) (hk : k ≤ ts.length) : (openAt ts k).length ≤ 7 := by
  have h1 := dep_most ts ts.length k hk
  rw [dep_open hR.2.1 k hk] at h1
  omega
end Go.Proofs.YtimhkgpjfppkmaaDoor
namespace Go.Proofs.YtimhkgpjfppkmaaDoor
open Go.RowKit

theorem tops_mono (ts : List Tok) (i : Nat) : ∀ d, topsTo ts i ≤ topsTo ts (i + d)
  | 0 => Nat.le_refl _
  | d + 1 => by
    have := tops_mono ts i d
    rw [← Nat.add_assoc, topsTo]
    omega
theorem tops_few {ts : List Tok} : ∀ k, k + 1 ≤ ts.length → (∀ i, i + 1 ≤ k → (openAt ts (i + 1)).length ≠ 0) → topsTo ts (k + 1) = 1
  | 0, _, _ => by simp [topsTo, openAt]
  | k + 1, hk, h => by
    rw [topsTo, tops_few k (by omega) (fun i hi => h i (by omega)), if_neg (h k (Nat.le_refl _))]
theorem whole_iff {ts : List Tok} (hR : RightT ts) (hn : 0 < ts.length) : WholeT ts ↔ ∀ i, i + 1 < ts.length → (openAt ts (i + 1)).length ≠ 0 := by
  constructor
  · rintro ⟨_, h⟩ i hi h0
    have h1 : topsTo ts (0 + 1) ≤ topsTo ts (0 + 1 + i) := tops_mono ts (0 + 1) i
    have h2 : topsTo ts (i + 1 + 1) ≤ topsTo ts (i + 1 + 1 + (ts.length - (i + 2))) := tops_mono ts (i + 1 + 1) _
    rw [show i + 1 + 1 + (ts.length - (i + 2)) = ts.length by omega, h] at h2
    have h3 : topsTo ts (i + 1 + 1) = topsTo ts (i + 1) + 1 := by rw [topsTo, if_pos h0]
    have h4 : topsTo ts (0 + 1) = 1 := by simp [topsTo, openAt]
    rw [show 0 + 1 + i = i + 1 by omega] at h1
    omega
  · intro h
    refine ⟨hR, ?_⟩
    have h1 := tops_few (ts := ts) (ts.length - 1) (by omega) (fun i hi => h i (by omega))
    rwa [show ts.length - 1 + 1 = ts.length by omega] at h1

set_option maxRecDepth 100000 in
set_option maxHeartbeats 4000000 in
theorem refWhole_any (ao : Option Addr) (cap : Nat) (ts : List Tok) (av : Nat → Option Addr × Nat) (w : World) (hT : TokMem w.heap.size w ao ts av) (hU : Tabs w) :
    Calls Tryd.prog 9 #[.slice ao ts.length cap] w fun e w' => Tells (WholeT ts) e ∧ Below w.heap.size w w' := by
  have hlen := hT.1
  have HT := hide hT
  have HR := hide (refRight_any ao cap ts av w hT hU)
  clear hT
  go_enter Tryd.func9, Tryd.ntmps9
  go_wp2_with fail
  refine HR.out.mono ?_
  rintro e w1 ⟨⟨hr, rfl⟩ | ⟨hr, rfl⟩, hb1⟩
  case inr =>
    have HB := hide hb1
    clear hb1
    go_wp2_with fail
    go_ret
    exact ⟨.inr ⟨fun x => hr x.1, rfl⟩, HB.out⟩
  have HB := hide hb1
  have hr64 := hr.1
  have HRT := hide hr
  clear hb1 HR hr
  by_cases hz : ts.length = 0
  · have hz' : ((ts.length : Int) == 0) = true := by rw [hz]; rfl
    have hno : ¬ WholeT ts := fun x => by have := x.2; rw [hz] at this; simp [topsTo] at this
    go_wp2_with fail
    go_ret
    exact ⟨.inr ⟨hno, rfl⟩, HB.out⟩
  have hz' : ((ts.length : Int) == 0) = false := by rw [beq_eq_false_iff_ne]; omega
  have HW := hide (whole_iff HRT.out (by omega))
  go_wp2_with fail
  go_loopw [3, 4] (fun d i wr => wr = w1 ∧ ∃ k : Nat, k ≤ ts.length ∧ i = .int .i64 k ∧ d = .int .i64 (openAt ts k).length ∧ ∀ i, i + 1 ≤ k → i + 1 < ts.length → (openAt ts (i + 1)).length ≠ 0) (fun _ i _ => ts.length - (intOf i).toNat)
  case atStart => exact ⟨rfl, 0, Nat.zero_le _, rfl, by simp [openAt], fun i h => by omega⟩
  case round =>
    obtain ⟨hwr, k, hk, rfl, rfl, hop⟩ := hrel
    subst hwr
    have HOP := hide hop
    have hol := openAt_le ts k
    clear hop
    by_cases hlt : k < ts.length
    · obtain ⟨t, ht⟩ : ∃ t, ts[k]? = some t := ⟨ts[k], by simp [hlt]⟩
      obtain ⟨_, _, _, _, _, b, off, rfl, hb, c1, _⟩ := HT.out.2 k t ht
      have d1 := (HB.out.cell (p := ⟨b, _, none⟩) hb).trans c1
      have hs1 := openAt_succ ht
      have hf := HRT.out.2.1 k t ht
      clear c1
      obtain ⟨n1, hn1⟩ : ∃ n1, (openAt ts (k + 1)).length = n1 := ⟨_, rfl⟩
      obtain ⟨n0, hn0⟩ : ∃ n0, (openAt ts k).length = n0 := ⟨_, rfl⟩
      have hkind : (t.kind = 1 ∧ n1 = n0 + 1) ∨ (t.kind = 2 ∧ n0 = n1 + 1) ∨ (t.kind = 3 ∧ n1 = n0) := by
        rw [← hn1, ← hn0, hs1]
        rcases hf with ⟨h1, _⟩ | ⟨h1, h2, _⟩ | ⟨h1, _⟩
        · exact .inl ⟨h1, by simp [opens, h1]⟩
        · exact .inr (.inl ⟨h1, by simp [opens, h1]; omega⟩)
        · exact .inr (.inr ⟨h1, by simp [opens, h1]⟩)
      rw [hn0] at hol ⊢
      have HN := hide hn1
      have hnext : (k + 1 < ts.length → n1 ≠ 0) → ∀ i, i + 1 ≤ k + 1 → i + 1 < ts.length → (openAt ts (i + 1)).length ≠ 0 := fun h0 i hi hl => by
        rcases Nat.lt_or_ge (i + 1) (k + 1) with h | h
        · exact HOP.out i (by omega) hl
        · obtain rfl : i = k := by omega
          rw [hn1]
          exact h0 hl
      have HNX := hide hnext
      clear hnext hs1 hf hn1 hn0
      rcases hkind with ⟨k1, rfl⟩ | ⟨k1, rfl⟩ | ⟨k1, rfl⟩
      · have q1 : ((t.kind : Int) == 1) = true := by rw [k1]; rfl
        have q2 : ((t.kind : Int) == 2) = false := by rw [k1]; rfl
        have q3 : ((n0 : Int) + 1 == 0) = false := by rw [beq_eq_false_iff_ne]; omega
        go_wp2_with fail
        exact ⟨⟨trivial, k + 1, by omega, by simp, by rw [HN.out] <;> simp, HNX.out (fun _ => by omega)⟩, by simp [intOf]; omega⟩
      · have q1 : ((t.kind : Int) == 1) = false := by rw [k1]; rfl
        have q2 : ((t.kind : Int) == 2) = true := by rw [k1]; rfl
        by_cases h0 : n1 = 0
        · subst h0
          by_cases hl : k + 1 < ts.length
          · have hl' : (k : Int) < (ts.length : Int) - 1 := by omega
            go_wp2_with fail
            go_ret
            exact ⟨.inr ⟨fun x => HW.out.1 x k hl HN.out, rfl⟩, HB.out⟩
          · have hl' : ¬ ((k : Int) < (ts.length : Int) - 1) := by omega
            go_wp2_with fail
            exact ⟨⟨trivial, k + 1, by omega, by simp, by rw [HN.out] <;> simp, HNX.out (fun h => by omega)⟩, by simp [intOf]; omega⟩
        · have q3 : ((n1 : Int) == 0) = false := by rw [beq_eq_false_iff_ne]; omega
          have q4 : ((n1 : Int) + 1 - 1 == 0) = false := by rw [beq_eq_false_iff_ne]; omega
          go_wp2_with fail
          exact ⟨⟨trivial, k + 1, by omega, by simp, by rw [HN.out] <;> simp, HNX.out (fun _ => h0)⟩, by simp [intOf]; omega⟩
      · have q1 : ((t.kind : Int) == 1) = false := by rw [k1]; rfl
        have q2 : ((t.kind : Int) == 2) = false := by rw [k1]; rfl
        by_cases h0 : n1 = 0
        · subst h0
          by_cases hl : k + 1 < ts.length
          · have hl' : (k : Int) < (ts.length : Int) - 1 := by omega
            go_wp2_with fail
            go_ret
            exact ⟨.inr ⟨fun x => HW.out.1 x k hl HN.out, rfl⟩, HB.out⟩
          · have hl' : ¬ ((k : Int) < (ts.length : Int) - 1) := by omega
            go_wp2_with fail
            exact ⟨⟨trivial, k + 1, by omega, by simp, by rw [HN.out] <;> simp, HNX.out (fun h => by omega)⟩, by simp [intOf]; omega⟩
        · have q3 : ((n1 : Int) == 0) = false := by rw [beq_eq_false_iff_ne]; omega
          go_wp2_with fail
          exact ⟨⟨trivial, k + 1, by omega, by simp, by rw [HN.out] <;> simp, HNX.out (fun _ => h0)⟩, by simp [intOf]; omega⟩
    · obtain rfl : k = ts.length := by omega
      go_wp2_with fail
      go_ret
      exact ⟨.inl ⟨HW.out.2 (fun i hi => HOP.out i (by omega) hi), rfl⟩, HB.out⟩
end Go.Proofs.YtimhkgpjfppkmaaDoor
