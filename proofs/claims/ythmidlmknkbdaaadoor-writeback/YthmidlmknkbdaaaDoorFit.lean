/- Whether a token is right where it stands: attributes, texts, one step. -/
import Derived.Test.YthmidlmknkbdaaaDoorXD
import Derived.Test.YthmidlmknkbdaaaDoorName
import Derived.Test.YthmidlmknkbdaaaDoorChars
import Derived.LoopTactic
namespace Go.Proofs.YthmidlmknkbdaaaDoor
open Go.RowKit

def attrVal (al : List (ByteArray × ByteArray)) (name : ByteArray) : Option ByteArray := (al.find? fun a => decide (a.1 = name)).map (·.2)

theorem attrVal_none {al : List (ByteArray × ByteArray)} {name : ByteArray} (h : ∀ (j : Nat) (a : ByteArray × ByteArray), al[j]? = some a → a.1 ≠ name) : attrVal al name = none := by
  have : al.find? (fun a => decide (a.1 = name)) = none := by
    rw [List.find?_eq_none]
    intro a ha
    obtain ⟨j, hj⟩ := List.mem_iff_getElem?.1 ha
    simpa using h j a hj
  simp [attrVal, this]
theorem attrVal_some : ∀ {al : List (ByteArray × ByteArray)} {name : ByteArray} {k : Nat} {a : ByteArray × ByteArray}, al[k]? = some a → a.1 = name → (∀ (j : Nat) (b : ByteArray × ByteArray), j < k → al[j]? = some b → b.1 ≠ name) → attrVal al name = some a.2
  | [], _, _, _, h, _, _ => by simp at h
  | x :: al, name, 0, a, h, he, _ => by
    simp at h
    subst h
    simp [attrVal, List.find?_cons_of_pos, he]
  | x :: al, name, k + 1, a, h, he, hl => by
    have h0 := hl 0 x (by omega) (by simp)
    have h1 : attrVal al name = some a.2 := attrVal_some (k := k) (by simpa using h) he (fun j b hj hb => hl (j + 1) b (by omega) (by simpa using hb))
    simp only [attrVal] at h1 ⊢
    rw [List.find?_cons_of_neg (by simpa using h0)]
    exact h1

set_option maxRecDepth 100000 in
set_option maxHeartbeats 2000000 in
theorem attr_any (n₀ : Nat) (ao : Option Addr) (cap kind : Nat) (nm tx name : ByteArray) (al : List (ByteArray × ByteArray)) (w : World) (hA : AttrMem n₀ w ao al) (hn : n₀ ≤ w.heap.size) :
    Calls Tryd.prog 65 #[.agg #[.int .u8 kind, .string nm, .slice ao al.length cap, .string tx], .string name] w fun e w' =>
      e = .returned (.tuple #[.string ((attrVal al name).getD ⟨#[]⟩), .bool (attrVal al name).isSome]) ∧ Below w.heap.size w w' := by
  have hlen := hA.1
  have HA := hide hA
  clear hA
  go_enter Tryd.func65, Tryd.ntmps65
  go_wp2_with fail
  go_loopw [11] (fun i wr => ∃ k : Nat, k ≤ al.length ∧ i = .int .i64 k ∧ (∀ j a, j < k → al[j]? = some a → a.1 ≠ name) ∧ Below w.heap.size w wr) (fun i _ => al.length - (intOf i).toNat)
  case atStart => exact ⟨0, Nat.zero_le _, rfl, fun j a h => by omega, (Below.refl _ w).alloc (Nat.le_refl _) _⟩
  case round =>
    obtain ⟨k, hk, rfl, hne, hbw⟩ := hrel
    have HN := hide (And.intro hne hbw)
    clear hne hbw
    by_cases hlt : k < al.length
    · obtain ⟨a, ha⟩ : ∃ a, al[k]? = some a := ⟨al[k], by simp [hlt]⟩
      obtain ⟨b, off, rfl, hb, c1, c2⟩ := HA.out.2.2 k a ha
      have d1 := (HN.out.2.cell (p := ⟨b, off + k * 2, none⟩) (by simp; omega)).trans c1
      have d2 := (HN.out.2.cell (p := ⟨b, off + k * 2 + 1, none⟩) (by simp; omega)).trans c2
      clear c1 c2
      by_cases he : a.1 = name
      · have hv := attrVal_some ha he (fun j b hj hb => HN.out.1 j b hj hb)
        have HV := hide hv
        clear hv
        have he' : (a.1.toList == name.toList) = true := by simp [he]
        go_wp2_with fail
        go_ret2
        exact ⟨by rw [HV.out]; rfl, HN.out.2.alloc HN.out.2.size _⟩
      · have he' : (a.1.toList == name.toList) = false := str_ne he
        go_wp2_with fail
        go_roundw
        case rel => exact ⟨k + 1, by omega, by simp, fun j x hj hx => by
          rcases Nat.lt_or_ge j k with h | h
          · exact HN.out.1 j x h hx
          · obtain rfl : j = k := by omega
            rw [ha] at hx
            cases hx
            exact he, HN.out.2.alloc HN.out.2.size _⟩
        case measure => simp [intOf]; omega
    · obtain rfl : k = al.length := by omega
      have hv : attrVal al name = none := attrVal_none (fun j a hj => HN.out.1 j a (by have := (List.getElem?_eq_some_iff.1 hj).1; omega) hj)
      have HV := hide hv
      clear hv
      go_wp2_with fail
      go_ret2
      exact ⟨by rw [HV.out]; rfl, HN.out.2⟩

theorem attr_len (n₀ : Nat) (ao : Option Addr) (cap kind len : Nat) (nm tx name : ByteArray) (al : List (ByteArray × ByteArray)) (w : World) (hA : AttrMem n₀ w ao al) (hn : n₀ ≤ w.heap.size) (hl : al.length = len) :
    Calls Tryd.prog 65 #[.agg #[.int .u8 kind, .string nm, .slice ao len cap, .string tx], .string name] w fun e w' =>
      e = .returned (.tuple #[.string ((attrVal al name).getD ⟨#[]⟩), .bool (attrVal al name).isSome]) ∧ Below w.heap.size w w' := by
  subst hl
  exact attr_any n₀ ao cap kind nm tx name al w hA hn

abbrev Tabs (w : World) : Prop := Lib.Utf8Tabs 1 2 w
def SmallT (s : ByteArray) : Prop := s.size ≤ 512 ∧ CharsOk s.data.toList
theorem rightText_any (s : ByteArray) (w : World) (hs : s.size ≤ 9223372036854775807) (hT : Tabs w) : Calls Tryd.prog 46 #[.string s] w fun e w' => Tells (SmallT s) e ∧ Below w.heap.size w w' := by
  have HT := hide hT
  clear hT
  by_cases h : s.size ≤ 512
  · have h1 : (s.size : Int) ≤ 512 := by omega
    go_enter Tryd.func46, Tryd.ntmps46
    go_wp2_with (go_at_call 66; refine (chars_any s _ (by unfold maxLen; omega) HT.out).mono ?_; rintro e w' ⟨⟨hc, rfl⟩ | ⟨hc, rfl⟩, hb⟩)
    · go_ret
      exact ⟨.inl ⟨⟨h, hc⟩, rfl⟩, hb⟩
    · go_ret
      exact ⟨.inr ⟨fun x => hc x.2, rfl⟩, hb⟩
  · have h1 : ¬ (s.size : Int) ≤ 512 := by omega
    go_enter Tryd.func46, Tryd.ntmps46
    go_wp2_with fail
    go_ret
    exact ⟨.inr ⟨fun x => h x.1, rfl⟩, Below.refl _ _⟩

def AttrsOk (al : List (ByteArray × ByteArray)) : Prop := al.length ≤ 8 ∧ ∀ i a, al[i]? = some a → attrVal (al.take i) a.1 = none ∧ NameOk a.1 ∧ SmallT a.2
theorem AttrMem.take {n₀ : Nat} {w : World} {ao : Option Addr} {al : List (ByteArray × ByteArray)} (h : AttrMem n₀ w ao al) (k : Nat) : AttrMem n₀ w ao (al.take k) := by
  obtain ⟨h1, h2, h3⟩ := h
  refine ⟨by simp; omega, fun a ha => h2 a (List.mem_of_mem_take ha), fun j a hj => h3 j a ?_⟩
  by_cases hjk : j < k
  · rwa [List.getElem?_take_of_lt hjk] at hj
  · rw [List.getElem?_eq_none (by simp; omega)] at hj
    cases hj

set_option maxRecDepth 100000 in
set_option maxHeartbeats 2000000 in
theorem rightAttrs_any (n₀ : Nat) (ao : Option Addr) (cap : Nat) (al : List (ByteArray × ByteArray)) (w : World) (hA : AttrMem n₀ w ao al) (hn : n₀ ≤ w.heap.size) (hT : Tabs w) (hcap : al.length ≤ cap) :
    Calls Tryd.prog 45 #[.slice ao al.length cap] w fun e w' => Tells (AttrsOk al) e ∧ Below w.heap.size w w' := by
  have hlen := hA.1
  have HA := hide hA
  have HT := hide hT
  clear hA hT
  by_cases h8 : al.length ≤ 8
  · have h81 : ¬ (8 < (al.length : Int)) := by omega
    go_enter Tryd.func45, Tryd.ntmps45
    go_wp2_with fail
    go_loopw [12] (fun i wr => ∃ k : Nat, k ≤ al.length ∧ i = .int .i64 k ∧ (∀ j a, j < k → al[j]? = some a → attrVal (al.take j) a.1 = none ∧ NameOk a.1 ∧ SmallT a.2) ∧ Below w.heap.size w wr) (fun i _ => al.length - (intOf i).toNat)
    case atStart => exact ⟨0, Nat.zero_le _, rfl, fun j a h => by omega, Below.refl _ w⟩
    case round =>
      obtain ⟨k, hk, rfl, hne, hbw⟩ := hrel
      have hsz := hbw.size
      have HN := hide (And.intro hne hbw)
      clear hne hbw
      by_cases hlt : k < al.length
      · obtain ⟨a, ha⟩ : ∃ a, al[k]? = some a := ⟨al[k], by simp [hlt]⟩
        obtain ⟨b, off, rfl, hb, c1, c2⟩ := HA.out.2.2 k a ha
        have d1 := (HN.out.2.cell (p := ⟨b, off + k * 2, none⟩) (show b < _ by omega)).trans c1
        have d2 := (HN.out.2.cell (p := ⟨b, off + k * 2 + 1, none⟩) (show b < _ by omega)).trans c2
        have hsa := HA.out.2.1 a (List.mem_of_getElem? ha)
        clear c1 c2
        go_wp2_with fail
        obtain ⟨W1, hW1⟩ : ∃ W1, wr.alloc (.cells #[.string a.1, .string a.2] 65) = W1 := ⟨_, rfl⟩
        have hB1 : Below wr.heap.size wr W1 := by rw [← hW1]; exact (Below.refl _ wr).alloc (Nat.le_refl _) _
        have z1 : W1.heap.size = wr.heap.size + 1 := by rw [← hW1]; simp
        have f1 : W1.heap[wr.heap.size]? = some (.cells #[.string a.1, .string a.2] 65) := by rw [← hW1]; exact World.alloc_heap_new wr _
        have e0 : W1.cell? ⟨wr.heap.size, 0, none⟩ = some (.string a.1) := by simp [World.cell?, f1]
        have e1 : W1.cell? ⟨wr.heap.size, 1, none⟩ = some (.string a.2) := by simp [World.cell?, f1]
        have hbW : Below w.heap.size w W1 := HN.out.2.trans (hB1.mono hsz)
        have HB := hide hbW
        have HM := hide ((HA.out.below (hbW.mono hn)).take k)
        rw [hW1]
        clear d1 d2 hW1 f1 hB1 hbW
        have hk0 : (0 : Int) ≤ k := by omega
        have hkc : (k : Int) ≤ cap := by omega
        have hkl : (al.take k).length = k := by simp; omega
        go_region_held3 (fun w' => w'.cell? ⟨wr.heap.size, 0, none⟩ = some (.string a.1) ∧ w'.cell? ⟨wr.heap.size, 1, none⟩ = some (.string a.2)) (first | go_keep | (refine ⟨?_, ?_⟩ <;> (rw [hb1.cell (by simp; omega)]; simp [*])))
          (first | (go_at_call 65; refine (attr_len n₀ _ cap 0 k ⟨#[]⟩ ⟨#[]⟩ a.1 (al.take k) _ (HM.out.below ?_) ?_ hkl).mono ?_; (exact (Below.refl _ _).drew); (first | omega | (simp; omega)); rintro e w' ⟨rfl, hb1⟩))
        have hb2 : Below W1.heap.size W1 w' := ((Below.refl _ W1).drew).trans hb1
        have k0 : w'.cell? ⟨wr.heap.size, 0, none⟩ = some (.string a.1) := (hb2.cell (p := ⟨wr.heap.size, 0, none⟩) (show wr.heap.size < _ by omega)).trans e0
        have k1 : w'.cell? ⟨wr.heap.size, 1, none⟩ = some (.string a.2) := (hb2.cell (p := ⟨wr.heap.size, 1, none⟩) (show wr.heap.size < _ by omega)).trans e1
        have hwr : wr.heap.size < w'.heap.size := by have := hb2.size; omega
        have HB2 := hide (HB.out.trans (hb2.mono HB.out.size))
        clear hb1 hb2 e0 e1
        cases hv : attrVal (al.take k) a.1 with
        | some v =>
          have HV := hide hv
          clear hv
          go_wp2_with fail
          go_ret
          exact ⟨.inr ⟨fun x => (by have h := (x.2 k a ha).1; rw [HV.out] at h; cases h), rfl⟩, HB2.out⟩
        | none =>
          have HV := hide hv
          clear hv
          go_wp2_with (first | (go_at_call 44; refine (name_any a.1 _ (by unfold maxLen; omega)).mono ?_; rintro e w2 ⟨⟨hn1, rfl⟩ | ⟨hn1, rfl⟩, hb3⟩ <;> have q1 := (hb3.cell (p := ⟨wr.heap.size, 1, none⟩) hwr).trans k1) | (go_at_call 46; refine (rightText_any a.2 _ (by omega) (tabs_below HT.out (HB2.out.trans (hb3.mono HB2.out.size)))).mono ?_; rintro e w3 ⟨⟨ht1, rfl⟩ | ⟨ht1, rfl⟩, hb4⟩))
          · refine ⟨⟨k + 1, by omega, by simp, fun j x hj hx => ?_, (HB2.out.trans (hb3.mono HB2.out.size)).trans (hb4.mono (Nat.le_trans HB2.out.size hb3.size))⟩, by simp [intOf]; omega⟩
            rcases Nat.lt_or_ge j k with h | h
            · exact HN.out.1 j x h hx
            · obtain rfl : j = k := by omega
              rw [ha] at hx
              cases hx
              exact ⟨HV.out, hn1, ht1⟩
          · go_ret
            exact ⟨.inr ⟨fun x => ht1 (x.2 k a ha).2.2, rfl⟩, (HB2.out.trans (hb3.mono HB2.out.size)).trans (hb4.mono (Nat.le_trans HB2.out.size hb3.size))⟩
          · go_ret
            exact ⟨.inr ⟨fun x => hn1 (x.2 k a ha).2.1, rfl⟩, HB2.out.trans (hb3.mono HB2.out.size)⟩
      · obtain rfl : k = al.length := by omega
        go_wp2_with fail
        go_ret
        exact ⟨.inl ⟨⟨h8, fun i a hi => HN.out.1 i a ((List.getElem?_eq_some_iff.1 hi).1) hi⟩, rfl⟩, HN.out.2⟩
  · have h81 : (8 < (al.length : Int)) := by omega
    go_enter Tryd.func45, Tryd.ntmps45
    go_wp2_with fail
    go_ret
    exact ⟨.inr ⟨fun x => h8 x.1, rfl⟩, Below.refl _ _⟩

/-- Is a token right where it stands? op: the names that are open ahead of it; last: the kind of the token ahead. -/
def Fit (op : List ByteArray) (last : Nat) (t : Tok) : Prop :=
  (t.kind = 1 ∧ op.length + 1 ≤ 8 ∧ NameOk t.name ∧ t.text.size = 0 ∧ AttrsOk t.attrs) ∨
  (t.kind = 2 ∧ 0 < op.length ∧ op.getLast?.getD ⟨#[]⟩ = t.name ∧ t.text.size = 0 ∧ t.attrs.length = 0) ∨
  (t.kind = 3 ∧ 0 < op.length ∧ last ≠ 3 ∧ t.text.size ≠ 0 ∧ SmallT t.text ∧ t.name.size = 0 ∧ t.attrs.length = 0)

theorem fit_one {op : List ByteArray} {la : Nat} {t : Tok} (h : t.kind = 1) : Fit op la t ↔ (op.length + 1 ≤ 8 ∧ NameOk t.name ∧ t.text.size = 0 ∧ AttrsOk t.attrs) := by simp [Fit, h]
theorem fit_two {op : List ByteArray} {la : Nat} {t : Tok} (h : t.kind = 2) : Fit op la t ↔ (0 < op.length ∧ op.getLast?.getD ⟨#[]⟩ = t.name ∧ t.text.size = 0 ∧ t.attrs.length = 0) := by simp [Fit, h]
theorem fit_three {op : List ByteArray} {la : Nat} {t : Tok} (h : t.kind = 3) : Fit op la t ↔ (0 < op.length ∧ la ≠ 3 ∧ t.text.size ≠ 0 ∧ SmallT t.text ∧ t.name.size = 0 ∧ t.attrs.length = 0) := by simp [Fit, h]
theorem fit_none {op : List ByteArray} {la : Nat} {t : Tok} (h1 : t.kind ≠ 1) (h2 : t.kind ≠ 2) (h3 : t.kind ≠ 3) : ¬ Fit op la t := by simp [Fit, h1, h2, h3]
set_option maxRecDepth 100000 in
set_option maxHeartbeats 2000000 in
theorem fits_any (n₀ : Nat) (av : Nat → Option Addr × Nat) (ts : List Tok) (k : Nat) (t : Tok) (ht : ts[k]? = some t) (w : World) (_hkd : t.kind < 256) (hnm : t.name.size ≤ 9223372036854775807) (htx : t.text.size ≤ 9223372036854775807) (hA : AttrMem n₀ w (av k).1 t.attrs) (hn : n₀ ≤ w.heap.size) (hT : Tabs w) (hcap : t.attrs.length ≤ (av k).2) (hk : ts.length ≤ 2199023255488) :
    Calls Tryd.prog 30 #[stepV ts av k] w fun e w' => Tells (Fit (openAt ts k) (kindOf ts (k - 1 : Int)) t) e ∧ Below w.heap.size w w' := by
  have hst : stepV ts av k = .agg #[.int .u8 t.kind, .string t.name, .slice (av k).1 t.attrs.length (av k).2, .string t.text, .int .u8 (kindOf ts (k - 1 : Int)), .int .u8 (kindOf ts (k + 1 : Int)), .string ((openAt ts k).getLast?.getD ⟨#[]⟩), .int .i64 (openAt ts k).length, .int .i64 (openAt ts (k + 1)).length] := by simp [stepV, ht]
  rw [hst]
  have hs1 := openAt_succ ht
  obtain ⟨op, hop⟩ : ∃ op, openAt ts k = op := ⟨_, rfl⟩
  obtain ⟨la, hla⟩ : ∃ la, kindOf ts (k - 1 : Int) = la := ⟨_, rfl⟩
  obtain ⟨nx, hnx⟩ : ∃ nx, kindOf ts (k + 1 : Int) = nx := ⟨_, rfl⟩
  obtain ⟨ins, hin⟩ : ∃ ins, op.getLast?.getD ⟨#[]⟩ = ins := ⟨_, rfl⟩
  have hol : op.length ≤ 2199023255488 := by rw [← hop]; exact Nat.le_trans (openAt_le ts k) (by have := (List.getElem?_eq_some_iff.1 ht).1; omega)
  rw [hop] at hs1
  rw [hop, hla, hnx, hin, hs1]
  obtain ⟨n2, hn2⟩ : ∃ n2, (opens op t).length = n2 := ⟨_, rfl⟩
  rw [hn2]
  have HI := hide hin
  have HN2 := hide hn2
  have HA := hide hA
  have HT := hide hT
  have HX := hide (And.intro ht (And.intro hop hs1))
  clear hst hop hla hnx hin hs1 hn2 hA hT ht
  have hB0 : ∀ (o o' : Obj), Below w.heap.size w ((w.alloc o).alloc o') := fun o o' => ((Below.refl _ w).alloc (Nat.le_refl _) _).alloc (by simp) _
  have HB0 := hide hB0
  clear hB0
  by_cases h1 : t.kind = 1
  · have hf := fit_one (op := op) (la := la) h1
    have HFT := hide hf
    clear hf
    have hn2 : n2 = op.length + 1 := by rw [← HN2.out]; simp [opens, h1]
    by_cases h8 : op.length + 1 ≤ 8
    · have h8' : (n2 : Int) ≤ 8 := by omega
      by_cases h0 : t.text.size = 0
      · have h0' := empty_true (s := t.text) (by omega)
        go_enter Tryd.func30, Tryd.ntmps30
        go_wp2_with (first | (go_at_call 44; refine (name_any t.name _ (by unfold maxLen; omega)).mono ?_; rintro e w2 ⟨⟨hn1, rfl⟩ | ⟨hn1, rfl⟩, hb3⟩ <;> (have q2 := hb3.cell (p := ⟨w.heap.size + 1, 2, none⟩) (by simp); have q3 := hb3.cell (p := ⟨w.heap.size + 1, 3, none⟩) (by simp); simp at q2 q3; have hs3 := hb3.size; simp at hs3; have HB3 := hide ((HB0.out _ _).trans (hb3.mono (by simp; omega))); clear hb3)) | (go_at_call 45; refine (rightAttrs_any n₀ _ _ t.attrs _ (HA.out.below (HB3.out.mono hn)) (by omega) (tabs_below HT.out HB3.out) hcap).mono ?_; rintro e w3 ⟨⟨ha1, rfl⟩ | ⟨ha1, rfl⟩, hb4⟩))
        · go_ret
          exact ⟨.inl ⟨HFT.out.2 ⟨h8, hn1, h0, ha1⟩, rfl⟩, HB3.out.trans (hb4.mono HB3.out.size)⟩
        · go_ret
          exact ⟨.inr ⟨fun x => ha1 (HFT.out.1 x).2.2.2, rfl⟩, HB3.out.trans (hb4.mono HB3.out.size)⟩
        · go_ret
          exact ⟨.inr ⟨fun x => hn1 (HFT.out.1 x).2.1, rfl⟩, HB3.out⟩
      · have h0' := empty_false (s := t.text) (by omega)
        go_enter Tryd.func30, Tryd.ntmps30
        go_wp2_with (first | (go_at_call 44; refine (name_any t.name _ (by unfold maxLen; omega)).mono ?_; rintro e w2 ⟨⟨hn1, rfl⟩ | ⟨hn1, rfl⟩, hb3⟩ <;> (have q2 := hb3.cell (p := ⟨w.heap.size + 1, 2, none⟩) (by simp); have q3 := hb3.cell (p := ⟨w.heap.size + 1, 3, none⟩) (by simp); simp at q2 q3; have hs3 := hb3.size; simp at hs3; have HB3 := hide ((HB0.out _ _).trans (hb3.mono (by simp; omega))); clear hb3)))
        · go_ret
          exact ⟨.inr ⟨fun x => h0 (HFT.out.1 x).2.2.1, rfl⟩, HB3.out⟩
        · go_ret
          exact ⟨.inr ⟨fun x => hn1 (HFT.out.1 x).2.1, rfl⟩, HB3.out⟩
    · have h8' : ¬ ((n2 : Int) ≤ 8) := by omega
      go_enter Tryd.func30, Tryd.ntmps30
      go_wp2_with fail
      go_ret
      exact ⟨.inr ⟨fun x => h8 (HFT.out.1 x).1, rfl⟩, HB0.out _ _⟩
  · by_cases h2 : t.kind = 2
    · have hf := fit_two (op := op) (la := la) h2
      rw [HI.out] at hf
      have HFT := hide hf
      clear hf
      by_cases ho : 0 < op.length
      · have ho' : (0 : Int) < op.length := by omega
        by_cases hi : ins = t.name
        · have hi' : (ins.toList == t.name.toList) = true := by simp [hi]
          by_cases h0 : t.text.size = 0
          · have h0' := empty_true (s := t.text) (by omega)
            by_cases hl : t.attrs.length = 0
            · have hl' : ((t.attrs.length : Int) == 0) = true := by rw [hl]; rfl
              go_enter Tryd.func30, Tryd.ntmps30
              go_wp2_with fail
              go_ret
              exact ⟨.inl ⟨HFT.out.2 ⟨ho, hi, h0, hl⟩, rfl⟩, HB0.out _ _⟩
            · have hl' : ((t.attrs.length : Int) == 0) = false := by rw [beq_eq_false_iff_ne]; omega
              go_enter Tryd.func30, Tryd.ntmps30
              go_wp2_with fail
              go_ret
              exact ⟨.inr ⟨fun x => hl (HFT.out.1 x).2.2.2, rfl⟩, HB0.out _ _⟩
          · have h0' := empty_false (s := t.text) (by omega)
            go_enter Tryd.func30, Tryd.ntmps30
            go_wp2_with fail
            go_ret
            exact ⟨.inr ⟨fun x => h0 (HFT.out.1 x).2.2.1, rfl⟩, HB0.out _ _⟩
        · have hi' : (ins.toList == t.name.toList) = false := str_ne hi
          go_enter Tryd.func30, Tryd.ntmps30
          go_wp2_with fail
          go_ret
          exact ⟨.inr ⟨fun x => hi (HFT.out.1 x).2.1, rfl⟩, HB0.out _ _⟩
      · have ho' : ¬ ((0 : Int) < op.length) := by omega
        go_enter Tryd.func30, Tryd.ntmps30
        go_wp2_with fail
        go_ret
        exact ⟨.inr ⟨fun x => ho (HFT.out.1 x).1, rfl⟩, HB0.out _ _⟩
    · by_cases h3 : t.kind = 3
      · have hf := fit_three (op := op) (la := la) h3
        have HFT := hide hf
        clear hf
        by_cases ho : 0 < op.length
        · have ho' : (0 : Int) < op.length := by omega
          by_cases hl3 : la = 3
          · have hl3' : ((la : Int) != 3) = false := by simp [hl3]
            go_enter Tryd.func30, Tryd.ntmps30
            go_wp2_with fail
            go_ret
            exact ⟨.inr ⟨fun x => (HFT.out.1 x).2.1 hl3, rfl⟩, HB0.out _ _⟩
          · have hl3' : ((la : Int) != 3) = true := by simp; omega
            by_cases h0 : t.text.size = 0
            · have h0' := empty_true (s := t.text) (by omega)
              go_enter Tryd.func30, Tryd.ntmps30
              go_wp2_with fail
              go_ret
              exact ⟨.inr ⟨fun x => (HFT.out.1 x).2.2.1 h0, rfl⟩, HB0.out _ _⟩
            · have h0' := empty_false (s := t.text) (by omega)
              by_cases hm : t.name.size = 0
              · have hm' := empty_true (s := t.name) (by omega)
                by_cases hl : t.attrs.length = 0
                · have hl' : ((t.attrs.length : Int) == 0) = true := by rw [hl]; rfl
                  go_enter Tryd.func30, Tryd.ntmps30
                  go_wp2_with (first | (go_at_call 46; refine (rightText_any t.text _ (by omega) (tabs_below HT.out (HB0.out _ _))).mono ?_; rintro e w2 ⟨⟨ht1, rfl⟩ | ⟨ht1, rfl⟩, hb3⟩ <;> (have q1 := hb3.cell (p := ⟨w.heap.size + 1, 1, none⟩) (by simp); have q2 := hb3.cell (p := ⟨w.heap.size + 1, 2, none⟩) (by simp); simp at q1 q2; have HB3 := hide ((HB0.out _ _).trans (hb3.mono (by simp; omega))); clear hb3)))
                  · go_ret
                    exact ⟨.inl ⟨HFT.out.2 ⟨ho, hl3, h0, ht1, hm, hl⟩, rfl⟩, HB3.out⟩
                  · go_ret
                    exact ⟨.inr ⟨fun x => ht1 (HFT.out.1 x).2.2.2.1, rfl⟩, HB3.out⟩
                · have hl' : ((t.attrs.length : Int) == 0) = false := by rw [beq_eq_false_iff_ne]; omega
                  go_enter Tryd.func30, Tryd.ntmps30
                  go_wp2_with (first | (go_at_call 46; refine (rightText_any t.text _ (by omega) (tabs_below HT.out (HB0.out _ _))).mono ?_; rintro e w2 ⟨⟨ht1, rfl⟩ | ⟨ht1, rfl⟩, hb3⟩ <;> (have q1 := hb3.cell (p := ⟨w.heap.size + 1, 1, none⟩) (by simp); have q2 := hb3.cell (p := ⟨w.heap.size + 1, 2, none⟩) (by simp); simp at q1 q2; have HB3 := hide ((HB0.out _ _).trans (hb3.mono (by simp; omega))); clear hb3)))
                  · go_ret
                    exact ⟨.inr ⟨fun x => hl (HFT.out.1 x).2.2.2.2.2, rfl⟩, HB3.out⟩
                  · go_ret
                    exact ⟨.inr ⟨fun x => ht1 (HFT.out.1 x).2.2.2.1, rfl⟩, HB3.out⟩
              · have hm' := empty_false (s := t.name) (by omega)
                go_enter Tryd.func30, Tryd.ntmps30
                go_wp2_with (first | (go_at_call 46; refine (rightText_any t.text _ (by omega) (tabs_below HT.out (HB0.out _ _))).mono ?_; rintro e w2 ⟨⟨ht1, rfl⟩ | ⟨ht1, rfl⟩, hb3⟩ <;> (have q1 := hb3.cell (p := ⟨w.heap.size + 1, 1, none⟩) (by simp); have q2 := hb3.cell (p := ⟨w.heap.size + 1, 2, none⟩) (by simp); simp at q1 q2; have HB3 := hide ((HB0.out _ _).trans (hb3.mono (by simp; omega))); clear hb3)))
                · go_ret
                  exact ⟨.inr ⟨fun x => hm (HFT.out.1 x).2.2.2.2.1, rfl⟩, HB3.out⟩
                · go_ret
                  exact ⟨.inr ⟨fun x => ht1 (HFT.out.1 x).2.2.2.1, rfl⟩, HB3.out⟩
        · have ho' : ¬ ((0 : Int) < op.length) := by omega
          go_enter Tryd.func30, Tryd.ntmps30
          go_wp2_with fail
          go_ret
          exact ⟨.inr ⟨fun x => ho (HFT.out.1 x).1, rfl⟩, HB0.out _ _⟩
      · have hf := fit_none (op := op) (la := la) h1 h2 h3
        have HFT := hide hf
        clear hf
        have h1' : ((t.kind : Int) == 1) = false := by simp; omega
        have h2' : ((t.kind : Int) == 2) = false := by simp; omega
        have h3' : ((t.kind : Int) == 3) = false := by simp; omega
        go_enter Tryd.func30, Tryd.ntmps30
        go_wp2_with fail
        go_ret
        exact ⟨.inr ⟨fun x => HFT.out x, rfl⟩, HB0.out _ _⟩
end Go.Proofs.YthmidlmknkbdaaaDoor
