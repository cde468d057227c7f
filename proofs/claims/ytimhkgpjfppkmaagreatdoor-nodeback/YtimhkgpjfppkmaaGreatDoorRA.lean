/- A node's reader: numbers. A node's reader: words. A node's reader: numbers, words that are one of two. A node's reader: an address with its role, one who subscribes, an item. -/
import Derived.Test.YtimhkgpjfppkmaaGreatDoorAt0
import Derived.Test.YtimhkgpjfppkmaaGreatDoorRF
import Derived.Test.YtimhkgpjfppkmaaGreatDoorQR
import Derived.Test.YtimhkgpjfppkmaaGreatDoorCut1
import Derived.Test.YtimhkgpjfppkmaaGreatDoorJidM
namespace Go.Proofs.YtimhkgpjfppkmaaGreatDoor
open Go.RowKit Go.Shelf

/-- A reading that is given up. -/
abbrev stopN : Ending := .panicked [{ v := .iface 77 (.agg #[]), recovered := false }]
theorem giveUpN_any (w : World) : Calls Tryz.prog 77 #[] w fun e w' => e = stopN ∧ w' = w := by
  go_enter Tryz.func77, Tryz.ntmps77
  go_wp2_with fail
  exact ⟨rfl, rfl, rfl⟩
def DigE (s : ByteArray) (most : Nat) (e : Ending) : Prop := (∃ k : Nat, digF s.data.toList most = some k ∧ e = .returned (.int .i64 k)) ∨ (digF s.data.toList most = none ∧ e = stopN)
theorem digF_no {l : List UInt8} {most : Nat} (h : ∀ v, Lib.atoiAll l ≠ .ok v) : digF l most = none := by
  unfold digF
  split
  · rename_i v hv
    exact absurd hv (h v)
  · rfl
theorem digF_ok {l : List UInt8} {most : Nat} {v : Int} (h : Lib.atoiAll l = .ok v) : digF l most = if 0 ≤ v ∧ v ≤ most ∧ Lib.itoa v = l then some v.toNat else none := by
  unfold digF
  rw [h]
set_option maxRecDepth 100000 in
set_option maxHeartbeats 4000000 in
theorem digits_any (s : ByteArray) (most : Nat) (hs : s.size ≤ 281474976710656) (w : World) (hg : GlobE w) :
    Calls Tryz.prog 78 #[.string s, .int .i64 most] w fun e w' => DigE s most e ∧ Below w.heap.size w w' := by
  have HA := hide (atoi_any s hs w hg)
  have HG := hide hg
  clear hg
  have HU := hide giveUpN_any
  go_enter Tryz.func78, Tryz.ntmps78
  go_wp2_with fail
  refine HA.out.mono ?_
  rintro e w1 ⟨hE, b1⟩
  have B1 := hide b1
  rcases hE with ⟨v, hv, rfl⟩ | ⟨hn, v, t, p, v0, v1, rfl⟩
  · have hD := digF_ok (most := most) hv
    have hb := Lib.atoiAll_bounds hv
    have HI := hide (itoa_any v hb.1 hb.2 w1 (HG.out.below b1))
    have HD := hide hD
    clear hD hv b1
    by_cases h0 : v < 0
    · have HN : Hid (digF s.data.toList most = none) := hide (by rw [HD.out, if_neg (by omega)])
      clear HD
      go_wp2_with fail
      refine (HU.out _).mono ?_
      rintro e w2 ⟨rfl, rfl⟩
      go_wp2_with fail
      exact ⟨rfl, .inr ⟨HN.out, rfl⟩, B1.out⟩
    · by_cases h1 : v > most
      · have HN : Hid (digF s.data.toList most = none) := hide (by rw [HD.out, if_neg (by omega)])
        clear HD
        go_wp2_with fail
        refine (HU.out _).mono ?_
        rintro e w2 ⟨rfl, rfl⟩
        go_wp2_with fail
        exact ⟨rfl, .inr ⟨HN.out, rfl⟩, B1.out⟩
      · go_wp2_with fail
        refine HI.out.mono ?_
        rintro e w2 ⟨rfl, b2⟩
        have B2 := hide (B1.out.trans (b2.mono B1.out.size))
        clear b2
        by_cases he : (⟨(Lib.itoa v).toArray⟩ : ByteArray) = s
        · have HN : Hid (digF s.data.toList most = some v.toNat) := hide (HD.out.trans (if_pos ⟨by omega, by omega, by rw [← he]⟩))
          have he' : (Lib.itoa v == s.toList) = true := by rw [← he]; simp
          clear HD he
          go_wp2_with fail
          go_ret
          exact ⟨.inl ⟨v.toNat, HN.out, by rw [show ((v.toNat : Nat) : Int) = v by omega]; rfl⟩, B2.out⟩
        · have HN : Hid (digF s.data.toList most = none) := hide (by
            rw [HD.out, if_neg ?_]
            rintro ⟨_, _, h⟩
            exact he (by rw [h]))
          have he' : (Lib.itoa v == s.toList) = false := by
            have h := str_ne he
            simpa using h
          clear HD he
          go_wp2_with fail
          refine (HU.out _).mono ?_
          rintro e w3 ⟨rfl, rfl⟩
          go_wp2_with fail
          exact ⟨rfl, .inr ⟨HN.out, rfl⟩, B2.out⟩
  · have HN : Hid (digF s.data.toList most = none) := hide (digF_no hn)
    clear hn b1
    go_wp2_with fail
    refine (HU.out _).mono ?_
    rintro e w2 ⟨rfl, rfl⟩
    go_wp2_with fail
    exact ⟨rfl, .inr ⟨HN.out, rfl⟩, B1.out⟩
end Go.Proofs.YtimhkgpjfppkmaaGreatDoor
namespace Go.Proofs.YtimhkgpjfppkmaaGreatDoor
open Go.RowKit Go.Shelf

set_option maxRecDepth 100000 in
set_option maxHeartbeats 4000000 in
theorem cut1_any (s : ByteArray) (c : UInt8) (w : World) (hs : s.size ≤ 281474976710656) :
    Calls Tryz.prog 76 #[.string s, .string ⟨#[c]⟩] w fun e w' => e = .returned (.tuple #[.string ⟨(Lib.cut s.data.toList [c]).1.toArray⟩, .string ⟨(Lib.cut s.data.toList [c]).2.1.toArray⟩, .bool (Lib.cut s.data.toList [c]).2.2]) ∧ Below w.heap.size w w' := by
  have HI := hide (cut1_lite s c w hs)
  go_enter Tryz.func76, Tryz.ntmps76
  go_wp2_with fail
  refine HI.out.mono ?_
  rintro e w1 ⟨rfl, b1⟩
  have B1 := hide b1
  clear b1 HI
  go_wp2_with fail
  go_ret3
  exact ⟨rfl, B1.out⟩
theorem drop_nil : ∀ {s : List UInt8}, (∀ b ∈ s, b ≠ 58) → s.dropWhile (fun b => b != 58) = []
  | [], _ => rfl
  | b :: s, h => by
    have h1 := h b (by simp)
    have h2 := drop_nil (s := s) fun x hx => h x (by simp [hx])
    simp [h1, h2]
theorem set_farK (w : World) (b i k : Nat) (v : Value) (h : k ≠ b) : (w.setCell ⟨b, i, none⟩ v).heap[k]? = w.heap[k]? := by
  simp only [World.setCell, Array.getElem?_modify]
  rw [if_neg (fun e => h e.symm)]
/-- wordF by what Cut answers. -/
theorem wordF_cut (s : List UInt8) : wordF s = if (Lib.cut s [58]).2.2 = true then (digF (Lib.cut s [58]).1 (Lib.cut s [58]).2.1.length).map fun n => ((Lib.cut s [58]).2.1.take n, (Lib.cut s [58]).2.1.drop n) else none := by
  rcases cut_q 58 s with ⟨h1, h2, h3⟩ | ⟨h1, h2⟩
  · rw [if_pos h1]
    obtain ⟨e1, e2⟩ := takeDrop_colon (a := (Lib.cut s [58]).1) (t := (Lib.cut s [58]).2.1) (fun b hb e => h3 (e ▸ hb))
    rw [← h2] at e1 e2
    unfold wordF
    rw [e1, e2]
  · rw [h1]
    simp only [Bool.false_eq_true, if_false]
    unfold wordF
    have : s.dropWhile (fun b => b != 58) = [] := by
      exact drop_nil (fun b hb e => h2 (e ▸ hb))
    rw [this]
/-- What a reader stands on: the variables lie below B. -/
def EnvR (B : Nat) (w : World) : Prop := ∃ w0 : World, w0.heap.size = B ∧ Below B w0 w ∧ GlobE w0
theorem EnvR.glob {B : Nat} {w : World} (h : EnvR B w) : GlobE w := by
  obtain ⟨w0, rfl, hb, hg⟩ := h
  exact hg.below hb
theorem EnvR.le {B : Nat} {w : World} (h : EnvR B w) : B ≤ w.heap.size := by
  obtain ⟨w0, rfl, hb, hg⟩ := h
  exact hb.size
theorem EnvR.grown {B b : Nat} {w w' : World} (h : EnvR B w) (hb : B ≤ b) (hg : w.grownBy w' (some b)) : EnvR B w' := by
  obtain ⟨w0, h0, h1, h2⟩ := h
  exact ⟨w0, h0, h1.grown hg (by have := h1.size; omega) (fun k e => by cases e; exact hb), h2⟩
theorem grown_of {w w' : World} {b : Nat} (h : Below w.heap.size w w') : w.grownBy w' (some b) := ⟨h.os, h.tape, h.output, h.size, fun k hk _ => h.block k hk⟩
theorem grown_set {w : World} {b i : Nat} {v : Value} : w.grownBy (w.setCell ⟨b, i, none⟩ v) (some b) := by
  exact ⟨(rfl : (w.setCell ⟨b, i, none⟩ v).os = w.os), rfl, rfl, Nat.le_of_eq (by simp), fun k _ hne => set_farK w b i k v (fun e => hne (by rw [e]))⟩
theorem grown_trans {w w1 w2 : World} {r : Option Nat} (h1 : w.grownBy w1 r) (h2 : w1.grownBy w2 r) : w.grownBy w2 r :=
  ⟨h2.os.trans h1.os, h2.tape.trans h1.tape, h2.output.trans h1.output, Nat.le_trans h1.size h2.size, fun k hk hne => (h2.block k (Nat.lt_of_lt_of_le hk h1.size) hne).trans (h1.block k hk hne)⟩
/-- A reader's box. -/
def Rdr (w : World) (b : Nat) (s : List UInt8) : Prop := w.heap[b]? = some (.cells #[.string (sbT s)] 79)
/-- How a piece of the reading ends: with a value and what is left, or it gives up. -/
def RdE {α : Type} (o : Option (α × List UInt8)) (val : α → Value) (b : Nat) (e : Ending) (w' : World) : Prop :=
  (∃ x r, o = some (x, r) ∧ e = .returned (val x) ∧ Rdr w' b r) ∨ (o = none ∧ e = stopN)
set_option maxRecDepth 100000 in
set_option maxHeartbeats 4000000 in
theorem word_any (s : List UInt8) (hs : s.length ≤ 281474976710656) (b B : Nat) (w : World) (_hb : B ≤ b) (hg : EnvR B w) (hr : Rdr w b s) :
    Calls Tryz.prog 53 #[.pointer (some ⟨b, 0, none⟩)] w fun e w' => RdE (wordF s) (fun x => .string (sbT x)) b e w' ∧ w.grownBy w' (some b) := by
  have HC := hide (cut1_any (sbT s) 58 w (by exact hs))
  have hrb := (Array.getElem?_eq_some_iff.1 hr).1
  have hc0 : w.cell? ⟨b, 0, none⟩ = some (.string (sbT s)) := by simp [World.cell?, show w.heap[b]? = _ from hr]
  have HR := hide (And.intro hr (And.intro hg hrb))
  have HW := hide (wordF_cut s)
  rw [show (sbT s).data.toList = s from rfl] at HC
  have hlen : (Lib.cut s [58]).2.1.length ≤ s.length := by
    unfold Lib.cut
    split
    · simp
    · simp
  have hlen1 : (Lib.cut s [58]).1.length ≤ s.length := by
    unfold Lib.cut
    split
    · simp
      omega
    · simp
  obtain ⟨p, q, ok, hpq⟩ : ∃ p q ok, Lib.cut s [58] = (p, q, ok) := ⟨_, _, _, rfl⟩
  rw [hpq] at HC HW hlen hlen1
  simp only at hlen hlen1
  have HL := hide (And.intro hlen hlen1)
  clear hg hr hrb hpq hlen hlen1
  go_enter Tryz.func53, Tryz.ntmps53
  go_wp2_with fail
  refine HC.out.mono ?_
  rintro e w1 ⟨rfl, b1⟩
  have B1 := hide b1
  clear hc0 HC
  cases ok with
  | false =>
    have HN := hide HW.out
    simp only [Bool.false_eq_true, if_false] at HN
    have hU := hide (giveUpN_any w1)
    clear b1
    go_wp2_with fail
    refine hU.out.mono ?_
    rintro e w2 ⟨rfl, rfl⟩
    go_wp2_with fail
    exact ⟨rfl, .inr ⟨HN.out, rfl⟩, grown_of B1.out⟩
  | true =>
    have HN := hide HW.out
    simp only [if_true] at HN
    have hq : (⟨q.toArray⟩ : ByteArray).size = q.length := by simp [ByteArray.size]
    have HD := hide (digits_any ⟨p.toArray⟩ q.length (by have := HL.out.2; simp [ByteArray.size]; omega) w1 ((HR.out.2.1.glob).below b1))
    clear b1 HW
    go_wp2_with fail
    refine HD.out.mono ?_
    rintro e w2 ⟨hE, b2⟩
    have B2 := hide (B1.out.trans (b2.mono B1.out.size))
    clear b2 HD
    rcases hE with ⟨k, hk, rfl⟩ | ⟨hk, rfl⟩
    · have hk' : digF p q.length = some k := hk
      have hkq := (digF_some hk').2
      have HK := hide hk'
      have h2 := (B2.out.block b HR.out.2.2).trans HR.out.1
      have hc2 : w2.cell? ⟨b, 0, none⟩ = some (.string (sbT s)) := by simp [World.cell?, h2]
      have HB2 := hide h2
      have hf2 : w2.frozen? ⟨b, 0, none⟩ = false := by simp [World.frozen?, h2]
      have k1 : (k : Int) ≤ q.length := by omega
      have k0 : (0 : Int) ≤ k := by omega
      clear hk hk' h2 hkq
      go_wp2_with fail
      go_ret
      have e1 : (⟨q.toArray⟩ : ByteArray).extract 0 k = sbT (q.take k) := by
        apply ByteArray.ext
        apply Array.ext'
        rw [ext_l]
        simp [sbT]
      have e2 : (⟨q.toArray⟩ : ByteArray).extract k q.length = sbT (q.drop k) := by
        apply ByteArray.ext
        apply Array.ext'
        rw [ext_l]
        show (q.drop k).take (q.length - k) = q.drop k
        rw [List.take_of_length_le (by rw [List.length_drop]; omega)]
      rw [e1, e2]
      refine ⟨.inl ⟨q.take k, q.drop k, by rw [HN.out, HK.out]; rfl, rfl, ?_⟩, grown_trans (grown_of B2.out) grown_set⟩
      unfold Rdr World.setCell
      rw [Array.getElem?_modify, if_pos rfl, HB2.out]
      rfl
    · have HK := hide hk
      clear hk
      go_wp2_with fail
      exact ⟨rfl, .inr ⟨by rw [HN.out, show digF p q.length = none from HK.out]; rfl, rfl⟩, grown_of B2.out⟩
end Go.Proofs.YtimhkgpjfppkmaaGreatDoor
namespace Go.Proofs.YtimhkgpjfppkmaaGreatDoor
open Go.RowKit Go.Shelf

theorem word_len {s w r : List UInt8} (h : wordF s = some (w, r)) : w.length ≤ s.length ∧ r.length ≤ s.length := by
  have e := wordF_some h
  rw [e]
  simp [encW]
  omega
set_option maxRecDepth 100000 in
set_option maxHeartbeats 4000000 in
theorem number_any (s : List UInt8) (hs : s.length ≤ 281474976710656) (most b B : Nat) (w : World) (hb : B ≤ b) (hg : EnvR B w) (hr : Rdr w b s) :
    Calls Tryz.prog 55 #[.pointer (some ⟨b, 0, none⟩), .int .i64 most] w fun e w' => RdE (numF s most) (fun k => .int .i64 (k : Int)) b e w' ∧ w.grownBy w' (some b) := by
  have HW := hide (word_any s hs b B w hb hg hr)
  have HG := hide hg
  clear hg hr
  go_enter Tryz.func55, Tryz.ntmps55
  go_wp2_with fail
  refine HW.out.mono ?_
  rintro e w1 ⟨⟨x, r, hx, rfl, hr1⟩ | ⟨hx, rfl⟩, g1⟩
  · have hl := word_len hx
    have HD := hide (digits_any (sbT x) most (show x.length ≤ _ by omega) w1 (HG.out.grown hb g1).glob)
    have HK := hide (And.intro hx (And.intro hr1 g1))
    clear hx hr1 g1 hl
    go_wp2_with fail
    refine HD.out.mono ?_
    rintro e w2 ⟨⟨k, hk, rfl⟩ | ⟨hk, rfl⟩, b2⟩
    · have HE := hide (And.intro (show digF x most = some k from hk) b2)
      clear hk b2
      go_wp2_with fail
      go_ret
      refine ⟨.inl ⟨k, r, ?_, rfl, ?_⟩, grown_trans HK.out.2.2 (grown_of HE.out.2)⟩
      · unfold numF
        rw [HK.out.1]
        simp only [Option.bind_some]
        rw [HE.out.1]
        rfl
      · exact (HE.out.2.block b (Array.getElem?_eq_some_iff.1 HK.out.2.1).1).trans HK.out.2.1
    · have HE := hide (And.intro (show digF x most = none from hk) b2)
      clear hk b2
      go_wp2_with fail
      refine ⟨rfl, .inr ⟨?_, rfl⟩, grown_trans HK.out.2.2 (grown_of HE.out.2)⟩
      unfold numF
      rw [HK.out.1]
      simp only [Option.bind_some]
      rw [HE.out.1]
      rfl
  · have HK := hide (And.intro hx g1)
    clear hx g1
    go_wp2_with fail
    refine ⟨rfl, .inr ⟨?_, rfl⟩, HK.out.2⟩
    unfold numF
    rw [HK.out.1]
    rfl
set_option maxRecDepth 100000 in
set_option maxHeartbeats 4000000 in
theorem either_any (yes no : ByteArray) (s : List UInt8) (hs : s.length ≤ 281474976710656) (b B : Nat) (w : World) (hb : B ≤ b) (hg : EnvR B w) (hr : Rdr w b s) :
    Calls Tryz.prog 54 #[.pointer (some ⟨b, 0, none⟩), .string yes, .string no] w fun e w' => RdE (eitF (bsT yes) (bsT no) s) (fun k => .bool k) b e w' ∧ w.grownBy w' (some b) := by
  have HW := hide (word_any s hs b B w hb hg hr)
  clear hg hr
  go_enter Tryz.func54, Tryz.ntmps54
  go_wp2_with fail
  refine HW.out.mono ?_
  rintro e w1 ⟨⟨x, r, hx, rfl, hr1⟩ | ⟨hx, rfl⟩, g1⟩
  · have HU := hide (giveUpN_any w1)
    have HK := hide (And.intro hx (And.intro hr1 g1))
    have hE : eitF (bsT yes) (bsT no) s = if x = bsT yes then some (true, r) else if x = bsT no then some (false, r) else none := by
      unfold eitF
      rw [hx]
      rfl
    have HE := hide hE
    clear hx hr1 g1 hE
    by_cases hy : sbT x = yes
    · have he : ((sbT x).toList == yes.toList) = true := by rw [hy]; simp
      have HX := hide (HE.out.trans (if_pos (by rw [← hy, bs_sb])))
      clear hy
      go_wp2_with fail
      go_ret
      exact ⟨.inl ⟨true, r, HX.out, rfl, HK.out.2.1⟩, HK.out.2.2⟩
    · have he := str_ne hy
      have n1 : ¬ x = bsT yes := fun e => hy (by rw [e, sb_bs])
      by_cases hz : sbT x = no
      · have he2 : ((sbT x).toList == no.toList) = true := by rw [hz]; simp
        have HX := hide (HE.out.trans ((if_neg n1).trans (if_pos (by rw [← hz, bs_sb]))))
        clear hy hz n1
        go_wp2_with fail
        go_ret
        exact ⟨.inl ⟨false, r, HX.out, rfl, HK.out.2.1⟩, HK.out.2.2⟩
      · have he2 := str_ne hz
        have n2 : ¬ x = bsT no := fun e => hz (by rw [e, sb_bs])
        have HX := hide (HE.out.trans ((if_neg n1).trans (if_neg n2)))
        clear hy hz n1 n2
        go_wp2_with fail
        refine HU.out.mono ?_
        rintro e w2 ⟨rfl, rfl⟩
        go_wp2_with fail
        exact ⟨rfl, .inr ⟨HX.out, rfl⟩, HK.out.2.2⟩
  · have HK := hide (And.intro hx g1)
    clear hx g1
    go_wp2_with fail
    refine ⟨rfl, .inr ⟨?_, rfl⟩, HK.out.2⟩
    unfold eitF
    rw [HK.out.1]
    rfl
end Go.Proofs.YtimhkgpjfppkmaaGreatDoor
namespace Go.Proofs.YtimhkgpjfppkmaaGreatDoor
open Go.RowKit Go.Shelf

theorem num_len {s r : List UInt8} {most k : Nat} (h : numF s most = some (k, r)) : r.length ≤ s.length := by
  have e := (numF_some h).1
  rw [e]
  simp
theorem eit_len {yes no s r : List UInt8} {k : Bool} (h : eitF yes no s = some (k, r)) : r.length ≤ s.length := by
  have e := eitF_some h
  rw [e]
  simp
theorem grown_new {w W : World} {r : Option Nat} {q i : Nat} {v : Value} (h : w.grownBy W r) (hq : w.heap.size ≤ q) : w.grownBy (W.setCell ⟨q, i, none⟩ v) r :=
  ⟨h.os, h.tape, h.output, by rw [World.size_setCell]; exact h.size, fun k hk hne => (set_farK W q i k v (by omega)).trans (h.block k hk hne)⟩
theorem Rdr.far {W : World} {b q i : Nat} {s : List UInt8} {v : Value} (h : Rdr W b s) (hne : b ≠ q) : Rdr (W.setCell ⟨q, i, none⟩ v) b s := (set_farK W q i b v hne).trans h
theorem at_set {W : World} {q i : Nat} {cs : Array Value} {T : TypeId} {v : Value} (h : W.heap[q]? = some (.cells cs T)) : (W.setCell ⟨q, i, none⟩ v).heap[q]? = some (.cells (cs.setIfInBounds i v) T) := by
  unfold World.setCell
  rw [Array.getElem?_modify, if_pos rfl, h]
  rfl
theorem res_aff {fn : Func} {tmps : Array Value} {w : World} {b : Nat} {x y : Value} (h : fn.results = #[.cell 2 55]) (hp : tmps[2]?.getD undef = .pointer (some ⟨b, 0, none⟩)) (hb : w.heap[b]? = some (.cells #[x, y] 55)) : (results fn tmps).run Tryz.prog w = .ok (.agg #[x, y]) w := by
  have h0 : w.cell? ⟨b, 0, none⟩ = some x := by simp [World.cell?, hb]
  have h1 : w.cell? ⟨b, 1, none⟩ = some y := by simp [World.cell?, hb]
  simp [results, h, hp, h0, h1, go_sem, Tryz.isAgg55, Tryz.sizeOf55]
theorem res_sub {fn : Func} {tmps : Array Value} {w : World} {b : Nat} {x y z : Value} (h : fn.results = #[.cell 2 58]) (hp : tmps[2]?.getD undef = .pointer (some ⟨b, 0, none⟩)) (hb : w.heap[b]? = some (.cells #[x, y, z] 58)) : (results fn tmps).run Tryz.prog w = .ok (.agg #[x, y, z]) w := by
  have h0 : w.cell? ⟨b, 0, none⟩ = some x := by simp [World.cell?, hb]
  have h1 : w.cell? ⟨b, 1, none⟩ = some y := by simp [World.cell?, hb]
  have h2 : w.cell? ⟨b, 2, none⟩ = some z := by simp [World.cell?, hb]
  simp [results, h, hp, h0, h1, h2, go_sem, Tryz.isAgg58, Tryz.sizeOf58]
theorem res_it {fn : Func} {tmps : Array Value} {w : World} {b : Nat} {x y z : Value} (h : fn.results = #[.cell 2 61]) (hp : tmps[2]?.getD undef = .pointer (some ⟨b, 0, none⟩)) (hb : w.heap[b]? = some (.cells #[x, y, z] 61)) : (results fn tmps).run Tryz.prog w = .ok (.agg #[x, y, z]) w := by
  have h0 : w.cell? ⟨b, 0, none⟩ = some x := by simp [World.cell?, hb]
  have h1 : w.cell? ⟨b, 1, none⟩ = some y := by simp [World.cell?, hb]
  have h2 : w.cell? ⟨b, 2, none⟩ = some z := by simp [World.cell?, hb]
  simp [results, h, hp, h0, h1, h2, go_sem, Tryz.isAgg61, Tryz.sizeOf61]
theorem Rdr.keep {w w' : World} {b : Nat} {s : List UInt8} (h : Rdr w b s) (hb : Below w.heap.size w w') : Rdr w' b s := (hb.block b (Array.getElem?_eq_some_iff.1 h).1).trans h
set_option maxRecDepth 100000 in
set_option maxHeartbeats 4000000 in
theorem rdAff_any (s0 : List UInt8) (hs : s0.length ≤ 281474976710656) (b B : Nat) (w : World) (hb : B ≤ b) (hg : EnvR B w) (hr : Rdr w b s0) :
    Calls Tryz.prog 57 #[.pointer (some ⟨b, 0, none⟩)] w fun e w' => RdE (affF s0) (fun x => .agg #[.string x.1, .int .u8 (x.2 : Int)]) b e w' ∧ w.grownBy w' (some b) := by
  obtain ⟨W0, hW0⟩ : ∃ W0, w.alloc (.cells #[.string ⟨#[]⟩, .int .u8 0] 55) = W0 := ⟨_, rfl⟩
  have b0 : Below w.heap.size w W0 := by rw [← hW0]; exact (Below.refl _ w).alloc (Nat.le_refl _) _
  have f0 : W0.heap[w.heap.size]? = some (.cells #[.string ⟨#[]⟩, .int .u8 0] 55) := by rw [← hW0]; exact World.alloc_heap_new _ _
  have hbl := (Array.getElem?_eq_some_iff.1 hr).1
  have H0 := hide (And.intro (hg.grown hb (grown_of b0)) (And.intro (hr.keep b0) (And.intro hs (And.intro (grown_of (b := b) b0) True.intro))))
  have HB := hide (And.intro f0 hbl)
  have HW0 := hide hW0
  have HC1 := hide (word_any s0 H0.out.2.2.1 b B W0 hb H0.out.1 H0.out.2.1)
  rw [← hW0] at HC1
  clear hg hr f0 b0 hs hbl hW0
  go_enter Tryz.func57, Tryz.ntmps57
  go_wp2_with fail
  refine HC1.out.mono ?_
  rintro e W1 ⟨⟨x, s1, hx, rfl, hr⟩ | ⟨hx, rfl⟩, g⟩
  · rw [HW0.out] at g
    have H1 := hide (And.intro (H0.out.1.grown hb g) (And.intro hr (And.intro (Nat.le_trans ((word_len hx).2) H0.out.2.2.1) (And.intro (grown_trans H0.out.2.2.2.1 g) hx))))
    have HG1 := hide g
    have HC2 := hide (number_any s1 H1.out.2.2.1 5 b B W1 hb H1.out.1 H1.out.2.1)
    clear hx hr g
    go_wp2_with fail
    refine HC2.out.mono ?_
    rintro e W2 ⟨⟨y, s2, hx, rfl, hr⟩ | ⟨hx, rfl⟩, g⟩
    · skip
      have H2 := hide (And.intro (H1.out.1.grown hb g) (And.intro hr (And.intro (Nat.le_trans (num_len hx) H1.out.2.2.1) (And.intro (grown_trans H1.out.2.2.2.1 g) hx))))
      have HG2 := hide (grown_trans HG1.out g)
      have hu : IntKind.u8.wrap ((y : Nat) : Int) = y := by have := (numF_some hx).2; show ((y : Nat) : Int) % 256 = _; omega
      clear hx hr g
      have fw : W2.heap[w.heap.size]? = some (.cells #[.string ⟨#[]⟩, .int .u8 0] 55) := by
        have hlt : w.heap.size < W0.heap.size := (Array.getElem?_eq_some_iff.1 HB.out.1).1
        have hne : (some w.heap.size : Option Nat) ≠ some b := fun h => by have := HB.out.2; injection h with h; omega
        exact (HG2.out.block _ hlt hne).trans HB.out.1
      have HF := hide fw
      have c0 : W2.cell? ⟨w.heap.size, 0, none⟩ = some (.string ⟨#[]⟩) := by simp [World.cell?, fw]
      have q0 : W2.frozen? ⟨w.heap.size, 0, none⟩ = false := by simp [World.frozen?, fw]
      have c1 : W2.cell? ⟨w.heap.size, 1, none⟩ = some (.int .u8 0) := by simp [World.cell?, fw]
      have q1 : W2.frozen? ⟨w.heap.size, 1, none⟩ = false := by simp [World.frozen?, fw]
      clear fw
      go_wp2_with fail
      refine bodyPost_ret (res_aff rfl rfl (at_set (at_set HF.out))) rfl ⟨.inl ⟨(sbT x, y), s2, ?_, rfl, ?_⟩, ?_⟩
      · unfold affF
        rw [H1.out.2.2.2.2]
        simp only [Option.bind_some]
        rw [H2.out.2.2.2.2]
        rfl
      · exact Rdr.far (Rdr.far (H2.out.2.1) (by have := HB.out.2; omega)) (by have := HB.out.2; omega)
      · exact grown_new (grown_new (H2.out.2.2.2.1) (Nat.le_refl _)) (Nat.le_refl _)
    · have HK := hide (And.intro hx g)
      clear hx g
      go_wp2_with fail
      refine ⟨rfl, .inr ⟨?_, rfl⟩, grown_trans H1.out.2.2.2.1 HK.out.2⟩
      unfold affF
      rw [H1.out.2.2.2.2]
      simp only [Option.bind_some]
      rw [HK.out.1]
      rfl
  · rw [HW0.out] at g
    have HK := hide (And.intro hx g)
    clear hx g
    go_wp2_with fail
    refine ⟨rfl, .inr ⟨?_, rfl⟩, grown_trans H0.out.2.2.2.1 HK.out.2⟩
    unfold affF
    rw [HK.out.1]
    rfl
set_option maxRecDepth 100000 in
set_option maxHeartbeats 4000000 in
theorem rdSub_any (s0 : List UInt8) (hs : s0.length ≤ 281474976710656) (b B : Nat) (w : World) (hb : B ≤ b) (hg : EnvR B w) (hr : Rdr w b s0) :
    Calls Tryz.prog 59 #[.pointer (some ⟨b, 0, none⟩)] w fun e w' => RdE (subF s0) (fun x => .agg #[.string x.1, .bool x.2.1, .int .i64 x.2.2]) b e w' ∧ w.grownBy w' (some b) := by
  obtain ⟨W0, hW0⟩ : ∃ W0, w.alloc (.cells #[.string ⟨#[]⟩, .bool false, .int .i64 0] 58) = W0 := ⟨_, rfl⟩
  have b0 : Below w.heap.size w W0 := by rw [← hW0]; exact (Below.refl _ w).alloc (Nat.le_refl _) _
  have f0 : W0.heap[w.heap.size]? = some (.cells #[.string ⟨#[]⟩, .bool false, .int .i64 0] 58) := by rw [← hW0]; exact World.alloc_heap_new _ _
  have hbl := (Array.getElem?_eq_some_iff.1 hr).1
  have H0 := hide (And.intro (hg.grown hb (grown_of b0)) (And.intro (hr.keep b0) (And.intro hs (And.intro (grown_of (b := b) b0) True.intro))))
  have HB := hide (And.intro f0 hbl)
  have HW0 := hide hW0
  have HC1 := hide (word_any s0 H0.out.2.2.1 b B W0 hb H0.out.1 H0.out.2.1)
  rw [← hW0] at HC1
  clear hg hr f0 b0 hs hbl hW0
  go_enter Tryz.func59, Tryz.ntmps59
  go_wp2_with fail
  refine HC1.out.mono ?_
  rintro e W1 ⟨⟨x, s1, hx, rfl, hr⟩ | ⟨hx, rfl⟩, g⟩
  · rw [HW0.out] at g
    have H1 := hide (And.intro (H0.out.1.grown hb g) (And.intro hr (And.intro (Nat.le_trans ((word_len hx).2) H0.out.2.2.1) (And.intro (grown_trans H0.out.2.2.2.1 g) hx))))
    have HG1 := hide g
    have HC2 := hide (either_any ⟨#[112]⟩ ⟨#[115]⟩ s1 H1.out.2.2.1 b B W1 hb H1.out.1 H1.out.2.1)
    clear hx hr g
    go_wp2_with fail
    refine HC2.out.mono ?_
    rintro e W2 ⟨⟨y, s2, hx, rfl, hr⟩ | ⟨hx, rfl⟩, g⟩
    · skip
      replace hx : eitF [112] [115] s1 = some (y, s2) := hx
      have H2 := hide (And.intro (H1.out.1.grown hb g) (And.intro hr (And.intro (Nat.le_trans (eit_len hx) H1.out.2.2.1) (And.intro (grown_trans H1.out.2.2.2.1 g) hx))))
      have HG2 := hide (grown_trans HG1.out g)
      have HC3 := hide (number_any s2 H2.out.2.2.1 255 b B W2 hb H2.out.1 H2.out.2.1)
      clear hx hr g
      go_wp2_with fail
      refine HC3.out.mono ?_
      rintro e W3 ⟨⟨z, s3, hx, rfl, hr⟩ | ⟨hx, rfl⟩, g⟩
      · skip
        have H3 := hide (And.intro (H2.out.1.grown hb g) (And.intro hr (And.intro (Nat.le_trans (num_len hx) H2.out.2.2.1) (And.intro (grown_trans H2.out.2.2.2.1 g) hx))))
        have HG3 := hide (grown_trans HG2.out g)
        clear hx hr g
        have fw : W3.heap[w.heap.size]? = some (.cells #[.string ⟨#[]⟩, .bool false, .int .i64 0] 58) := by
          have hlt : w.heap.size < W0.heap.size := (Array.getElem?_eq_some_iff.1 HB.out.1).1
          have hne : (some w.heap.size : Option Nat) ≠ some b := fun h => by have := HB.out.2; injection h with h; omega
          exact (HG3.out.block _ hlt hne).trans HB.out.1
        have HF := hide fw
        have c0 : W3.cell? ⟨w.heap.size, 0, none⟩ = some (.string ⟨#[]⟩) := by simp [World.cell?, fw]
        have q0 : W3.frozen? ⟨w.heap.size, 0, none⟩ = false := by simp [World.frozen?, fw]
        have c1 : W3.cell? ⟨w.heap.size, 1, none⟩ = some (.bool false) := by simp [World.cell?, fw]
        have q1 : W3.frozen? ⟨w.heap.size, 1, none⟩ = false := by simp [World.frozen?, fw]
        have c2 : W3.cell? ⟨w.heap.size, 2, none⟩ = some (.int .i64 0) := by simp [World.cell?, fw]
        have q2 : W3.frozen? ⟨w.heap.size, 2, none⟩ = false := by simp [World.frozen?, fw]
        clear fw
        go_wp2_with fail
        refine bodyPost_ret (res_sub rfl rfl (at_set (at_set (at_set HF.out)))) rfl ⟨.inl ⟨(sbT x, y, (z : Int)), s3, ?_, rfl, ?_⟩, ?_⟩
        · unfold subF
          rw [H1.out.2.2.2.2]
          simp only [Option.bind_some]
          rw [H2.out.2.2.2.2]
          simp only [Option.bind_some]
          rw [H3.out.2.2.2.2]
          rfl
        · exact Rdr.far (Rdr.far (Rdr.far (H3.out.2.1) (by have := HB.out.2; omega)) (by have := HB.out.2; omega)) (by have := HB.out.2; omega)
        · exact grown_new (grown_new (grown_new (H3.out.2.2.2.1) (Nat.le_refl _)) (Nat.le_refl _)) (Nat.le_refl _)
      · have HK := hide (And.intro hx g)
        clear hx g
        go_wp2_with fail
        refine ⟨rfl, .inr ⟨?_, rfl⟩, grown_trans H2.out.2.2.2.1 HK.out.2⟩
        unfold subF
        rw [H1.out.2.2.2.2]
        simp only [Option.bind_some]
        rw [H2.out.2.2.2.2]
        simp only [Option.bind_some]
        rw [HK.out.1]
        rfl
    · replace hx : eitF [112] [115] s1 = none := hx
      have HK := hide (And.intro hx g)
      clear hx g
      go_wp2_with fail
      refine ⟨rfl, .inr ⟨?_, rfl⟩, grown_trans H1.out.2.2.2.1 HK.out.2⟩
      unfold subF
      rw [H1.out.2.2.2.2]
      simp only [Option.bind_some]
      rw [HK.out.1]
      rfl
  · rw [HW0.out] at g
    have HK := hide (And.intro hx g)
    clear hx g
    go_wp2_with fail
    refine ⟨rfl, .inr ⟨?_, rfl⟩, grown_trans H0.out.2.2.2.1 HK.out.2⟩
    unfold subF
    rw [HK.out.1]
    rfl
set_option maxRecDepth 100000 in
set_option maxHeartbeats 4000000 in
theorem rdIt_any (s0 : List UInt8) (hs : s0.length ≤ 281474976710656) (b B : Nat) (w : World) (hb : B ≤ b) (hg : EnvR B w) (hr : Rdr w b s0) :
    Calls Tryz.prog 61 #[.pointer (some ⟨b, 0, none⟩)] w fun e w' => RdE (itF s0) (fun x => .agg #[.string x.1, .string x.2.1, .string x.2.2]) b e w' ∧ w.grownBy w' (some b) := by
  obtain ⟨W0, hW0⟩ : ∃ W0, w.alloc (.cells #[.string ⟨#[]⟩, .string ⟨#[]⟩, .string ⟨#[]⟩] 61) = W0 := ⟨_, rfl⟩
  have b0 : Below w.heap.size w W0 := by rw [← hW0]; exact (Below.refl _ w).alloc (Nat.le_refl _) _
  have f0 : W0.heap[w.heap.size]? = some (.cells #[.string ⟨#[]⟩, .string ⟨#[]⟩, .string ⟨#[]⟩] 61) := by rw [← hW0]; exact World.alloc_heap_new _ _
  have hbl := (Array.getElem?_eq_some_iff.1 hr).1
  have H0 := hide (And.intro (hg.grown hb (grown_of b0)) (And.intro (hr.keep b0) (And.intro hs (And.intro (grown_of (b := b) b0) True.intro))))
  have HB := hide (And.intro f0 hbl)
  have HW0 := hide hW0
  have HC1 := hide (word_any s0 H0.out.2.2.1 b B W0 hb H0.out.1 H0.out.2.1)
  rw [← hW0] at HC1
  clear hg hr f0 b0 hs hbl hW0
  go_enter Tryz.func61, Tryz.ntmps61
  go_wp2_with fail
  refine HC1.out.mono ?_
  rintro e W1 ⟨⟨x, s1, hx, rfl, hr⟩ | ⟨hx, rfl⟩, g⟩
  · rw [HW0.out] at g
    have H1 := hide (And.intro (H0.out.1.grown hb g) (And.intro hr (And.intro (Nat.le_trans ((word_len hx).2) H0.out.2.2.1) (And.intro (grown_trans H0.out.2.2.2.1 g) hx))))
    have HG1 := hide g
    have HC2 := hide (word_any s1 H1.out.2.2.1 b B W1 hb H1.out.1 H1.out.2.1)
    clear hx hr g
    go_wp2_with fail
    refine HC2.out.mono ?_
    rintro e W2 ⟨⟨y, s2, hx, rfl, hr⟩ | ⟨hx, rfl⟩, g⟩
    · skip
      have H2 := hide (And.intro (H1.out.1.grown hb g) (And.intro hr (And.intro (Nat.le_trans ((word_len hx).2) H1.out.2.2.1) (And.intro (grown_trans H1.out.2.2.2.1 g) hx))))
      have HG2 := hide (grown_trans HG1.out g)
      have HC3 := hide (word_any s2 H2.out.2.2.1 b B W2 hb H2.out.1 H2.out.2.1)
      clear hx hr g
      go_wp2_with fail
      refine HC3.out.mono ?_
      rintro e W3 ⟨⟨z, s3, hx, rfl, hr⟩ | ⟨hx, rfl⟩, g⟩
      · skip
        have H3 := hide (And.intro (H2.out.1.grown hb g) (And.intro hr (And.intro (Nat.le_trans ((word_len hx).2) H2.out.2.2.1) (And.intro (grown_trans H2.out.2.2.2.1 g) hx))))
        have HG3 := hide (grown_trans HG2.out g)
        clear hx hr g
        have fw : W3.heap[w.heap.size]? = some (.cells #[.string ⟨#[]⟩, .string ⟨#[]⟩, .string ⟨#[]⟩] 61) := by
          have hlt : w.heap.size < W0.heap.size := (Array.getElem?_eq_some_iff.1 HB.out.1).1
          have hne : (some w.heap.size : Option Nat) ≠ some b := fun h => by have := HB.out.2; injection h with h; omega
          exact (HG3.out.block _ hlt hne).trans HB.out.1
        have HF := hide fw
        have c0 : W3.cell? ⟨w.heap.size, 0, none⟩ = some (.string ⟨#[]⟩) := by simp [World.cell?, fw]
        have q0 : W3.frozen? ⟨w.heap.size, 0, none⟩ = false := by simp [World.frozen?, fw]
        have c1 : W3.cell? ⟨w.heap.size, 1, none⟩ = some (.string ⟨#[]⟩) := by simp [World.cell?, fw]
        have q1 : W3.frozen? ⟨w.heap.size, 1, none⟩ = false := by simp [World.frozen?, fw]
        have c2 : W3.cell? ⟨w.heap.size, 2, none⟩ = some (.string ⟨#[]⟩) := by simp [World.cell?, fw]
        have q2 : W3.frozen? ⟨w.heap.size, 2, none⟩ = false := by simp [World.frozen?, fw]
        clear fw
        go_wp2_with fail
        refine bodyPost_ret (res_it rfl rfl (at_set (at_set (at_set HF.out)))) rfl ⟨.inl ⟨(sbT x, sbT y, sbT z), s3, ?_, rfl, ?_⟩, ?_⟩
        · unfold itF
          rw [H1.out.2.2.2.2]
          simp only [Option.bind_some]
          rw [H2.out.2.2.2.2]
          simp only [Option.bind_some]
          rw [H3.out.2.2.2.2]
          rfl
        · exact Rdr.far (Rdr.far (Rdr.far (H3.out.2.1) (by have := HB.out.2; omega)) (by have := HB.out.2; omega)) (by have := HB.out.2; omega)
        · exact grown_new (grown_new (grown_new (H3.out.2.2.2.1) (Nat.le_refl _)) (Nat.le_refl _)) (Nat.le_refl _)
      · have HK := hide (And.intro hx g)
        clear hx g
        go_wp2_with fail
        refine ⟨rfl, .inr ⟨?_, rfl⟩, grown_trans H2.out.2.2.2.1 HK.out.2⟩
        unfold itF
        rw [H1.out.2.2.2.2]
        simp only [Option.bind_some]
        rw [H2.out.2.2.2.2]
        simp only [Option.bind_some]
        rw [HK.out.1]
        rfl
    · have HK := hide (And.intro hx g)
      clear hx g
      go_wp2_with fail
      refine ⟨rfl, .inr ⟨?_, rfl⟩, grown_trans H1.out.2.2.2.1 HK.out.2⟩
      unfold itF
      rw [H1.out.2.2.2.2]
      simp only [Option.bind_some]
      rw [HK.out.1]
      rfl
  · rw [HW0.out] at g
    have HK := hide (And.intro hx g)
    clear hx g
    go_wp2_with fail
    refine ⟨rfl, .inr ⟨?_, rfl⟩, grown_trans H0.out.2.2.2.1 HK.out.2⟩
    unfold itF
    rw [HK.out.1]
    rfl
end Go.Proofs.YtimhkgpjfppkmaaGreatDoor
