/- WriteWraps, whatever its arguments. -/
import Derived.Test.YtaglbikjnaahnacDoorLive4
import Derived.Test.YtaglbikjnaahnacDoorSame
import Derived.Test.YtaglbikjnaahnacDoorElemM
namespace Go.Proofs.YtaglbikjnaahnacDoor
open Go.RowKit

theorem Tells.as {p : Prop} {e : Ending} (h : Tells p e) (b : Bool) (hb : p ↔ b = true) : e = .returned (.bool b) := by
  rcases h with ⟨h1, h2⟩ | ⟨h1, h2⟩
  · rw [h2, hb.1 h1]
  · cases b with
    | true => exact absurd (hb.2 rfl) h1
    | false => exact h2

set_option maxRecDepth 100000 in
set_option maxHeartbeats 4000000 in
theorem writeWraps_any (name : ByteArray) (ao : Option Addr) (cap : Nat) (us : List Tok) (av : Nat → Option Addr × Nat) (w : World) (hn : name.size ≤ 9223372036854775807) (hc : us.length ≤ cap) (h1 : TokMem w.heap.size w ao us av) (hU : Tabs w) (hl : EntLaid w) :
    Calls Tryd.prog 5 #[.string name, .slice ao us.length cap] w fun e w' => e = .returned (.bool true) ∧ Below w.heap.size w w' := by
  have f1 := few_any ao cap us w hc h1.1
  have g1 := h1.take 70
  have hxl : (us.take 70).length ≤ 70 := by simp; omega
  obtain ⟨ts, hxs⟩ : ∃ ts, us.take 70 = ts := ⟨_, rfl⟩
  rw [hxs] at f1 g1 hxl
  have HF := hide f1
  have HG := hide g1
  have HU := hide hU
  have HL := hide hl
  clear hU hl h1 hc f1 g1 hxs
  go_enter Tryd.func5, Tryd.ntmps5
  go_wp2_with fail
  refine HF.out.mono ?_
  rintro e w0 ⟨rfl, hw0⟩
  subst hw0
  go_wp2_with fail
  refine (element_row name none 0 [] ao cap ts av w0 hn ⟨by simp, by simp, by simp⟩ HG.out (by omega)).mono ?_
  rintro e w1 ⟨v1, l1, rfl, hl1, hE1, hb1⟩
  have hl2 : l1.length = ts.length + 2 := by have h := congrArg List.length hl1; simpa [elemT] using h
  obtain ⟨ao1, cap1, rfl, hT1⟩ := tokMem_own hE1 (by omega)
  rw [hl1] at hT1
  rw [hl2]
  have HT1 := hide hT1
  have HB1 := hide hb1
  clear hT1 hb1 hE1 hl1 hl2
  have hq : ((ts.length + 2 : Nat) : Int) = (ts.length : Int) + 2 := by omega
  go_wp2_with fail
  go_loopw [6, 7, 8] (fun d m i wr => wr = w1 ∧ ∃ k : Nat, k ≤ ts.length ∧ i = .int .i64 k ∧ d = .int .i64 (dep ts k) ∧ m = .int .i64 (mostTo ts k)) (fun _ _ i _ => ts.length - (intOf i).toNat)
  case atStart => exact ⟨rfl, 0, Nat.zero_le _, rfl, rfl, rfl⟩
  case round =>
    obtain ⟨hwr, k, hk, rfl, rfl, rfl⟩ := hrel
    subst hwr
    have hd1 := dep_le ts k
    have hm1 := most_le ts k
    by_cases hlt : k < ts.length
    · obtain ⟨t, ht⟩ : ∃ t, ts[k]? = some t := ⟨ts[k], by simp [hlt]⟩
      obtain ⟨_, _, _, _, _, b, off, rfl, hb, t1, _⟩ := HG.out.2 k t ht
      have p1 := (HB1.out.cell (p := ⟨b, _, none⟩) hb).trans t1
      clear t1
      have hD : dep ts (k + 1) = dep ts k + (if t.kind = 1 then 1 else if t.kind = 2 then -1 else 0) := by rw [dep, ht]
      have hM : mostTo ts (k + 1) = if mostTo ts k < dep ts (k + 1) then dep ts (k + 1) else mostTo ts k := rfl
      have HD := hide (And.intro hD hM)
      clear hD hM
      obtain ⟨d0, hd0⟩ : ∃ d0, dep ts k = d0 := ⟨_, rfl⟩
      obtain ⟨m0, hm0⟩ : ∃ m0, mostTo ts k = m0 := ⟨_, rfl⟩
      rw [hd0] at hd1 HD ⊢
      rw [hm0] at hm1 HD ⊢
      by_cases k1 : t.kind = 1
      · have z1 : ((t.kind : Int) == 1) = true := by rw [k1]; rfl
        have z2 : ((t.kind : Int) == 2) = false := by rw [k1]; rfl
        have hD : dep ts (k + 1) = d0 + 1 := by rw [HD.out.1]; simp [k1]
        have hM : mostTo ts (k + 1) = if m0 < d0 + 1 then d0 + 1 else m0 := by rw [HD.out.2, hD]
        have HDD := hide (And.intro hD hM)
        clear hD hM HD
        by_cases hx : m0 < d0 + 1
        · go_wp2_with fail
          refine ⟨⟨trivial, k + 1, by omega, by simp, by rw [HDD.out.1], by rw [HDD.out.2, if_pos hx]⟩, by simp [intOf]; omega⟩
        · go_wp2_with fail
          refine ⟨⟨trivial, k + 1, by omega, by simp, by rw [HDD.out.1], by rw [HDD.out.2, if_neg hx]⟩, by simp [intOf]; omega⟩
      · have z1 : ((t.kind : Int) == 1) = false := by rw [beq_eq_false_iff_ne]; omega
        by_cases k2 : t.kind = 2
        · have z2 : ((t.kind : Int) == 2) = true := by rw [k2]; rfl
          have hD : dep ts (k + 1) = d0 - 1 := by rw [HD.out.1]; simp [k2]; omega
          have hM : mostTo ts (k + 1) = if m0 < d0 - 1 then d0 - 1 else m0 := by rw [HD.out.2, hD]
          have HDD := hide (And.intro hD hM)
          clear hD hM HD
          by_cases hx : m0 < d0 - 1
          · go_wp2_with fail
            refine ⟨⟨trivial, k + 1, by omega, by simp, by rw [HDD.out.1], by rw [HDD.out.2, if_pos hx]⟩, by simp [intOf]; omega⟩
          · go_wp2_with fail
            refine ⟨⟨trivial, k + 1, by omega, by simp, by rw [HDD.out.1], by rw [HDD.out.2, if_neg hx]⟩, by simp [intOf]; omega⟩
        · have z2 : ((t.kind : Int) == 2) = false := by rw [beq_eq_false_iff_ne]; omega
          have hD : dep ts (k + 1) = d0 := by rw [HD.out.1]; simp [k1, k2]
          have hM : mostTo ts (k + 1) = if m0 < d0 then d0 else m0 := by rw [HD.out.2, hD]
          have HDD := hide (And.intro hD hM)
          clear hD hM HD
          by_cases hx : m0 < d0
          · go_wp2_with fail
            refine ⟨⟨trivial, k + 1, by omega, by simp, by rw [HDD.out.1], by rw [HDD.out.2, if_pos hx]⟩, by simp [intOf]; omega⟩
          · go_wp2_with fail
            refine ⟨⟨trivial, k + 1, by omega, by simp, by rw [HDD.out.1], by rw [HDD.out.2, if_neg hx]⟩, by simp [intOf]; omega⟩
    · obtain rfl : k = ts.length := by omega
      obtain ⟨m0, hm0⟩ : ∃ m0, mostTo ts ts.length = m0 := ⟨_, rfl⟩
      rw [hm0] at hm1 ⊢
      go_wp2_with fail
      refine (right_any ao cap ts av wr ((HG.out.below HB1.out).mono HB1.out.size) (tabs_below HU.out HB1.out)).mono ?_
      rintro e w2 ⟨⟨hr, rfl⟩ | ⟨hr, rfl⟩, hb2⟩
      case inr =>
        have HB2 := hide (HB1.out.trans (hb2.mono HB1.out.size))
        clear hb2
        go_wp2_with fail
        refine (live4_any w2 (tabs_below HU.out HB2.out) (HL.out.below HB2.out HL.out.size)).mono ?_
        rintro e w3 ⟨rfl, hb3⟩
        have HB3 := hide (HB2.out.trans (hb3.mono HB2.out.size))
        clear hb3
        go_wp2_with fail
        go_ret
        exact ⟨rfl, HB3.out⟩
      have HB2 := hide (HB1.out.trans (hb2.mono HB1.out.size))
      have HS2 := hide hb2
      clear hb2
      by_cases hm8 : 8 ≤ m0
      · go_wp2_with fail
        refine (live4_any w2 (tabs_below HU.out HB2.out) (HL.out.below HB2.out HL.out.size)).mono ?_
        rintro e w3 ⟨rfl, hb3⟩
        have HB3 := hide (HB2.out.trans (hb3.mono HB2.out.size))
        clear hb3
        go_wp2_with fail
        go_ret
        exact ⟨rfl, HB3.out⟩
      · by_cases h64 : 64 < (ts.length : Int) + 2
        · go_wp2_with fail
          refine (live4_any w2 (tabs_below HU.out HB2.out) (HL.out.below HB2.out HL.out.size)).mono ?_
          rintro e w3 ⟨rfl, hb3⟩
          have HB3 := hide (HB2.out.trans (hb3.mono HB2.out.size))
          clear hb3
          go_wp2_with fail
          go_ret
          exact ⟨rfl, HB3.out⟩
        · obtain ⟨bv, hbv⟩ : ∃ bv : Bool, NameOk name ↔ bv = true := by
            by_cases h : NameOk name
            · exact ⟨true, by simp [h]⟩
            · exact ⟨false, by simp [h]⟩
          have hsh := shallow hr (by rw [hm0]; exact hm8)
          have he1 : RightT (elemT name [] ts) ↔ bv = true := (right_elem hr hsh (by omega)).trans hbv
          have he2 : WholeT (elemT name [] ts) ↔ bv = true := (whole_elem hr hsh (by omega)).trans hbv
          have he3 : RightT [⟨1, name, [], ⟨#[]⟩⟩, ⟨2, name, [], ⟨#[]⟩⟩] ↔ bv = true := right_named.trans hbv
          have HE := hide (And.intro he1 (And.intro he2 he3))
          clear he1 he2 he3 hsh
          go_wp2_with fail
          obtain ⟨W3, hW3⟩ : ∃ W3, w2.alloc (.cells #[.int .u8 1, .string name, .slice none 0 0, .string ⟨#[]⟩, .int .u8 2, .string name, .slice none 0 0, .string ⟨#[]⟩] 40) = W3 := ⟨_, rfl⟩
          have g0 : W3.heap[w2.heap.size]? = some (.cells #[.int .u8 1, .string name, .slice none 0 0, .string ⟨#[]⟩, .int .u8 2, .string name, .slice none 0 0, .string ⟨#[]⟩] 40) := by rw [← hW3]; exact World.alloc_heap_new w2 _
          have z3 : W3.heap.size = w2.heap.size + 1 := by rw [← hW3]; simp
          have hb3 : Below w0.heap.size w0 W3 := by rw [← hW3]; exact HB2.out.alloc HB2.out.size _
          rw [hW3]
          have hT : TokMem W3.heap.size W3 (some ⟨w2.heap.size, 0, none⟩) [⟨1, name, [], ⟨#[]⟩⟩, ⟨2, name, [], ⟨#[]⟩⟩] (fun _ => (none, 0)) := by
            refine ⟨by simp, fun k t hk => ?_⟩
            match k, hk with
            | 0, hk => cases hk; exact ⟨by simp, hn, Nat.zero_le _, ⟨by simp, by simp, by simp⟩, by simp, _, _, rfl, by omega, by simp [World.cell?, g0], by simp [World.cell?, g0], by simp [World.cell?, g0], by simp [World.cell?, g0]⟩
            | 1, hk => cases hk; exact ⟨by simp, hn, Nat.zero_le _, ⟨by simp, by simp, by simp⟩, by simp, _, _, rfl, by omega, by simp [World.cell?, g0], by simp [World.cell?, g0], by simp [World.cell?, g0], by simp [World.cell?, g0]⟩
            | k + 2, hk => simp at hk
          have HB3 := hide hb3
          have HS3 : Hid (Below wr.heap.size wr W3) := by rw [← hW3]; exact hide (HS2.out.alloc HS2.out.size _)
          have hR3 := right_any (some ⟨w2.heap.size, 0, none⟩) 2 _ _ W3 hT (tabs_below HU.out hb3)
          clear hb3 hT g0 hW3
          refine hR3.mono ?_
          rintro e w4 ⟨he, hb4⟩
          obtain rfl := he.as bv HE.out.2.2
          have HB4 := hide (HB3.out.trans (hb4.mono HB3.out.size))
          have HS4 := hide (HS3.out.trans (hb4.mono HS3.out.size))
          clear hb4 he hR3
          go_wp2_with fail
          refine (live4_any w4 (tabs_below HU.out HB4.out) (HL.out.below HB4.out HL.out.size)).mono ?_
          rintro e w5 ⟨rfl, hb5⟩
          have HB5 := hide (HB4.out.trans (hb5.mono HB4.out.size))
          have HS5 := hide (HS4.out.trans (hb5.mono HS4.out.size))
          clear hb5
          have hbb : (bv == bv) = true := by simp
          have hr5 := right_any ao1 cap1 (elemT name [] ts) (avOf l1) w5 ((HT1.out.below HS5.out).mono HS5.out.size) (tabs_below HU.out HB5.out)
          rw [elemT_length] at hr5
          have HR5 := hide hr5
          clear hr5
          go_wp2_with fail
          refine HR5.out.mono ?_
          rintro e w6 ⟨he, hb6⟩
          obtain rfl := he.as bv HE.out.1
          have HB6 := hide (HB5.out.trans (hb6.mono HB5.out.size))
          have HS6 := hide (HS5.out.trans (hb6.mono HS5.out.size))
          clear hb6 he HR5
          have hr6 := whole_any ao1 cap1 (elemT name [] ts) (avOf l1) w6 ((HT1.out.below HS6.out).mono HS6.out.size) (tabs_below HU.out HB6.out)
          rw [elemT_length] at hr6
          have HR6 := hide hr6
          clear hr6
          go_wp2_with fail
          refine HR6.out.mono ?_
          rintro e w7 ⟨he, hb7⟩
          obtain rfl := he.as bv HE.out.2.1
          have HB7 := hide (HB6.out.trans (hb7.mono HB6.out.size))
          clear hb7 he HR6
          go_wp2_with fail
          go_ret
          exact ⟨rfl, HB7.out⟩
end Go.Proofs.YtaglbikjnaahnacDoor
