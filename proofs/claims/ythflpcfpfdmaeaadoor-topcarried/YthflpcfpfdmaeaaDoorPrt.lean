/- A step's text. -/
import Derived.Test.YthflpcfpfdmaeaaDoorRight
import Derived.Test.YthflpcfpfdmaeaaDoorEsc
namespace Go.Proofs.YthflpcfpfdmaeaaDoor
open Go.RowKit

def attrT (a : ByteArray × ByteArray) : List UInt8 := [32] ++ a.1.data.toList ++ [61, 39] ++ esc a.2.data.toList ++ [39]
def attrsT (al : List (ByteArray × ByteArray)) : List UInt8 := al.flatMap attrT
def beginT (t : Tok) (ends : Bool) : List UInt8 := [60] ++ t.name.data.toList ++ attrsT t.attrs ++ (if ends then [47] else []) ++ [62]
/-- Small enough to be printed. -/
def Few (t : Tok) : Prop := t.name.size ≤ 1000 ∧ t.text.size ≤ 1000 ∧ t.attrs.length ≤ 8 ∧ ∀ a ∈ t.attrs, a.1.size ≤ 1000 ∧ a.2.size ≤ 1000
theorem attrT_le {a : ByteArray × ByteArray} (h : a.1.size ≤ 1000 ∧ a.2.size ≤ 1000) : (attrT a).length ≤ 8000 := by
  have h1 := esc_length a.2.data.toList
  have h2 : a.1.data.toList.length = a.1.size := Array.length_toList
  have h3 : a.2.data.toList.length = a.2.size := Array.length_toList
  simp only [attrT, List.length_append, List.length_cons, List.length_nil]
  omega
theorem attrsT_le : ∀ (al : List (ByteArray × ByteArray)), (∀ a ∈ al, a.1.size ≤ 1000 ∧ a.2.size ≤ 1000) → (attrsT al).length ≤ al.length * 8000
  | [], _ => by simp [attrsT]
  | a :: al, h => by
    have h1 := attrT_le (h a (by simp))
    have h2 := attrsT_le al (fun b hb => h b (by simp [hb]))
    simp only [attrsT, List.flatMap_cons, List.length_append, List.length_cons] at h2 ⊢
    omega
theorem attrsT_succ {al : List (ByteArray × ByteArray)} {k : Nat} {a : ByteArray × ByteArray} (h : al[k]? = some a) : attrsT (al.take (k + 1)) = attrsT (al.take k) ++ attrT a := by
  rw [List.take_add_one, h]
  simp [attrsT]

theorem writeL (B b : Nat) (l : List UInt8) (s : ByteArray) (w : World) (h : Lib.IsBuilderF 46 5 B b (Lib.byteCells l) w) (hlen : l.length + s.size ≤ 1000000000) (hB : B ≤ w.heap.size) :
    Calls Tryd.prog 14 #[.pointer (some ⟨b, 0, none⟩), .string s] w fun e w' => e = .returned (.tuple #[.int .i64 s.size, .nilIface]) ∧ Lib.IsBuilderF 46 5 B b (Lib.byteCells (l ++ s.data.toList)) w' ∧ Below B w w' ∧ Lib.OthersKept 5 (some b) w w' := by
  refine (writeString B b _ s w h (by rw [Lib.byteCells_length]; omega) hB).mono ?_
  rintro e w' ⟨rfl, h1, h2, h3⟩
  refine ⟨rfl, Or.inr ?_, h2, h3⟩
  rw [Lib.byteCells_append]
  exact h1

set_option maxRecDepth 100000 in
set_option maxHeartbeats 2000000 in
theorem printBegin_any (n₀ : Nat) (ao : Option Addr) (cap : Nat) (t : Tok) (ends : Bool) (w : World) (hA : AttrMem n₀ w ao t.attrs) (hn : n₀ ≤ w.heap.size) (hl : EntLaid w) (hF : Few t) :
    Calls Tryd.prog 25 #[.agg #[.int .u8 t.kind, .string t.name, .slice ao t.attrs.length cap, .string t.text], .bool ends] w fun e w' => e = .returned (.string ⟨(beginT t ends).toArray⟩) ∧ Below w.heap.size w w' := by
  have HA := hide hA
  have HL := hide hl
  have HF := hide hF
  have hf1 := hF.1
  have hf3 := hF.2.2.1
  clear hA hl hF
  go_enter Tryd.func25, Tryd.ntmps25
  go_wp2_with fail
  have hI0 := Lib.IsBuilderF.of (Lib.fresh_isBuilder 46 5 (w.alloc (.cells #[.int .u8 t.kind, .string t.name, .slice ao t.attrs.length cap, .string t.text] 29)))
  rw [World.size_alloc] at hI0
  refine (writeL (w.heap.size + 1) (w.heap.size + 1) [] _ _ hI0 ?hlen (by simp)).mono ?_
  case hlen =>
    rw [← size_list, app_list, List.length_append, size_list]
    show 0 + (1 + t.name.size) ≤ _
    omega
  rintro e w1 ⟨rfl, hI1, hb1, _⟩
  have e2 : w1.cell? ⟨w.heap.size, 2, none⟩ = some (.slice ao t.attrs.length cap) := by
    rw [hb1.cell (p := ⟨w.heap.size, 2, none⟩) (by simp)]
    simp
  have hbw1 : Below w.heap.size w w1 := (((Below.refl _ w).alloc (Nat.le_refl _) _).alloc (by simp) _).trans (hb1.mono (by omega))
  have hs1 : w.heap.size + 2 ≤ w1.heap.size := by have := hb1.size; simp at this; omega
  have HI1 := hide (And.intro hI1 hbw1)
  clear hI0 hI1 hb1 hbw1
  go_wp2_with fail
  go_loopw [15] (fun i wr => ∃ k : Nat, k ≤ t.attrs.length ∧ i = .int .i64 k ∧ Lib.IsBuilderF 46 5 (w.heap.size + 1) (w.heap.size + 1) (Lib.byteCells ([60] ++ t.name.data.toList ++ attrsT (t.attrs.take k))) wr ∧ Below w.heap.size w wr ∧ w.heap.size + 2 ≤ wr.heap.size) (fun i _ => t.attrs.length - (intOf i).toNat)
  case atStart =>
    refine ⟨0, Nat.zero_le _, rfl, ?_, HI1.out.2, hs1⟩
    have h := HI1.out.1
    rw [app_list] at h
    simpa [attrsT] using h
  case round =>
    obtain ⟨k, hk, rfl, hI, hbw, hsz⟩ := hrel
    have HI := hide (And.intro hI hbw)
    clear hI hbw
    have hbk : ([60] ++ t.name.data.toList ++ attrsT (t.attrs.take k)).length ≤ 100000 := by
      have h1 := attrsT_le (t.attrs.take k) (fun a ha => HF.out.2.2.2 a (List.mem_of_mem_take ha))
      have h2 : (t.attrs.take k).length ≤ 8 := by simp; omega
      have h3 : t.name.data.toList.length = t.name.size := Array.length_toList
      simp only [List.length_append, List.length_cons, List.length_nil]
      omega
    by_cases hlt : k < t.attrs.length
    · obtain ⟨a, ha⟩ : ∃ a, t.attrs[k]? = some a := ⟨t.attrs[k], by simp [hlt]⟩
      obtain ⟨b, off, rfl, hb, c1, c2⟩ := HA.out.2.2 k a ha
      have d1 := (HI.out.2.cell (p := ⟨b, off + k * 2, none⟩) (show b < _ by omega)).trans c1
      have d2 := (HI.out.2.cell (p := ⟨b, off + k * 2 + 1, none⟩) (show b < _ by omega)).trans c2
      have hsa := HF.out.2.2.2 a (List.mem_of_getElem? ha)
      clear c1 c2
      go_wp2_with fail
      obtain ⟨W1, hW1⟩ : ∃ W1, wr.alloc (.cells #[.string a.1, .string a.2] 25) = W1 := ⟨_, rfl⟩
      have hB1 : Below wr.heap.size wr W1 := by rw [← hW1]; exact (Below.refl _ wr).alloc (Nat.le_refl _) _
      have z1 : W1.heap.size = wr.heap.size + 1 := by rw [← hW1]; simp
      have f1 : W1.heap[wr.heap.size]? = some (.cells #[.string a.1, .string a.2] 25) := by rw [← hW1]; exact World.alloc_heap_new wr _
      have e0 : W1.cell? ⟨wr.heap.size, 0, none⟩ = some (.string a.1) := by simp [World.cell?, f1]
      have e1 : W1.cell? ⟨wr.heap.size, 1, none⟩ = some (.string a.2) := by simp [World.cell?, f1]
      have hbW : Below w.heap.size w W1 := HI.out.2.trans (hB1.mono (by omega))
      have HB := hide hbW
      have HIB := hide (isb_below HI.out.1 hB1)
      have HFA := hide f1
      rw [hW1]
      clear d1 d2 hW1 f1 hB1 hbW
      have hel : (⟨(esc a.2.data.toList).toArray⟩ : ByteArray).size ≤ 6000 := by
        have h1 := esc_length a.2.data.toList
        have h2 : a.2.data.toList.length = a.2.size := Array.length_toList
        show (esc a.2.data.toList).toArray.size ≤ 6000
        simp only [List.size_toArray]
        omega
      obtain ⟨ev, hev⟩ : ∃ ev : ByteArray, ⟨(esc a.2.data.toList).toArray⟩ = ev := ⟨_, rfl⟩
      rw [hev] at hel
      have hesc : ∀ w', EntLaid w' → Calls Tryd.prog 26 #[.string a.2] w' fun e w'' => e = .returned (.string ev) ∧ Below w'.heap.size w' w'' := fun w' h => by rw [← hev]; exact escape_any a.2 w' (by omega) h
      have HE := hide hesc
      have HEV := hide hev
      clear hesc hev
      have q1 : (⟨#[32]⟩ ++ a.1 : ByteArray).size ≤ 2000 := by rw [ByteArray.size_append]; show 1 + _ ≤ _; omega
      have q2 : (⟨#[32]⟩ ++ a.1 ++ ⟨#[61, 39]⟩ : ByteArray).size ≤ 2002 := by rw [ByteArray.size_append]; show _ + 2 ≤ _; omega
      have q3 : (⟨#[32]⟩ ++ a.1 ++ ⟨#[61, 39]⟩ ++ ev : ByteArray).size ≤ 8002 := by rw [ByteArray.size_append]; omega
      have q4 : (⟨#[32]⟩ ++ a.1 ++ ⟨#[61, 39]⟩ ++ ev ++ ⟨#[39]⟩ : ByteArray).size ≤ 8003 := by rw [ByteArray.size_append]; show _ + 1 ≤ _; omega
      have r1 : ∀ w, (Op.stringOp .add ⟨#[32]⟩ a.1).run Tryd.prog w = .ok (.string (⟨#[32]⟩ ++ a.1)) w := fun w => run_string_add_sum w _ _ (by show 1 + _ ≤ _; omega)
      have r2 : ∀ w, (Op.stringOp .add (⟨#[32]⟩ ++ a.1) ⟨#[61, 39]⟩).run Tryd.prog w = .ok (.string (⟨#[32]⟩ ++ a.1 ++ ⟨#[61, 39]⟩)) w := fun w => run_string_add_sum w _ _ (by show _ + 2 ≤ _; omega)
      have r3 : ∀ w, (Op.stringOp .add (⟨#[32]⟩ ++ a.1 ++ ⟨#[61, 39]⟩) ev).run Tryd.prog w = .ok (.string (⟨#[32]⟩ ++ a.1 ++ ⟨#[61, 39]⟩ ++ ev)) w := fun w => run_string_add_sum w _ _ (by omega)
      have r4 : ∀ w, (Op.stringOp .add (⟨#[32]⟩ ++ a.1 ++ ⟨#[61, 39]⟩ ++ ev) ⟨#[39]⟩).run Tryd.prog w = .ok (.string (⟨#[32]⟩ ++ a.1 ++ ⟨#[61, 39]⟩ ++ ev ++ ⟨#[39]⟩)) w := fun w => run_string_add_sum w _ _ (by show _ + 1 ≤ _; omega)
      go_region_held3 (fun w' => w'.cell? ⟨wr.heap.size, 0, none⟩ = some (.string a.1) ∧ w'.cell? ⟨wr.heap.size, 1, none⟩ = some (.string a.2)) (first | exact ⟨k0, k1⟩ | go_keep)
        (first | (go_at_call 26; refine (HE.out _ (HL.out.below (HB.out.trans ?_) HL.out.size)).mono ?_; (exact ((Below.refl _ _).drew).mono HB.out.size); rintro e w2 ⟨rfl, hb2⟩; have g2 := (hb2.block wr.heap.size (show wr.heap.size < W1.heap.size by omega)).trans HFA.out; have k0 : w2.cell? ⟨wr.heap.size, 0, none⟩ = some (.string a.1) := (by simp [World.cell?, g2]); have k1 : w2.cell? ⟨wr.heap.size, 1, none⟩ = some (.string a.2) := (by simp [World.cell?, g2]); have G2 := hide g2; clear g2) | (go_at_call 14; refine (writeL (w.heap.size + 1) (w.heap.size + 1) _ _ _ (isb_below HIB.out (((Below.refl _ _).drew).trans hb2)) (by omega) (by have h := hb2.size; simp at h; omega)).mono ?_; rintro e w3 ⟨rfl, hI3, hb3, hk3⟩; have g3 := hk3 wr.heap.size _ G2.out (by simp; omega) (by intro c fz e; cases e); clear k0 k1; have k0 : w3.cell? ⟨wr.heap.size, 0, none⟩ = some (.string a.1) := (by simp [World.cell?, g3]); have k1 : w3.cell? ⟨wr.heap.size, 1, none⟩ = some (.string a.2) := (by simp [World.cell?, g3])))
      have HI3 := hide hI3
      have hs3 := hb3.size
      have hs2 := hb2.size
      simp at hs2
      clear hI3
      go_wp2_with fail
      refine ⟨⟨k + 1, by omega, by simp, ?_, (HB.out.drew.trans (hb2.mono HB.out.size)).trans (hb3.mono (by omega)), by omega⟩, by simp [intOf]; omega⟩
      have h := HI3.out
      rw [attrsT_succ ha, ← List.append_assoc]
      rw [app_list, app_list, app_list, app_list, ← HEV.out] at h
      exact h
    · obtain rfl : k = t.attrs.length := by omega
      rw [List.take_length] at hbk HI
      cases ends with
      | true =>
        go_wp2_with fail
        refine (writeL (w.heap.size + 1) (w.heap.size + 1) _ ⟨#[47]⟩ _ HI.out.1 (by show _ + 1 ≤ _; omega) (by omega)).mono ?_
        rintro e w3 ⟨rfl, hI3, hb3, _⟩
        have HI3 := hide hI3
        have hs3 := hb3.size
        clear hI3
        go_wp2_with fail
        refine (writeL (w.heap.size + 1) (w.heap.size + 1) _ ⟨#[62]⟩ _ HI3.out (by rw [List.length_append]; show _ + 1 + 1 ≤ _; omega) (by omega)).mono ?_
        rintro e w4 ⟨rfl, hI4, hb4, _⟩
        have HI4 := hide hI4
        have hs4 := hb4.size
        clear hI4
        go_wp2_with fail
        refine (builderString (w.heap.size + 1) (w.heap.size + 1) _ _ HI4.out (by omega)).mono ?_
        rintro e w5 ⟨rfl, _, hb5, _⟩
        go_wp2_with fail
        go_ret
        exact ⟨by simp [beginT], ((HI.out.2.trans (hb3.mono (by omega))).trans (hb4.mono (by omega))).trans (hb5.mono (by omega))⟩
      | false =>
        go_wp2_with fail
        refine (writeL (w.heap.size + 1) (w.heap.size + 1) _ ⟨#[62]⟩ _ HI.out.1 (by show _ + 1 ≤ _; omega) (by omega)).mono ?_
        rintro e w4 ⟨rfl, hI4, hb4, _⟩
        have HI4 := hide hI4
        have hs4 := hb4.size
        clear hI4
        go_wp2_with fail
        refine (builderString (w.heap.size + 1) (w.heap.size + 1) _ _ HI4.out (by omega)).mono ?_
        rintro e w5 ⟨rfl, _, hb5, _⟩
        go_wp2_with fail
        go_ret
        exact ⟨by simp [beginT], (HI.out.2.trans (hb4.mono (by omega))).trans (hb5.mono (by omega))⟩

def endT (name : ByteArray) : List UInt8 := [60, 47] ++ name.data.toList ++ [62]
/-- A token's text, where it stands. -/
def tokT (t : Tok) (last next : Nat) : List UInt8 :=
  if t.kind = 1 then beginT t (next == 2) else if t.kind = 3 then esc t.text.data.toList else if last = 1 then [] else endT t.name

set_option maxRecDepth 100000 in
set_option maxHeartbeats 2000000 in
theorem print_step (n₀ : Nat) (av : Nat → Option Addr × Nat) (ts : List Tok) (k : Nat) (t : Tok) (ht : ts[k]? = some t) (w : World) (hA : AttrMem n₀ w (av k).1 t.attrs) (hn : n₀ ≤ w.heap.size) (hl : EntLaid w) (hF : Few t) :
    Calls Tryd.prog 15 #[stepV ts av k] w fun e w' => e = .returned (.string ⟨(tokT t (kindOf ts (k - 1 : Int)) (kindOf ts (k + 1 : Int))).toArray⟩) ∧ Below w.heap.size w w' := by
  have hst : stepV ts av k = .agg #[.int .u8 t.kind, .string t.name, .slice (av k).1 t.attrs.length (av k).2, .string t.text, .int .u8 (kindOf ts (k - 1 : Int)), .int .u8 (kindOf ts (k + 1 : Int)), .string ((openAt ts k).getLast?.getD ⟨#[]⟩), .int .i64 (openAt ts k).length, .int .i64 (openAt ts (k + 1)).length] := by simp [stepV, ht]
  rw [hst]
  obtain ⟨la, hla⟩ : ∃ la, kindOf ts (k - 1 : Int) = la := ⟨_, rfl⟩
  obtain ⟨nx, hnx⟩ : ∃ nx, kindOf ts (k + 1 : Int) = nx := ⟨_, rfl⟩
  obtain ⟨ins, hin⟩ : ∃ ins, (openAt ts k).getLast?.getD ⟨#[]⟩ = ins := ⟨_, rfl⟩
  obtain ⟨n1, hn1⟩ : ∃ n1, (openAt ts k).length = n1 := ⟨_, rfl⟩
  obtain ⟨n2, hn2⟩ : ∃ n2, (openAt ts (k + 1)).length = n2 := ⟨_, rfl⟩
  rw [hla, hnx, hin, hn1, hn2]
  have HA := hide hA
  have HL := hide hl
  have HF := hide hF
  have hf1 := hF.1
  have hf2 := hF.2.1
  clear hst hla hnx hin hn1 hn2 hA hl hF ht
  have hB0 : ∀ (o : Obj), Below w.heap.size w (w.alloc o) := fun o => (Below.refl _ w).alloc (Nat.le_refl _) _
  have HB0 := hide hB0
  clear hB0
  by_cases h1 : t.kind = 1
  · have hv : tokT t la nx = beginT t (nx == 2) := by simp [tokT, h1]
    have HV := hide hv
    clear hv
    have hc : ∀ (b : Bool) (w' : World), Below w.heap.size w w' → Calls Tryd.prog 25 #[.agg #[.int .u8 1, .string t.name, .slice (av k).1 t.attrs.length (av k).2, .string t.text], .bool b] w' fun e w'' => e = .returned (.string ⟨(beginT t b).toArray⟩) ∧ Below w'.heap.size w' w'' := fun b w' hb => by
      have h := printBegin_any n₀ (av k).1 (av k).2 t b w' (HA.out.below (hb.mono hn)) (Nat.le_trans hn hb.size) (HL.out.below hb HL.out.size) HF.out
      rw [h1] at h
      exact h
    have HC := hide hc
    clear hc
    by_cases hx : nx = 2
    · have hx' : ((nx : Int) == 2) = true := by simp [hx]
      have hxb : (nx == 2) = true := by simp [hx]
      rw [hxb] at HV
      go_enter Tryd.func15, Tryd.ntmps15
      go_wp2_with fail
      refine (HC.out true _ (HB0.out _)).mono ?_
      rintro e w2 ⟨rfl, hb2⟩
      go_wp2_with fail
      go_ret
      exact ⟨by rw [HV.out]; rfl, (HB0.out _).trans (hb2.mono (by simp))⟩
    · have hx' : ((nx : Int) == 2) = false := by rw [beq_eq_false_iff_ne]; omega
      have hxb : (nx == 2) = false := by simp [hx]
      rw [hxb] at HV
      go_enter Tryd.func15, Tryd.ntmps15
      go_wp2_with fail
      refine (HC.out false _ (HB0.out _)).mono ?_
      rintro e w2 ⟨rfl, hb2⟩
      go_wp2_with fail
      go_ret
      exact ⟨by rw [HV.out]; rfl, (HB0.out _).trans (hb2.mono (by simp))⟩
  · have h1' : ((t.kind : Int) == 1) = false := by rw [beq_eq_false_iff_ne]; omega
    by_cases h3 : t.kind = 3
    · have hv : tokT t la nx = esc t.text.data.toList := by simp [tokT, h3]
      have HV := hide hv
      clear hv
      go_enter Tryd.func15, Tryd.ntmps15
      go_wp2_with fail
      refine (escape_any t.text _ (by omega) (HL.out.below (HB0.out _) HL.out.size)).mono ?_
      rintro e w2 ⟨rfl, hb2⟩
      go_wp2_with fail
      go_ret
      exact ⟨by rw [HV.out]; rfl, (HB0.out _).trans (hb2.mono (by simp))⟩
    · have h3' : ((t.kind : Int) == 3) = false := by rw [beq_eq_false_iff_ne]; omega
      by_cases hx : la = 1
      · have hv : tokT t la nx = [] := by simp [tokT, h1, h3, hx]
        have HV := hide hv
        clear hv
        have hx' : ((la : Int) == 1) = true := by simp [hx]
        go_enter Tryd.func15, Tryd.ntmps15
        go_wp2_with fail
        go_ret
        exact ⟨by rw [HV.out]; rfl, HB0.out _⟩
      · have hv : tokT t la nx = endT t.name := by simp [tokT, h1, h3, hx]
        have HV := hide hv
        clear hv
        have hx' : ((la : Int) == 1) = false := by rw [beq_eq_false_iff_ne]; omega
        go_enter Tryd.func15, Tryd.ntmps15
        go_wp2_with fail
        go_ret
        refine ⟨?_, HB0.out _⟩
        rw [HV.out]
        have hb : (⟨#[60, 47]⟩ ++ t.name ++ ⟨#[62]⟩ : ByteArray) = ⟨(endT t.name).toArray⟩ := by
          apply ByteArray.ext
          apply Array.ext'
          rw [app_list, app_list]
          rfl
        rw [← hb]
        rfl
end Go.Proofs.YthflpcfpfdmaeaaDoor
