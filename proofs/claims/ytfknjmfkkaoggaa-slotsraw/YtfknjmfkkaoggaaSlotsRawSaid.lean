/- Whatever the sectors, their turns, and the bytes: SlotsRaw answers true, and its arguments read behind the call as before. No condition. -/
import Derived.Test.YtfknjmfkkaoggaaSlotsRaw
import Derived.Test.YtfknjmfkkaoggaaSlArgR
import Derived.Test.YtfknjmfkkaoggaaRows
import Derived.ProofKit
import Derived.OpenShut
import Derived.ChangeSame
import Derived.ShutString
import Derived.Deep.Strs
import Derived.Deep.DeepHandedRow
import Derived.LaidLaws
namespace Go.Proofs.Ytfknjmfkkaoggaa.slotsRawC
open Go.ChangeShapes Go.WideShapes Go.ChangeAt Go.RowKit
open Go.ChangeMaps (open_string shut_string)

theorem own : ownKnob Try.prog.godebug = none := by kernel_rfl
theorem laidOut : laidOutB Try.prog = true := by kernel_rfl

set_option maxRecDepth 100000 in
theorem contract (H : Type) (enc : TypeId × Value → H) (W : World) (base : Nat) (args : Array Value) (ds gs : List (DataW H)) (before : List MemPlace)
    (hval : ∀ (j : Nat) t v, Try.f9.params[j]? = some t → args[j]? = some v → Value.okWide Try.prog W .any base t v)
    (hW : DataW.Whole enc Try.prog Try.f9.params.toList Rows.slotsRawSpec.vars false W args.toList ds gs before) (_ : W.ShapedOpen Try.prog) :
    Calls Try.prog 9 args W fun e W' => ∃ v, e = .returned v ∧ Rows.slotsRawSpec.post enc Try.prog Try.f9 false true false false W args v W' := by
  have hW' := hW
  obtain ⟨p, q, hA0, hV, rfl, hfz, hnd⟩ := hW
  have hA : DataW.TrodAll enc Try.prog W 0 (fun _ => true) true Try.f9.params.toList args.toList ds p := hA0
  rw [Try.params9] at hA hval
  obtain ⟨v0, vs0, d0, ds0, p0, q0, hargs, rfl, rfl, h0, r0⟩ := trodAll_cons hA
  obtain ⟨v1, vs1, d1, ds1, p1, q1, rfl, rfl, rfl, h1, r1⟩ := trodAll_cons r0
  obtain ⟨v2, vs2, d2, ds2, p2, q2, rfl, rfl, rfl, h2, r2⟩ := trodAll_cons r1
  obtain ⟨rfl, rfl, rfl⟩ := trodAll_nil r2
  obtain rfl : args = #[v0, v1, v2] := by cases args; simp_all
  obtain ⟨rfl, rfl⟩ := trodVars_none hV
  have k0 := h0
  have lt0 : ∀ x ∈ p0, x.block < W.heap.size := by obtain ⟨m, hm⟩ := k0; exact DataW.trod_lt m _ _ _ hm
  obtain ⟨cs0, rfl, hsz0⟩ := arrB_ok (hval 0 52 v0 rfl rfl)
  obtain ⟨a0, a1, r0, r1, l0, l1, c0, c1, rfl, hx0, hy0⟩ : ∃ a0 a1 r0 r1 l0 l1 c0 c1, cs0 = #[.slice a0 l0 c0, .slice a1 l1 c1] ∧ Bh W a0 r0 l0 c0 ∧ Bh W a1 r1 l1 c1 := by
    obtain ⟨l⟩ := cs0
    obtain ⟨fuel, hf⟩ := h0
    obtain ⟨a0, a1, r0, r1, l0, l1, c0, c1, e, hx, hy⟩ := arrB_read (cs := l) (by simpa [Value.cells] using hf) hsz0
    subst e
    exact ⟨a0, a1, r0, r1, l0, l1, c0, c1, rfl, hx, hy⟩
  have k1 := h1
  have lt1 : ∀ x ∈ p1, x.block < W.heap.size := by obtain ⟨m, hm⟩ := k1; exact DataW.trod_lt m _ _ _ hm
  obtain ⟨cs1, rfl, hsz1⟩ := arrN_ok (hval 1 53 v1 rfl rfl)
  obtain ⟨t0, t1, rfl⟩ : ∃ t0 t1 : V, cs1 = #[.int .u64 t0.toNat, .int .u64 t1.toNat] := by
    obtain ⟨l⟩ := cs1
    obtain ⟨fuel, hf⟩ := h1
    obtain ⟨t0, t1, e⟩ := arrN_read (cs := l) (by simpa [Value.cells] using hf) hsz1
    subst e
    exact ⟨t0, t1, rfl⟩
  obtain ⟨aa2, len2, cc2, rfl⟩ := okWide_slice Try.underlying30 (hval 2 30 v2 rfl rfl)
  have k2 := h2
  have lt2 : ∀ x ∈ p2, x.block < W.heap.size := by obtain ⟨m, hm⟩ := k2; exact DataW.trod_lt m _ _ _ hm
  obtain ⟨fuel2, hf2⟩ := h2
  obtain ⟨ao2, ll2, cap2, e2, hcl2, hcm2, hT2⟩ := bytes_read (v := .slice aa2 len2 cc2) (by simpa [Value.cells] using hf2)
  cases e2
  clear hA0
  simp only [List.append_nil] at hW'
  refine (slotsRaw_any _ _ _ _ _ _ _ _ _ _ _ _ _ _ W hx0 hy0 ⟨hT2, rfl, hcl2, hcm2⟩).mono fun e W' ⟨he, bel⟩ => ?_
  subst he
  exact ⟨_, rfl, _, _, _, [], _, [], hW', trodAll_mk1 (shut_bool Try.underlying4 true), trodAll_cons_mk (Below.trod laidOut (by kernel_rfl) (of_decide_eq_true (by kernel_rfl)) k0 bel lt0) (trodAll_cons_mk (Below.trod laidOut (by kernel_rfl) (of_decide_eq_true (by kernel_rfl)) k1 bel lt1) (trodAll_cons_mk (Below.trod laidOut (by kernel_rfl) (of_decide_eq_true (by kernel_rfl)) k2 bel lt2) (trodAll_mk0))), rfl, bel.frame _, fun h => by cases h⟩

theorem reads (os : Os) {H : Type} (enc : TypeId × Value → H) : ∃ places, DataW.whole enc Try.prog ((World.holding Try.prog os ⟨#[], #[], []⟩).forCall (fun _ _ => 0) ⟨#[], #[.agg #[.slice none 0 0, .slice none 0 0], .agg #[.int .u64 0, .int .u64 0], .slice none 0 0], []⟩).memory Try.f9.params.toList Rows.slotsRawSpec.vars false #[Value.agg #[.slice none 0 0, .slice none 0 0], Value.agg #[.int .u64 0, .int .u64 0], Value.slice none 0 0].toList 8 = some ([.agg [.nil, .nil], .agg [.lit (.int .u64 0), .lit (.int .u64 0)], .nil], [], places) :=
  ⟨[], by kernel_rfl⟩

set_option maxRecDepth 100000 in
theorem lifted (os : Os) (started : os.Started) (H : Type) (enc : TypeId × Value → H) (F : Stop.Interp) :
    ReturnsInHanded {} Try.checked os 9 .any ((OpenSpec.ofChange Rows.slotsRawSpec).preRow enc Try.prog Try.f9 Rows.slotsRawRow.domain false Rows.slotsRawRow.laid) (((OpenSpec.ofChange Rows.slotsRawSpec).at F).post enc Try.prog Try.f9 false true false false) := by
  obtain ⟨places, hx⟩ := reads os enc
  refine returnsInHanded_of_row (C := Try.checked) (s := OpenSpec.ofChange Rows.slotsRawSpec) own started (by kernel_rfl) Try.func9
    (witness_row_at (enc := enc) (C := Try.checked) false (World.holding Try.prog os ⟨#[], #[], []⟩) #[.agg #[.slice none 0 0, .slice none 0 0], .agg #[.int .u64 0, .int .u64 0], .slice none 0 0] rfl (by kernel_rfl) (by kernel_rfl) (by kernel_rfl)
      (OpenSpec.preRow_of_cond 8 hx (by kernel_rfl) (fun k hk => by cases hk) (by kernel_rfl) (laidMet_of_run' 8 (by kernel_rfl) (by kernel_rfl)))) ?_
  intro W base args ds gs before hval hW _ _ _ _ hsh _
  exact contract H enc W base args ds gs before hval hW hsh
end Go.Proofs.Ytfknjmfkkaoggaa.slotsRawC
namespace Go.Proofs.Ytfknjmfkkaoggaa
open Go.RowKit
theorem slotsRaw_said : Rows.SlotsRawSaid :=
  OpenClaim.holds_of_cond 9 Try.f9 rfl rfl rfl rfl rfl rfl rfl ⟨rfl, rfl, rfl, rfl, rfl⟩ rfl rfl rfl rfl rfl (by kernel_rfl) Try.func9 (by kernel_rfl)
    (of_decide_eq_true (by kernel_rfl)) (by unfold Func.isWrapper; first | (rw [if_pos (by decide +kernel)]; kernel_rfl) | (rw [if_neg (by decide +kernel)]; exact ⟨rfl, rfl⟩))
    (fun os started H enc _ F => by rw [OpenClaim.pre_eq_preRow]; exact slotsRawC.lifted os started H enc F)
end Go.Proofs.Ytfknjmfkkaoggaa
