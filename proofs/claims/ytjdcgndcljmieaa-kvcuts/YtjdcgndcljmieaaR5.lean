/- Deeds in memory, and what they do to both maps. -/
import Derived.Test.YtjdcgndcljmieaaR4
namespace Go.Proofs.Ytjdcgndcljmieaa
open Go.RowKit Go.Deep Go.ChangeShapes Go.WideShapes

def DkMem (n₀ : Nat) (w : World) (ao : Option Addr) (ds : List Dk) : Prop :=
  ds.length ≤ 9223372036854775807 ∧ ∀ k x, ds[k]? = some x → ∃ b off, ao = some ⟨b, off, none⟩ ∧ b < n₀ ∧ w.cell? ⟨b, off + k * 3, none⟩ = some (.int .i64 x.kind) ∧ w.cell? ⟨b, off + k * 3 + 1, none⟩ = some (.string x.key) ∧ w.cell? ⟨b, off + k * 3 + 2, none⟩ = some (.string x.val)
theorem DkMem.below {n₀ : Nat} {w w' : World} {ao : Option Addr} {ds : List Dk} (h : DkMem n₀ w ao ds) (hb : Below n₀ w w') : DkMem n₀ w' ao ds := by
  refine ⟨h.1, fun k x hk => ?_⟩
  obtain ⟨b, off, e1, e2, c0, c1, c2⟩ := h.2 k x hk
  exact ⟨b, off, e1, e2, (hb.cell (p := ⟨b, _, none⟩) e2).trans c0, (hb.cell (p := ⟨b, _, none⟩) e2).trans c1, (hb.cell (p := ⟨b, _, none⟩) e2).trans c2⟩
section
variable {H : Type} {enc : TypeId × Value → H} {W : World} {fuel : Nat}
/-- Deeds, by a reading. -/
theorem kdeeds_read {v : Value} {d : DataW H} {pl : List MemPlace} (h : DataW.trod enc Try.prog W 0 (fun _ => true) true fuel 22 [v] = some (d, pl)) : ∃ ao ds cap, v = .slice ao ds.length cap ∧ DkMem W.heap.size W ao ds := by
  rcases open_slice Try.underlying22 h with ⟨hcs, _⟩ | ⟨a, len, cap, m, n, D, Pl, hcs, _, hl, hcm, hm, hx, hc⟩
  · cases hcs
    exact ⟨none, [], 0, rfl, by simp, fun k x hk => by simp at hk⟩
  · cases hcs
    simp only [if_true] at hm
    subst hm
    rw [cellsDeed] at hc
    obtain ⟨f, hf⟩ := choose_lt (n := len) (p := fun i (y : Dk) => W.cell? (a.add (i * 3)) = some (.int .i64 y.kind) ∧ W.cell? ((a.add (i * 3)).add 1) = some (.string y.key) ∧ W.cell? ((a.add (i * 3)).add 2) = some (.string y.val)) (fun i hi => by
      obtain ⟨cs', h1, h2⟩ := hc i (by omega)
      obtain ⟨_, hl', hg⟩ := World.cells?_some h1
      obtain ⟨y, rfl⟩ := kdeed_read h2 hl'
      exact ⟨y, by simpa [Addr.add] using hg 0 (by omega), by simpa using hg 1 (by omega), by simpa using hg 2 (by omega)⟩)
    refine ⟨some a, (List.range len).map f, m, by simp, by unfold maxLen at hcm; simp; omega, fun k x hk => ?_⟩
    have hkl : k < len := by have h := (List.getElem?_eq_some_iff.1 hk).1; simpa using h
    have hkx : f k = x := by simpa [hkl] using hk
    obtain ⟨b, off, spot⟩ := a
    have hs : spot = none := by simpa [Addr.add] using World.cell?_spot (hf 0 (by omega)).1
    subst hs
    obtain ⟨q1, q2, q3⟩ := hf k hkl
    rw [add_add] at q2 q3
    rw [Go.WideShapes.add_plain] at q1 q2 q3
    rw [hkx] at q1 q2 q3
    refine ⟨b, off, rfl, World.block_lt_of_cell? W _ q1, q1, ?_, ?_⟩
    · rw [Nat.add_assoc]; exact q2
    · rw [Nat.add_assoc]; exact q3
end
def playM (ds : List Dk) (k : Nat) : List Pr := (ds.take k).foldl deedOf []
theorem playM_succ {ds : List Dk} {k : Nat} {x : Dk} (h : ds[k]? = some x) : playM ds (k + 1) = deedOf (playM ds k) x := by
  unfold playM
  rw [List.take_add_one, h]
  simp
theorem results_three {fn : Func} {tmps : Array Value} {w : World} {a b c : Nat} {x y z : Value} (h : fn.results = #[.tmp a, .tmp b, .tmp c]) (ha : tmps[a]?.getD undef = x) (hb : tmps[b]?.getD undef = y) (hc : tmps[c]?.getD undef = z) : (results fn tmps).run Try.prog w = .ok (.tuple #[x, y, z]) w := by
  simp [results, h, ha, hb, hc]
set_option maxRecDepth 100000 in
set_option maxHeartbeats 2000000 in
theorem play_any (ao : Option Addr) (cap : Nat) (ds : List Dk) (w : World) (hm : DkMem w.heap.size w ao ds) :
    Calls Try.prog 9 #[.slice ao ds.length cap] w fun e w' => ∃ p b q u, e = .returned (.tuple #[.pointer (some ⟨p, 0, none⟩), .pointer (some ⟨q, 0, none⟩), .bool true]) ∧ Two w.heap.size p b q (playM ds (min ds.length 60)) u w' ∧ Below w.heap.size w w' := by
  have hlen := hm.1
  have HM := hide hm
  clear hm
  have H0 := hide (kvNew_any w.heap.size w (Nat.le_refl _))
  go_enter Try.func9, Try.ntmps9
  go_wp2_with (first
    | (go_at_call 23; refine H0.out.mono ?_; rintro e w1 ⟨p, bm, rfl, d1, b1, _⟩; have s1 := b1.size; have H1 := hide (And.intro d1 b1); clear d1 b1)
    | (go_at_call 24; refine (rNew_any w.heap.size w1 s1).mono ?_; rintro e w2 ⟨q, rfl, d2, b2, n2⟩; have s2 := b2.size; have H3 := hide (And.intro (two_new H1.out.1 b2 d2 (fun j hj => by rcases hj with rfl | hj; exact n2; cases hj)) (H1.out.2.trans (b2.mono s1))); clear d2 b2 n2; refine stopHere ?_))
  unfold Hid
  go_wp2_with fail
  go_loopw [7] (fun j wr => ∃ k : Nat, k ≤ min ds.length 60 ∧ j = .int .i64 k ∧ (∃ u, Two w.heap.size p bm q (playM ds k) u wr) ∧ Below w.heap.size w wr) (fun j _ => min ds.length 60 - (intOf j).toNat)
  case atStart => exact ⟨0, Nat.zero_le _, rfl, ⟨_, H3.out.1⟩, H3.out.2⟩
  case round =>
    obtain ⟨k, hk, rfl, ⟨u, hT⟩, hbw⟩ := hrel
    have hw1 : IntKind.i64.wrap ((k : Int) + 1) = k + 1 := by rw [IntKind.wrap_i64]; omega
    by_cases hlt : k < min ds.length 60
    · have hl1 : k < ds.length := by omega
      have hl2 : k < 60 := by omega
      obtain ⟨x, hx⟩ : ∃ x, ds[k]? = some x := ⟨ds[k], by simp [hl1]⟩
      obtain ⟨b, off, rfl, hb0, c0, c1, c2⟩ := (HM.out.below hbw).2 k x hx
      have hdo := do_any w.heap.size p bm q (playM ds k) u x wr hT hbw.size
      unfold dkC at hdo
      have HDo := hide hdo
      have hps := playM_succ hx
      have HB := hide hbw
      clear hdo hT hbw
      go_wp2_with (go_at_call 20; refine HDo.out.mono ?_; rintro e w3 ⟨rfl, t3⟩; have T3 := hide t3; clear t3)
      obtain ⟨u', t3, f3, _⟩ := T3.out
      go_roundw
      case rel => exact ⟨k + 1, by omega, by simp, ⟨u', by rw [hps]; exact t3⟩, HB.out.trans f3.below⟩
      case measure => simp [intOf]; omega
    · have hke : k = min ds.length 60 := by omega
      have HB := hide (And.intro hT hbw)
      clear hT hbw
      by_cases hl1 : k < ds.length
      · have hl2 : ¬ ((k : Int) < 60) := by omega
        go_wp2_with fail
        exact bodyPost_ret (results_three rfl rfl rfl rfl) rfl ⟨p, bm, q, rfl, ⟨u, by first | exact HB.out.1 | (rw [← hke]; exact HB.out.1)⟩, HB.out.2⟩
      · have hl2 : ¬ ((k : Int) < ds.length) := by omega
        go_wp2_with fail
        exact bodyPost_ret (results_three rfl rfl rfl rfl) rfl ⟨p, bm, q, rfl, ⟨u, by first | exact HB.out.1 | (rw [← hke]; exact HB.out.1)⟩, HB.out.2⟩
end Go.Proofs.Ytjdcgndcljmieaa
