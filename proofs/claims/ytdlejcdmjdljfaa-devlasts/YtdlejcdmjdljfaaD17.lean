/- Deeds that are played. -/
import Derived.Test.YtdlejcdmjdljfaaD15
import Derived.Test.YtdlejcdmjdljfaaD16
namespace Go.Proofs.Ytdlejcdmjdljfaa
open Go.RowKit Go.Shelf

/-- Deeds in memory: four cells each. -/
def DdMem (n₀ : Nat) (w : World) (ao : Option Addr) (ds : List Dd) : Prop :=
  ds.length ≤ 9223372036854775807 ∧ ∀ k x, ds[k]? = some x → BoolMem n₀ w x.sa x.bs ∧ ∃ b off, ao = some ⟨b, off, none⟩ ∧ b < n₀ ∧ w.cell? ⟨b, off + k * 4, none⟩ = some (.int .i64 x.kind) ∧ w.cell? ⟨b, off + k * 4 + 1, none⟩ = some (.int .i64 x.i) ∧ w.cell? ⟨b, off + k * 4 + 2, none⟩ = some (.int .u8 x.c.toNat) ∧ w.cell? ⟨b, off + k * 4 + 3, none⟩ = some (.slice x.sa x.bs.length x.sc)
theorem DdMem.below {n₀ : Nat} {w w' : World} {ao : Option Addr} {ds : List Dd} (h : DdMem n₀ w ao ds) (hb : Below n₀ w w') : DdMem n₀ w' ao ds := by
  refine ⟨h.1, fun k x hk => ?_⟩
  obtain ⟨x1, b, off, e1, e2, c0, c1, c2, c3⟩ := h.2 k x hk
  exact ⟨x1.below hb, b, off, e1, e2, (hb.cell (p := ⟨b, _, none⟩) e2).trans c0, (hb.cell (p := ⟨b, _, none⟩) e2).trans c1, (hb.cell (p := ⟨b, _, none⟩) e2).trans c2, (hb.cell (p := ⟨b, _, none⟩) e2).trans c3⟩
/-- The device behind the first k deeds. -/
def playD (d : Dv) (ds : List Dd) (k : Nat) : Dv := (ds.take k).foldl deedOf d
theorem playD_succ {d : Dv} {ds : List Dd} {k : Nat} {x : Dd} (h : ds[k]? = some x) : playD d ds (k + 1) = deedOf (playD d ds k) x := by
  unfold playD
  rw [List.take_add_one, h]
  simp
theorem playD_all {d : Dv} {ds : List Dd} (hd : DvOk d) : ∀ k, d.wr.length + k < 1000000 → DvOk (playD d ds k) ∧ (playD d ds k).wr.length ≤ d.wr.length + k ∧ (playD d ds k).las.length = d.las.length
  | 0, _ => by simp [playD, hd]
  | k + 1, h => by
    obtain ⟨h1, h2, h3⟩ := playD_all (ds := ds) hd k (by omega)
    cases hx : ds[k]? with
    | none =>
      have e : playD d ds (k + 1) = playD d ds k := by
        unfold playD
        rw [List.take_add_one, hx]
        simp
      rw [e]
      exact ⟨h1, by omega, h3⟩
    | some x =>
      rw [playD_succ hx]
      have := deedOf_len (playD d ds k) x
      exact ⟨deedOf_ok h1 x (by omega), by omega, by omega⟩

theorem results_three {fn : Func} {tmps : Array Value} {w : World} {a b c : Nat} {x y z : Value} (h : fn.results = #[.tmp a, .tmp b, .tmp c]) (ha : tmps[a]?.getD undef = x) (hb : tmps[b]?.getD undef = y) (hc : tmps[c]?.getD undef = z) : (results fn tmps).run Try.prog w = .ok (.tuple #[x, y, z]) w := by
  simp [results, h, ha, hb, hc]
set_option maxRecDepth 100000 in
set_option maxHeartbeats 2000000 in
theorem play_any (n : Nat) (hn : n < 256) (ao : Option Addr) (cap : Nat) (ds : List Dd) (w : World) (hm : DdMem w.heap.size w ao ds) :
    Calls Try.prog 9 #[.int .u8 n, .slice ao ds.length cap] w fun e w' => ∃ p q vl vw ul uw, e = .returned (.tuple #[.pointer (some ⟨p, 0, none⟩), .pointer (some ⟨q, 0, none⟩), .bool true]) ∧ Two w.heap.size p q (playD (dvNew (n % 8 + 1)) ds (min ds.length 60)) vl vw ul uw w' ∧ Below w.heap.size w w' := by
  have hlen := hm.1
  have HM := hide hm
  clear hm
  obtain ⟨m, hmm⟩ : ∃ m, n % 8 + 1 = m := ⟨_, rfl⟩
  have hm1 : 1 ≤ m := by omega
  have hm2 : m ≤ 8 := by omega
  have H0 := hide (new_any w.heap.size m w (Nat.le_refl _) hm1 (by omega))
  go_enter Try.func9, Try.ntmps9
  have hmi : ((n : Int) % 8 + 1) = (m : Int) := by omega
  go_wp2_with (go_at_call 24; refine H0.out.mono ?_; rintro e w1 ⟨p, vl, rfl, d1, hp1, b1⟩; have s1 := b1.size; have H1 := hide (And.intro d1 b1); clear d1 b1; refine stopHere ?_)
  unfold Hid
  have H2 := hide (rnew_any w.heap.size m w1 s1 hm1 (by omega))
  go_wp2_with (go_at_call 25; refine H2.out.mono ?_; rintro e w2 ⟨q, ul, rfl, d2, hp2, b2⟩; have s2 := b2.size; have H3 := hide (And.intro (Two.mk (H1.out.1.below b2) d2) (H1.out.2.trans (b2.mono s1))); clear d2 b2; refine stopHere ?_)
  unfold Hid
  go_wp2_with fail
  go_loopw [9] (fun j wr => ∃ k : Nat, k ≤ min ds.length 60 ∧ j = .int .i64 k ∧ (∃ vl vw ul uw, Two w.heap.size p q (playD (dvNew m) ds k) vl vw ul uw wr) ∧ Below w.heap.size w wr) (fun j _ => min ds.length 60 - (intOf j).toNat)
  case atStart => exact ⟨0, Nat.zero_le _, rfl, ⟨_, _, _, _, H3.out.1⟩, H3.out.2⟩
  case round =>
    obtain ⟨k, hk, rfl, ⟨vl, vw, ul, uw, hT⟩, hbw⟩ := hrel
    have hw1 : IntKind.i64.wrap ((k : Int) + 1) = k + 1 := by rw [IntKind.wrap_i64]; omega
    have hnew : DvOk (dvNew m) := new_ok m hm1 (by omega)
    obtain ⟨hok, hfew, _⟩ := playD_all (ds := ds) hnew k (by simp [dvNew]; omega)
    have hw0 : (dvNew m).wr.length = 0 := rfl
    have hfew' : (playD (dvNew m) ds k).wr.length < 1000000 := by rw [hw0] at hfew; omega
    by_cases hlt : k < min ds.length 60
    · have hl1 : k < ds.length := by omega
      have hl2 : k < 60 := by omega
      obtain ⟨x, hx⟩ : ∃ x, ds[k]? = some x := ⟨ds[k], by simp [hl1]⟩
      obtain ⟨hbm, b, off, rfl, hb0, c0, c1, c2, c3⟩ := (HM.out.below hbw).2 k x hx
      have hdo := do_any w.heap.size p q (playD (dvNew m) ds k) vl vw ul uw x wr hT hok hbw.size hfew' hbm
      unfold ddV at hdo
      have HD := hide hdo
      have hps := playD_succ (d := dvNew m) hx
      have HB := hide hbw
      clear hdo hT hbw hbm hnew
      go_wp2_with (go_at_call 22; refine HD.out.mono ?_; rintro e w3 ⟨rfl, t3⟩; have T3 := hide t3; clear t3)
      obtain ⟨vl', vw', ul', uw', t3, f3, _⟩ := T3.out
      go_roundw
      case rel => exact ⟨k + 1, by omega, by simp, ⟨vl', vw', ul', uw', by rw [hps]; exact t3⟩, HB.out.trans f3.below⟩
      case measure => simp [intOf]; omega
    · have hke : k = min ds.length 60 := by omega
      have HB := hide (And.intro hT hbw)
      clear hT hbw
      by_cases hl1 : k < ds.length
      · have hl2 : ¬ ((k : Int) < 60) := by omega
        go_wp2_with fail
        exact bodyPost_ret (results_three rfl rfl rfl rfl) rfl ⟨p, q, rfl, ⟨vl, vw, ul, uw, by rw [← hke]; exact HB.out.1⟩, HB.out.2⟩
      · have hl2 : ¬ ((k : Int) < ds.length) := by omega
        go_wp2_with fail
        exact bodyPost_ret (results_three rfl rfl rfl rfl) rfl ⟨p, q, rfl, ⟨vl, vw, ul, uw, by rw [← hke]; exact HB.out.1⟩, HB.out.2⟩
end Go.Proofs.Ytdlejcdmjdljfaa
