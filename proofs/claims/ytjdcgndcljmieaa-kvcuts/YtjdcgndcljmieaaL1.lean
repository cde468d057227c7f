/- kv.cutText: a text behind its length. -/
import Derived.Test.YtjdcgndcljmieaaL0
namespace Go.Proofs.Ytjdcgndcljmieaa
open Go.RowKit

/-- Bytes in memory from a place on. -/
def Bys (w : World) (b off : Nat) (l : Str) : Prop := ∀ (j : Nat) (c : UInt8), l[j]? = some c → w.cell? ⟨b, off + j, none⟩ = some (.int .u8 (c.toNat : Nat))
theorem Bys.drop {w : World} {b off : Nat} {l : Str} (h : Bys w b off l) (k : Nat) : Bys w b (off + k) (l.drop k) := fun j c hj => by
  rw [List.getElem?_drop] at hj
  rw [Nat.add_assoc]
  exact h (k + j) c hj
theorem Bys.take {w : World} {b off : Nat} {l : Str} (h : Bys w b off l) (k : Nat) : Bys w b off (l.take k) := fun j c hj => by
  rw [List.getElem?_take] at hj
  split at hj
  · exact h j c hj
  · cases hj
theorem Bys.conv {w : World} {b off cap : Nat} {l : Str} (h : Bys w b off l) : (convert 30 9 (.slice (some ⟨b, off, none⟩) l.length cap)).run Try.prog w = .ok (.string (ofS l)) w := by
  refine run_convert_bytes_back (P := Try.prog) w _ 9 5 ⟨b, off, none⟩ cap l Try.underlying30 Try.underlying5 Try.underlying9 (fun j hj => ?_)
  rw [Addr.add_mid]
  exact h j l[j] (by simp)
/-- What cutText answers. -/
def CutT (w : World) (b cap : Nat) (o : Option (Str × Str)) (e : Ending) : Prop :=
  match o with
  | none => e = .returned (.tuple #[.string ⟨#[]⟩, .slice none 0 0, .bool false])
  | some (s, t) => ∃ off' cap', e = .returned (.tuple #[.string (ofS s), .slice (some ⟨b, off', none⟩) t.length cap', .bool true]) ∧ t.length ≤ cap' ∧ cap' ≤ cap ∧ Bys w b off' t
theorem or_i64 (a d : Nat) (ha : a < 256) (hd : d < 256) : bits .or .i64 ((a : Int) * 256) (d : Int) = ((a * 256 + d : Nat) : Int) := by
  have h1 : (BitVec.ofInt 64 ((a : Int) * 256)).toNat = a * 256 := by
    rw [show (a : Int) * 256 = ((a * 256 : Nat) : Int) by omega, BitVec.ofInt_natCast, BitVec.toNat_ofNat]
    exact Nat.mod_eq_of_lt (by omega)
  have h2 : (BitVec.ofInt 64 (d : Int)).toNat = d := by
    rw [BitVec.ofInt_natCast, BitVec.toNat_ofNat]
    exact Nat.mod_eq_of_lt (by omega)
  show IntKind.i64.wrap ((BitVec.ofInt 64 ((a : Int) * 256) ||| BitVec.ofInt 64 (d : Int)).toNat : Int) = _
  have h3 : a * 256 ||| d = a * 256 + d := by
    have := Nat.two_pow_add_eq_or_of_lt (i := 8) (by omega : d < 2 ^ 8) a
    rw [show a * 256 = 2 ^ 8 * a by omega]
    exact this.symm
  rw [BitVec.toNat_or, h1, h2, h3, IntKind.wrap_i64]
  omega
theorem or0_i64 (d : Nat) (hd : d < 256) : bits .or .i64 0 (d : Int) = d := by
  have := or_i64 0 d (by omega) hd
  simpa using this
set_option maxRecDepth 100000 in
set_option maxHeartbeats 2000000 in
theorem cutText1_any (b off cap : Nat) (l : Str) (w : World) (hB : Bys w b off l) (hc : l.length ≤ cap) (hm : cap ≤ 9223372036854775807) :
    Calls Try.prog 41 #[.slice (some ⟨b, off, none⟩) l.length cap, .int .i64 1] w fun e w' => CutT w b cap (cut1 l) e ∧ Below w.heap.size w w' := by
  have HB := hide hB
  cases l with
  | nil =>
    go_enter Try.func41, Try.ntmps41
    go_wp2_with fail
    exact bodyPost_ret (results_three rfl rfl rfl rfl) rfl ⟨rfl, Below.refl _ _⟩
  | cons c r =>
    have c0 : w.cell? ⟨b, off, none⟩ = some (.int .u8 (c.toNat : Nat)) := hB 0 c rfl
    have hB1 : Bys w b (off + 1) r := hB.drop 1
    have hn8 : c.toNat < 256 := c.toNat_lt
    simp only [List.length_cons] at hc
    simp only [List.length_cons, cut1]
    obtain ⟨m, hmr⟩ : ∃ m, r.length = m := ⟨_, rfl⟩
    obtain ⟨n, hn⟩ : ∃ n, c.toNat = n := ⟨_, rfl⟩
    have hor := or0_i64 n (by omega)
    have hcv := Bys.conv (w := w.drew) (cap := cap - 1) (hB1.take n)
    rw [hn] at c0 hn8 ⊢
    rw [hmr] at hc ⊢
    have hl0 : ¬ (((m : Int) + 1) < 1) := by omega
    by_cases hle : n ≤ m
    · rw [if_pos hle]
      have htk : (r.take n).length = n := by simp [hmr, hle]
      rw [htk] at hcv
      have hnm : ¬ ((m : Int) < n) := by omega
      have htd : (r.drop n).length = m - n := by simp [hmr]
      obtain ⟨s, hs⟩ : ∃ s, ofS (r.take n) = s := ⟨_, rfl⟩
      rw [hs] at hcv
      have HS := hide (And.intro hs (And.intro htd hB1))
      clear hs htk hB hB1 hmr hn htd HB
      by_cases h1 : cap = 1
      · subst h1
        obtain rfl : m = 0 := by omega
        obtain rfl : n = 0 := by omega
        have hcv0 := Bys.conv (w := w.drew) (b := b) (off := off) (cap := 0) (l := []) (fun j c hj => by cases hj)
        rw [show ofS [] = s by rw [← HS.out.1]; rfl] at hcv0
        simp only [List.length_nil] at hcv0
        have hor0 : bits .or .i64 0 0 = 0 := or0_i64 0 (by omega)
        clear hcv hor
        go_enter Try.func41, Try.ntmps41
        go_wp2_with fail
        refine wp_loop_rounds 2 ?_
        rw [rounds_succ]
        go_wp2_with fail
        rw [rounds_succ]
        go_wp2_with fail
        go_region
        go_wp2_with fail
        exact bodyPost_ret (results_three rfl rfl rfl rfl) rfl ⟨⟨off, 0, by rw [HS.out.1, HS.out.2.1]; rfl, by rw [HS.out.2.1]; exact Nat.le_refl _, by omega, fun j c hj => by have h := (List.getElem?_eq_some_iff.1 hj).1; rw [HS.out.2.1] at h; omega⟩, (Below.refl _ w).drew⟩
      · by_cases h2 : cap - 1 = n
        · obtain rfl : m = n := by omega
          obtain rfl : cap = m + 1 := by omega
          have h1i : ¬ ((m : Int) = 0) := by omega
          rw [Nat.add_sub_cancel] at hcv
          go_enter Try.func41, Try.ntmps41
          go_wp2_with fail
          refine wp_loop_rounds 2 ?_
          rw [rounds_succ]
          go_wp2_with fail
          rw [rounds_succ]
          go_wp2_with fail
          go_region
          go_wp2_with fail
          exact bodyPost_ret (results_three rfl rfl rfl rfl) rfl ⟨⟨off + 1, 0, by rw [HS.out.1, HS.out.2.1, Nat.sub_self]; rfl, by rw [HS.out.2.1, Nat.sub_self]; exact Nat.le_refl _, by omega, fun j c hj => by have h := (List.getElem?_eq_some_iff.1 hj).1; rw [HS.out.2.1] at h; omega⟩, (Below.refl _ w).drew⟩
        · have h1i : ¬ ((cap : Int) = 1) := by omega
          have h2i : ¬ ((cap : Int) - 1 = n) := by omega
          go_enter Try.func41, Try.ntmps41
          go_wp2_with fail
          refine wp_loop_rounds 2 ?_
          rw [rounds_succ]
          go_wp2_with fail
          rw [rounds_succ]
          go_wp2_with fail
          go_region
          go_wp2_with fail
          exact bodyPost_ret (results_three rfl rfl rfl rfl) rfl ⟨⟨off + 1 + n, cap - 1 - n, by rw [HS.out.1, HS.out.2.1]; rfl, by rw [HS.out.2.1]; omega, by omega, HS.out.2.2.drop n⟩, (Below.refl _ w).drew⟩
    · rw [if_neg hle]
      have hnm : (m : Int) < n := by omega
      clear hcv hB hB1 hmr hn
      go_enter Try.func41, Try.ntmps41
      go_wp2_with fail
      refine wp_loop_rounds 2 ?_
      rw [rounds_succ]
      go_wp2_with fail
      rw [rounds_succ]
      go_wp2_with fail
      all_goals exact bodyPost_ret (results_three rfl rfl rfl rfl) rfl ⟨rfl, Below.refl _ _⟩
set_option maxRecDepth 100000 in
set_option maxHeartbeats 2000000 in
theorem cutText2_any (b off cap : Nat) (l : Str) (w : World) (hB : Bys w b off l) (hc : l.length ≤ cap) (hm : cap ≤ 9223372036854775807) :
    Calls Try.prog 41 #[.slice (some ⟨b, off, none⟩) l.length cap, .int .i64 2] w fun e w' => CutT w b cap (cut2 l) e ∧ Below w.heap.size w w' := by
  match l, hB, hc with
  | [], hB, hc =>
    go_enter Try.func41, Try.ntmps41
    go_wp2_with fail
    exact bodyPost_ret (results_three rfl rfl rfl rfl) rfl ⟨rfl, Below.refl _ _⟩
  | [c], hB, hc =>
    go_enter Try.func41, Try.ntmps41
    go_wp2_with fail
    exact bodyPost_ret (results_three rfl rfl rfl rfl) rfl ⟨rfl, Below.refl _ _⟩
  | c :: d :: r, hB, hc =>
    have c0 : w.cell? ⟨b, off, none⟩ = some (.int .u8 (c.toNat : Nat)) := hB 0 c rfl
    have c1 : w.cell? ⟨b, off + 1, none⟩ = some (.int .u8 (d.toNat : Nat)) := hB 1 d rfl
    have hB1 : Bys w b (off + 2) r := hB.drop 2
    have hn8 : c.toNat < 256 := c.toNat_lt
    have hd8 : d.toNat < 256 := d.toNat_lt
    simp only [List.length_cons] at hc
    simp only [List.length_cons, cut2]
    obtain ⟨m, hmr⟩ : ∃ m, r.length = m := ⟨_, rfl⟩
    obtain ⟨x, hx⟩ : ∃ x, c.toNat = x := ⟨_, rfl⟩
    obtain ⟨y, hy⟩ : ∃ y, d.toNat = y := ⟨_, rfl⟩
    obtain ⟨n, hn⟩ : ∃ n, x * 256 + y = n := ⟨_, rfl⟩
    have hor := or0_i64 x (by omega)
    have hor2 := or_i64 x y (by omega) (by omega)
    rw [hn] at hor2
    rw [hx] at c0 hn8 ⊢
    rw [hy] at c1 hd8 ⊢
    rw [hn]
    have hnn : n < 65536 := by omega
    have hcv := Bys.conv (w := w.drew) (cap := cap - 2) (hB1.take n)
    rw [hmr] at hc ⊢
    have hl0 : ¬ (((m : Int) + 1 + 1) < 2) := by omega
    by_cases hle : n ≤ m
    · rw [if_pos hle]
      have htk : (r.take n).length = n := by simp [hmr, hle]
      rw [htk] at hcv
      have hnm : ¬ ((m : Int) < n) := by omega
      have htd : (r.drop n).length = m - n := by simp [hmr]
      obtain ⟨s, hs⟩ : ∃ s, ofS (r.take n) = s := ⟨_, rfl⟩
      rw [hs] at hcv
      have HS := hide (And.intro hs (And.intro htd hB1))
      clear hs htk hB hB1 hmr hx hy hn htd
      by_cases h1 : cap = 2
      · subst h1
        obtain rfl : m = 0 := by omega
        have hn0 : n = 0 := by omega
        rw [hn0] at hor2 HS ⊢
        have hcv0 := Bys.conv (w := w.drew) (b := b) (off := off) (cap := 0) (l := []) (fun j c hj => by cases hj)
        rw [show ofS [] = s by rw [← HS.out.1]; rfl] at hcv0
        simp only [List.length_nil] at hcv0
        clear hcv hn0 hnm hle hnn
        go_enter Try.func41, Try.ntmps41
        go_wp2_with fail
        refine wp_loop_rounds 3 ?_
        rw [rounds_succ]
        go_wp2_with fail
        rw [rounds_succ]
        go_wp2_with fail
        rw [rounds_succ]
        go_wp2_with fail
        go_region
        go_wp2_with fail
        exact bodyPost_ret (results_three rfl rfl rfl rfl) rfl ⟨⟨off, 0, by rw [HS.out.1, HS.out.2.1]; rfl, by rw [HS.out.2.1]; exact Nat.le_refl _, by omega, fun j c hj => by have h := (List.getElem?_eq_some_iff.1 hj).1; rw [HS.out.2.1] at h; omega⟩, (Below.refl _ w).drew⟩
      · by_cases h2 : cap - 2 = n
        · obtain rfl : m = n := by omega
          obtain rfl : cap = m + 2 := by omega
          have h1i : ¬ ((m : Int) = 0) := by omega
          rw [Nat.add_sub_cancel] at hcv
          go_enter Try.func41, Try.ntmps41
          go_wp2_with fail
          refine wp_loop_rounds 3 ?_
          rw [rounds_succ]
          go_wp2_with fail
          rw [rounds_succ]
          go_wp2_with fail
          rw [rounds_succ]
          go_wp2_with fail
          go_region
          go_wp2_with fail
          exact bodyPost_ret (results_three rfl rfl rfl rfl) rfl ⟨⟨off + 2, 0, by rw [HS.out.1, HS.out.2.1, Nat.sub_self]; rfl, by rw [HS.out.2.1, Nat.sub_self]; exact Nat.le_refl _, by omega, fun j c hj => by have h := (List.getElem?_eq_some_iff.1 hj).1; rw [HS.out.2.1] at h; omega⟩, (Below.refl _ w).drew⟩
        · have h1i : ¬ ((cap : Int) = 2) := by omega
          have h2i : ¬ ((cap : Int) - 2 = n) := by omega
          go_enter Try.func41, Try.ntmps41
          go_wp2_with fail
          refine wp_loop_rounds 3 ?_
          rw [rounds_succ]
          go_wp2_with fail
          rw [rounds_succ]
          go_wp2_with fail
          rw [rounds_succ]
          go_wp2_with fail
          go_region
          go_wp2_with fail
          exact bodyPost_ret (results_three rfl rfl rfl rfl) rfl ⟨⟨off + 2 + n, cap - 2 - n, by rw [HS.out.1, HS.out.2.1]; rfl, by rw [HS.out.2.1]; omega, by omega, HS.out.2.2.drop n⟩, (Below.refl _ w).drew⟩
    · rw [if_neg hle]
      have hnm : (m : Int) < n := by omega
      clear hcv hB hB1 hmr hx hy hn
      go_enter Try.func41, Try.ntmps41
      go_wp2_with fail
      refine wp_loop_rounds 3 ?_
      rw [rounds_succ]
      go_wp2_with fail
      rw [rounds_succ]
      go_wp2_with fail
      rw [rounds_succ]
      go_wp2_with fail
      all_goals exact bodyPost_ret (results_three rfl rfl rfl rfl) rfl ⟨rfl, Below.refl _ _⟩
end Go.Proofs.Ytjdcgndcljmieaa
