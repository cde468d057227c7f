/- KvUndoes. -/
import Derived.Test.YtjdcgndcljmieaaKG
namespace Go.Proofs.Ytjdcgndcljmieaa
open Go.RowKit

theorem get_put {L : List Pr} (h : Rising L) (k v : ByteArray) : getM (putM L k v) k = some v := getM_mem (putM_rising h k v) (mem_putM.2 (.inl rfl))
theorem get_del (L : List Pr) (k : ByteArray) : getM (delM L k) k = none := getM_not (fun _ hx => (mem_delM.1 hx).2)
theorem del_put {L : List Pr} (h : Rising L) {k v : ByteArray} (hn : getM L k = none) : delM (putM L k v) k = L := by
  refine rising_unique (delM_rising (putM_rising h k v) k) h (fun x => ?_)
  rw [mem_delM, mem_putM]
  constructor
  · rintro ⟨rfl | ⟨hx, _⟩, hk⟩
    · exact absurd rfl hk
    · exact hx
  · intro hx
    exact ⟨.inr ⟨hx, getM_none hn x hx⟩, getM_none hn x hx⟩
theorem putE_some {L : List Pr} {k v y : ByteArray} (hy : getM L k = some y) : putE L k v = 2 ∨ putE L k v = 0 := by
  unfold putE
  by_cases hb : badKV k v
  · rw [if_pos hb]
    exact .inl rfl
  · rw [if_neg hb, if_neg (fun h => by rw [hy] at h; cases h.1)]
    exact .inr rfl
theorem get_putL {L : List Pr} (h : Rising L) {k v y : ByteArray} (hy : getM L k = some y) : getM (putL L k v) k ≠ none := by
  unfold putL
  split
  · rw [get_put h]
    exact fun e => by cases e
  · rw [hy]
    exact fun e => by cases e
set_option maxRecDepth 100000 in
set_option maxHeartbeats 4000000 in
theorem kvUndoes_any (ao : Option Addr) (cap : Nat) (ds : List Dk) (k v : ByteArray) (w : World) (hm : DkMem w.heap.size w ao ds) :
    Calls Try.prog 6 #[.slice ao ds.length cap, .string k, .string v] w fun e w' => e = .returned (.bool true) ∧ Below w.heap.size w w' := by
  have H0 := hide (play_any ao cap ds w hm)
  obtain ⟨L, hL⟩ : ∃ L, playM ds (min ds.length 60) = L := ⟨_, rfl⟩
  have hG := good_play ds (min ds.length 60)
  rw [hL] at H0 hG
  have HG := hide hG
  clear hm hG hL
  cases hg : getM L k with
  | some y =>
    have hE := putE_some (v := v) hg
    obtain ⟨e1, he1⟩ : ∃ e1 : Nat, putE L k v = e1 := ⟨_, rfl⟩
    have hne : ((e1 : Int) != 4) = true := by simp; omega
    have HP := hide (And.intro hg he1)
    clear hE hg he1
    go_enter Try.func6, Try.ntmps6
    go_wp2_with (first
      | (go_at_call 9; refine H0.out.mono ?_; rintro e w1 ⟨p, bm, q, u, rfl, t1, b1⟩; have s1 := b1.size; have H1 := hide (And.intro t1 b1); clear t1 b1)
      | (go_at_call 10; refine (live_any w1).mono ?_; rintro e w2 ⟨rfl, b2⟩; have s2 := b2.size; have H2 := hide (And.intro (H1.out.1.below b2) (H1.out.2.trans (b2.mono s1))); clear b2)
      | (go_at_call 15; refine (get_any w.heap.size p bm L k w2 H2.out.1.dev).mono ?_; rintro e w3 ⟨rfl, b3⟩; rw [HP.out.1]; have H3 := hide (And.intro (H2.out.1.below b3) (H2.out.2.trans (b3.mono H2.out.2.size))); clear b3; refine stopHere ?_))
    unfold Hid
    go_wp2_with (first
      | (go_at_call 16; refine (put_any w.heap.size p bm L k v w3 H3.out.1.dev H3.out.2.size).mono ?_; rintro e w4 ⟨rfl, t4⟩; rw [HP.out.2]; have H4 := hide (And.intro t4.1 (H3.out.2.trans t4.2.below)); clear t4; refine stopHere ?_))
    unfold Hid
    go_wp2_with (first
      | (go_at_call 17; refine (delete_any w.heap.size p bm _ k w4 H4.out.1 H4.out.2.size).mono ?_; rintro e w5 ⟨rfl, t5⟩; rw [show delE (putL L k v) k = 0 by unfold delE; rw [if_neg (get_putL H3.out.1.dev.rise HP.out.1)]]; have H5 := hide (And.intro t5.1 (H4.out.2.trans t5.2.below)); clear t5; refine stopHere ?_))
    unfold Hid
    go_wp2_with (first
      | (go_at_call 17; refine (delete_any w.heap.size p bm _ k w5 H5.out.1 H5.out.2.size).mono ?_; rintro e w6 ⟨rfl, t6⟩; rw [show delE (delM (putL L k v) k) k = 10 by unfold delE; rw [if_pos (get_del _ k)]]; have H6 := hide (H5.out.2.trans t6.2.below); clear t6; refine stopHere ?_))
    unfold Hid
    go_wp2_with fail
    go_ret
    exact ⟨rfl, H6.out⟩
  | none =>
    have HP := hide hg
    clear hg
    go_enter Try.func6, Try.ntmps6
    go_wp2_with (first
      | (go_at_call 9; refine H0.out.mono ?_; rintro e w1 ⟨p, bm, q, u, rfl, t1, b1⟩; have s1 := b1.size; have H1 := hide (And.intro t1 b1); clear t1 b1)
      | (go_at_call 10; refine (live_any w1).mono ?_; rintro e w2 ⟨rfl, b2⟩; have s2 := b2.size; have H2 := hide (And.intro (H1.out.1.below b2) (H1.out.2.trans (b2.mono s1))); clear b2)
      | (go_at_call 15; refine (get_any w.heap.size p bm L k w2 H2.out.1.dev).mono ?_; rintro e w3 ⟨rfl, b3⟩; rw [HP.out]; have H3 := hide (And.intro (H2.out.1.below b3) (H2.out.2.trans (b3.mono H2.out.2.size))); clear b3; refine stopHere ?_))
    unfold Hid
    by_cases he : putE L k v = 0
    · go_wp2_with (first
        | (go_at_call 16; refine (put_any w.heap.size p bm L k v w3 H3.out.1.dev H3.out.2.size).mono ?_; rintro e w4 ⟨rfl, t4⟩; rw [show putL L k v = putM L k v by unfold putL; rw [if_pos he]] at t4; rw [he]; have H4 := hide (And.intro t4 (H3.out.2.trans t4.2.below)); clear t4; refine stopHere ?_))
      unfold Hid
      clear he
      go_wp2_with (first
        | (go_at_call 15; refine (get_any w.heap.size p bm _ k w4 H4.out.1.1).mono ?_; rintro e w5 ⟨rfl, b5⟩; rw [get_put H3.out.1.dev.rise]; have H5 := hide b5; clear b5; refine stopHere ?_))
      unfold Hid
      have hsz4 := H4.out.2.size
      go_wp2_with (first
        | (go_at_call 17; refine (delete_any w.heap.size p bm _ k w5 (H4.out.1.1.below H5.out) (by have := H5.out.size; omega)).mono ?_; rintro e w6 ⟨rfl, t6⟩; rw [show delE (putM L k v) k = 0 by unfold delE; rw [if_neg (by rw [get_put H3.out.1.dev.rise]; exact fun e => by cases e)]]; rw [del_put H3.out.1.dev.rise HP.out] at t6; have H6 := hide t6; clear t6; refine stopHere ?_))
      unfold Hid
      have hR4 := H3.out.1.step H4.out.1
      have hR6 : IsR w.heap.size q u L w6 := (hR4.below H5.out).apart H6.out.2 (fun j hq hp => H3.out.1.apart j hp hq)
      have hB6 : Below w.heap.size w w6 := (H4.out.2.trans (H5.out.mono hsz4)).trans H6.out.2.below
      have H7 := hide (And.intro (show Two w.heap.size p bm q L u w6 from ⟨H6.out.1, hR6, H3.out.1.apart⟩) hB6)
      clear hR4 hR6 hB6
      go_wp2_with (first
        | (go_at_call 11; refine (same_any w.heap.size p bm q L u k w6 H7.out.1 HG.out).mono ?_; rintro e w8 ⟨rfl, b8⟩; have H8 := hide b8; clear b8; refine stopHere ?_))
      unfold Hid
      go_wp2_with fail
      go_ret
      exact ⟨rfl, H7.out.2.trans (H8.out.mono H7.out.2.size)⟩
    · obtain ⟨e1, he1⟩ : ∃ e1 : Nat, putE L k v = e1 := ⟨_, rfl⟩
      have hne : (e1 : Int) ≠ 0 := by omega
      go_wp2_with (first
        | (go_at_call 16; refine (put_any w.heap.size p bm L k v w3 H3.out.1.dev H3.out.2.size).mono ?_; rintro e w4 ⟨rfl, t4⟩; rw [show putL L k v = L by unfold putL; rw [if_neg he]] at t4; rw [he1]; have H4 := hide (And.intro (show Two w.heap.size p bm q L u w4 from ⟨t4.1, H3.out.1.step t4, H3.out.1.apart⟩) (H3.out.2.trans t4.2.below)); clear t4; refine stopHere ?_))
      unfold Hid
      clear he he1
      go_wp2_with (first
        | (go_at_call 11; refine (same_any w.heap.size p bm q L u k w4 H4.out.1 HG.out).mono ?_; rintro e w8 ⟨rfl, b8⟩; have H8 := hide b8; clear b8; refine stopHere ?_))
      unfold Hid
      go_wp2_with fail
      go_ret
      exact ⟨rfl, H4.out.2.trans (H8.out.mono H4.out.2.size)⟩
end Go.Proofs.Ytjdcgndcljmieaa
