/- Slots: Open, Fork, Device. Slots: a store that is nil. Slots, plain reasoning: what a root tells, and which slot counts behind a Save or a Torn. -/
import Derived.Test.YtfknjmfkkaoggaaS17
namespace Go.Proofs.Ytfknjmfkkaoggaa
open Go.RowKit Go.Shelf

theorem build_h (a : Option Addr) (w : World) : (Instr.build 79 #[(0, .pointer a)]).run Try.prog w = .ok (.agg #[.pointer a]) w := by kernel_rfl
theorem build_s (a : Option Addr) (w : World) : (Instr.build 81 #[(0, .agg #[.pointer a])]).run Try.prog w = .ok (.agg #[.pointer a]) w := by kernel_rfl
/-- A new store on a device of its own. -/
theorem new_store {base p : Nat} {d : Dv} {vl vw : Value} {w w' : World} (h : IsD base p d vl vw w') (hb : base ≤ w.heap.size) (hB : Below w.heap.size w w') (hf : ∀ j, foot p vl vw j → w.heap.size ≤ j) : ∃ q p' vl' vw', Value.pointer (some ⟨w'.heap.size, 0, none⟩) = .pointer (some ⟨q, 0, none⟩) ∧ IsS base q p' d vl' vw' (w'.alloc (.cells #[.pointer (some ⟨p, 0, none⟩)] 81)) ∧ w.heap.size ≤ q ∧ Below w.heap.size w (w'.alloc (.cells #[.pointer (some ⟨p, 0, none⟩)] 81)) ∧ ∀ j, foot p' vl' vw' j → w.heap.size ≤ j :=
  ⟨w'.heap.size, p, vl, vw, rfl, ⟨World.alloc_heap_new _ _, Nat.le_trans hb hB.size, h.below ((Below.refl _ _).alloc (Nat.le_refl _) _)⟩, hB.size, hB.alloc hB.size _, hf⟩
set_option maxRecDepth 100000 in
set_option maxHeartbeats 2000000 in
theorem device_any (base q p : Nat) (d : Dv) (vl vw : Value) (w : World) (h : IsS base q p d vl vw w) (hd : DvOk d) (hb : base ≤ w.heap.size) :
    Calls Try.prog 27 #[.pointer (some ⟨q, 0, none⟩)] w fun e w' => ∃ p' vl' vw', e = .returned (.pointer (some ⟨p', 0, none⟩)) ∧ IsD base p' d vl' vw' w' ∧ Below w.heap.size w w' ∧ ∀ j, foot p' vl' vw' j → w.heap.size ≤ j := by
  obtain ⟨c1, _⟩ := cell1 h.here
  have HF := hide (fork_any base p d vl vw w h.dev hd hb)
  clear h hd
  go_enter Try.func27, Try.ntmps27
  go_wp2_with (go_at_call 50; refine HF.out.mono ?_; rintro e w3 ⟨p', vl', vw', rfl, k⟩; have H3 := hide k; clear k)
  go_ret
  exact ⟨p', vl', vw', rfl, H3.out⟩
set_option maxRecDepth 100000 in
set_option maxHeartbeats 2000000 in
theorem forkS_any (base q p : Nat) (d : Dv) (vl vw : Value) (w : World) (h : IsS base q p d vl vw w) (hd : DvOk d) (hb : base ≤ w.heap.size) :
    Calls Try.prog 25 #[.pointer (some ⟨q, 0, none⟩)] w fun e w' => ∃ q' p' vl' vw', e = .returned (.pointer (some ⟨q', 0, none⟩)) ∧ IsS base q' p' d vl' vw' w' ∧ w.heap.size ≤ q' ∧ Below w.heap.size w w' ∧ ∀ j, foot p' vl' vw' j → w.heap.size ≤ j := by
  obtain ⟨c1, _⟩ := cell1 h.here
  have f1 := build_h
  have f2 := build_s
  have HF := hide (fork_any base p d vl vw w h.dev hd hb)
  clear h hd
  go_enter Try.func25, Try.ntmps25
  go_wp2_with (go_at_call 50; refine HF.out.mono ?_; rintro e w3 ⟨p', vl', vw', rfl, k⟩; have H3 := hide k; clear k)
  go_ret
  obtain ⟨k1, k2, k3⟩ := H3.out
  obtain ⟨q', p2, vl2, vw2, e, r⟩ := new_store k1 hb k2 k3
  exact ⟨q', p2, vl2, vw2, by rw [← e]; rfl, r⟩
set_option maxRecDepth 100000 in
set_option maxHeartbeats 2000000 in
theorem open_any (base p : Nat) (d : Dv) (vl vw : Value) (w : World) (h : IsD base p d vl vw w) (hd : DvOk d) (hb : base ≤ w.heap.size) (h2 : 4 ≤ d.las.length) :
    Calls Try.prog 26 #[.pointer (some ⟨p, 0, none⟩)] w fun e w' => ∃ q' p' vl' vw', e = .returned (.pointer (some ⟨q', 0, none⟩)) ∧ IsS base q' p' d vl' vw' w' ∧ w.heap.size ≤ q' ∧ Below w.heap.size w w' ∧ ∀ j, foot p' vl' vw' j → w.heap.size ≤ j := by
  have f1 := build_h
  have f2 := build_s
  have HZ := hide (size_any base p d vl vw w h)
  have HF := hide (fork_any base p d vl vw w h hd hb)
  have h2' : ¬ ((d.las.length : Int) < 4) := by omega
  clear h hd
  go_enter Try.func26, Try.ntmps26
  go_wp2_with (first
    | (go_at_call 50; refine HF.out.mono ?_; rintro e w3 ⟨p', vl', vw', rfl, k⟩; have H3 := hide k; clear k)
    | (go_at_call 40; refine HZ.out.mono ?_; rintro e w3 ⟨rfl, rfl⟩))
  go_ret
  obtain ⟨k1, k2, k3⟩ := H3.out
  obtain ⟨q', p2, vl2, vw2, e, r⟩ := new_store k1 hb k2 k3
  exact ⟨q', p2, vl2, vw2, by rw [← e]; rfl, r⟩
end Go.Proofs.Ytfknjmfkkaoggaa
namespace Go.Proofs.Ytfknjmfkkaoggaa
open Go.RowKit Go.Shelf

theorem load_nil (w : World) : Calls Try.prog 20 #[.pointer none] w fun e w' => e = .returned (.slice none 0 0) ∧ w' = w := by
  go_enter Try.func20, Try.ntmps20
  go_wp2_with fail
  go_ret
  exact ⟨rfl, rfl⟩
theorem turn_nil (w : World) : Calls Try.prog 21 #[.pointer none] w fun e w' => e = .returned (.int .u64 0) ∧ w' = w := by
  go_enter Try.func21, Try.ntmps21
  go_wp2_with fail
  go_ret
  exact ⟨rfl, rfl⟩
theorem room_nil (w : World) : Calls Try.prog 23 #[.pointer none] w fun e w' => e = .returned (.int .i64 0) ∧ w' = w := by
  go_enter Try.func23, Try.ntmps23
  go_wp2_with fail
  go_ret
  exact ⟨rfl, rfl⟩
theorem device_nil (w : World) : Calls Try.prog 27 #[.pointer none] w fun e w' => e = .returned (.pointer none) ∧ w' = w := by
  go_enter Try.func27, Try.ntmps27
  go_wp2_with fail
  go_ret
  exact ⟨rfl, rfl⟩
theorem forkS_nil (w : World) : Calls Try.prog 25 #[.pointer none] w fun e w' => e = .returned (.pointer none) ∧ w' = w := by
  go_enter Try.func25, Try.ntmps25
  go_wp2_with fail
  go_ret
  exact ⟨rfl, rfl⟩
theorem open_nil (w : World) : Calls Try.prog 26 #[.pointer none] w fun e w' => e = .returned (.pointer none) ∧ w' = w := by
  have HZ := hide (size_nil w)
  go_enter Try.func26, Try.ntmps26
  go_wp2_with (go_at_call 40; refine HZ.out.mono ?_; rintro e w3 ⟨rfl, rfl⟩)
  go_ret
  exact ⟨rfl, rfl⟩
theorem open_small (base p : Nat) (d : Dv) (vl vw : Value) (w : World) (h : IsD base p d vl vw w) (h2 : d.las.length < 4) : Calls Try.prog 26 #[.pointer (some ⟨p, 0, none⟩)] w fun e w' => e = .returned (.pointer none) ∧ w' = w := by
  have HZ := hide (size_any base p d vl vw w h)
  have h2' : (d.las.length : Int) < 4 := by omega
  clear h
  go_enter Try.func26, Try.ntmps26
  go_wp2_with (go_at_call 40; refine HZ.out.mono ?_; rintro e w3 ⟨rfl, rfl⟩)
  go_ret
  exact ⟨rfl, rfl⟩
end Go.Proofs.Ytfknjmfkkaoggaa
namespace Go.Proofs.Ytfknjmfkkaoggaa
open Go.RowKit Go.Shelf

theorem setBe_other (s : List UInt8) (o n : Nat) (x : V) (j : Nat) (h : j < o ∨ o + n ≤ j) : ∀ i, i ≤ n → (setBe s o n x i)[j]? = s[j]?
  | 0, _ => rfl
  | i + 1, hi => by
    unfold setBe
    rw [List.getElem?_set_ne (by omega), setBe_other s o n x j h i (by omega)]
theorem setBe_at (s : List UInt8) (o n : Nat) (x : V) (hl : o + n ≤ s.length) : ∀ i j, i ≤ n → j < i → (setBe s o n x i)[o + n - 1 - j]? = some (beByte x j)
  | 0, j, _, h => by omega
  | i + 1, j, hi, h => by
    unfold setBe
    by_cases e : j = i
    · subst e
      rw [List.getElem?_set_self (by rw [setBe_len]; omega)]
    · rw [List.getElem?_set_ne (by omega), setBe_at s o n x hl i j (by omega) (by omega)]
theorem slice_is {α : Type} (l : List α) (o n : Nat) (xs : List α) (hn : xs.length = n) (h : ∀ j, j < n → l[o + j]? = xs[j]?) : (l.drop o).take n = xs := by
  apply List.ext_getElem?
  intro j
  by_cases hj : j < n
  · rw [List.getElem?_take_of_lt hj, List.getElem?_drop, h j hj]
  · rw [List.getElem?_eq_none (by rw [List.length_take]; omega), List.getElem?_eq_none (by omega)]
def numN : List UInt8 → Nat → Nat
  | [], y => y
  | c :: r, y => numN r (y * 256 + c.toNat)
theorem shl_or (x : V) (c : UInt8) (h : x.toNat < 2 ^ 56) : ((x <<< 8) ||| byteV c).toNat = x.toNat * 256 + c.toNat := by
  have hc := c.toNat_lt
  rw [BitVec.toNat_or, byteV_nat, BitVec.toNat_shiftLeft, Nat.mod_eq_of_lt (by rw [Nat.shiftLeft_eq]; omega), ← Nat.shiftLeft_add_eq_or_of_lt (by omega), Nat.shiftLeft_eq]
theorem num_nat : ∀ (l : List UInt8) (x : V), (x.toNat + 1) * 256 ^ l.length ≤ 2 ^ 64 → (numL l x).toNat = numN l x.toNat
  | [], x, _ => rfl
  | c :: r, x, h => by
    unfold numL numN
    rw [List.length_cons, Nat.pow_succ] at h
    have hp : 1 ≤ 256 ^ r.length := Nat.one_le_pow _ _ (by omega)
    have hx : x.toNat < 2 ^ 56 := by
      have h1 : (x.toNat + 1) * 256 ≤ 2 ^ 64 := by
        refine Nat.le_trans ?_ h
        rw [Nat.mul_comm (256 ^ r.length) 256, ← Nat.mul_assoc]
        exact Nat.le_mul_of_pos_right _ (by omega)
      omega
    have hc := c.toNat_lt
    rw [num_nat r _ ?_, shl_or x c hx]
    rw [shl_or x c hx]
    refine Nat.le_trans ?_ h
    rw [Nat.mul_comm (256 ^ r.length) 256, ← Nat.mul_assoc]
    exact Nat.mul_le_mul_right _ (by omega)
theorem beByte_nat (x : V) (i : Nat) : (beByte x i).toNat = x.toNat / 2 ^ (8 * i) % 256 := by
  unfold beByte
  rw [UInt8.toNat_ofNat']
theorem num8 (x : V) : numL [beByte x 7, beByte x 6, beByte x 5, beByte x 4, beByte x 3, beByte x 2, beByte x 1, beByte x 0] 0#64 = x := by
  apply BitVec.eq_of_toNat_eq
  rw [num_nat _ _ (by simp)]
  have h := x.isLt
  simp only [numN, beByte_nat]
  simp
  omega
theorem num4 (x : U) : low (numL [beByte (vOf x) 3, beByte (vOf x) 2, beByte (vOf x) 1, beByte (vOf x) 0] 0#64) = x := by
  apply BitVec.eq_of_toNat_eq
  unfold low
  rw [num_nat _ _ (by simp)]
  have h := x.isLt
  simp only [numN, beByte_nat, vOf_nat]
  simp
  omega
theorem be8 (s : List UInt8) (o : Nat) (x : V) (hl : o + 8 ≤ s.length) : ((setBe s o 8 x 8).drop o).take 8 = [beByte x 7, beByte x 6, beByte x 5, beByte x 4, beByte x 3, beByte x 2, beByte x 1, beByte x 0] := by
  refine slice_is _ _ _ _ rfl fun j hj => ?_
  have h := setBe_at s o 8 x hl 8 (7 - j) (by omega) (by omega)
  rw [show o + 8 - 1 - (7 - j) = o + j by omega] at h
  rw [h]
  rcases (show j = 0 ∨ j = 1 ∨ j = 2 ∨ j = 3 ∨ j = 4 ∨ j = 5 ∨ j = 6 ∨ j = 7 by omega) with rfl | rfl | rfl | rfl | rfl | rfl | rfl | rfl <;> rfl
theorem be4 (s : List UInt8) (o : Nat) (x : V) (hl : o + 4 ≤ s.length) : ((setBe s o 4 x 4).drop o).take 4 = [beByte x 3, beByte x 2, beByte x 1, beByte x 0] := by
  refine slice_is _ _ _ _ rfl fun j hj => ?_
  have h := setBe_at s o 4 x hl 4 (3 - j) (by omega) (by omega)
  rw [show o + 4 - 1 - (3 - j) = o + j by omega] at h
  rw [h]
  rcases (show j = 0 ∨ j = 1 ∨ j = 2 ∨ j = 3 by omega) with rfl | rfl | rfl | rfl <;> rfl
theorem slice_other (s : List UInt8) (o n : Nat) (x : V) (a m : Nat) (h : a + m ≤ o ∨ o + n ≤ a) (hl : a + m ≤ s.length) : ((setBe s o n x n).drop a).take m = (s.drop a).take m := by
  refine slice_is _ _ _ _ (by rw [List.length_take, List.length_drop]; omega) fun j hj => ?_
  rw [setBe_other s o n x (a + j) (by omega) n (Nat.le_refl _), List.getElem?_take_of_lt hj, List.getElem?_drop]
theorem root_T (t : V) (n s : U) : rT (rootS t n s) = t := by
  obtain ⟨l1, l2, l3, l4⟩ := root_lens t n s
  unfold rT rootS
  rw [slice_other _ _ _ _ _ _ (by omega) (by omega)]
  unfold root3
  rw [slice_other _ _ _ _ _ _ (by omega) (by omega)]
  unfold root2
  rw [slice_other _ _ _ _ _ _ (by omega) (by omega)]
  unfold root1
  rw [be8 _ _ _ (by decide)]
  exact num8 t
theorem root_N (t : V) (n s : U) : rN (rootS t n s) = n := by
  obtain ⟨l1, l2, l3, l4⟩ := root_lens t n s
  unfold rN rootS
  rw [slice_other _ _ _ _ _ _ (by omega) (by omega)]
  unfold root3
  rw [slice_other _ _ _ _ _ _ (by omega) (by omega)]
  unfold root2
  rw [be4 _ _ _ (by omega)]
  exact num4 n
theorem root_S (t : V) (n s : U) : rS (rootS t n s) = s := by
  obtain ⟨l1, l2, l3, l4⟩ := root_lens t n s
  unfold rS rootS
  rw [slice_other _ _ _ _ _ _ (by omega) (by omega)]
  unfold root3
  rw [be4 _ _ _ (by omega)]
  exact num4 s
theorem root_head (t : V) (n s : U) : (rootS t n s)[0]? = some 72 ∧ (rootS t n s)[1]? = some 71 := by
  have h : ∀ j, j < 2 → (rootS t n s)[j]? = root0[j]? := fun j hj => by
    unfold rootS root3 root2 root1
    rw [setBe_other _ _ _ _ _ (by omega) _ (Nat.le_refl _), setBe_other _ _ _ _ _ (by omega) _ (Nat.le_refl _), setBe_other _ _ _ _ _ (by omega) _ (Nat.le_refl _), setBe_other _ _ _ _ _ (by omega) _ (Nat.le_refl _)]
  exact ⟨h 0 (by omega), h 1 (by omega)⟩

/- What is read. -/
theorem readS_settled (d : Dv) (sv : Nat → Bool) (i : Nat) : readS (settled d sv) i = (landAt d sv d.wr.length).getD i sec0 := rfl
theorem readS_write (d : Dv) (i : Nat) (s : Sec) (j : Nat) : readS (dvWrite d i s) j = if i = j then s else readS d j := by
  unfold readS readAt dvWrite
  simp only [List.length_append, List.length_cons, List.length_nil]
  rw [List.take_of_length_le (by simp), List.foldl_append, List.take_of_length_le (Nat.le_refl _)]
  rfl
theorem getD_set (l : List Sec) (i j : Nat) (s : Sec) (h : i < l.length) : (l.set i s).getD j sec0 = if i = j then s else l.getD j sec0 := by
  simp only [List.getD_eq_getElem?_getD]
  by_cases e : i = j
  · subst e
    rw [List.getElem?_set_self h, if_pos rfl]
    rfl
  · rw [List.getElem?_set_ne e, if_neg e]
theorem land_all {d : Dv} (hd : DvOk d) (i : Nat) : ∀ k, k ≤ d.wr.length → (landAt d (fun _ => true) k).getD i sec0 = readAt d i k
  | 0, _ => rfl
  | k + 1, hk => by
    obtain ⟨x, hx⟩ : ∃ x, d.wr[k]? = some x := ⟨_, List.getElem?_eq_getElem (by omega)⟩
    rw [landAt_succ hx, readAt_succ d i k x hx, if_pos rfl, getD_set _ _ _ _ (by rw [landAt_len]; exact (hd.wr x (List.mem_of_getElem? hx)).1), land_all hd i k (by omega)]
theorem readS_sync {d : Dv} (hd : DvOk d) (i : Nat) : readS (settled d fun _ => true) i = readS d i := land_all hd i _ (Nat.le_refl _)
theorem land_off {d : Dv} (hd : DvOk d) (sv : Nat → Bool) (i : Nat) (h : ∀ x ∈ d.wr, x.1 ≠ i) : ∀ k, k ≤ d.wr.length → (landAt d sv k).getD i sec0 = d.las.getD i sec0
  | 0, _ => rfl
  | k + 1, hk => by
    obtain ⟨x, hx⟩ : ∃ x, d.wr[k]? = some x := ⟨_, List.getElem?_eq_getElem (by omega)⟩
    have hm := List.mem_of_getElem? hx
    rw [landAt_succ hx]
    split
    · rw [getD_set _ _ _ _ (by rw [landAt_len]; exact (hd.wr x hm).1), if_neg (h x hm), land_off hd sv i h k (by omega)]
    · exact land_off hd sv i h k (by omega)
theorem readS_off {d : Dv} (hd : DvOk d) (sv : Nat → Bool) (i : Nat) (h : ∀ x ∈ d.wr, x.1 ≠ i) : readS (settled d sv) i = d.las.getD i sec0 := land_off hd sv i h _ (Nat.le_refl _)
theorem readS_rest {d : Dv} (h : d.wr = []) (i : Nat) : readS d i = d.las.getD i sec0 := by
  unfold readS readAt
  rw [h]
  rfl
theorem putK_read (d : Dv) (n : Nat) (l : List UInt8) (i : Nat) : ∀ k, (∀ j, j < k → i ≠ 2 + n * ((d.las.length - 2) / 2) + j) → readS (putK d n l k) i = readS d i
  | 0, _ => rfl
  | k + 1, h => by
    unfold putK
    rw [readS_write, if_neg (fun e => h k (by omega) e.symm), putK_read d n l i k fun j hj => h j (by omega)]
theorem putK_at (d : Dv) (n : Nat) (l : List UInt8) (j : Nat) : ∀ k, j < k → readS (putK d n l k) (2 + n * ((d.las.length - 2) / 2) + j) = secOf l j
  | 0, h => by omega
  | k + 1, h => by
    unfold putK
    rw [readS_write]
    by_cases e : k = j
    · subst e
      rw [if_pos rfl]
    · rw [if_neg (by omega), putK_at d n l j k (by omega)]
theorem putK_mem (d : Dv) (n : Nat) (l : List UInt8) (hw : d.wr = []) : ∀ k, ∀ x ∈ (putK d n l k).wr, ∃ j, j < k ∧ x.1 = 2 + n * ((d.las.length - 2) / 2) + j
  | 0, x, hx => by
    have : x ∈ d.wr := hx
    rw [hw] at this
    cases this
  | k + 1, x, hx => by
    have : x ∈ (putK d n l k).wr ++ [(2 + n * ((d.las.length - 2) / 2) + k, secOf l k)] := hx
    rcases List.mem_append.1 this with h | h
    · obtain ⟨j, h1, h2⟩ := putK_mem d n l hw k x h
      exact ⟨j, by omega, h2⟩
    · rw [List.mem_singleton.1 h]
      exact ⟨k, by omega, rfl⟩

/- What a slot holds. -/
theorem raw_sec {d : Dv} (hd : DvOk d) (n : Nat) (l : List UInt8) : ∀ j, (∀ i, i < j → secAt d n i = secOf l i) → 64 * j ≤ l.length + 63 → (rawL d n j).take l.length = l.take (64 * j)
  | 0, _, _ => by simp [rawL]
  | j + 1, h, hl => by
    rw [raw_take hd n j l.length (by omega), raw_sec hd n l j (fun i hi => h i (by omega)) (by omega), h j (by omega)]
    have e : (secOf l j).take (min 64 (l.length - 64 * j)) = (l.drop (64 * j)).take 64 := by
      unfold secOf
      rw [List.take_append_of_le_length (by rw [List.length_take, List.length_drop]; omega), List.take_take]
      rw [List.take_eq_take_iff, List.length_drop]
      omega
    rw [e, show 64 * (j + 1) = 64 * j + 64 by omega, List.take_add]
theorem bytL_is {d : Dv} (hd : DvOk d) (n : Nat) (l : List UInt8) (h : ∀ i, i < (l.length + 63) / 64 → secAt d n i = secOf l i) : bytL d n l.length = l := by
  unfold bytL
  rw [raw_sec hd n l _ h (by omega)]
  exact List.take_of_length_le (by omega)
theorem raw_same {d d' : Dv} (n : Nat) : ∀ j, (∀ i, i < j → secAt d' n i = secAt d n i) → rawL d' n j = rawL d n j
  | 0, _ => rfl
  | j + 1, h => by
    unfold rawL
    rw [raw_same n j (fun i hi => h i (by omega)), h j (by omega)]
theorem bytL_same {d d' : Dv} (n L : Nat) (h : ∀ i, i < (L + 63) / 64 → secAt d' n i = secAt d n i) : bytL d' n L = bytL d n L := by
  unfold bytL
  rw [raw_same n _ h]
/-- A slot whose sectors are the same holds the same. -/
theorem holds_same {d d' : Dv} {k : Nat} (hl : d'.las.length = d.las.length) (hr : readS d' k = readS d k) (hs : ∀ i, i < (d.las.length - 2) / 2 → secAt d' k i = secAt d k i) (h : HoldsS d k) : HoldsS d' k ∧ bytL d' k (rN (readS d' k)).toNat = bytL d k (rN (readS d k)).toNat := by
  obtain ⟨h1, h2, h3, h4⟩ := h
  have hb : bytL d' k (rN (readS d k)).toNat = bytL d k (rN (readS d k)).toNat := bytL_same _ _ fun i hi => hs i (by omega)
  unfold HoldsS
  rw [hr, hl, hb]
  exact ⟨⟨h1, h2, h3, h4⟩, rfl⟩
theorem holds_new {d : Dv} (hd : DvOk d) {k : Nat} {t : V} {l : List UInt8} (hr : readS d k = rootS t (BitVec.ofNat 32 l.length) (crcL l)) (ht : t ≠ 0#64) (hl : l.length ≤ (d.las.length - 2) / 2 * 64) (hs : ∀ i, i < (l.length + 63) / 64 → secAt d k i = secOf l i) : HoldsS d k ∧ rT (readS d k) = t ∧ bytL d k (rN (readS d k)).toNat = l := by
  have hm := hd.most
  have hn : (BitVec.ofNat 32 l.length).toNat = l.length := by
    rw [BitVec.toNat_ofNat]
    omega
  have hb := bytL_is hd k l hs
  unfold HoldsS
  rw [hr, root_T, root_N, root_S, hn, hb]
  exact ⟨⟨rfl, ht, hl, rfl⟩, rfl, rfl⟩
theorem the_new {d : Dv} {k : Nat} (hk : k ≤ 1) (h : HoldsS d k) (ho : HoldsS d (1 - k) → (rT (readS d (1 - k))).toNat < (rT (readS d k)).toNat) : theL d = ⟨k, rT (readS d k), bytL d k (rN (readS d k)).toNat⟩ := by
  have hp : 0 < (rT (readS d k)).toNat := by
    rcases Nat.eq_zero_or_pos (rT (readS d k)).toNat with e | e
    · exact absurd (BitVec.eq_of_toNat_eq (by rw [e]; rfl)) h.2.1
    · exact e
  have b0 : best d 0 = ⟨1, 0#64, []⟩ := rfl
  unfold theL
  rcases (show k = 0 ∨ k = 1 by omega) with rfl | rfl
  · have b1 : best d 1 = ⟨0, rT (readS d 0), bytL d 0 (rN (readS d 0)).toNat⟩ := best_yes h (by rw [b0]; exact hp)
    rw [best_no (k := 1) (fun ⟨h1, h2⟩ => by rw [b1] at h2; have := ho h1; simp at this h2; omega), b1]
  · refine best_yes h ?_
    by_cases hh : HoldsS d 0 ∧ (best d 0).turn.toNat < (rT (readS d 0)).toNat
    · rw [best_yes hh.1 hh.2]
      exact ho hh.1
    · rw [best_no hh, b0]
      exact hp
theorem the_none {d : Dv} (h0 : ¬ HoldsS d 0) (h1 : ¬ HoldsS d 1) : theL d = ⟨1, 0#64, []⟩ := by
  unfold theL
  rw [best_no (fun h => h1 h.1), best_no (fun h => h0 h.1)]
  rfl
/-- A store's device between deeds: the slot k counts, with the turn t and bytes l; the other one's root is of an elder turn. -/
def Inv (d : Dv) (k : Nat) (t : V) (l : List UInt8) : Prop := d.wr = [] ∧ DvOk d ∧ 4 ≤ d.las.length ∧ k ≤ 1 ∧ ((t = 0#64 ∧ l = [] ∧ k = 1 ∧ rT (readS d 0) = 0#64 ∧ rT (readS d 1) = 0#64) ∨ (HoldsS d k ∧ rT (readS d k) = t ∧ bytL d k (rN (readS d k)).toNat = l ∧ (rT (readS d (1 - k))).toNat < t.toNat))
theorem Inv.the {d : Dv} {k : Nat} {t : V} {l : List UInt8} (h : Inv d k t l) : theL d = ⟨k, t, l⟩ := by
  obtain ⟨h1, h2, h3, h4, ⟨rfl, rfl, rfl, h5, h6⟩ | ⟨h5, rfl, rfl, h6⟩⟩ := h
  · exact the_none (fun h => h.2.1 h5) (fun h => h.2.1 h6)
  · exact the_new h4 h5 fun _ => h6
/-- The half of a slot lies off the other one's, and off the roots. -/
theorem off_half {d : Dv} {k n j i : Nat} (hk : k ≤ 1) (hn : n ≤ 1) (hne : n ≠ k) (hj : j < (d.las.length - 2) / 2) (hi : i < (d.las.length - 2) / 2) : 2 + k * ((d.las.length - 2) / 2) + i ≠ 2 + n * ((d.las.length - 2) / 2) + j := by
  rcases (show k = 0 ∧ n = 1 ∨ k = 1 ∧ n = 0 by omega) with ⟨rfl, rfl⟩ | ⟨rfl, rfl⟩ <;> omega
/-- What put and a settling leave alone. -/
theorem put_keeps {d : Dv} {k : Nat} {t : V} {l b : List UInt8} (h : Inv d k t l) (wri : Int) (sv : Nat → Bool) (hb : b.length ≤ (d.las.length - 2) / 2 * 64) (hw : 0 ≤ wri) : (settled (putT d (1 - k) t b wri) sv).las.length = d.las.length ∧ DvOk (settled (putT d (1 - k) t b wri) sv) ∧ readS (settled (putT d (1 - k) t b wri) sv) k = readS d k ∧ (∀ i, i < (d.las.length - 2) / 2 → secAt (settled (putT d (1 - k) t b wri) sv) k i = secAt d k i) ∧ (readS (settled (putT d (1 - k) t b wri) sv) (1 - k) = readS d (1 - k) ∨ (sv 0 = true ∧ readS (settled (putT d (1 - k) t b wri) sv) (1 - k) = rootS (t + 1#64) (BitVec.ofNat 32 b.length) (crcL b) ∧ ∀ i, i < (b.length + 63) / 64 → secAt (settled (putT d (1 - k) t b wri) sv) (1 - k) i = secOf b i)) := by
  obtain ⟨h1, h2, h3, h4, _⟩ := h
  have hm := h2.most
  have ok : DvOk (putT d (1 - k) t b wri) := putT_ok h2 (by omega) b h3 hb (by rw [h1]; show 0 + 5000 ≤ _; omega)
  have hlen : (settled (putT d (1 - k) t b wri) sv).las.length = d.las.length := by
    show (landAt _ _ _).length = _
    rw [landAt_len]
    unfold putT
    split
    · rw [putK_las]
    · show (landAt _ _ _).length = _
      rw [landAt_len, putK_las]
  refine ⟨hlen, settled_ok ok sv, ?_⟩
  have hsec : ∀ n i, secAt (settled (putT d (1 - k) t b wri) sv) n i = readS (settled (putT d (1 - k) t b wri) sv) (2 + n * ((d.las.length - 2) / 2) + i) := fun n i => by
    unfold secAt
    rw [hlen]
  have hnk : (1 - k) * ((d.las.length - 2) / 2) ≤ (d.las.length - 2) / 2 := by
    rcases (show k = 0 ∨ k = 1 by omega) with rfl | rfl <;> omega
  by_cases hc : wri ≤ ((b.length + 63) / 64 : Nat)
  · have e : putT d (1 - k) t b wri = putK d (1 - k) b wri.toNat := by
      unfold putT
      rw [if_pos hc, if_neg (by omega)]
    have hwn : wri.toNat ≤ (d.las.length - 2) / 2 := by omega
    have hoff : ∀ i, (∀ j, j < wri.toNat → i ≠ 2 + (1 - k) * ((d.las.length - 2) / 2) + j) → readS (settled (putT d (1 - k) t b wri) sv) i = readS d i := fun i hi => by
      rw [readS_off ok, e, putK_las, readS_rest h1]
      intro x hx
      rw [e] at hx
      obtain ⟨j, hj, hx⟩ := putK_mem d (1 - k) b h1 _ x hx
      exact fun e2 => hi j hj (e2.symm.trans hx)
    refine ⟨hoff k fun j hj => by omega, fun i hi => ?_, .inl (hoff _ fun j hj => by omega)⟩
    rw [hsec, hoff _ fun j hj => off_half h4 (by omega) (by omega) (by omega) hi]
    rfl
  · obtain ⟨d2, e2⟩ : ∃ d2, settled (putK d (1 - k) b ((b.length + 63) / 64)) (fun _ => true) = d2 := ⟨_, rfl⟩
    have e : putT d (1 - k) t b wri = dvWrite d2 (1 - k) (rootS (t + 1#64) (BitVec.ofNat 32 b.length) (crcL b)) := by
      unfold putT
      rw [if_neg hc, e2]
    have ok1 : DvOk (putK d (1 - k) b ((b.length + 63) / 64)) := putK_ok h2 (by omega) b h3 _ (by omega) (by rw [h1]; show 0 + _ ≤ _; omega)
    have l2 : d2.las.length = d.las.length := by
      rw [← e2]
      show (landAt _ _ _).length = _
      rw [landAt_len, putK_las]
    have w2 : d2.wr = [] := by rw [← e2]; rfl
    have r2 : ∀ i, readS d2 i = readS (putK d (1 - k) b ((b.length + 63) / 64)) i := fun i => by rw [← e2, readS_sync ok1]
    have hoff : ∀ i, i ≠ 1 - k → readS (settled (putT d (1 - k) t b wri) sv) i = readS d2 i := fun i hi => by
      rw [readS_off ok, e, readS_rest w2]
      · rfl
      · intro x hx
        rw [e] at hx
        have hx' : x ∈ d2.wr ++ [(1 - k, rootS (t + 1#64) (BitVec.ofNat 32 b.length) (crcL b))] := hx
        rw [w2, List.nil_append, List.mem_singleton] at hx'
        rw [hx']
        exact fun e3 => hi e3.symm
    refine ⟨?_, fun i hi => ?_, ?_⟩
    · rw [hoff k (by omega), r2, putK_read _ _ _ _ _ fun j hj => by omega]
    · rw [hsec, hoff _ (by omega), r2, putK_read _ _ _ _ _ fun j hj => off_half h4 (by omega) (by omega) (by omega) hi]
      rfl
    · have hro : readS (settled (putT d (1 - k) t b wri) sv) (1 - k) = if sv 0 then rootS (t + 1#64) (BitVec.ofNat 32 b.length) (crcL b) else readS d2 (1 - k) := by
        rw [readS_settled, e]
        have hwr : (dvWrite d2 (1 - k) (rootS (t + 1#64) (BitVec.ofNat 32 b.length) (crcL b))).wr = [(1 - k, rootS (t + 1#64) (BitVec.ofNat 32 b.length) (crcL b))] := by
          show d2.wr ++ _ = _
          rw [w2]
          rfl
        have hlw : (dvWrite d2 (1 - k) (rootS (t + 1#64) (BitVec.ofNat 32 b.length) (crcL b))).wr.length = 0 + 1 := by rw [hwr]; rfl
        rw [hlw, landAt_succ (x := (1 - k, rootS (t + 1#64) (BitVec.ofNat 32 b.length) (crcL b))) (by rw [hwr]; rfl)]
        have h0 : landAt (dvWrite d2 (1 - k) (rootS (t + 1#64) (BitVec.ofNat 32 b.length) (crcL b))) sv 0 = d2.las := rfl
        rw [h0]
        split
        · rw [getD_set _ _ _ _ (by omega), if_pos rfl]
        · rw [readS_rest w2]
      rw [hro]
      by_cases hv : sv 0 = true
      · rw [if_pos hv]
        refine .inr ⟨hv, rfl, fun i hi => ?_⟩
        rw [hsec, hoff _ (by omega), r2, putK_at _ _ _ _ _ hi]
      · rw [if_neg hv, r2, putK_read _ _ _ _ _ fun j hj => by omega]
        exact .inl rfl
theorem inc_nat {t : V} (h : t.toNat < 18446744073709551615) : (t + 1#64).toNat = t.toNat + 1 := by
  rw [BitVec.toNat_add]
  show (t.toNat + 1) % 18446744073709551616 = _
  omega
/-- What counts behind a put that was settled somehow. -/
theorem inv_put {d : Dv} {k : Nat} {t : V} {l b : List UInt8} (h : Inv d k t l) (wri : Int) (sv : Nat → Bool) (hb : b.length ≤ (d.las.length - 2) / 2 * 64) (hw : 0 ≤ wri) (ht : t.toNat < 18446744073709551615) : Inv (settled (putT d (1 - k) t b wri) sv) k t l ∨ (sv 0 = true ∧ Inv (settled (putT d (1 - k) t b wri) sv) (1 - k) (t + 1#64) b ∧ readS (settled (putT d (1 - k) t b wri) sv) (1 - k) = rootS (t + 1#64) (BitVec.ofNat 32 b.length) (crcL b)) := by
  obtain ⟨p1, p2, p3, p4, p5⟩ := put_keeps h wri sv hb hw
  obtain ⟨h1, h2, h3, h4, h5⟩ := h
  have hi := inc_nat ht
  have hnz : t + 1#64 ≠ 0#64 := fun e => by
    rw [e] at hi
    have : (0#64 : V).toNat = 0 := rfl
    omega
  have hkk : 1 - (1 - k) = k := by omega
  rcases p5 with p5 | ⟨p0, p5, p6⟩
  · left
    refine ⟨rfl, p2, by omega, h4, ?_⟩
    rcases h5 with ⟨rfl, rfl, rfl, a, b⟩ | ⟨a, rfl, rfl, c⟩
    · exact .inl ⟨rfl, rfl, rfl, (congrArg rT p5).trans a, (congrArg rT p3).trans b⟩
    · obtain ⟨q1, q2⟩ := holds_same p1 p3 p4 a
      exact .inr ⟨q1, congrArg rT p3, q2, by rw [p5]; exact c⟩
  · right
    obtain ⟨q1, q2, q3⟩ := holds_new (l := b) p2 p5 hnz (by omega) p6
    refine ⟨p0, ⟨rfl, p2, by omega, by omega, .inr ⟨q1, q2, q3, ?_⟩⟩, p5⟩
    rw [hkk, p3, hi]
    rcases h5 with ⟨rfl, _, rfl, _, c⟩ | ⟨_, e, _, _⟩
    · rw [c]
      decide
    · rw [e]
      omega
/-- Save. -/
theorem inv_save {d : Dv} {k : Nat} {t : V} {l b : List UInt8} (h : Inv d k t l) (hb : b.length ≤ (d.las.length - 2) / 2 * 64) (ht : t.toNat < 18446744073709551615) : Inv (saveD d b) (1 - k) (t + 1#64) b ∧ (saveD d b).las.length = d.las.length ∧ readS (saveD d b) k = readS d k ∧ readS (saveD d b) (1 - k) = rootS (t + 1#64) (BitVec.ofNat 32 b.length) (crcL b) := by
  have e : saveD d b = settled (putT d (1 - k) t b 9223372036854775807) (fun _ => true) := by
    unfold saveD
    rw [h.the]
  rw [e]
  obtain ⟨p1, p2, p3, p4, p5⟩ := put_keeps h 9223372036854775807 (fun _ => true) hb (by omega)
  rcases inv_put h 9223372036854775807 (fun _ => true) hb (by omega) ht with q | ⟨_, q, q2⟩
  · exfalso
    obtain ⟨h1, h2, h3, h4, h5⟩ := h
    have hm := h2.most
    have ok : DvOk (putT d (1 - k) t b 9223372036854775807) := putT_ok h2 (by omega) b h3 hb (by rw [h1]; show 0 + 5000 ≤ _; omega)
    have hr : readS (settled (putT d (1 - k) t b 9223372036854775807) fun _ => true) (1 - k) = rootS (t + 1#64) (BitVec.ofNat 32 b.length) (crcL b) := by
      rw [readS_sync ok]
      unfold putT
      rw [if_neg (by omega), readS_write, if_pos rfl]
    obtain ⟨_, _, _, _, ⟨rfl, _, rfl, c, _⟩ | ⟨_, _, _, c⟩⟩ := q
    · rw [show (0 : Nat) = 1 - 1 from rfl, hr, root_T] at c
      exact absurd c (by decide)
    · rw [hr, root_T, inc_nat ht] at c
      omega
  · exact ⟨q, p1, p3, q2⟩
/-- Torn. -/
theorem inv_torn {d : Dv} {k : Nat} {t : V} {l b : List UInt8} (h : Inv d k t l) (wri : Int) (sv : List Bool) (hb : b.length ≤ (d.las.length - 2) / 2 * 64) (hw : 0 ≤ wri) (ht : t.toNat < 18446744073709551615) : (tornD d b wri sv).las.length = d.las.length ∧ (Inv (tornD d b wri sv) k t l ∨ (svOf sv 0 = true ∧ Inv (tornD d b wri sv) (1 - k) (t + 1#64) b)) := by
  have e : tornD d b wri sv = settled (putT d (1 - k) t b wri) (svOf sv) := by
    unfold tornD
    rw [h.the]
  rw [e]
  refine ⟨(put_keeps h wri (svOf sv) hb hw).1, ?_⟩
  rcases inv_put h wri (svOf sv) hb hw ht with q | ⟨q0, q, _⟩
  · exact .inl q
  · exact .inr ⟨q0, q⟩


theorem read0 (n i : Nat) : readS (dvNew n) i = sec0 := by
  rw [readS_rest rfl]
  show (List.replicate n sec0).getD i sec0 = sec0
  rw [List.getD_eq_getElem?_getD]
  cases h : (List.replicate n sec0)[i]? with
  | none => rfl
  | some s => exact (List.mem_replicate.1 (List.mem_of_getElem? h)).2
theorem rT0 : rT sec0 = 0#64 := by decide
theorem inv_new {n : Nat} (h1 : 4 ≤ n) (h2 : n ≤ 4096) : Inv (dvNew n) 1 0#64 [] := by
  have hl : (dvNew n).las.length = n := List.length_replicate
  refine ⟨rfl, ⟨fun s hs => ?_, by omega, by omega, fun x hx => (by cases hx), Nat.zero_le _⟩, by omega, Nat.le_refl _, .inl ⟨rfl, rfl, rfl, ?_, ?_⟩⟩
  · rw [(List.mem_replicate.1 hs).2]
    rfl
  · rw [read0, rT0]
  · rw [read0, rT0]
end Go.Proofs.Ytfknjmfkkaoggaa
