/- Elements one within the other, by hand. What is barred, by hand. Strings that a law builds. An element that is empty, by hand. A stream: what its pieces do. Bytes in two pieces, by hand. -/
import Derived.Test.YthmidlmknkbdaaaDoorXLA
import Derived.Laws.IdiomStrings
namespace Go.Proofs.YthmidlmknkbdaaaDoor.Xm
open Go.RowKit

def deepSt (i : Nat) : PS := if i = 0 then st0 else ⟨[], 0, List.replicate i ⟨#[97]⟩, true, true, 0⟩
theorem deep_wait (i : Nat) : (deepSt i).wait = [] ∧ (deepSt i).quote = 0 ∧ (deepSt i).op.length = i ∧ (deepSt i).broken = 0 := by
  unfold deepSt
  split
  · rename_i h
    subst h
    exact ⟨rfl, rfl, rfl, rfl⟩
  · exact ⟨rfl, rfl, List.length_replicate, rfl⟩
theorem deep_root (i : Nat) : ¬ ((deepSt i).op.length = 0 ∧ (deepSt i).rooted = true) := by
  unfold deepSt
  split
  · exact fun h => by cases h.2
  · rename_i h
    exact fun h' => h (by have := h'.1; simp at this; exact this)
theorem deep_inv {i : Nat} (h : i ≤ 8) : Inv (deepSt i) := by
  obtain ⟨h1, h2, h3, _⟩ := deep_wait i
  exact ⟨by rw [h1]; exact Nat.zero_le _, by rw [h3]; exact h, by rw [h2]; decide⟩
theorem deep_tag (i : Nat) : tagL { deepSt i with wait := [], quote := 0 } (60 :: [97] ++ [62]) = beginP { deepSt i with wait := [], quote := 0, begun := true } ⟨#[97]⟩ [] false := by
  have h := tag_begin (st := { deepSt i with wait := [], quote := 0 }) (s := 60 :: [97] ++ [62]) (nm := [97]) (al := []) (ends := false) (charsB_plain (by decide)) (by rw [show isDecl (60 :: [97] ++ [62]) = false by decide, Bool.and_false]) (by decide) (by decide) (by decide) (by decide)
  exact h
theorem deep_next (i : Nat) : ({ ({ deepSt i with wait := [], quote := 0, begun := true } : PS) with rooted := true, op := (deepSt i).op ++ [⟨#[97]⟩] } : PS) = deepSt (i + 1) := by
  cases i with
  | zero => rfl
  | succ n => simp [deepSt, List.replicate_succ']
theorem feed_deep {i : Nat} (h : i < 8) : feedF (deepSt i) [60, 97, 62] = (deepSt (i + 1), [⟨1, ⟨#[97]⟩, [], ⟨#[]⟩⟩]) := by
  obtain ⟨h1, h2, h3, _⟩ := deep_wait i
  have htx : textL { deepSt i with wait := [] } (deepSt i).wait = .ok ({ deepSt i with wait := [] }, []) := by rw [h1]; exact text_none _
  have htag : tagL { ({ deepSt i with wait := [] } : PS) with wait := [], quote := 0 } (60 :: [97] ++ [62]) = .ok (deepSt (i + 1), [⟨1, ⟨#[97]⟩, [], ⟨#[]⟩⟩]) := by
    refine (deep_tag i).trans ?_
    exact (begin_ok (st := { deepSt i with wait := [], quote := 0, begun := true }) (deep_root i) (Nat.zero_le _) noRep_nil (by show (deepSt i).op.length < 8; omega)).trans (congrArg (fun s => Except.ok (s, _)) (deep_next i))
  have h := feed_tag (st := deepSt i) [97] [] (by rw [h1]; rfl) h2 htx (by decide) (by decide) htag
  exact (show feedF (deepSt i) [60, 97, 62] = _ from h).trans rfl
theorem feed_deep8 : (feedF (deepSt 8) [60, 97, 62]).1.broken = 5 := by
  have h1 := feedF_ok (st := deepSt 8) (c := 60) [97, 62] (put_lt (st := deepSt 8) rfl rfl (text_none _))
  have h2 := feed_in [62] [97] { ({ deepSt 8 with wait := [] } : PS) with wait := [60], quote := 0 } 0 rfl (by decide) (by decide)
  have htag : tagL { deepSt 8 with wait := [], quote := 0 } (60 :: [97] ++ [62]) = .error 5 := by
    refine (deep_tag 8).trans ?_
    unfold beginP
    rw [if_neg (deep_root 8), if_neg (by decide), if_neg (fun h => (repB_iff _).2 h noRep_nil), if_pos (by decide)]
  have hp : putF { ({ deepSt 8 with wait := [] } : PS) with wait := [60] ++ [97], quote := 0 } 62 = .error 5 := (put_end (st := { ({ deepSt 8 with wait := [] } : PS) with wait := [60] ++ [97], quote := 0 }) (c := 62) rfl (by decide) rfl).trans htag
  have h3 := feedF_err [] hp
  have hA : feedF (deepSt 8) (60 :: [97, 62]) = ((feedF { ({ deepSt 8 with wait := [] } : PS) with wait := [60], quote := 0 } ([97] ++ [62])).1, [] ++ (feedF { ({ deepSt 8 with wait := [] } : PS) with wait := [60], quote := 0 } ([97] ++ [62])).2) := h1
  rw [hA, h2]
  show (feedF { ({ deepSt 8 with wait := [] } : PS) with wait := [60] ++ [97], quote := 0 } [62]).1.broken = 5
  rw [h3]

def Deep (i : Nat) (st : PS) : Prop := (i ≤ 8 ∧ st = deepSt i) ∨ (8 < i ∧ st.broken = 5 ∧ Inv st)
theorem Deep.inv {i : Nat} {st : PS} (h : Deep i st) : Inv st := by
  rcases h with ⟨h, rfl⟩ | h
  · exact deep_inv h
  · exact h.2.2
/-- One round. -/
theorem Deep.next {i : Nat} {st st' : PS} (h : Deep i st) (hs : Sim st' (FeedF st [60, 97, 62]).1) : Deep (i + 1) st' ∧ (i < 8 → st'.broken = 0 ∧ st'.op.length = i + 1 ∧ (FeedF st [60, 97, 62]).2.length = 1) ∧ (8 ≤ i → st'.broken = 5) := by
  have hi := hs.inv (FeedF_inv _ h.inv)
  rcases h with ⟨h8, rfl⟩ | ⟨h8, hb, _⟩
  · rw [FeedF_of (deep_wait i).2.2.2] at hs ⊢
    rcases Nat.lt_or_ge i 8 with hlt | hge
    · rw [feed_deep hlt] at hs ⊢
      obtain rfl := hs.ok (deep_wait (i + 1)).2.2.2
      exact ⟨.inl ⟨by omega, rfl⟩, fun _ => ⟨(deep_wait _).2.2.2, (deep_wait _).2.2.1, rfl⟩, fun h => by omega⟩
    · obtain rfl : i = 8 := by omega
      have hb := hs.broken.trans feed_deep8
      exact ⟨.inr ⟨by omega, hb, hi⟩, fun h => by omega, fun _ => hb⟩
  · rw [FeedF_broken (by rw [hb]; decide)] at hs
    have hb' := hs.broken.trans hb
    exact ⟨.inr ⟨by omega, hb', hi⟩, fun h => by omega, fun _ => hb'⟩
end Go.Proofs.YthmidlmknkbdaaaDoor.Xm
namespace Go.Proofs.YthmidlmknkbdaaaDoor.Xm
open Go.RowKit

/-- Letters. -/
def Small (l : List UInt8) : Prop := ∀ b ∈ l, 97 ≤ b.toNat ∧ b.toNat ≤ 122
theorem runQ_small : ∀ l : List UInt8, Small l → runQ 0 l = some 0
  | [], _ => rfl
  | b :: l, h => by
    have hb := h b (by simp)
    have e1 : ¬ b.toNat = 0 := by omega
    have e2 : ¬ (b = 39 ∨ b = 34) := by rintro (rfl | rfl) <;> simp at hb
    have e3 : ¬ b = 62 := by rintro rfl; simp at hb
    have hq : quoteL 0 b = (0, false) := by
      unfold quoteL
      rw [if_neg e1, if_neg (by decide), if_neg e2, decide_eq_false e3]
    unfold runQ
    rw [hq]
    exact runQ_small l (fun c hc => h c (by simp [hc]))
theorem chars_small {l : List UInt8} (h : Small l) : ∀ b ∈ l, b.toNat < 128 ∧ 32 ≤ b.toNat := fun b hb => by
  have := h b hb
  omega
/-- What is barred breaks the parser: m is the mark behind the angle. -/
theorem feed_barred {m : UInt8} (hm : m = 33 ∨ m = 63) {l : List UInt8} (h : Small l) (hl : l.length ≤ 100) :
    (feedF st0 ([60, 97, 62] ++ (60 :: m :: l) ++ [62])).2 = [⟨1, ⟨#[97]⟩, [], ⟨#[]⟩⟩] ∧ (feedF st0 ([60, 97, 62] ++ (60 :: m :: l) ++ [62])).1.broken = 7 := by
  have h0 : feedF (deepSt 0) (60 :: ([97] ++ 62 :: ((60 :: m :: l) ++ [62]))) = ((feedF (deepSt 1) ((60 :: m :: l) ++ [62])).1, [] ++ ([⟨1, ⟨#[97]⟩, [], ⟨#[]⟩⟩] ++ (feedF (deepSt 1) ((60 :: m :: l) ++ [62])).2)) := by
    have htag : tagL { ({ deepSt 0 with wait := [] } : PS) with wait := [], quote := 0 } (60 :: [97] ++ [62]) = .ok (deepSt 1, [⟨1, ⟨#[97]⟩, [], ⟨#[]⟩⟩]) := by
      refine (deep_tag 0).trans ?_
      exact (begin_ok (st := { deepSt 0 with wait := [], quote := 0, begun := true }) (deep_root 0) (Nat.zero_le _) noRep_nil (by decide)).trans (congrArg (fun s => Except.ok (s, _)) (deep_next 0))
    exact feed_tag (st := deepSt 0) [97] _ rfl rfl (text_none _) (by decide) (by decide) htag
  have h1 := feedF_ok (st := deepSt 1) (c := 60) (m :: l ++ [62]) (put_lt (st := deepSt 1) rfl rfl (text_none _))
  have hq : runQ 0 (m :: l) = some 0 := by
    have hqm : quoteL 0 m = (0, false) := by rcases hm with rfl | rfl <;> rfl
    unfold runQ
    rw [hqm]
    exact runQ_small l h
  have h2 := feed_in [62] (m :: l) { ({ deepSt 1 with wait := [] } : PS) with wait := [60], quote := 0 } 0 rfl (by simp; omega) hq
  have hch : charsB (60 :: (m :: l) ++ [62]) = true := charsB_plain (fun b hb => by
    simp only [List.cons_append, List.mem_cons, List.mem_append, List.mem_nil_iff, or_false] at hb
    rcases hb with rfl | rfl | hb | rfl
    · decide
    · rcases hm with rfl | rfl <;> decide
    · exact chars_small h b hb
    · decide)
  have htag : tagL { deepSt 1 with wait := [], quote := 0 } (60 :: (m :: l) ++ [62]) = .error 7 := by
    unfold tagL
    rw [if_pos hch]
    refine (if_neg (fun e => absurd (show (false && isDecl (60 :: (m :: l) ++ [62])) = true from e) (by simp))).trans ?_
    rcases hm with rfl | rfl
    · rw [if_pos (by rfl)]
    · rw [if_neg (by simp [List.isPrefixOf]), if_pos (by rfl)]
  have hp : putF { ({ deepSt 1 with wait := [] } : PS) with wait := [60] ++ (m :: l), quote := 0 } 62 = .error 7 := (put_end (st := { ({ deepSt 1 with wait := [] } : PS) with wait := [60] ++ (m :: l), quote := 0 }) (c := 62) rfl (by simp; omega) rfl).trans htag
  have h3 := feedF_err [] hp
  have hA : feedF (deepSt 1) ((60 :: m :: l) ++ [62]) = ({ ({ deepSt 1 with wait := [] } : PS) with wait := [], quote := 0, broken := 7 }, []) := by
    refine (show feedF (deepSt 1) (60 :: (m :: l ++ [62])) = _ from h1).trans ?_
    show ((feedF { ({ deepSt 1 with wait := [] } : PS) with wait := [60], quote := 0 } ((m :: l) ++ [62])).1, [] ++ (feedF { ({ deepSt 1 with wait := [] } : PS) with wait := [60], quote := 0 } ((m :: l) ++ [62])).2) = _
    rw [h2, h3]
    rfl
  rw [hA] at h0
  have h0' : feedF st0 ([60, 97, 62] ++ (60 :: m :: l) ++ [62]) = _ := h0
  rw [h0']
  exact ⟨rfl, rfl⟩
end Go.Proofs.YthmidlmknkbdaaaDoor.Xm
namespace Go.Proofs.YthmidlmknkbdaaaDoor.Xm
open Go.RowKit

/-- The letter of a byte. -/
def letB (c : UInt8) : UInt8 := UInt8.ofNat (97 + c.toNat % 26)
theorem letB_nat (c : UInt8) : (letB c).toNat = 97 + c.toNat % 26 := by
  unfold letB
  rw [UInt8.toNat_ofNat']
  omega
theorem small_more {l : List UInt8} (h : Small l) (c : UInt8) : Small (l ++ [letB c]) := by
  intro b hb
  rcases List.mem_append.1 hb with hb | hb
  · exact h b hb
  · rw [List.mem_singleton.1 hb, letB_nat]
    omega
theorem conv_one (c : UInt8) (w : World) : (convert 33 9 (.slice (some ⟨w.heap.size, 0, none⟩) 1 1)).run Tryd.prog (w.alloc (.cells #[.int .u8 (97 + (c.toNat : Int) % 26)] 5)) = .ok (.string ⟨[letB c].toArray⟩) (w.alloc (.cells #[.int .u8 (97 + (c.toNat : Int) % 26)] 5)) :=
  run_convert_bytes_back (P := Tryd.prog) _ 33 9 5 ⟨w.heap.size, 0, none⟩ 1 [letB c] Tryd.underlying33 Tryd.underlying5 Tryd.underlying9 (fun j hj => by
    have hj0 : j = 0 := by simpa using hj
    subst hj0
    have e : ((letB c).toNat : Int) = 97 + (c.toNat : Int) % 26 := by rw [letB_nat]; omega
    have h : ∀ W : World, W.heap[w.heap.size]? = some (.cells #[.int .u8 (97 + (c.toNat : Int) % 26)] 5) → W.cell? ⟨w.heap.size, 0, none⟩ = some (.int .u8 ((letB c).toNat : Int)) := fun W hW => by
      rw [e]
      simp [World.cell?, hW]
    exact h _ (World.alloc_heap_new w _))
theorem add_two (a b : List UInt8) (h : a.length + b.length ≤ 100000) : ∀ w : World, (Op.stringOp .add ⟨a.toArray⟩ ⟨b.toArray⟩).run Tryd.prog w = .ok (.string ⟨(a ++ b).toArray⟩) w := fun w => by
  rw [run_string_add_sum w _ _ (by show a.toArray.size + b.toArray.size ≤ _; simp; omega), ByteArray.mk_append_mk]
theorem add_one (a : List UInt8) (c : UInt8) (h : a.length ≤ 1000) : ∀ w : World, (Op.stringOp .add ⟨a.toArray⟩ ⟨[c].toArray⟩).run Tryd.prog w = .ok (.string ⟨(a ++ [c]).toArray⟩) w := add_two a [c] (by simp; omega)
/-- Bytes of a text, in a block of their own. -/
theorem to_bytes (s : ByteArray) (w : World) : ∃ W cap, (convert 9 33 (.string s)).run Tryd.prog w = .ok (.slice (some ⟨w.heap.size, 0, none⟩) s.size cap) W ∧ (∃ cs fr, W.heap[w.heap.size]? = some (.cells cs 5 fr) ∧ ∀ (j : Nat) (c : UInt8), s.data.toList[j]? = some c → cs[j]? = some (Value.int .u8 c.toNat)) ∧ W.heap.size = w.heap.size + 1 ∧ Below w.heap.size w W := by
  refine ⟨_, _, run_bytes_of_string w 9 33 5 s Tryd.underlying9 Tryd.underlying33 Tryd.underlying5, ⟨_, _, World.alloc_heap_new w.drew _, fun j c hj => ?_⟩, by simp, ((Below.refl _ w).drew).alloc (Nat.le_refl _) _⟩
  have hlt := (List.getElem?_eq_some_iff.1 hj).1
  rw [Array.length_toList] at hlt
  unfold bytesRow
  rw [Array.getElem?_append_left (by rw [Array.size_map]; exact hlt), Array.getElem?_map]
  rw [Array.getElem?_toList] at hj
  rw [hj]
  rfl
end Go.Proofs.YthmidlmknkbdaaaDoor.Xm
namespace Go.Proofs.YthmidlmknkbdaaaDoor.Xm
open Go.RowKit

/-- Blanks. -/
def Blk (l : List UInt8) : Prop := ∀ b ∈ l, isBl b = true
def plainB (b : UInt8) : Prop := b.toNat < 128 ∧ (32 ≤ b.toNat ∨ isBl b = true)
theorem chars_plain2 : ∀ l : List UInt8, (∀ b ∈ l, plainB b) → CharsOk l
  | [], _ => ⟨rfl, runes_nil⟩
  | b :: t, h => by
    have hb := h b (by simp)
    have ih := chars_plain2 t (fun c hc => h c (by simp [hc]))
    refine ⟨by rw [Lib.validD_cons b t hb.1]; exact ih.1, ?_⟩
    rw [runes_step _ (by simp), Lib.decodeL_ascii b t hb.1]
    refine ⟨?_, ih.2⟩
    by_cases h32 : 32 ≤ b.toNat
    · exact Or.inr (Or.inr (Or.inr ⟨h32, by have := hb.1; omega, by have := hb.1; omega⟩))
    · rcases hb.2 with h1 | h1
      · exact absurd h1 h32
      · simp only [isBl, Bool.or_eq_true, beq_iff_eq] at h1
        rcases h1 with ((rfl | rfl) | rfl) | rfl
        · exact absurd (by decide) h32
        · exact Or.inl rfl
        · exact Or.inr (Or.inl rfl)
        · exact Or.inr (Or.inr (Or.inl rfl))
theorem small_plain {b : UInt8} (h : 97 ≤ b.toNat ∧ b.toNat ≤ 122) : plainB b := ⟨by omega, .inl (by omega)⟩
theorem blank_lt {b : UInt8} (h : isBl b = true) : b.toNat ≤ 32 ∧ b ≠ 60 ∧ b ≠ 62 ∧ b ≠ 39 ∧ b ≠ 34 ∧ b.toNat ≠ 0 := by
  simp only [isBl, Bool.or_eq_true, beq_iff_eq] at h
  rcases h with ((rfl | rfl) | rfl) | rfl <;> decide
theorem blank_plain {b : UInt8} (h : isBl b = true) : plainB b := ⟨by have := blank_lt h; omega, .inr h⟩
/-- What neither quotes nor ends. -/
def quietB (b : UInt8) : Prop := b.toNat ≠ 0 ∧ b ≠ 39 ∧ b ≠ 34 ∧ b ≠ 62
theorem runQ_quiet : ∀ l : List UInt8, (∀ b ∈ l, quietB b) → runQ 0 l = some 0
  | [], _ => rfl
  | b :: l, h => by
    have hb := h b (by simp)
    have hq : quoteL 0 b = (0, false) := by
      unfold quoteL
      rw [if_neg hb.1, if_neg (by decide), if_neg (by rintro (e | e); exact hb.2.1 e; exact hb.2.2.1 e), decide_eq_false hb.2.2.2]
    unfold runQ
    rw [hq]
    exact runQ_quiet l (fun c hc => h c (by simp [hc]))
theorem small_quiet {b : UInt8} (h : 97 ≤ b.toNat ∧ b.toNat ≤ 122) : quietB b := ⟨by omega, by rintro rfl; simp at h, by rintro rfl; simp at h, by rintro rfl; simp at h⟩
theorem blank_quiet {b : UInt8} (h : isBl b = true) : quietB b := by
  have := blank_lt h
  exact ⟨this.2.2.2.2.2, this.2.2.2.1, this.2.2.2.2.1, this.2.2.1⟩

theorem nameGo_eq (l : List UInt8) (N : Nat) : ∀ (f n : Nat), n ≤ N → N ≤ n + f → (∀ k, n ≤ k → k < N → k < l.length ∧ nmB (l.take (k + 1)) = true) → ¬ (N < l.length ∧ nmB (l.take (N + 1)) = true) → nameGo l f n = N
  | 0, n, h1, h2, _, _ => by
    show n = N
    omega
  | f + 1, n, h1, h2, h3, h4 => by
    unfold nameGo
    by_cases he : n = N
    · subst he
      rw [if_neg h4]
    · rw [if_pos (h3 n (Nat.le_refl _) (by omega))]
      exact nameGo_eq l N f (n + 1) (by omega) (by omega) (fun k hk hk' => h3 k (by omega) hk') h4
theorem small_nmB {l : List UInt8} (h : Small l) (h1 : 1 ≤ l.length) (h2 : l.length ≤ 32) : nmB l = true := by
  unfold nmB
  rw [decide_eq_true h1, decide_eq_true h2, Bool.true_and, Bool.true_and, List.all_eq_true]
  rintro ⟨b, j⟩ hx
  have hb := h b (List.mem_of_getElem? (List.mem_zipIdx_iff_getElem?.1 hx))
  have : isBb b = true := by
    unfold isBb
    rw [decide_eq_true hb.1, decide_eq_true hb.2]
    simp
  simp [this]
theorem nmB_bad {l : List UInt8} {r : UInt8} (hr : isBb r = false ∧ isGb r = false) : nmB (l ++ [r]) = false := by
  unfold nmB
  rw [Bool.and_eq_false_iff]
  right
  rw [List.all_eq_false]
  refine ⟨(r, l.length), List.mem_zipIdx_iff_getElem?.2 (by simp), ?_⟩
  simp [hr.1, hr.2]
/-- The name that letters make, ahead of what is no letter. -/
theorem nameL_small {nm rest : List UInt8} {r : UInt8} (h : Small nm) (h1 : 1 ≤ nm.length) (h2 : nm.length ≤ 31) (hr : isBb r = false ∧ isGb r = false) : nameL (nm ++ r :: rest) = some (nm, r :: rest) := by
  have hlen : nameLen (nm ++ r :: rest) = nm.length := by
    unfold nameLen
    refine nameGo_eq _ nm.length _ 0 (Nat.zero_le _) (by simp) (fun k _ hk => ⟨by simp; omega, ?_⟩) (fun hh => ?_)
    · rw [List.take_append_of_le_length (by omega)]
      refine small_nmB (fun b hb => h b (List.mem_of_mem_take hb)) ?_ ?_ <;> rw [List.length_take] <;> omega
    · have h3 := hh.2
      rw [List.take_append, List.take_of_length_le (by omega), show nm.length + 1 - nm.length = 1 by omega] at h3
      have h4 : nmB (nm ++ [r]) = true := h3
      rw [nmB_bad hr] at h4
      cases h4
  unfold nameL
  rw [hlen, if_neg (by omega)]
  simp
theorem drop_blanks {g rest : List UInt8} {r : UInt8} (h : Blk g) (hr : isBl r = false) : (g ++ r :: rest).dropWhile isBl = r :: rest := by
  rw [List.dropWhile_append_of_pos h]
  simp [hr]
theorem end_bytes : (isBb 47 = false ∧ isGb 47 = false) ∧ (isBb 62 = false ∧ isGb 62 = false) ∧ isBl 47 = false ∧ isBl 62 = false := by decide
theorem blank_no {b : UInt8} (h : isBl b = true) : isBb b = false ∧ isGb b = false := by
  simp only [isBl, Bool.or_eq_true, beq_iff_eq] at h
  rcases h with ((rfl | rfl) | rfl) | rfl <;> decide
/-- A name, blanks, and what is behind them. -/
theorem name_gap {nm g rest : List UInt8} {r : UInt8} (h : Small nm) (h1 : 1 ≤ nm.length) (h2 : nm.length ≤ 31) (hg : Blk g) (hr : isBb r = false ∧ isGb r = false) : nameL (nm ++ (g ++ r :: rest)) = some (nm, g ++ r :: rest) := by
  cases g with
  | nil => exact nameL_small h h1 h2 hr
  | cons b g => exact nameL_small h h1 h2 (blank_no (hg b (by simp)))
theorem beginL_gap {nm g : List UInt8} (h : Small nm) (h1 : 1 ≤ nm.length) (h2 : nm.length ≤ 31) (hg : Blk g) : beginL (60 :: (nm ++ (g ++ [47, 62]))) = some (nm, [], true) ∧ beginL (60 :: (nm ++ (g ++ [62]))) = some (nm, [], false) := by
  have m1 : ∀ t, mustL [60] (60 :: t) = some t := fun t => by simp [mustL, mayL, List.isPrefixOf]
  have key : ∀ (r : UInt8) (t : List UInt8), isBl r = false → atEndL (r :: t) = true → ∀ f, attrsGo (f + 1) (g ++ r :: t) [] = some ([], r :: t) := fun r t hr ha f => by
    unfold attrsGo
    rw [drop_blanks hg hr, ha, if_neg (fun hh => by cases hh.2)]
  constructor
  · unfold beginL
    rw [m1]
    show (nameL (nm ++ (g ++ 47 :: [62]))).bind _ = _
    rw [name_gap h h1 h2 hg end_bytes.1]
    show (attrsGo ((g ++ [47, 62]).length + 1) (g ++ 47 :: [62]) []).bind _ = _
    rw [key 47 [62] end_bytes.2.2.1 rfl]
    rfl
  · unfold beginL
    rw [m1]
    show (nameL (nm ++ (g ++ 62 :: []))).bind _ = _
    rw [name_gap h h1 h2 hg end_bytes.2.1]
    show (attrsGo ((g ++ [62]).length + 1) (g ++ 62 :: []) []).bind _ = _
    rw [key 62 [] end_bytes.2.2.2 rfl]
    rfl
theorem endL_gap {nm g : List UInt8} (h : Small nm) (h1 : 1 ≤ nm.length) (h2 : nm.length ≤ 31) (hg : Blk g) : endL (60 :: 47 :: (nm ++ (g ++ [62]))) = some nm := by
  unfold endL
  have m1 : mustL [60, 47] (60 :: 47 :: (nm ++ (g ++ [62]))) = some (nm ++ (g ++ [62])) := by simp [mustL, mayL, List.isPrefixOf]
  rw [m1]
  show (nameL (nm ++ (g ++ 62 :: []))).bind _ = _
  rw [name_gap h h1 h2 hg end_bytes.2.1]
  show (mustL [62] ((g ++ 62 :: []).dropWhile isBl)).map _ = _
  rw [drop_blanks hg end_bytes.2.2.2]
  rfl
theorem begin_both {st : PS} {nm : ByteArray} (h1 : ¬ (st.op.length = 0 ∧ st.rooted = true)) (h4 : st.op.length < 8) : beginP st nm [] true = .ok ({ st with rooted := true }, [⟨1, nm, [], ⟨#[]⟩⟩, ⟨2, nm, [], ⟨#[]⟩⟩]) := by
  unfold beginP
  rw [if_neg h1, if_neg (by simp), if_neg (fun h => (repB_iff _).2 h noRep_nil), if_neg (by omega), if_pos rfl]
def empTok (nm : List UInt8) : List Tok := [⟨1, ⟨nm.toArray⟩, [], ⟨#[]⟩⟩, ⟨2, ⟨nm.toArray⟩, [], ⟨#[]⟩⟩]
theorem small_head {nm t : List UInt8} (h : Small nm) (h1 : 1 ≤ nm.length) : [60, 33].isPrefixOf (60 :: (nm ++ t)) = false ∧ [60, 63].isPrefixOf (60 :: (nm ++ t)) = false ∧ [60, 47].isPrefixOf (60 :: (nm ++ t)) = false ∧ isDecl (60 :: (nm ++ t)) = false := by
  cases nm with
  | nil => simp at h1
  | cons b nm =>
    have hb := h b (by simp)
    have e : ∀ c : UInt8, c.toNat < 97 → (c == b) = false := fun c hc => by rw [beq_eq_false_iff_ne]; rintro rfl; omega
    refine ⟨?_, ?_, ?_, ?_⟩
    · simp [List.isPrefixOf, e 33 (by decide)]
    · simp [List.isPrefixOf, e 63 (by decide)]
    · simp [List.isPrefixOf, e 47 (by decide)]
    · simp [isDecl, mayL, List.isPrefixOf, e 63 (by decide)]
theorem bytes_plain {nm g t : List UInt8} (h : Small nm) (hg : Blk g) (ht : ∀ b ∈ t, plainB b) : ∀ b ∈ 60 :: (nm ++ (g ++ t)), plainB b := by
  intro b hb
  simp only [List.mem_cons, List.mem_append] at hb
  rcases hb with rfl | hb | hb | hb
  · exact ⟨by decide, .inl (by decide)⟩
  · exact small_plain (h b hb)
  · exact blank_plain (hg b hb)
  · exact ht b hb
/-- A tag that begins an element and ends it. -/
theorem feed_one {nm g r : List UInt8} (h : Small nm) (h1 : 1 ≤ nm.length) (h2 : nm.length ≤ 31) (hg : Blk g) (hgl : g.length ≤ 10) : feedF st0 (60 :: ((nm ++ (g ++ [47])) ++ 62 :: r)) = ((feedF ⟨[], 0, [], true, true, 0⟩ r).1, empTok nm ++ (feedF ⟨[], 0, [], true, true, 0⟩ r).2) := by
  have hs : (60 :: (nm ++ (g ++ [47])) ++ [62]) = 60 :: (nm ++ (g ++ [47, 62])) := by simp
  have htag : tagL { st0 with wait := [], quote := 0 } (60 :: (nm ++ (g ++ [47])) ++ [62]) = .ok (⟨[], 0, [], true, true, 0⟩, empTok nm) := by
    rw [hs]
    have hh := small_head (t := g ++ [47, 62]) h h1
    rw [tag_begin (nm := nm) (al := []) (ends := true) ((charsB_iff _).2 (chars_plain2 _ (bytes_plain h hg (fun b hb => by simp at hb; rcases hb with rfl | rfl <;> exact ⟨by decide, .inl (by decide)⟩)))) (by rw [hh.2.2.2, Bool.and_false]) hh.1 hh.2.1 hh.2.2.1 (beginL_gap h h1 h2 hg).1]
    exact begin_both (by intro hh; cases hh.2) (by decide)
  have hf := feed_tag (st := st0) (nm ++ (g ++ [47])) r rfl rfl (text_none _) (by simp; omega) (runQ_quiet _ (fun b hb => by
    simp only [List.mem_append, List.mem_singleton] at hb
    rcases hb with hb | hb | rfl
    · exact small_quiet (h b hb)
    · exact blank_quiet (hg b hb)
    · exact ⟨by decide, by decide, by decide, by decide⟩)) htag
  rw [hf]
  rfl
theorem feed_blanks : ∀ (g : List UInt8) (st : PS), Blk g → inTagL st.wait = false → st.wait.length + g.length ≤ 100 → (feedF st g).2 = [] ∧ (feedF st g).1.broken = st.broken
  | [], st, _, _, _ => ⟨rfl, rfl⟩
  | b :: g, st, h, hi, hl => by
    have hb := blank_lt (h b (by simp))
    rw [feedF_ok g (put_text hb.2.1 hi (by simp at hl; omega))]
    have hi2 : inTagL (st.wait ++ [b]) = false := by
      cases hw : st.wait with
      | nil =>
        show (b == 60) = false
        rw [beq_eq_false_iff_ne]
        exact hb.2.1
      | cons a l =>
        rw [hw] at hi
        exact hi
    have ih := feed_blanks g { st with wait := st.wait ++ [b] } (fun c hc => h c (by simp [hc])) hi2 (by simp at hl ⊢; omega)
    exact ⟨ih.1, ih.2⟩
/-- The same in two tags. -/
theorem feed_two {nm g : List UInt8} (h : Small nm) (h1 : 1 ≤ nm.length) (h2 : nm.length ≤ 31) (hg : Blk g) (hgl : g.length ≤ 10) : (feedF st0 (60 :: ((nm ++ g) ++ 62 :: (60 :: ((47 :: (nm ++ g)) ++ 62 :: []))))).2 = empTok nm ∧ (feedF st0 (60 :: ((nm ++ g) ++ 62 :: (60 :: ((47 :: (nm ++ g)) ++ 62 :: []))))).1.broken = 0 := by
  have hs : (60 :: (nm ++ g) ++ [62]) = 60 :: (nm ++ (g ++ [62])) := by simp
  have hq : ∀ b ∈ nm ++ g, quietB b := fun b hb => by
    rcases List.mem_append.1 hb with hb | hb
    · exact small_quiet (h b hb)
    · exact blank_quiet (hg b hb)
  have hpl : ∀ b ∈ [62], plainB (b : UInt8) := fun b hb => by rw [List.mem_singleton.1 hb]; exact ⟨by decide, .inl (by decide)⟩
  have htag : tagL { st0 with wait := [], quote := 0 } (60 :: (nm ++ g) ++ [62]) = .ok (⟨[], 0, [⟨nm.toArray⟩], true, true, 0⟩, [⟨1, ⟨nm.toArray⟩, [], ⟨#[]⟩⟩]) := by
    rw [hs]
    have hh := small_head (t := g ++ [62]) h h1
    rw [tag_begin (nm := nm) (al := []) (ends := false) ((charsB_iff _).2 (chars_plain2 _ (bytes_plain h hg hpl))) (by rw [hh.2.2.2, Bool.and_false]) hh.1 hh.2.1 hh.2.2.1 (beginL_gap h h1 h2 hg).2]
    exact begin_ok (by intro hh; cases hh.2) (by simp [toB]) noRep_nil (by decide)
  have hs2 : (60 :: (47 :: (nm ++ g)) ++ [62]) = 60 :: 47 :: (nm ++ (g ++ [62])) := by simp
  have htag2 : tagL { (⟨[], 0, [⟨nm.toArray⟩], true, true, 0⟩ : PS) with wait := [], quote := 0 } (60 :: (47 :: (nm ++ g)) ++ [62]) = .ok (⟨[], 0, [], true, true, 0⟩, [⟨2, ⟨nm.toArray⟩, [], ⟨#[]⟩⟩]) := by
    rw [hs2]
    have hpl2 : ∀ b ∈ 60 :: 47 :: (nm ++ (g ++ [62])), plainB b := by
      intro b hb
      rcases List.mem_cons.1 hb with rfl | hb
      · exact ⟨by decide, .inl (by decide)⟩
      · rcases List.mem_cons.1 hb with rfl | hb
        · exact ⟨by decide, .inl (by decide)⟩
        · exact bytes_plain h hg hpl b (List.mem_cons_of_mem _ hb)
    rw [tag_end (nm := nm) ((charsB_iff _).2 (chars_plain2 _ hpl2)) rfl (by simp [List.isPrefixOf]) (by simp [List.isPrefixOf]) (by simp [List.isPrefixOf]) (endL_gap h h1 h2 hg)]
    exact end_ok rfl
  have hf2 := feed_tag (st := ⟨[], 0, [⟨nm.toArray⟩], true, true, 0⟩) (47 :: (nm ++ g)) [] rfl rfl (text_none _) (by simp; omega) (runQ_quiet _ (fun b hb => by
    rcases List.mem_cons.1 hb with rfl | hb
    · exact ⟨by decide, by decide, by decide, by decide⟩
    · exact hq b hb)) htag2
  have hf := feed_tag (st := st0) (nm ++ g) (60 :: ((47 :: (nm ++ g)) ++ 62 :: [])) rfl rfl (text_none _) (by simp; omega) (runQ_quiet _ hq) htag
  rw [hf, hf2]
  exact ⟨rfl, rfl⟩
end Go.Proofs.YthmidlmknkbdaaaDoor.Xm
namespace Go.Proofs.YthmidlmknkbdaaaDoor.Xm
open Go.RowKit

def strB : List UInt8 := [115, 116, 114, 101, 97, 109]
theorem strSmall : Small strB := by
  intro b hb
  simp only [strB, List.mem_cons, List.not_mem_nil, or_false] at hb
  rcases hb with rfl | rfl | rfl | rfl | rfl | rfl <;> decide
def sOpen : PS := ⟨[], 0, [⟨strB.toArray⟩], true, true, 0⟩
def sShut : PS := ⟨[], 0, [], true, true, 0⟩
theorem plain_end {t : List UInt8} (ht : t = [62] ∨ t = [47, 62]) : ∀ b ∈ t, plainB b := by
  intro b hb
  rcases ht with rfl | rfl
  · rw [List.mem_singleton.1 hb]; exact ⟨by decide, .inl (by decide)⟩
  · simp at hb; rcases hb with rfl | rfl <;> exact ⟨by decide, .inl (by decide)⟩
theorem feed_open : feedF st0 [60, 115, 116, 114, 101, 97, 109, 62] = (sOpen, [⟨1, ⟨strB.toArray⟩, [], ⟨#[]⟩⟩]) := by
  have htag : tagL { st0 with wait := [], quote := 0 } (60 :: strB ++ [62]) = .ok (sOpen, [⟨1, ⟨strB.toArray⟩, [], ⟨#[]⟩⟩]) := by
    have hh := small_head (t := [] ++ [62]) strSmall (by decide)
    have hs : 60 :: strB ++ [62] = 60 :: (strB ++ ([] ++ [62])) := rfl
    rw [hs, tag_begin (nm := strB) (al := []) (ends := false) ((charsB_iff _).2 (chars_plain2 _ (bytes_plain strSmall (g := []) (fun b hb => by cases hb) (plain_end (.inl rfl))))) (by rw [hh.2.2.2, Bool.and_false]) hh.1 hh.2.1 hh.2.2.1 (beginL_gap strSmall (by decide) (by decide) (fun b hb => by cases hb)).2]
    exact begin_ok (by intro h; cases h.2) (by simp [toB]) noRep_nil (by decide)
  have h := feed_tag (st := st0) strB [] rfl rfl (text_none _) (by decide) (runQ_quiet _ (fun b hb => small_quiet (strSmall b hb))) htag
  exact (show feedF st0 [60, 115, 116, 114, 101, 97, 109, 62] = _ from h).trans rfl
theorem feed_emp (c : UInt8) (hc : 97 ≤ c.toNat ∧ c.toNat ≤ 122) : feedF sOpen [60, c, 47, 62] = (sOpen, empTok [c]) := by
  have hsm : Small [c] := fun b hb => by rw [List.mem_singleton.1 hb]; exact hc
  have htag : tagL { sOpen with wait := [], quote := 0 } (60 :: [c, 47] ++ [62]) = .ok (sOpen, empTok [c]) := by
    have hh := small_head (t := [] ++ [47, 62]) hsm (by simp)
    have hs : 60 :: [c, 47] ++ [62] = 60 :: ([c] ++ ([] ++ [47, 62])) := rfl
    rw [hs, tag_begin (nm := [c]) (al := []) (ends := true) ((charsB_iff _).2 (chars_plain2 _ (bytes_plain hsm (g := []) (fun b hb => by cases hb) (plain_end (.inr rfl))))) (by rw [hh.2.2.2, Bool.and_false]) hh.1 hh.2.1 hh.2.2.1 (beginL_gap hsm (by simp) (by simp) (fun b hb => by cases hb)).1]
    exact begin_both (by intro h; cases h.1) (by decide)
  have h := feed_tag (st := sOpen) [c, 47] [] rfl rfl (text_none _) (by simp) (runQ_quiet _ (fun b hb => by
    simp at hb
    rcases hb with rfl | rfl
    · exact small_quiet hc
    · exact ⟨by decide, by decide, by decide, by decide⟩)) htag
  exact (show feedF sOpen [60, c, 47, 62] = _ from h).trans (by simp [feedF])
theorem feed_close : feedF sOpen [60, 47, 115, 116, 114, 101, 97, 109, 62] = (sShut, [⟨2, ⟨strB.toArray⟩, [], ⟨#[]⟩⟩]) := by
  have htag : tagL { sOpen with wait := [], quote := 0 } (60 :: (47 :: strB) ++ [62]) = .ok (sShut, [⟨2, ⟨strB.toArray⟩, [], ⟨#[]⟩⟩]) := by
    have hs : 60 :: (47 :: strB) ++ [62] = 60 :: 47 :: (strB ++ ([] ++ [62])) := rfl
    have hpl : ∀ b ∈ 60 :: 47 :: (strB ++ ([] ++ [62])), plainB b := by
      intro b hb
      rcases List.mem_cons.1 hb with rfl | hb
      · exact ⟨by decide, .inl (by decide)⟩
      · rcases List.mem_cons.1 hb with rfl | hb
        · exact ⟨by decide, .inl (by decide)⟩
        · exact bytes_plain strSmall (g := []) (fun b hb => by cases hb) (plain_end (.inl rfl)) b (List.mem_cons_of_mem _ hb)
    rw [hs, tag_end (nm := strB) ((charsB_iff _).2 (chars_plain2 _ hpl)) rfl (by simp [List.isPrefixOf]) (by simp [List.isPrefixOf]) (by simp [List.isPrefixOf]) (endL_gap strSmall (by decide) (by decide) (fun b hb => by cases hb))]
    exact end_ok rfl
  have h := feed_tag (st := sOpen) (47 :: strB) [] rfl rfl (text_none _) (by decide) (runQ_quiet _ (fun b hb => by
    rcases List.mem_cons.1 hb with rfl | hb
    · exact ⟨by decide, by decide, by decide, by decide⟩
    · exact small_quiet (strSmall b hb))) htag
  exact (show feedF sOpen [60, 47, 115, 116, 114, 101, 97, 109, 62] = _ from h).trans rfl
theorem feed_err : (feedF sShut [60, 97, 62]).1.broken = 6 := by
  have hsm : Small [97] := fun b hb => by rw [List.mem_singleton.1 hb]; decide
  have hp : putF { sShut with wait := [60] ++ [97], quote := 0 } 62 = .error 6 := by
    rw [put_end (st := { sShut with wait := [60] ++ [97], quote := 0 }) (c := 62) rfl (by decide) rfl]
    have hh := small_head (t := [] ++ [62]) hsm (by decide)
    show tagL { sShut with wait := [], quote := 0 } (60 :: ([97] ++ ([] ++ [62]))) = _
    rw [tag_begin (nm := [97]) (al := []) (ends := false) ((charsB_iff _).2 (chars_plain2 _ (bytes_plain hsm (g := []) (fun b hb => by cases hb) (plain_end (.inl rfl))))) (by rw [hh.2.2.2, Bool.and_false]) hh.1 hh.2.1 hh.2.2.1 (beginL_gap hsm (by decide) (by decide) (fun b hb => by cases hb)).2]
    unfold beginP
    rw [if_pos ⟨rfl, rfl⟩]
  have h1 := feedF_ok (st := sShut) [97, 62] (put_lt (st := sShut) rfl rfl (text_none _))
  have h2 : feedF { sShut with wait := [60], quote := 0 } ([97] ++ [62]) = feedF { sShut with wait := [60] ++ [97], quote := 0 } [62] := feed_in [62] [97] { sShut with wait := [60], quote := 0 } 0 rfl (by decide) rfl
  have h3 : feedF { sShut with wait := [60] ++ [97], quote := 0 } [62] = ({ sShut with wait := [], quote := 0, broken := 6 }, []) := by
    simp only [feedF]
    rw [hp]
  have h4 : (feedF sShut [60, 97, 62]).1 = (feedF { sShut with wait := [60], quote := 0 } ([97] ++ [62])).1 := congrArg Prod.fst h1
  rw [h4, h2, h3]
end Go.Proofs.YthmidlmknkbdaaaDoor.Xm
namespace Go.Proofs.YthmidlmknkbdaaaDoor.Xm
open Go.RowKit

theorem feedF_app : ∀ (a : List UInt8) (st : PS) (b : List UInt8), Inv st → st.broken = 0 → feedF st (a ++ b) = ((FeedF (feedF st a).1 b).1, (feedF st a).2 ++ (FeedF (feedF st a).1 b).2)
  | [], st, b, _, h0 => by
    show feedF st b = ((FeedF st b).1, [] ++ (FeedF st b).2)
    rw [FeedF_of h0]
    rfl
  | c :: a, st, b, hI, h0 => by
    cases hp : putF st c with
    | error e =>
      have he : e ≠ 0 := by rcases putF_err hp with h | h | h <;> rw [h] <;> decide
      rw [List.cons_append, feedF_err (a ++ b) hp, feedF_err a hp, FeedF_broken (show ({ st with broken := e, wait := [], quote := 0 } : PS).broken ≠ 0 from he)]
      rfl
    | ok x =>
      have hk := putF_keeps (st' := x.1) (t' := x.2) hp hI
      rw [List.cons_append, feedF_ok (st' := x.1) (t := x.2) (a ++ b) hp, feedF_ok (st' := x.1) (t := x.2) a hp, feedF_app a x.1 b hk.1 (hk.2.1.trans h0)]
      simp [List.append_assoc]
/-- It does not matter how bytes are cut. -/
theorem FeedF_app {st : PS} (a b : List UInt8) (hI : Inv st) : FeedF st (a ++ b) = ((FeedF (FeedF st a).1 b).1, (FeedF st a).2 ++ (FeedF (FeedF st a).1 b).2) := by
  by_cases h0 : st.broken = 0
  · rw [FeedF_of h0, FeedF_of h0]
    exact feedF_app a st b hI h0
  · rw [FeedF_broken h0, FeedF_broken h0, FeedF_broken h0]
    rfl
end Go.Proofs.YthmidlmknkbdaaaDoor.Xm
