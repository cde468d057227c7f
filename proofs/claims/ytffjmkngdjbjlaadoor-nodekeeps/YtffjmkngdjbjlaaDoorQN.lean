/- What edits keep: plain reasoning. What edits answer stays right: plain reasoning. -/
import Derived.Test.YtffjmkngdjbjlaaDoorNe17
namespace Go.Proofs.YtffjmkngdjbjlaaDoor
open Go.RowKit

section
variable {α : Type} (f : α → ByteArray)
def woG (k : ByteArray) (L : List α) : List α := L.filter fun y => !decide (f y = k)
def inG (x : α) (L : List α) : List α := (woG f (f x) L).takeWhile (fun y => decide ((f y).toList < (f x).toList)) ++ x :: (woG f (f x) L).dropWhile (fun y => decide ((f y).toList < (f x).toList))
def RiseG (L : List α) : Prop := L.Pairwise fun x y => (f x).toList < (f y).toList
theorem riseG_map (L : List α) : RiseS (L.map f) ↔ RiseG f L := by
  unfold RiseS RiseG
  rw [List.pairwise_map]
theorem woG_rise {k : ByteArray} {L : List α} (h : RiseG f L) : RiseG f (woG f k L) := List.Pairwise.filter _ h
theorem woG_ne {k : ByteArray} {L : List α} {y : α} (h : y ∈ woG f k L) : f y ≠ k ∧ y ∈ L := by
  have := List.mem_filter.1 h
  exact ⟨by simpa using this.2, this.1⟩
theorem tw_lt {x : α} : ∀ {F : List α}, ∀ y ∈ F.takeWhile (fun y => decide ((f y).toList < (f x).toList)), (f y).toList < (f x).toList
  | [], y, hy => by simp at hy
  | z :: F, y, hy => by
    by_cases hz : (f z).toList < (f x).toList
    · rw [List.takeWhile_cons_of_pos (by simpa using hz)] at hy
      rcases List.mem_cons.1 hy with e | h
      · rw [e]; exact hz
      · exact tw_lt y h
    · rw [List.takeWhile_cons_of_neg (by simpa using hz)] at hy
      simp at hy
theorem dw_gt {x : α} : ∀ {F : List α}, RiseG f F → (∀ y ∈ F, f y ≠ f x) → ∀ y ∈ F.dropWhile (fun y => decide ((f y).toList < (f x).toList)), (f x).toList < (f y).toList
  | [], _, _, y, hy => by simp at hy
  | z :: F, hR, hne, y, hy => by
    have hR' := List.pairwise_cons.1 hR
    by_cases hz : (f z).toList < (f x).toList
    · rw [List.dropWhile_cons_of_pos (by simpa using hz)] at hy
      exact dw_gt hR'.2 (fun y h => hne y (List.mem_cons_of_mem _ h)) y hy
    · rw [List.dropWhile_cons_of_neg (by simpa using hz)] at hy
      have hxz : (f x).toList < (f z).toList := str_total hz (fun e => hne z List.mem_cons_self (ba_ext e))
      rcases List.mem_cons.1 hy with e | h
      · rw [e]; exact hxz
      · exact str_trans hxz (hR'.1 y h)
theorem inG_rise {x : α} {L : List α} (h : RiseG f L) : RiseG f (inG f x L) := by
  have hw := woG_rise f (k := f x) h
  have hne : ∀ y ∈ woG f (f x) L, f y ≠ f x := fun y hy => (woG_ne f hy).1
  have hd := dw_gt f hw hne
  have ht := tw_lt f (x := x) (F := woG f (f x) L)
  unfold inG RiseG
  rw [List.pairwise_append, List.pairwise_cons]
  refine ⟨hw.sublist (List.takeWhile_sublist _), ⟨hd, hw.sublist (List.dropWhile_sublist _)⟩, fun a ha b hb => ?_⟩
  rcases List.mem_cons.1 hb with e | hb
  · rw [e]; exact ht a ha
  · exact str_trans (ht a ha) (hd b hb)
theorem inG_mem {x y : α} {L : List α} (h : y ∈ inG f x L) : y = x ∨ (y ∈ L ∧ f y ≠ f x) := by
  unfold inG at h
  rcases List.mem_append.1 h with h | h
  · exact .inr ⟨(woG_ne f ((List.takeWhile_sublist _).subset h)).2, (woG_ne f ((List.takeWhile_sublist _).subset h)).1⟩
  · rcases List.mem_cons.1 h with h | h
    · exact .inl h
    · exact .inr ⟨(woG_ne f ((List.dropWhile_sublist _).subset h)).2, (woG_ne f ((List.dropWhile_sublist _).subset h)).1⟩
theorem find_woG {k t : ByteArray} {L : List α} : (woG f k L).find? (fun y => decide (f y = t)) = if t = k then none else L.find? (fun y => decide (f y = t)) := by
  by_cases h : t = k
  · rw [if_pos h, List.find?_eq_none]
    intro y hy
    have := (woG_ne f hy).1
    simpa [h] using this
  · rw [if_neg h]
    unfold woG
    rw [List.find?_filter]
    congr 1
    funext y
    by_cases hy : f y = t
    · subst hy
      simp [h]
    · simp [hy]
theorem find_inG {x : α} {t : ByteArray} {L : List α} (_h : RiseG f L) : (inG f x L).find? (fun y => decide (f y = t)) = if t = f x then some x else L.find? (fun y => decide (f y = t)) := by
  have e := List.takeWhile_append_dropWhile (p := fun y => decide ((f y).toList < (f x).toList)) (l := woG f (f x) L)
  by_cases ht : t = f x
  · rw [if_pos ht]
    unfold inG
    have hno : ((woG f (f x) L).takeWhile (fun y => decide ((f y).toList < (f x).toList))).find? (fun y => decide (f y = t)) = none := by
      rw [List.find?_eq_none]
      intro y hy
      have := (woG_ne f ((List.takeWhile_sublist _).subset hy)).1
      simpa [ht] using this
    rw [List.find?_append, hno, Option.none_or, List.find?_cons_of_pos (by simp [ht])]
  · rw [if_neg ht]
    have h1 := find_woG f (k := f x) (t := t) (L := L)
    rw [if_neg ht, ← e, List.find?_append] at h1
    unfold inG
    rw [List.find?_append, List.find?_cons_of_neg (by simpa using fun h => ht h.symm)]
    exact h1
end
theorem woSub_G (k : ByteArray) (L : List (ByteArray × Bool × Int)) : woSub k L = woG (·.1) k L := rfl
theorem woAff_G (k : ByteArray) (L : List (ByteArray × Nat)) : woAff k L = woG (·.1) k L := rfl
theorem inSub_G (x : ByteArray × Bool × Int) (L : List (ByteArray × Bool × Int)) : inSub x L = inG (·.1) x L := rfl
theorem inAff_G (x : ByteArray × Nat) (L : List (ByteArray × Nat)) : inAff x L = inG (·.1) x L := rfl
theorem role_le {n : Nd} (h : RightN n) (s : ByteArray) : 1 ≤ roleL n.affs s ∧ roleL n.affs s ≤ 5 := by
  unfold roleL
  cases hf : n.affs.find? (fun x => decide (x.1 = s)) with
  | none => simp
  | some x =>
    have hx := h.2.2.2.2.1.2.2.1 x (List.mem_of_find?_eq_some hf)
    simp
    exact ⟨hx.2.1, hx.2.2.1⟩
theorem role_mem {l : List (ByteArray × Nat)} (h : RiseG (·.1) l) {x : ByteArray × Nat} (hx : x ∈ l) : roleL l x.1 = x.2 := by
  have hf : l.find? (fun y => decide (y.1 = x.1)) = some x := by
    induction l with
    | nil => simp at hx
    | cons y l ih =>
      have h' := List.pairwise_cons.1 h
      rcases List.mem_cons.1 hx with e | hx
      · subst e
        rw [List.find?_cons_of_pos (by simp)]
      · have hne : y.1 ≠ x.1 := fun e => by
          have h1 : y.1.toList < x.1.toList := h'.1 x hx
          rw [e] at h1
          exact str_irrefl _ h1
        rw [List.find?_cons_of_neg (by simpa using hne)]
        exact ih h'.2 hx
  unfold roleL
  rw [hf]
  rfl
theorem role_afL {l : List (ByteArray × Nat)} (h : RiseG (·.1) l) (s t : ByteArray) (r : Nat) : roleL (afL s r l) t = if t = s then r else roleL l t := by
  unfold roleL afL
  by_cases hr : r = 2
  · rw [if_pos hr, woAff_G, find_woG]
    by_cases ht : t = s
    · rw [if_pos ht, if_pos ht, hr]
      rfl
    · rw [if_neg ht, if_neg ht]
  · rw [if_neg hr, inAff_G, find_inG _ h]
    by_cases ht : t = s
    · rw [if_pos ht, if_pos ht]
      rfl
    · rw [if_neg ht, if_neg ht]
end Go.Proofs.YtffjmkngdjbjlaaDoor
namespace Go.Proofs.YtffjmkngdjbjlaaDoor
open Go.RowKit

theorem old_mem {n : Nd} {s : ByteArray} {x : ByteArray × Bool × Int} (h : oldS n s = some x) : x ∈ n.subs ∧ x.1 = s := by
  unfold oldS at h
  exact ⟨List.mem_of_find?_eq_some h, by simpa using List.find?_some h⟩
theorem inSub_length (x : ByteArray × Bool × Int) (L : List (ByteArray × Bool × Int)) : (inSub x L).length = (woSub x.1 L).length + 1 := by
  unfold inSub
  have h2 := congrArg List.length (List.takeWhile_append_dropWhile (p := fun y : ByteArray × Bool × Int => decide (y.1.toList < x.1.toList)) (l := woSub x.1 L))
  rw [List.length_append] at h2
  rw [List.length_append, List.length_cons]
  omega
theorem woSub_less {s : ByteArray} {L : List (ByteArray × Bool × Int)} {x : ByteArray × Bool × Int} (h : x ∈ L) (e : x.1 = s) : (woSub s L).length < L.length := by
  unfold woSub
  rw [List.length_filter_lt_length_iff_exists]
  exact ⟨x, h, by simp [e]⟩
theorem woSub_len (s : ByteArray) (L : List (ByteArray × Bool × Int)) : (woSub s L).length ≤ L.length := List.length_filter_le _ _
theorem inSub_ok {n : Nd} (h : SubsOk n.subs) {x : ByteArray × Bool × Int} (hx : SubOk x) (hl : n.subs.length < 16 ∨ (oldS n x.1).isSome = true) : SubsOk (inSub x n.subs) := by
  refine ⟨?_, ?_, fun y hy => ?_⟩
  · rw [inSub_length]
    rcases hl with hl | hl
    · have := woSub_len x.1 n.subs
      omega
    · obtain ⟨y, hy⟩ := Option.isSome_iff_exists.1 hl
      have := woSub_less (old_mem hy).1 (old_mem hy).2
      have := h.1
      omega
  · rw [inSub_G, riseG_map]
    exact inG_rise _ ((riseG_map _ _).1 h.2.1)
  · rw [inSub_G] at hy
    rcases inG_mem _ hy with e | e
    · rw [e]; exact hx
    · exact h.2.2 y e.1
theorem woSub_ok {L : List (ByteArray × Bool × Int)} (h : SubsOk L) (s : ByteArray) : SubsOk (woSub s L) :=
  ⟨Nat.le_trans (woSub_len s L) h.1, by rw [woSub_G, riseG_map]; exact woG_rise _ ((riseG_map _ _).1 h.2.1), fun y hy => h.2.2 y (List.mem_filter.1 hy).1⟩
theorem find_any {L : List (ByteArray × Nat)} (h : L.any (fun x => decide (x.2 = 5)) = true) : ∃ x ∈ L, x.2 = 5 := by
  obtain ⟨x, h1, h2⟩ := List.any_eq_true.1 h
  exact ⟨x, h1, by simpa using h2⟩
theorem afL_ok {L : List (ByteArray × Nat)} (h : AffsOk L) {s : ByteArray} {r : Nat} (hs : addrOk s = true) (h1 : 1 ≤ r) (h5 : r ≤ 5) (hl : (afL s r L).length ≤ 16) (ho : (afL s r L).any (fun x => decide (x.2 = 5)) = true) : AffsOk (afL s r L) := by
  refine ⟨hl, ?_, fun y hy => ?_, find_any ho⟩
  · unfold afL
    split
    · rw [woAff_G, riseG_map]
      exact woG_rise _ ((riseG_map _ _).1 h.2.1)
    · rw [inAff_G, riseG_map]
      exact inG_rise _ ((riseG_map _ _).1 h.2.1)
  · unfold afL at hy
    split at hy
    · exact h.2.2.1 y (List.mem_filter.1 hy).1
    · rename_i hr
      rw [inAff_G] at hy
      rcases inG_mem _ hy with e | e
      · rw [e]; exact ⟨hs, h1, h5, hr⟩
      · exact h.2.2.1 y e.1
theorem lastL_len {α : Type} (L : List α) (k : Nat) : (lastL L k).length ≤ k := by
  unfold lastL
  rw [List.length_drop]
  omega
theorem lastL_ok {L : List (ByteArray × ByteArray × ByteArray)} {most : Int} (h0 : 0 ≤ most) (hi : ∀ x ∈ L, ItemOk x) (hn : (L.map (·.1)).Nodup) : ItemsOk (lastL L most.toNat) most := by
  refine ⟨?_, fun x hx => hi x (List.mem_of_mem_drop hx), ?_⟩
  · have := lastL_len L most.toNat
    omega
  · unfold lastL
    rw [List.map_drop]
    exact hn.sublist (List.drop_sublist _ _)
theorem wo_ok {L : List (ByteArray × ByteArray × ByteArray)} {most : Int} (h : ItemsOk L most) (k : ByteArray) : ItemsOk (woItem k L) most := by
  refine ⟨?_, fun x hx => h.2.1 x (List.mem_filter.1 hx).1, h.2.2.sublist (List.Sublist.map _ List.filter_sublist)⟩
  have : (woItem k L).length ≤ L.length := List.length_filter_le _ _
  have := h.1
  omega
theorem role_addr {n : Nd} (h : RightN n) {s : ByteArray} (hr : 4 ≤ roleL n.affs s) : addrOk s = true := by
  unfold roleL at hr
  cases hf : n.affs.find? (fun x => decide (x.1 = s)) with
  | none => rw [hf] at hr; simp at hr
  | some x =>
    have hx := h.2.2.2.2.1.2.2.1 x (List.mem_of_find?_eq_some hf)
    have e : x.1 = s := by simpa using List.find?_some hf
    rw [← e]
    exact hx.1
theorem put_items {n : Nd} (h : RightN n) {s item body : ByteArray} (hr : 4 ≤ roleL n.affs s) (hi : nameOk item = true) (hb : BodyOk body) : (∀ x ∈ woItem item n.items ++ [(item, s, body)], ItemOk x) ∧ ((woItem item n.items ++ [(item, s, body)]).map (·.1)).Nodup := by
  have hw := wo_ok h.2.2.2.2.2.2 item
  constructor
  · intro x hx
    rcases List.mem_append.1 hx with e | e
    · exact hw.2.1 x e
    · simp at e
      rw [e]
      exact ⟨hi, role_addr h hr, hb⟩
  · rw [List.map_append, List.nodup_append]
    refine ⟨hw.2.2, by simp, fun a ha b hb e => ?_⟩
    obtain ⟨x, hx, hxa⟩ := List.mem_map.1 ha
    have := (List.mem_filter.1 hx).2
    simp at hb
    subst hb
    subst e
    simp [hxa] at this
/-- What stays behind edits of a node that began with one owner. -/
structure Stay (leaf : Bool) (n : Nd) : Prop where
  right : RightN n
  name : n.name = ⟨#[110]⟩
  coll : n.coll = !leaf
  parent : n.parent = ⟨#[]⟩
  out : ∀ x ∈ n.subs, roleL n.affs x.1 ≠ 1
theorem bar_role {n : Nd} {s : ByteArray} {k : Nat} (h : BarC n s k 0) : RightN n ∧ n.coll = false ∧ k ≤ roleL n.affs s := by
  rcases h with ⟨_, h⟩ | ⟨_, _, h⟩ | ⟨_, _, _, h⟩ | ⟨h, h2, h3, _⟩
  · cases h
  · cases h
  · cases h
  · exact ⟨h, h2, h3⟩
theorem bar_code {n : Nd} {s : ByteArray} {k : Nat} {c : Int} (h : BarC n s k c) : c = 0 ∨ c = 1 ∨ c = 6 ∨ c = 3 := by
  rcases h with ⟨_, h⟩ | ⟨_, _, h⟩ | ⟨_, _, _, h⟩ | ⟨_, _, _, h⟩ <;> omega
theorem own_code {n : Nd} {s : ByteArray} {c : Int} (h : OwnC n s c) : c = 1 ∨ c = 3 := by
  rcases h with ⟨_, h⟩ | ⟨_, _, h⟩ <;> omega
/-- What is refused is an empty node. -/
theorem do_none {n m : Nd} {x : Ed} {c : Int} (h : DoC n x m c) (hc : c ≠ 0) : m = noN := by
  unfold DoC at h
  split at h
  · rcases h with ⟨_, _, h⟩ | ⟨_, _, _, h⟩ | ⟨_, _, h, _⟩
    · exact h
    · exact h
    · exact absurd h hc
  split at h
  · rcases h with ⟨_, _, h⟩ | ⟨_, _, _, h⟩ | ⟨_, _, h, _⟩
    · exact h
    · exact h
    · exact absurd h hc
  split at h
  · rcases h with ⟨_, h⟩ | ⟨_, _, ⟨_, _, h⟩ | ⟨_, _, h, _⟩⟩
    · exact h
    · exact h
    · exact absurd h hc
  split at h
  · rcases h with ⟨_, h⟩ | ⟨_, _, ⟨_, _, h⟩ | ⟨_, _, _, ⟨_, _, h⟩ | ⟨_, _, _, h⟩ | ⟨_, _, h, _⟩⟩⟩
    · exact h
    · exact h
    · exact h
    · exact h
    · exact absurd h hc
  split at h
  · rcases h with ⟨_, _, h⟩ | ⟨_, _, _, h⟩ | ⟨_, _, _, h, _⟩
    · exact h
    · exact h
    · exact absurd h hc
  split at h
  · rcases h with ⟨_, _, h⟩ | ⟨_, _, _, h⟩ | ⟨_, _, h, _⟩
    · exact h
    · exact h
    · exact absurd h hc
  split at h
  · rcases h with ⟨_, _, h⟩ | ⟨_, h, _⟩
    · exact h
    · exact absurd h hc
  · rcases h with ⟨_, h⟩ | ⟨_, _, ⟨_, _, h⟩ | ⟨_, _, h, _⟩⟩
    · exact h
    · exact h
    · exact absurd h hc
/-- What an edit that is done comes to. -/
def DoneC (n : Nd) (x : Ed) (m : Nd) : Prop :=
  if x.kind = 0 then AskS n x.who x.depth ∧ codeS n x.who = 0 ∧ m = { n with subs := inSub (newS n x.who x.depth) n.subs } else
  if x.kind = 1 then RightN n ∧ (oldS n x.who).isSome = true ∧ m = { n with subs := woSub x.who n.subs } else
  if x.kind = 2 then RightN n ∧ roleL n.affs x.by_ = 5 ∧ ∃ d, oldS n x.who = some (x.who, true, d) ∧ m = { n with subs := if x.yes = true then inSub (x.who, false, d) n.subs else woSub x.who n.subs } else
  if x.kind = 3 then RightN n ∧ roleL n.affs x.by_ = 5 ∧ addrOk x.who = true ∧ 1 ≤ x.role ∧ x.role ≤ 5 ∧ (afL x.who x.role n.affs).any (fun y => decide (y.2 = 5)) = true ∧ (afL x.who x.role n.affs).length ≤ 16 ∧ m = { n with affs := afL x.who x.role n.affs, subs := if x.role = 1 then woSub x.who n.subs else n.subs } else
  if x.kind = 4 then RightN n ∧ n.coll = false ∧ 4 ≤ roleL n.affs x.by_ ∧ nameOk x.item = true ∧ BodyOk x.text ∧ m = pubN n x.by_ x.item x.text else
  if x.kind = 5 then RightN n ∧ n.coll = false ∧ 4 ≤ roleL n.affs x.by_ ∧ m = { n with items := woItem x.item n.items } else
  if x.kind = 6 then RightN n ∧ n.coll = false ∧ 5 ≤ roleL n.affs x.by_ ∧ m = { n with items := [] } else
  RightN n ∧ roleL n.affs x.by_ = 5 ∧ x.acc ≤ 2 ∧ maxOk x.max n.coll = true ∧ m = cfgN n x.acc x.max
theorem do_done {n m : Nd} {x : Ed} (h : DoC n x m 0) : DoneC n x m := by
  unfold DoC at h
  unfold DoneC
  split at h
  · rename_i h1
    rw [if_pos h1]
    rcases h with ⟨_, h, _⟩ | ⟨_, h0, h, _⟩ | ⟨h1, h2, _, h3⟩
    · cases h
    · exact absurd h.symm h0
    · exact ⟨h1, h2, h3⟩
  rename_i g0
  rw [if_neg g0]
  split at h
  · rename_i h1
    rw [if_pos h1]
    rcases h with ⟨_, h, _⟩ | ⟨_, _, h, _⟩ | ⟨h1, h2, _, h3⟩
    · cases h
    · cases h
    · exact ⟨h1, h2, h3⟩
  rename_i g1
  rw [if_neg g1]
  split at h
  · rename_i h1
    rw [if_pos h1]
    rcases h with ⟨h, _⟩ | ⟨h1, h2, ⟨_, h, _⟩ | ⟨d, h3, _, h4⟩⟩
    · rcases own_code h with h | h <;> cases h
    · cases h
    · exact ⟨h1, h2, d, h3, h4⟩
  rename_i g2
  rw [if_neg g2]
  split at h
  · rename_i h1
    rw [if_pos h1]
    rcases h with ⟨h, _⟩ | ⟨h1, h2, ⟨_, h, _⟩ | ⟨h3, h4, h5, ⟨_, h, _⟩ | ⟨_, _, h, _⟩ | ⟨h6, h7, _, h8⟩⟩⟩
    · rcases own_code h with h | h <;> cases h
    · cases h
    · cases h
    · cases h
    · exact ⟨h1, h2, h3, h4, h5, h6, h7, h8⟩
  rename_i g3
  rw [if_neg g3]
  split at h
  · rename_i h1
    rw [if_pos h1]
    rcases h with ⟨h, _⟩ | ⟨_, _, h, _⟩ | ⟨h1, h2, h3, _, h4⟩
    · exact absurd rfl h
    · cases h
    · exact ⟨(bar_role h1).1, (bar_role h1).2.1, (bar_role h1).2.2, h2, h3, h4⟩
  rename_i g4
  rw [if_neg g4]
  split at h
  · rename_i h1
    rw [if_pos h1]
    rcases h with ⟨h, _⟩ | ⟨_, _, h, _⟩ | ⟨h1, _, _, h4⟩
    · exact absurd rfl h
    · cases h
    · exact ⟨(bar_role h1).1, (bar_role h1).2.1, (bar_role h1).2.2, h4⟩
  rename_i g5
  rw [if_neg g5]
  split at h
  · rename_i h1
    rw [if_pos h1]
    rcases h with ⟨h, _⟩ | ⟨h1, _, h4⟩
    · exact absurd rfl h
    · exact ⟨(bar_role h1).1, (bar_role h1).2.1, (bar_role h1).2.2, h4⟩
  · rename_i g6
    rw [if_neg g6]
    rcases h with ⟨h, _⟩ | ⟨h1, h2, ⟨_, h, _⟩ | ⟨h3, h4, _, h5⟩⟩
    · rcases own_code h with h | h <;> cases h
    · cases h
    · exact ⟨h1, h2, h3, h4, h5⟩
theorem ask_new {n : Nd} {s : ByteArray} {d : Int} (ha : AskS n s d) (hc : codeS n s = 0) : (newS n s d).1 = s ∧ SubOk (newS n s d) ∧ (n.subs.length < 16 ∨ (oldS n s).isSome = true) ∧ roleL n.affs s ≠ 1 := by
  have hd : 0 ≤ d ∧ d ≤ 255 := by have := ha.2.2; simp at this; exact this
  unfold codeS at hc
  unfold newS
  split at hc
  · cases hc
  rename_i h1
  split at hc
  · cases hc
  cases ho : oldS n s with
  | some x =>
    have e := (old_mem ho).2
    exact ⟨e, ⟨by show addrOk x.1 = true; rw [e]; exact ha.2.1, hd⟩, .inr rfl, h1⟩
  | none =>
    rw [ho] at hc
    simp only at hc
    split at hc
    · cases hc
    · exact ⟨rfl, ⟨ha.2.1, hd⟩, .inl (by omega), h1⟩
theorem done_stay {leaf : Bool} {n m : Nd} {x : Ed} (h : DoneC n x m) (hs : Stay leaf n) : Stay leaf m := by
  obtain ⟨hR, hn, hcl, hp, ho⟩ := hs
  obtain ⟨r1, r2, r3, r4, r5, r6, r7⟩ := hR
  unfold DoneC at h
  split at h
  · obtain ⟨ha, hc, rfl⟩ := h
    obtain ⟨e, hok, hl, hro⟩ := ask_new ha hc
    refine ⟨⟨r1, r2, r3, r4, r5, inSub_ok r6 hok (by rw [e]; exact hl), r7⟩, hn, hcl, hp, fun y hy => ?_⟩
    rw [inSub_G] at hy
    rcases inG_mem _ hy with e2 | e2
    · rw [e2, e]; exact hro
    · exact ho y e2.1
  split at h
  · obtain ⟨_, _, rfl⟩ := h
    exact ⟨⟨r1, r2, r3, r4, r5, woSub_ok r6 _, r7⟩, hn, hcl, hp, fun y hy => ho y (List.mem_filter.1 hy).1⟩
  split at h
  · obtain ⟨_, _, d, hd, rfl⟩ := h
    have hm := old_mem hd
    cases x.yes with
    | false => exact ⟨⟨r1, r2, r3, r4, r5, woSub_ok r6 _, r7⟩, hn, hcl, hp, fun y hy => ho y (List.mem_filter.1 hy).1⟩
    | true =>
      have hk := r6.2.2 _ hm.1
      refine ⟨⟨r1, r2, r3, r4, r5, inSub_ok r6 (x := (x.who, false, d)) hk (.inr (by rw [hd]; rfl)), r7⟩, hn, hcl, hp, fun y hy => ?_⟩
      have hy' : y ∈ inSub (x.who, false, d) n.subs := hy
      rw [inSub_G] at hy'
      rcases inG_mem _ hy' with e2 | e2
      · rw [e2]; exact ho (x.who, true, d) hm.1
      · exact ho y e2.1
  split at h
  · obtain ⟨_, _, h3, h4, h5, h6, h7, rfl⟩ := h
    have hr := (riseG_map _ _).1 r5.2.1
    refine ⟨⟨r1, r2, r3, r4, afL_ok r5 h3 h4 h5 h7 h6, ?_, r7⟩, hn, hcl, hp, fun y hy => ?_⟩
    · show SubsOk (if x.role = 1 then woSub x.who n.subs else n.subs)
      split
      · exact woSub_ok r6 _
      · exact r6
    · have hy' : y ∈ (if x.role = 1 then woSub x.who n.subs else n.subs) := hy
      show roleL (afL x.who x.role n.affs) y.1 ≠ 1
      rw [role_afL hr]
      split at hy'
      · have h8 := woG_ne (fun z : ByteArray × Bool × Int => z.1) (show y ∈ woG (fun z : ByteArray × Bool × Int => z.1) x.who n.subs from hy')
        rw [if_neg h8.1]
        exact ho y h8.2
      · rename_i h9
        split
        · exact h9
        · exact ho y hy'
  split at h
  · obtain ⟨hR, h2, h3, h4, h5, rfl⟩ := h
    have hp2 := put_items hR h3 h4 h5
    exact ⟨⟨r1, r2, r3, r4, r5, r6, lastL_ok (max_right hR).1 hp2.1 hp2.2⟩, hn, hcl, hp, ho⟩
  split at h
  · obtain ⟨_, _, _, rfl⟩ := h
    exact ⟨⟨r1, r2, r3, r4, r5, r6, wo_ok r7 _⟩, hn, hcl, hp, ho⟩
  split at h
  · obtain ⟨hR, _, _, rfl⟩ := h
    exact ⟨⟨r1, r2, r3, r4, r5, r6, ⟨by have := (max_right hR).1; simpa using this, fun x hx => by simp at hx, List.nodup_nil⟩⟩, hn, hcl, hp, ho⟩
  · obtain ⟨hR, _, h3, h4, rfl⟩ := h
    exact ⟨⟨r1, h3, h4, r4, r5, r6, lastL_ok (maxOk_le h4).1 r7.2.1 r7.2.2⟩, hn, hcl, hp, ho⟩
end Go.Proofs.YtffjmkngdjbjlaaDoor
