/- Unescape: what a text with entities says, or the error. -/
import Derived.Test.YthflpcfpfdmaeaaDoorUnescM
import Derived.Test.YthflpcfpfdmaeaaDoorMap
import Derived.Test.YthflpcfpfdmaeaaDoorEscM
import Derived.WalkSmall
namespace Go.Proofs.YthflpcfpfdmaeaaDoor
open Go.RowKit Go.Maps

/-- What Unescape answers. -/
def UeEnds (s : List UInt8) (e : Ending) : Prop := (∃ l, unesc s = some l ∧ e = .returned (.tuple #[.string ⟨l.toArray⟩, .int .i64 0])) ∨ (unesc s = none ∧ e = .returned (.tuple #[.string ⟨#[]⟩, .int .i64 3]))

theorem unesc_run : ∀ (p q : List UInt8), (∀ b ∈ p, b ≠ 60 ∧ b ≠ 38) → unesc (p ++ q) = (unesc q).map (p ++ ·)
  | [], q, _ => by simp
  | b :: p, q, h => by
    have hb := h b (by simp)
    show unesc (b :: (p ++ q)) = _
    rw [unesc_plain b _ hb.1 hb.2, unesc_run p q (fun x hx => h x (by simp [hx])), Option.map_map]
    rfl
/-- Bytes c up to pos of s are neither < nor &. -/
def Quiet (s : ByteArray) (c pos : Nat) : Prop := ∀ (j : Nat) (h : j < s.size), c ≤ j → j < pos → s[j] ≠ 60 ∧ s[j] ≠ 38
theorem quiet_list {s : ByteArray} {c pos : Nat} (h : Quiet s c pos) (hp : pos ≤ s.size) : ∀ b ∈ (s.data.toList.drop c).take (pos - c), b ≠ 60 ∧ b ≠ 38 := by
  intro b hb
  obtain ⟨i, hi, rfl⟩ := List.mem_iff_getElem.1 hb
  rw [List.length_take, List.length_drop, size_list] at hi
  have hj : c + i < s.size := by omega
  have h1 := list_at s (c + i) hj
  have h2 : ((s.data.toList.drop c).take (pos - c))[i]? = some s[c + i] := by
    rw [List.getElem?_take_of_lt (by omega), List.getElem?_drop]; exact h1
  obtain ⟨_, h4⟩ := List.getElem_of_getElem? h2
  rw [h4]
  exact h (c + i) hj (by omega) (by omega)
theorem split_at (s : ByteArray) (c pos : Nat) (hc : c ≤ pos) : s.data.toList.drop c = (s.data.toList.drop c).take (pos - c) ++ s.data.toList.drop pos := by
  have h := List.take_append_drop (pos - c) (s.data.toList.drop c)
  rw [List.drop_drop, show c + (pos - c) = pos by omega] at h
  exact h.symm
theorem drop_cons (s : ByteArray) (pos : Nat) (hp : pos < s.size) : s.data.toList.drop pos = (s[pos]'hp) :: s.data.toList.drop (pos + 1) := by
  have hlt : pos < s.data.toList.length := by rw [size_list]; exact hp
  rw [List.drop_eq_getElem_cons hlt]
  have := list_at s pos hp
  rw [List.getElem?_eq_getElem hlt] at this
  rw [Option.some.inj this]
theorem bad_at {s : ByteArray} {c pos : Nat} {acc : List UInt8} (hc : c ≤ pos) (hp : pos < s.size) (hq : Quiet s c pos) (ha : unesc s.data.toList = (unesc (s.data.toList.drop c)).map (acc ++ ·)) (hb : unesc ((s[pos]'hp) :: s.data.toList.drop (pos + 1)) = none) : unesc s.data.toList = none := by
  rw [ha, split_at s c pos hc, unesc_run _ _ (quiet_list hq (Nat.le_of_lt hp)), drop_cons s pos hp, hb]
  rfl
theorem step_at {s : ByteArray} {c pos k : Nat} {acc after : List UInt8} (hk : k < 5) (hc : c ≤ pos) (hp : pos < s.size) (hq : Quiet s c pos) (ha : unesc s.data.toList = (unesc (s.data.toList.drop c)).map (acc ++ ·)) (h38 : (s[pos]'hp) = 38) (hr : s.data.toList.drop (pos + 1) = (entN k).data.toList ++ 59 :: after) :
    unesc s.data.toList = (unesc (s.data.toList.drop (pos + (entN k).size + 2))).map ((acc ++ (s.data.toList.drop c).take (pos - c) ++ [entB k]) ++ ·) := by
  have h1 : s.data.toList.drop (pos + (entN k).size + 2) = after := by
    have h2 : s.data.toList.drop (pos + (entN k).size + 2) = (s.data.toList.drop (pos + 1)).drop ((entN k).size + 1) := by rw [List.drop_drop]; congr 1; omega
    rw [h2, hr, show 59 :: after = [59] ++ after from rfl, ← List.append_assoc]
    exact List.drop_left' (by rw [List.length_append, size_list]; rfl)
  have hsp := split_at s c pos hc
  have hql := quiet_list hq (Nat.le_of_lt hp)
  generalize (s.data.toList.drop c).take (pos - c) = p at hsp hql ⊢
  rw [h1, ha, hsp, unesc_run _ _ hql, drop_cons s pos hp, h38, hr, unesc_ent k hk]
  simp only [Option.map_map]
  congr 1
  funext x
  simp
theorem inside_at {s : ByteArray} {pos k : Nat} {after : List UInt8} (hk : k < 5) (hr : s.data.toList.drop (pos + 1) = (entN k).data.toList ++ 59 :: after) : Quiet s (pos + 1) (pos + (entN k).size + 2) ∧ pos + (entN k).size + 2 ≤ s.size := by
  have hlen := congrArg List.length hr
  rw [List.length_drop, size_list, List.length_append, size_list, List.length_cons] at hlen
  refine ⟨fun j hj h1 h2 => ?_, by omega⟩
  have h3 := list_at s j hj
  have h4 : (s.data.toList.drop (pos + 1))[j - (pos + 1)]? = some s[j] := by
    rw [List.getElem?_drop, show pos + 1 + (j - (pos + 1)) = j by omega]; exact h3
  have h5 : s[j] ∈ (entN k).data.toList ++ [59] := by
    rw [hr] at h4
    have h6 : ((entN k).data.toList ++ [59])[j - (pos + 1)]? = some s[j] := by
      rw [show (entN k).data.toList ++ 59 :: after = ((entN k).data.toList ++ [59]) ++ after by simp] at h4
      rw [List.getElem?_append_left (by rw [List.length_append, size_list]; show _ < (entN k).size + 1; omega)] at h4
      exact h4
    exact List.mem_of_getElem? h6
  generalize s[j] = b at h5
  have key : ∀ k, k < 5 → ∀ b ∈ (entN k).data.toList ++ [59], b ≠ 60 ∧ b ≠ 38 := by
    intro k hk
    match k, hk with
    | 0, _ => decide
    | 1, _ => decide
    | 2, _ => decide
    | 3, _ => decide
    | 4, _ => decide
  exact key k hk b h5
theorem ent_len (k : Nat) : (entN k).size ≤ 4 := by
  match k with
  | 0 => decide
  | 1 => decide
  | 2 => decide
  | 3 => decide
  | 4 => decide
  | n + 5 => exact Nat.zero_le _
theorem ent_bd (k : Nat) (h : k < 5) : -2147483648 ≤ entC k ∧ entC k ≤ 2147483647 := by
  match k, h with
  | 0, _ => decide
  | 1, _ => decide
  | 2, _ => decide
  | 3, _ => decide
  | 4, _ => decide
theorem rune_cell (k : Nat) (h : k < 5) : Lib.runeCells (entC k) = Lib.byteCells [entB k] := by
  rw [← Lib.byteCells_encodeRune]
  match k, h with
  | 0, _ => exact congrArg Lib.byteCells (show Lib.encodeRune (entC 0) = [entB 0] by decide)
  | 1, _ => exact congrArg Lib.byteCells (show Lib.encodeRune (entC 1) = [entB 1] by decide)
  | 2, _ => exact congrArg Lib.byteCells (show Lib.encodeRune (entC 2) = [entB 2] by decide)
  | 3, _ => exact congrArg Lib.byteCells (show Lib.encodeRune (entC 3) = [entB 3] by decide)
  | 4, _ => exact congrArg Lib.byteCells (show Lib.encodeRune (entC 4) = [entB 4] by decide)
end Go.Proofs.YthflpcfpfdmaeaaDoor
