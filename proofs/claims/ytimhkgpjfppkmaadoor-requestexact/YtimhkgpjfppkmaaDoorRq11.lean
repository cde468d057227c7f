/- What is read of a right request's payload is the request. -/
import Derived.Test.YtimhkgpjfppkmaaDoorRq10
import Derived.Test.YtimhkgpjfppkmaaDoorRq4a
import Derived.Test.YtimhkgpjfppkmaaDoorNb0
namespace Go.Proofs.YtimhkgpjfppkmaaDoor
open Go.RowKit Go.Shelf

theorem takes_app {r r' : Rq} {a : ByteArray × ByteArray} : ∀ (l : List (ByteArray × ByteArray)) (q : Rq), TakesR q (l ++ [a]) r' → ∃ r1, TakesR q l r1 ∧ TakeR r1 a r'
  | [], q, h => by
    obtain ⟨r1, h1, h2⟩ := h
    have e : r' = r1 := h2
    subst e
    exact ⟨q, rfl, h1⟩
  | b :: l, q, h => by
    obtain ⟨r1, h1, h2⟩ := h
    obtain ⟨r2, h3, h4⟩ := takes_app (r := r) l r1 h2
    exact ⟨r2, ⟨r1, h1, h3⟩, h4⟩
theorem takes_add {b : Bool} {nm s : ByteArray} {al : List (ByteArray × ByteArray)} {q r' : Rq} (h : TakesR q (addL b nm s al) r') : ∃ r1, TakesR q al r1 ∧ (b = true → TakeR r1 (nm, s) r') ∧ (b = false → r' = r1) := by
  unfold addL at h
  cases b with
  | true =>
    obtain ⟨r1, h1, h2⟩ := takes_app (r := q) al q h
    exact ⟨r1, h1, fun _ => h2, fun e => by cases e⟩
  | false =>
    simp at h
    exact ⟨r', h, fun e => (by cases e), fun _ => rfl⟩
theorem takeR_node {q r' : Rq} {s : ByteArray} (h : TakeR q (⟨#[110, 111, 100, 101]⟩, s) r') : r' = { q with node := s } := by
  unfold TakeR at h
  rw [if_pos (show ((⟨#[110, 111, 100, 101]⟩ : ByteArray), s).1 = ⟨#[110, 111, 100, 101]⟩ from rfl)] at h
  exact h
theorem takeR_item {q r' : Rq} {s : ByteArray} (h : TakeR q (⟨#[105, 116, 101, 109]⟩, s) r') : r' = { q with item := s } := by
  unfold TakeR at h
  rw [if_neg (show ¬ ((⟨#[105, 116, 101, 109]⟩ : ByteArray), s).1 = ⟨#[110, 111, 100, 101]⟩ from (by decide : ¬ (⟨#[105, 116, 101, 109]⟩ : ByteArray) = ⟨#[110, 111, 100, 101]⟩))] at h
  rw [if_pos (show ((⟨#[105, 116, 101, 109]⟩ : ByteArray), s).1 = ⟨#[105, 116, 101, 109]⟩ from rfl)] at h
  exact h
theorem takeR_jid {q r' : Rq} {s : ByteArray} (h : TakeR q (⟨#[106, 105, 100]⟩, s) r') : r' = { q with jid := s } := by
  unfold TakeR at h
  rw [if_neg (show ¬ ((⟨#[106, 105, 100]⟩ : ByteArray), s).1 = ⟨#[110, 111, 100, 101]⟩ from (by decide : ¬ (⟨#[106, 105, 100]⟩ : ByteArray) = ⟨#[110, 111, 100, 101]⟩))] at h
  rw [if_neg (show ¬ ((⟨#[106, 105, 100]⟩ : ByteArray), s).1 = ⟨#[105, 116, 101, 109]⟩ from (by decide : ¬ (⟨#[106, 105, 100]⟩ : ByteArray) = ⟨#[105, 116, 101, 109]⟩))] at h
  rw [if_pos (show ((⟨#[106, 105, 100]⟩ : ByteArray), s).1 = ⟨#[106, 105, 100]⟩ from rfl)] at h
  exact h
theorem takeR_role {q r' : Rq} {s : ByteArray} (h : TakeR q (⟨#[114, 111, 108, 101]⟩, s) r') : ∃ k, k < 16 ∧ FindR rolesL s k ∧ r' = { q with role := k } := by
  unfold TakeR at h
  rw [if_neg (show ¬ ((⟨#[114, 111, 108, 101]⟩ : ByteArray), s).1 = ⟨#[110, 111, 100, 101]⟩ from (by decide : ¬ (⟨#[114, 111, 108, 101]⟩ : ByteArray) = ⟨#[110, 111, 100, 101]⟩))] at h
  rw [if_neg (show ¬ ((⟨#[114, 111, 108, 101]⟩ : ByteArray), s).1 = ⟨#[105, 116, 101, 109]⟩ from (by decide : ¬ (⟨#[114, 111, 108, 101]⟩ : ByteArray) = ⟨#[105, 116, 101, 109]⟩))] at h
  rw [if_neg (show ¬ ((⟨#[114, 111, 108, 101]⟩ : ByteArray), s).1 = ⟨#[106, 105, 100]⟩ from (by decide : ¬ (⟨#[114, 111, 108, 101]⟩ : ByteArray) = ⟨#[106, 105, 100]⟩))] at h
  rw [if_pos (show ((⟨#[114, 111, 108, 101]⟩ : ByteArray), s).1 = ⟨#[114, 111, 108, 101]⟩ from rfl)] at h
  exact h
theorem takeR_access {q r' : Rq} {s : ByteArray} (h : TakeR q (⟨#[97, 99, 99, 101, 115, 115]⟩, s) r') : ∃ k, k < 16 ∧ FindR accsL s k ∧ r' = { q with acc := k } := by
  unfold TakeR at h
  rw [if_neg (show ¬ ((⟨#[97, 99, 99, 101, 115, 115]⟩ : ByteArray), s).1 = ⟨#[110, 111, 100, 101]⟩ from (by decide : ¬ (⟨#[97, 99, 99, 101, 115, 115]⟩ : ByteArray) = ⟨#[110, 111, 100, 101]⟩))] at h
  rw [if_neg (show ¬ ((⟨#[97, 99, 99, 101, 115, 115]⟩ : ByteArray), s).1 = ⟨#[105, 116, 101, 109]⟩ from (by decide : ¬ (⟨#[97, 99, 99, 101, 115, 115]⟩ : ByteArray) = ⟨#[105, 116, 101, 109]⟩))] at h
  rw [if_neg (show ¬ ((⟨#[97, 99, 99, 101, 115, 115]⟩ : ByteArray), s).1 = ⟨#[106, 105, 100]⟩ from (by decide : ¬ (⟨#[97, 99, 99, 101, 115, 115]⟩ : ByteArray) = ⟨#[106, 105, 100]⟩))] at h
  rw [if_neg (show ¬ ((⟨#[97, 99, 99, 101, 115, 115]⟩ : ByteArray), s).1 = ⟨#[114, 111, 108, 101]⟩ from (by decide : ¬ (⟨#[97, 99, 99, 101, 115, 115]⟩ : ByteArray) = ⟨#[114, 111, 108, 101]⟩))] at h
  rw [if_pos (show ((⟨#[97, 99, 99, 101, 115, 115]⟩ : ByteArray), s).1 = ⟨#[97, 99, 99, 101, 115, 115]⟩ from rfl)] at h
  exact h
theorem takeR_max {q r' : Rq} {s : ByteArray} (h : TakeR q (⟨#[109, 97, 120]⟩, s) r') : ∃ v, NumR s v ∧ r' = { q with max := v } := by
  unfold TakeR at h
  rw [if_neg (show ¬ ((⟨#[109, 97, 120]⟩ : ByteArray), s).1 = ⟨#[110, 111, 100, 101]⟩ from (by decide : ¬ (⟨#[109, 97, 120]⟩ : ByteArray) = ⟨#[110, 111, 100, 101]⟩))] at h
  rw [if_neg (show ¬ ((⟨#[109, 97, 120]⟩ : ByteArray), s).1 = ⟨#[105, 116, 101, 109]⟩ from (by decide : ¬ (⟨#[109, 97, 120]⟩ : ByteArray) = ⟨#[105, 116, 101, 109]⟩))] at h
  rw [if_neg (show ¬ ((⟨#[109, 97, 120]⟩ : ByteArray), s).1 = ⟨#[106, 105, 100]⟩ from (by decide : ¬ (⟨#[109, 97, 120]⟩ : ByteArray) = ⟨#[106, 105, 100]⟩))] at h
  rw [if_neg (show ¬ ((⟨#[109, 97, 120]⟩ : ByteArray), s).1 = ⟨#[114, 111, 108, 101]⟩ from (by decide : ¬ (⟨#[109, 97, 120]⟩ : ByteArray) = ⟨#[114, 111, 108, 101]⟩))] at h
  rw [if_neg (show ¬ ((⟨#[109, 97, 120]⟩ : ByteArray), s).1 = ⟨#[97, 99, 99, 101, 115, 115]⟩ from (by decide : ¬ (⟨#[109, 97, 120]⟩ : ByteArray) = ⟨#[97, 99, 99, 101, 115, 115]⟩))] at h
  rw [if_pos (show ((⟨#[109, 97, 120]⟩ : ByteArray), s).1 = ⟨#[109, 97, 120]⟩ from rfl)] at h
  exact h
theorem takeR_depth {q r' : Rq} {s : ByteArray} (h : TakeR q (⟨#[100, 101, 112, 116, 104]⟩, s) r') : ∃ v, NumR s v ∧ r' = { q with depth := v } := by
  unfold TakeR at h
  rw [if_neg (show ¬ ((⟨#[100, 101, 112, 116, 104]⟩ : ByteArray), s).1 = ⟨#[110, 111, 100, 101]⟩ from (by decide : ¬ (⟨#[100, 101, 112, 116, 104]⟩ : ByteArray) = ⟨#[110, 111, 100, 101]⟩))] at h
  rw [if_neg (show ¬ ((⟨#[100, 101, 112, 116, 104]⟩ : ByteArray), s).1 = ⟨#[105, 116, 101, 109]⟩ from (by decide : ¬ (⟨#[100, 101, 112, 116, 104]⟩ : ByteArray) = ⟨#[105, 116, 101, 109]⟩))] at h
  rw [if_neg (show ¬ ((⟨#[100, 101, 112, 116, 104]⟩ : ByteArray), s).1 = ⟨#[106, 105, 100]⟩ from (by decide : ¬ (⟨#[100, 101, 112, 116, 104]⟩ : ByteArray) = ⟨#[106, 105, 100]⟩))] at h
  rw [if_neg (show ¬ ((⟨#[100, 101, 112, 116, 104]⟩ : ByteArray), s).1 = ⟨#[114, 111, 108, 101]⟩ from (by decide : ¬ (⟨#[100, 101, 112, 116, 104]⟩ : ByteArray) = ⟨#[114, 111, 108, 101]⟩))] at h
  rw [if_neg (show ¬ ((⟨#[100, 101, 112, 116, 104]⟩ : ByteArray), s).1 = ⟨#[97, 99, 99, 101, 115, 115]⟩ from (by decide : ¬ (⟨#[100, 101, 112, 116, 104]⟩ : ByteArray) = ⟨#[97, 99, 99, 101, 115, 115]⟩))] at h
  rw [if_neg (show ¬ ((⟨#[100, 101, 112, 116, 104]⟩ : ByteArray), s).1 = ⟨#[109, 97, 120]⟩ from (by decide : ¬ (⟨#[100, 101, 112, 116, 104]⟩ : ByteArray) = ⟨#[109, 97, 120]⟩))] at h
  rw [if_pos (show ((⟨#[100, 101, 112, 116, 104]⟩ : ByteArray), s).1 = ⟨#[100, 101, 112, 116, 104]⟩ from rfl)] at h
  exact h
theorem takeR_parent {q r' : Rq} {s : ByteArray} (h : TakeR q (⟨#[112, 97, 114, 101, 110, 116]⟩, s) r') : r' = { q with parent := s } := by
  unfold TakeR at h
  rw [if_neg (show ¬ ((⟨#[112, 97, 114, 101, 110, 116]⟩ : ByteArray), s).1 = ⟨#[110, 111, 100, 101]⟩ from (by decide : ¬ (⟨#[112, 97, 114, 101, 110, 116]⟩ : ByteArray) = ⟨#[110, 111, 100, 101]⟩))] at h
  rw [if_neg (show ¬ ((⟨#[112, 97, 114, 101, 110, 116]⟩ : ByteArray), s).1 = ⟨#[105, 116, 101, 109]⟩ from (by decide : ¬ (⟨#[112, 97, 114, 101, 110, 116]⟩ : ByteArray) = ⟨#[105, 116, 101, 109]⟩))] at h
  rw [if_neg (show ¬ ((⟨#[112, 97, 114, 101, 110, 116]⟩ : ByteArray), s).1 = ⟨#[106, 105, 100]⟩ from (by decide : ¬ (⟨#[112, 97, 114, 101, 110, 116]⟩ : ByteArray) = ⟨#[106, 105, 100]⟩))] at h
  rw [if_neg (show ¬ ((⟨#[112, 97, 114, 101, 110, 116]⟩ : ByteArray), s).1 = ⟨#[114, 111, 108, 101]⟩ from (by decide : ¬ (⟨#[112, 97, 114, 101, 110, 116]⟩ : ByteArray) = ⟨#[114, 111, 108, 101]⟩))] at h
  rw [if_neg (show ¬ ((⟨#[112, 97, 114, 101, 110, 116]⟩ : ByteArray), s).1 = ⟨#[97, 99, 99, 101, 115, 115]⟩ from (by decide : ¬ (⟨#[112, 97, 114, 101, 110, 116]⟩ : ByteArray) = ⟨#[97, 99, 99, 101, 115, 115]⟩))] at h
  rw [if_neg (show ¬ ((⟨#[112, 97, 114, 101, 110, 116]⟩ : ByteArray), s).1 = ⟨#[109, 97, 120]⟩ from (by decide : ¬ (⟨#[112, 97, 114, 101, 110, 116]⟩ : ByteArray) = ⟨#[109, 97, 120]⟩))] at h
  rw [if_neg (show ¬ ((⟨#[112, 97, 114, 101, 110, 116]⟩ : ByteArray), s).1 = ⟨#[100, 101, 112, 116, 104]⟩ from (by decide : ¬ (⟨#[112, 97, 114, 101, 110, 116]⟩ : ByteArray) = ⟨#[100, 101, 112, 116, 104]⟩))] at h
  rw [if_pos (show ((⟨#[112, 97, 114, 101, 110, 116]⟩ : ByteArray), s).1 = ⟨#[112, 97, 114, 101, 110, 116]⟩ from rfl)] at h
  exact h
theorem takeR_type {q r' : Rq} {s : ByteArray} (h : TakeR q (⟨#[116, 121, 112, 101]⟩, s) r') : ∃ k, k < 16 ∧ FindR typesL s k ∧ r' = { q with coll := decide (k = 1) } := by
  unfold TakeR at h
  rw [if_neg (show ¬ ((⟨#[116, 121, 112, 101]⟩ : ByteArray), s).1 = ⟨#[110, 111, 100, 101]⟩ from (by decide : ¬ (⟨#[116, 121, 112, 101]⟩ : ByteArray) = ⟨#[110, 111, 100, 101]⟩))] at h
  rw [if_neg (show ¬ ((⟨#[116, 121, 112, 101]⟩ : ByteArray), s).1 = ⟨#[105, 116, 101, 109]⟩ from (by decide : ¬ (⟨#[116, 121, 112, 101]⟩ : ByteArray) = ⟨#[105, 116, 101, 109]⟩))] at h
  rw [if_neg (show ¬ ((⟨#[116, 121, 112, 101]⟩ : ByteArray), s).1 = ⟨#[106, 105, 100]⟩ from (by decide : ¬ (⟨#[116, 121, 112, 101]⟩ : ByteArray) = ⟨#[106, 105, 100]⟩))] at h
  rw [if_neg (show ¬ ((⟨#[116, 121, 112, 101]⟩ : ByteArray), s).1 = ⟨#[114, 111, 108, 101]⟩ from (by decide : ¬ (⟨#[116, 121, 112, 101]⟩ : ByteArray) = ⟨#[114, 111, 108, 101]⟩))] at h
  rw [if_neg (show ¬ ((⟨#[116, 121, 112, 101]⟩ : ByteArray), s).1 = ⟨#[97, 99, 99, 101, 115, 115]⟩ from (by decide : ¬ (⟨#[116, 121, 112, 101]⟩ : ByteArray) = ⟨#[97, 99, 99, 101, 115, 115]⟩))] at h
  rw [if_neg (show ¬ ((⟨#[116, 121, 112, 101]⟩ : ByteArray), s).1 = ⟨#[109, 97, 120]⟩ from (by decide : ¬ (⟨#[116, 121, 112, 101]⟩ : ByteArray) = ⟨#[109, 97, 120]⟩))] at h
  rw [if_neg (show ¬ ((⟨#[116, 121, 112, 101]⟩ : ByteArray), s).1 = ⟨#[100, 101, 112, 116, 104]⟩ from (by decide : ¬ (⟨#[116, 121, 112, 101]⟩ : ByteArray) = ⟨#[100, 101, 112, 116, 104]⟩))] at h
  rw [if_neg (show ¬ ((⟨#[116, 121, 112, 101]⟩ : ByteArray), s).1 = ⟨#[112, 97, 114, 101, 110, 116]⟩ from (by decide : ¬ (⟨#[116, 121, 112, 101]⟩ : ByteArray) = ⟨#[112, 97, 114, 101, 110, 116]⟩))] at h
  rw [if_pos (show ((⟨#[116, 121, 112, 101]⟩ : ByteArray), s).1 = ⟨#[116, 121, 112, 101]⟩ from rfl)] at h
  exact h
theorem find_verb {v k : Nat} (h1 : 1 ≤ v) (h2 : v ≤ 15) (hk : k < 16) (h : FindR verbsL (verbB v) k) : k = v := by
  rcases h with h | ⟨h, _⟩
  · have key : ∀ v : Fin 16, 1 ≤ v.val → ∀ k : Fin 16, verbsL[k.val]? = some (verbB v.val) → k.val = v.val := by decide
    exact key ⟨v, by omega⟩ h1 ⟨k, hk⟩ h
  · exact absurd (verbB_at (show v < 16 by omega)) (h v)
theorem find_role {v k : Nat} (h1 : 1 ≤ v) (h2 : v ≤ 5) (hk : k < 16) (h : FindR rolesL (rolesL.getD v ⟨#[]⟩) k) : k = v := by
  have key : ∀ v : Fin 6, 1 ≤ v.val → (rolesL[v.val]? = some (rolesL.getD v.val ⟨#[]⟩) ∧ ∀ k : Fin 16, rolesL[k.val]? = some (rolesL.getD v.val ⟨#[]⟩) → k.val = v.val) := by decide
  obtain ⟨ka, kb⟩ := key ⟨v, by omega⟩ h1
  rcases h with h | ⟨h, _⟩
  · exact kb ⟨k, hk⟩ h
  · exact absurd ka (h v)
theorem find_acc {v k : Nat} (h2 : v ≤ 2) (hk : k < 16) (h : FindR accsL (accsL.getD v ⟨#[]⟩) k) : k = v := by
  have key : ∀ v : Fin 3, (accsL[v.val]? = some (accsL.getD v.val ⟨#[]⟩) ∧ ∀ k : Fin 16, accsL[k.val]? = some (accsL.getD v.val ⟨#[]⟩) → k.val = v.val) := by decide
  obtain ⟨ka, kb⟩ := key ⟨v, by omega⟩
  rcases h with h | ⟨h, _⟩
  · exact kb ⟨k, hk⟩ h
  · exact absurd ka (h v)
theorem find_type {b : Bool} {k : Nat} (hk : k < 16) (h : FindR typesL (typesL.getD (if b = true then 1 else 0) ⟨#[]⟩) k) : decide (k = 1) = b := by
  have key : ∀ b : Bool, (typesL[(if b = true then 1 else 0 : Nat)]? = some (typesL.getD (if b = true then 1 else 0) ⟨#[]⟩) ∧ ∀ k : Fin 16, typesL[k.val]? = some (typesL.getD (if b = true then 1 else 0) ⟨#[]⟩) → decide (k.val = 1) = b) := by decide
  obtain ⟨ka, kb⟩ := key b
  rcases h with h | ⟨h, _⟩
  · exact kb ⟨k, hk⟩ h
  · exact absurd ka (h _)
theorem num_back {n v : Int} (h0 : 0 ≤ n) (h1 : n ≤ 255) (h : NumR (itW n) v) : v = n := by
  obtain ⟨k, rfl⟩ : ∃ k : Nat, n = k := ⟨n.toNat, by omega⟩
  refine h.2 _ ?_
  show Lib.atoiAll (Lib.itoa (k : Int)) = _
  rw [Lib.itoa_nonneg]
  exact atoiAll_dec (by omega)
theorem fit_no {right none : Bool} (h : fitB false right none = true) : none = true := h
theorem fit_yes {right none : Bool} (h : fitB true right none = true) : right = true := h
/-- The attributes of a right request, taken one by one, are the request. -/
theorem takes_back {r q r' : Rq} (hR : RightRq r) (hq : q = { zeroRq with verb := r.verb, text := r.text }) (h : TakesR q (attrsR r) r') : r' = r := by
  obtain ⟨c0, c1, c2, c3, c4, c5, c6, c7, c8, c9, c10⟩ := hR
  unfold attrsR at h
  obtain ⟨q8, k8, y8, n8⟩ := takes_add (show TakesR q (addL (kindB r.verb) ⟨#[116, 121, 112, 101]⟩ (typesL.getD (if r.coll = true then 1 else 0) ⟨#[]⟩) (at8 r)) r' from h)
  obtain ⟨q7, k7, y7, n7⟩ := takes_add (show TakesR q (addL (parB r.verb) ⟨#[112, 97, 114, 101, 110, 116]⟩ r.parent (at7 r)) q8 from k8)
  obtain ⟨q6, k6, y6, n6⟩ := takes_add (show TakesR q (addL (depthB r.verb) ⟨#[100, 101, 112, 116, 104]⟩ (itW r.depth) (at6 r)) q7 from k7)
  obtain ⟨q5, k5, y5, n5⟩ := takes_add (show TakesR q (addL (maxB r.verb) ⟨#[109, 97, 120]⟩ (itW r.max) (at5 r)) q6 from k6)
  obtain ⟨q4, k4, y4, n4⟩ := takes_add (show TakesR q (addL (accB r.verb) ⟨#[97, 99, 99, 101, 115, 115]⟩ (accsL.getD r.acc ⟨#[]⟩) (at4 r)) q5 from k5)
  obtain ⟨q3, k3, y3, n3⟩ := takes_add (show TakesR q (addL (roleB r.verb) ⟨#[114, 111, 108, 101]⟩ (rolesL.getD r.role ⟨#[]⟩) (at3 r)) q4 from k4)
  obtain ⟨q2, k2, y2, n2⟩ := takes_add (show TakesR q (addL (jidB r.verb) ⟨#[106, 105, 100]⟩ r.jid (at2 r)) q3 from k3)
  obtain ⟨q1, k1, y1, n1⟩ := takes_add (show TakesR q (addL (itemB r.verb) ⟨#[105, 116, 101, 109]⟩ r.item (at1 r)) q2 from k2)
  obtain ⟨q0, k0, y0, n0⟩ := takes_add (show TakesR q (addL (nodeB r.verb) ⟨#[110, 111, 100, 101]⟩ r.node (at0 r)) q1 from k1)
  have e0 : q0 = q := k0
  have e1 : q1 = { q0 with node := r.node } := takeR_node (y0 c0)
  have e2 : q2 = { q1 with item := r.item } := by
    cases hb : itemB r.verb with
    | true =>
      exact takeR_item (y1 hb)
    | false =>
      rw [hb] at c2
      have hz : r.item = ⟨#[]⟩ := of_decide_eq_true (fit_no c2)
      rw [n1 hb, hz, e1, e0, hq]
      rfl
  have e3 : q3 = { q2 with jid := r.jid } := by
    cases hb : jidB r.verb with
    | true =>
      exact takeR_jid (y2 hb)
    | false =>
      rw [hb] at c3
      have hz : r.jid = ⟨#[]⟩ := of_decide_eq_true (fit_no c3)
      rw [n2 hb, hz, e2, e1, e0, hq]
      rfl
  have e4 : q4 = { q3 with role := r.role } := by
    cases hb : roleB r.verb with
    | true =>
      obtain ⟨k, hk, hF, e⟩ := takeR_role (y3 hb)
      rw [hb] at c4
      have hh := (Bool.and_eq_true _ _).mp (fit_yes c4)
      rw [e, find_role (of_decide_eq_true hh.1) (of_decide_eq_true hh.2) hk hF]
    | false =>
      rw [hb] at c4
      have hz : r.role = 0 := of_decide_eq_true (fit_no c4)
      rw [n3 hb, hz, e3, e2, e1, e0, hq]
      rfl
  have e5 : q5 = { q4 with acc := r.acc } := by
    cases hb : accB r.verb with
    | true =>
      obtain ⟨k, hk, hF, e⟩ := takeR_access (y4 hb)
      rw [hb] at c5
      rw [e, find_acc (of_decide_eq_true (fit_yes c5)) hk hF]
    | false =>
      rw [hb] at c5
      have hz : r.acc = 0 := of_decide_eq_true (fit_no c5)
      rw [n4 hb, hz, e4, e3, e2, e1, e0, hq]
      rfl
  have e6 : q6 = { q5 with max := r.max } := by
    cases hb : maxB r.verb with
    | true =>
      obtain ⟨k, hF, e⟩ := takeR_max (y5 hb)
      rw [hb] at c6
      have hh := (Bool.and_eq_true _ _).mp (fit_yes c6)
      rw [e, num_back (of_decide_eq_true hh.1) (by have := of_decide_eq_true hh.2; omega) hF]
    | false =>
      rw [hb] at c6
      have hz : r.max = 0 := of_decide_eq_true (fit_no c6)
      rw [n5 hb, hz, e5, e4, e3, e2, e1, e0, hq]
      rfl
  have e7 : q7 = { q6 with depth := r.depth } := by
    cases hb : depthB r.verb with
    | true =>
      obtain ⟨k, hF, e⟩ := takeR_depth (y6 hb)
      rw [hb] at c7
      have hh := (Bool.and_eq_true _ _).mp (fit_yes c7)
      rw [e, num_back (of_decide_eq_true hh.1) (by have := of_decide_eq_true hh.2; omega) hF]
    | false =>
      rw [hb] at c7
      have hz : r.depth = 0 := of_decide_eq_true (fit_no c7)
      rw [n6 hb, hz, e6, e5, e4, e3, e2, e1, e0, hq]
      rfl
  have e8 : q8 = { q7 with parent := r.parent } := by
    cases hb : parB r.verb with
    | true =>
      exact takeR_parent (y7 hb)
    | false =>
      rw [hb] at c8
      have hz : r.parent = ⟨#[]⟩ := of_decide_eq_true (fit_no c8)
      rw [n7 hb, hz, e7, e6, e5, e4, e3, e2, e1, e0, hq]
      rfl
  have e9 : r' = { q8 with coll := r.coll } := by
    cases hb : kindB r.verb with
    | true =>
      obtain ⟨k, hk, hF, e⟩ := takeR_type (y8 hb)
      rw [e, find_type hk hF]
    | false =>
      rw [hb] at c9
      have hz : r.coll = false := of_decide_eq_true (fit_no c9)
      rw [n8 hb, hz, e8, e7, e6, e5, e4, e3, e2, e1, e0, hq]
      rfl
  rw [e9, e8, e7, e6, e5, e4, e3, e2, e1, e0, hq]
/-- What is read of a right request's payload is the request. -/
theorem read_back {r r' : Rq} (hR : RightRq r) (h : ReadP (encT r) r') : r' = r := by
  have hv : 1 ≤ r.verb ∧ r.verb ≤ 15 := of_decide_eq_true hR.1
  have h1 : (encT r)[1]? = some ⟨1, verbB r.verb, attrsR r, ⟨#[]⟩⟩ := rfl
  have h2 : ∃ t, (encT r)[2]? = some t ∧ t.text = r.text := by
    by_cases ht : r.text = ⟨#[]⟩
    · refine ⟨⟨2, verbB r.verb, [], ⟨#[]⟩⟩, ?_, ht.symm⟩
      unfold encT elemT charsT
      rw [if_pos ht]
      rfl
    · refine ⟨⟨3, ⟨#[]⟩, [], r.text⟩, ?_, rfl⟩
      unfold encT elemT charsT
      rw [if_neg ht]
      rfl
  have h3 : ¬ (encT r).length < 3 := by
    unfold encT elemT
    simp
    try omega
  obtain ⟨t, ht, htt⟩ := h2
  rcases h with ⟨h, _⟩ | ⟨t1, t2, k, a1, a2, hk, hF, hT⟩
  · exact absurd h h3
  · rw [h1] at a1
    rw [ht] at a2
    injection a1 with a1
    injection a2 with a2
    subst a1
    subst a2
    obtain rfl : k = r.verb := find_verb hv.1 hv.2 hk hF
    exact takes_back hR (by rw [htt]) hT
theorem find_total (L : List ByteArray) (hL : L.length = 16) (s : ByteArray) : ∃ k, k < 16 ∧ FindR L s k := by
  by_cases h : ∃ k : Nat, L[k]? = some s
  · obtain ⟨k, hk⟩ := h
    have := (List.getElem?_eq_some_iff.1 hk).1
    exact ⟨k, by omega, .inl hk⟩
  · exact ⟨0, by decide, .inr ⟨fun j e => h ⟨j, e⟩, rfl⟩⟩
theorem num_total (s : ByteArray) : ∃ v, NumR s v := by
  cases h : Lib.atoiAll s.data.toList with
  | ok v => exact ⟨v, Lib.atoiAll_bounds h, fun u hu => by rw [h] at hu; injection hu⟩
  | «syntax» => exact ⟨0, ⟨by decide, by decide⟩, fun u hu => by rw [h] at hu; cases hu⟩
  | range => exact ⟨0, ⟨by decide, by decide⟩, fun u hu => by rw [h] at hu; cases hu⟩
theorem take_total (q : Rq) (a : ByteArray × ByteArray) : ∃ q', TakeR q a q' := by
  unfold TakeR
  split
  · exact ⟨_, rfl⟩
  split
  · exact ⟨_, rfl⟩
  split
  · exact ⟨_, rfl⟩
  split
  · obtain ⟨k, hk, hF⟩ := find_total rolesL rfl a.2
    exact ⟨_, k, hk, hF, rfl⟩
  split
  · obtain ⟨k, hk, hF⟩ := find_total accsL rfl a.2
    exact ⟨_, k, hk, hF, rfl⟩
  split
  · obtain ⟨v, hv⟩ := num_total a.2
    exact ⟨_, v, hv, rfl⟩
  split
  · obtain ⟨v, hv⟩ := num_total a.2
    exact ⟨_, v, hv, rfl⟩
  split
  · exact ⟨_, rfl⟩
  split
  · obtain ⟨k, hk, hF⟩ := find_total typesL rfl a.2
    exact ⟨_, k, hk, hF, rfl⟩
  · exact ⟨q, rfl⟩
theorem takes_total : ∀ (l : List (ByteArray × ByteArray)) (q : Rq), ∃ r, TakesR q l r
  | [], q => ⟨q, rfl⟩
  | a :: l, q => by
    obtain ⟨q', h⟩ := take_total q a
    obtain ⟨r, hr⟩ := takes_total l q'
    exact ⟨r, q', h, hr⟩
theorem read_total (ts : List Tok) : ∃ r, ReadP ts r := by
  by_cases h : ts.length < 3
  · exact ⟨zeroRq, .inl ⟨h, rfl⟩⟩
  · obtain ⟨t1, h1⟩ : ∃ t, ts[1]? = some t := ⟨_, List.getElem?_eq_getElem (by omega)⟩
    obtain ⟨t2, h2⟩ : ∃ t, ts[2]? = some t := ⟨_, List.getElem?_eq_getElem (by omega)⟩
    obtain ⟨k, hk, hF⟩ := find_total verbsL rfl t1.name
    obtain ⟨r, hr⟩ := takes_total t1.attrs { zeroRq with verb := k, text := t2.text }
    exact ⟨r, .inr ⟨t1, t2, k, h1, h2, hk, hF, hr⟩⟩
/-- Unlike right requests have unlike payloads. -/
theorem enc_inj {r r' : Rq} (h1 : RightRq r) (h2 : RightRq r') (e : encT r = encT r') : r = r' := by
  obtain ⟨k, hk⟩ := read_total (encT r)
  have e1 := read_back h1 hk
  rw [e] at hk
  have e2 := read_back h2 hk
  rw [← e1, e2]
end Go.Proofs.YtimhkgpjfppkmaaDoor
