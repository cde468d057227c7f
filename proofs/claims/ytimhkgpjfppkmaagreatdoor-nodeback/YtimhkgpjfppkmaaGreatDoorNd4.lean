/- The nodes above one, the nearest first. -/
import Derived.Test.YtimhkgpjfppkmaaGreatDoorQC
import Derived.Test.YtimhkgpjfppkmaaGreatDoorRangeX
namespace Go.Proofs.YtimhkgpjfppkmaaGreatDoor
open Go.RowKit Go.Shelf Go.MapKept
open Go.ChangeMaps (setBlock)
attribute [local go_sem] Oper.semAt_some

/-- The numbers of the nodes above, so many steps; each that is found is struck off. -/
def ovGo (ns : List Nd) : Nat → List En → ByteArray → List Nat
  | 0, _, _ => []
  | f + 1, l, t => match getE l t with
    | none => []
    | some i => i :: ovGo ns f (delL l t) ((ns[i]?.map (·.parent)).getD ⟨#[]⟩)
theorem ovGo_none {ns : List Nd} {l : List En} {t : ByteArray} (h : getE l t = none) (f : Nat) : ovGo ns f l t = [] := by
  cases f with
  | zero => rfl
  | succ f => simp [ovGo, h]
theorem ovGo_some {ns : List Nd} {l : List En} {t : ByteArray} {i : Nat} (h : getE l t = some i) (f : Nat) : ovGo ns (f + 1) l t = i :: ovGo ns f (delL l t) ((ns[i]?.map (·.parent)).getD ⟨#[]⟩) := by simp [ovGo, h]
theorem ovGo_len (ns : List Nd) : ∀ (f : Nat) (l : List En) (t : ByteArray), (ovGo ns f l t).length ≤ f
  | 0, _, _ => Nat.le_refl _
  | f + 1, l, t => by
    cases h : getE l t with
    | none => rw [ovGo_none h]; simp
    | some i => rw [ovGo_some h]; have := ovGo_len ns f (delL l t) ((ns[i]?.map (·.parent)).getD ⟨#[]⟩); simp; omega
def ovL (ns : List Nd) (t : ByteArray) : List Nat := ovGo ns ns.length (plTo ns ns.length) t
theorem plTo_lt (ns : List Nd) : ∀ k x, x ∈ plTo ns k → x.v < k
  | 0, x, h => by simp [plTo] at h
  | k + 1, x, h => by
    unfold plTo at h
    split at h
    · unfold plAdd at h
      split at h
      · rcases List.mem_append.1 h with h | h
        · have := plTo_lt ns k x h
          omega
        · simp at h
          subst h
          exact Nat.lt_succ_self k
      · have := plTo_lt ns k x h
        omega
    · have := plTo_lt ns k x h
      omega
theorem getE_mem {l : List En} {t : ByteArray} {i : Nat} (h : getE l t = some i) : ∃ x ∈ l, x.v = i := by
  unfold getE at h
  obtain ⟨x, hx, e⟩ := Option.map_eq_some_iff.1 h
  exact ⟨x, List.mem_of_find?_eq_some hx, e⟩
def ovV (ns : List Nd) (vs : Nat → NdW) (S : List Nat) (k : Nat) : Value :=
  match S[k]? with
  | none => undef
  | some i => match ns[i]? with
    | none => undef
    | some n => .agg (ndA n (vs i))
theorem one_cellN {W : World} {b : Nat} {v : Value} {T : TypeId} (h : W.heap[b]? = some (.cells #[v] T)) : W.cell? ⟨b, 0, none⟩ = some v := by simp [World.cell?, h]
end Go.Proofs.YtimhkgpjfppkmaaGreatDoor
