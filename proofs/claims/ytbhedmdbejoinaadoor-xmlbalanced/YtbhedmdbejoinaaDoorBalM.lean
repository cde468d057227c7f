/- What is told is balanced, by hand. -/
import Derived.Test.YtbhedmdbejoinaaDoorXl3
namespace Go.Proofs.YtbhedmdbejoinaaDoor
open Go.RowKit

/-- What a token may be, by the names that are open ahead of it, and whether a text was told last. -/
def TokOk (op : List ByteArray) (lc : Bool) (t : Tok) : Prop := t.kind = 1 ∨ (t.kind = 2 ∧ op.getLast? = some t.name) ∨ (t.kind = 3 ∧ op ≠ [] ∧ t.text.size ≠ 0 ∧ lc = false)
def lastC (lc : Bool) (l : List Tok) : Bool := l.foldl (fun _ t => decide (t.kind = 3)) lc
def Bal (op : List ByteArray) (lc : Bool) : List Tok → Prop
  | [] => True
  | t :: l => TokOk op lc t ∧ Bal (opens op t) (decide (t.kind = 3)) l
theorem Bal_app : ∀ (a b : List Tok) (op : List ByteArray) (lc : Bool), Bal op lc a → Bal (a.foldl opens op) (lastC lc a) b → Bal op lc (a ++ b)
  | [], _, _, _, _, h => h
  | _ :: a, b, _, _, h1, h2 => ⟨h1.1, Bal_app a b _ _ h1.2 h2⟩
theorem Bal_at : ∀ (l : List Tok) (op : List ByteArray) (lc : Bool) (k : Nat) (t : Tok), Bal op lc l → l[k]? = some t → TokOk ((l.take k).foldl opens op) (lastC lc (l.take k)) t
  | [], _, _, _, _, _, h => by simp at h
  | x :: l, op, lc, 0, t, h, hk => by
    cases hk
    exact h.1
  | x :: l, op, lc, k + 1, t, h, hk => Bal_at l _ _ k t h.2 (by simpa using hk)
theorem un_ne {f : Nat} {l t : List UInt8} (hl : l ≠ []) (hf : 0 < f) (h : un f l = some t) : t ≠ [] := by
  cases f with
  | zero => omega
  | succ f =>
    cases l with
    | nil => exact absurd rfl hl
    | cons b r =>
      have key : ∀ (k : List UInt8) (c : UInt8), (un f k).map (c :: ·) = some t → t ≠ [] := fun k c hk => by
        obtain ⟨u, hu, rfl⟩ := Option.map_eq_some_iff.1 hk
        simp
      simp only [un] at h
      split at h
      · cases h
      · split at h
        · split at h
          · exact key _ _ h
          · split at h
            · exact key _ _ h
            · split at h
              · exact key _ _ h
              · split at h
                · exact key _ _ h
                · split at h
                  · exact key _ _ h
                  · cases h
        · exact key _ _ h
/-- What a parser keeps to, of what it told. -/
def Last (st : PS) (lc : Bool) : Prop := lc = true → inTagL st.wait = true ∧ st.begun = true
theorem textL_bal {st st' : PS} {s : List UInt8} {t : List Tok} (h : textL st s = .ok (st', t)) : Bal st.op false t ∧ st'.op = t.foldl opens st.op ∧ (lastC false t = true → st'.begun = true) ∧ st'.wait = st.wait ∧ st'.quote = st.quote := by
  unfold textL at h
  split at h
  · cases h
    exact ⟨trivial, rfl, fun h => (by cases h), rfl, rfl⟩
  · rename_i hs
    split at h
    · cases h
    · rename_i u hu
      split at h
      · split at h
        · rename_i hop
          cases h
          have hne := un_ne hs (List.length_pos_iff.2 hs) hu
          refine ⟨⟨.inr (.inr ⟨rfl, List.ne_nil_of_length_pos hop, ?_, rfl⟩), trivial⟩, rfl, fun _ => rfl, rfl, rfl⟩
          show u.toArray.size ≠ 0
          simpa using hne
        · split at h
          · cases h
            exact ⟨trivial, rfl, fun h => (by cases h), rfl, rfl⟩
          · cases h
      · cases h
theorem tagL_bal {st st' : PS} {s : List UInt8} {t : List Tok} {lc : Bool} (h : tagL st s = .ok (st', t)) (hb : lc = true → st.begun = true) : Bal st.op lc t ∧ st'.op = t.foldl opens st.op ∧ lastC lc t = false := by
  unfold tagL at h
  split at h
  · split at h
    · rename_i hd
      cases h
      refine ⟨trivial, rfl, ?_⟩
      cases lc with
      | false => rfl
      | true =>
        rw [hb rfl] at hd
        cases hd
    · split at h
      · cases h
      · split at h
        · cases h
        · split at h
          · split at h
            · cases h
            · unfold endP at h
              split at h
              · rename_i hg
                cases h
                exact ⟨⟨.inr (.inl ⟨rfl, hg⟩), trivial⟩, rfl, rfl⟩
              · cases h
          · split at h
            · cases h
            · unfold beginP at h
              split at h
              · cases h
              · split at h
                · cases h
                · split at h
                  · cases h
                  · split at h
                    · cases h
                    · split at h
                      · cases h
                        refine ⟨⟨.inl rfl, .inr (.inl ⟨rfl, ?_⟩), trivial⟩, ?_, rfl⟩
                        · simp [opens]
                        · simp [opens]
                      · cases h
                        exact ⟨⟨.inl rfl, trivial⟩, rfl, rfl⟩
  · cases h
theorem putF_bal {st st' : PS} {c : UInt8} {t : List Tok} {lc : Bool} (h : putF st c = .ok (st', t)) (hL : Last st lc) : Bal st.op lc t ∧ st'.op = t.foldl opens st.op ∧ Last st' (lastC lc t) := by
  unfold putF at h
  split at h
  · rename_i hc
    obtain ⟨rfl, hn⟩ := hc
    have hlc : lc = false := by
      cases lc with
      | false => rfl
      | true =>
        have := (hL rfl).1
        rw [hn] at this
        cases this
    subst hlc
    split at h
    · cases h
    · rename_i x hx
      obtain ⟨k1, k2, k3, k4, k5⟩ := textL_bal (st' := x.1) (t := x.2) hx
      unfold put2 at h
      have hw : x.1.wait ++ [60] = [60] := by rw [k4]; rfl
      rw [hw] at h
      split at h
      · cases h
      · split at h
        · split at h
          · rename_i hq
            exact absurd (quoteL_gt hq) (by decide)
          · cases h
            exact ⟨k1, k2, fun hl => ⟨rfl, k3 hl⟩⟩
        · rename_i hq
          exact absurd rfl hq
  · unfold put2 at h
    split at h
    · cases h
    · split at h
      · rename_i hin
        split at h
        · obtain ⟨k1, k2, k3⟩ := tagL_bal (lc := lc) h (fun hl => (hL hl).2)
          exact ⟨k1, k2, fun hl => by rw [k3] at hl; cases hl⟩
        · cases h
          exact ⟨trivial, rfl, fun hl => ⟨hin, (hL hl).2⟩⟩
      · rename_i hin
        cases h
        exact ⟨trivial, rfl, fun hl => absurd (inTagL_app (hL hl).1 _) hin⟩
theorem lastC_app (lc : Bool) (a b : List Tok) : lastC lc (a ++ b) = lastC (lastC lc a) b := List.foldl_append
theorem feedF_bal : ∀ (l : List UInt8) (st : PS) (lc : Bool), Last st lc → Bal st.op lc (feedF st l).2 ∧ (feedF st l).1.op = (feedF st l).2.foldl opens st.op
  | [], st, lc, _ => ⟨trivial, rfl⟩
  | c :: l, st, lc, hL => by
    cases hp : putF st c with
    | error e =>
      rw [feedF_err l hp]
      exact ⟨trivial, rfl⟩
    | ok x =>
      obtain ⟨k1, k2, k3⟩ := putF_bal (st' := x.1) (t := x.2) hp hL
      obtain ⟨i1, i2⟩ := feedF_bal l x.1 _ k3
      rw [feedF_ok (st' := x.1) (t := x.2) l hp]
      rw [k2] at i1 i2
      refine ⟨Bal_app _ _ _ _ k1 i1, ?_⟩
      show (feedF x.1 l).1.op = _
      rw [i2, List.foldl_append]
theorem lastC_take {l : List Tok} {k : Nat} {t : Tok} (h : l[k]? = some t) (lc : Bool) : lastC lc (l.take (k + 1)) = decide (t.kind = 3) := by
  have : l.take (k + 1) = l.take k ++ [t] := by rw [List.take_add_one, h]; rfl
  rw [this, lastC_app]
  rfl
end Go.Proofs.YtbhedmdbejoinaaDoor
