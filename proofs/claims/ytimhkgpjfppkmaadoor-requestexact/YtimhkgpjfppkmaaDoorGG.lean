/- A request's attributes. A request's payload: its text, the sizes of what stands in it. -/
import Derived.Test.YtimhkgpjfppkmaaDoorRq5
import Derived.Lib.ItoaLen
namespace Go.Proofs.YtimhkgpjfppkmaaDoor
open Go.RowKit Go.Shelf

/-- A number as it is written. -/
def itW (v : Int) : ByteArray := ⟨(Lib.itoa v).toArray⟩
def at0 (_ : Rq) : List (ByteArray × ByteArray) := []
def at1 (r : Rq) : List (ByteArray × ByteArray) := addL (nodeB r.verb) ⟨#[110, 111, 100, 101]⟩ r.node (at0 r)
def at2 (r : Rq) : List (ByteArray × ByteArray) := addL (itemB r.verb) ⟨#[105, 116, 101, 109]⟩ r.item (at1 r)
def at3 (r : Rq) : List (ByteArray × ByteArray) := addL (jidB r.verb) ⟨#[106, 105, 100]⟩ r.jid (at2 r)
def at4 (r : Rq) : List (ByteArray × ByteArray) := addL (roleB r.verb) ⟨#[114, 111, 108, 101]⟩ (rolesL.getD r.role ⟨#[]⟩) (at3 r)
def at5 (r : Rq) : List (ByteArray × ByteArray) := addL (accB r.verb) ⟨#[97, 99, 99, 101, 115, 115]⟩ (accsL.getD r.acc ⟨#[]⟩) (at4 r)
def at6 (r : Rq) : List (ByteArray × ByteArray) := addL (maxB r.verb) ⟨#[109, 97, 120]⟩ (itW r.max) (at5 r)
def at7 (r : Rq) : List (ByteArray × ByteArray) := addL (depthB r.verb) ⟨#[100, 101, 112, 116, 104]⟩ (itW r.depth) (at6 r)
def at8 (r : Rq) : List (ByteArray × ByteArray) := addL (parB r.verb) ⟨#[112, 97, 114, 101, 110, 116]⟩ r.parent (at7 r)
def at9 (r : Rq) : List (ByteArray × ByteArray) := addL (kindB r.verb) ⟨#[116, 121, 112, 101]⟩ (typesL.getD (if r.coll = true then 1 else 0) ⟨#[]⟩) (at8 r)
/-- The attributes of a request. -/
def attrsR (r : Rq) : List (ByteArray × ByteArray) := at9 r
theorem addL_len (b : Bool) (nm s : ByteArray) (al : List (ByteArray × ByteArray)) : (addL b nm s al).length ≤ al.length + 1 := by
  unfold addL
  cases b <;> simp
theorem len0 (r : Rq) : (at0 r).length ≤ 0 := Nat.le_refl _
theorem len1 (r : Rq) : (at1 r).length ≤ 1 := by
  have h1 := addL_len (nodeB r.verb) ⟨#[110, 111, 100, 101]⟩ r.node (at0 r)
  have h2 := len0 r
  unfold at1
  omega
theorem len2 (r : Rq) : (at2 r).length ≤ 2 := by
  have h1 := addL_len (itemB r.verb) ⟨#[105, 116, 101, 109]⟩ r.item (at1 r)
  have h2 := len1 r
  unfold at2
  omega
theorem len3 (r : Rq) : (at3 r).length ≤ 3 := by
  have h1 := addL_len (jidB r.verb) ⟨#[106, 105, 100]⟩ r.jid (at2 r)
  have h2 := len2 r
  unfold at3
  omega
theorem len4 (r : Rq) : (at4 r).length ≤ 4 := by
  have h1 := addL_len (roleB r.verb) ⟨#[114, 111, 108, 101]⟩ (rolesL.getD r.role ⟨#[]⟩) (at3 r)
  have h2 := len3 r
  unfold at4
  omega
theorem len5 (r : Rq) : (at5 r).length ≤ 5 := by
  have h1 := addL_len (accB r.verb) ⟨#[97, 99, 99, 101, 115, 115]⟩ (accsL.getD r.acc ⟨#[]⟩) (at4 r)
  have h2 := len4 r
  unfold at5
  omega
theorem len6 (r : Rq) : (at6 r).length ≤ 6 := by
  have h1 := addL_len (maxB r.verb) ⟨#[109, 97, 120]⟩ (itW r.max) (at5 r)
  have h2 := len5 r
  unfold at6
  omega
theorem len7 (r : Rq) : (at7 r).length ≤ 7 := by
  have h1 := addL_len (depthB r.verb) ⟨#[100, 101, 112, 116, 104]⟩ (itW r.depth) (at6 r)
  have h2 := len6 r
  unfold at7
  omega
theorem len8 (r : Rq) : (at8 r).length ≤ 8 := by
  have h1 := addL_len (parB r.verb) ⟨#[112, 97, 114, 101, 110, 116]⟩ r.parent (at7 r)
  have h2 := len7 r
  unfold at8
  omega
theorem len9 (r : Rq) : (at9 r).length ≤ 9 := by
  have h1 := addL_len (kindB r.verb) ⟨#[116, 121, 112, 101]⟩ (typesL.getD (if r.coll = true then 1 else 0) ⟨#[]⟩) (at8 r)
  have h2 := len8 r
  unfold at9
  omega
theorem region_relA {P : Program} {id : Nat} {ops : Array Oper} {Q : Exit → Act → World → Prop} {S : World → Prop} {a : Act} {w : World} (R : Act → Act → World → Prop) (hm : P.follows .mixedOrders = true)
    (h : wpAnyH P .any ops (fun e a' w' => e = .normal ∧ R a a' w') S ops.size (Array.replicate ops.size false) a w.drew) (hq : ∀ a' w', R a a' w' → Q .normal a' w') : (Code.region id ops true).wp P Q a w :=
  region_rel (R a) hm h hq
def putA (T : Array Value) (is : List Nat) (x : Nat → Value) : Array Value := is.foldl (fun t i => t.setIfInBounds i (x i)) T
theorem th_boxA {w : World} {b : Nat} {v : Nat} {ty : TypeId} (h : w.heap[b]? = some (.cells (thA v) ty)) : w.cell? ⟨b, 0, none⟩ = some (.bool (nodeB v)) ∧ w.cell? ⟨b, 1, none⟩ = some (.bool (itemB v)) ∧ w.cell? ⟨b, 2, none⟩ = some (.bool (jidB v)) ∧ w.cell? ⟨b, 3, none⟩ = some (.bool (roleB v)) ∧ w.cell? ⟨b, 4, none⟩ = some (.bool (accB v)) ∧ w.cell? ⟨b, 5, none⟩ = some (.bool (maxB v)) ∧ w.cell? ⟨b, 6, none⟩ = some (.bool (depthB v)) ∧ w.cell? ⟨b, 7, none⟩ = some (.bool (parB v)) ∧ w.cell? ⟨b, 8, none⟩ = some (.bool (kindB v)) ∧ w.cell? ⟨b, 9, none⟩ = some (.bool (textB v)) := by
  unfold thA at h
  refine ⟨?_, ?_, ?_, ?_, ?_, ?_, ?_, ?_, ?_, ?_⟩ <;> simp [World.cell?, h]
theorem ldb {w : World} {p : Addr} {x : Bool} (hc : w.cell? p = some (.bool x)) : (Instr.loadAt 4 (.pointer (some p))).run Tryd.prog w = .ok (.bool x) w := by
  simp [Instr.loadAt, Instr.sureAddr, loadVar, Tryd.isAgg4, hc, go_sem]
theorem ldi {w : World} {p : Addr} {x : Int} (hc : w.cell? p = some (.int .i64 x)) : (Instr.loadAt 3 (.pointer (some p))).run Tryd.prog w = .ok (.int .i64 x) w := by
  simp [Instr.loadAt, Instr.sureAddr, loadVar, Tryd.isAgg3, hc, go_sem]
theorem ldr {w : World} {p : Addr} {x : Int} (hc : w.cell? p = some (.int .u8 x)) : (Instr.loadAt 23 (.pointer (some p))).run Tryd.prog w = .ok (.int .u8 x) w := by
  simp [Instr.loadAt, Instr.sureAddr, loadVar, Tryd.isAgg23, hc, go_sem]
theorem lda {w : World} {p : Addr} {x : Int} (hc : w.cell? p = some (.int .u8 x)) : (Instr.loadAt 24 (.pointer (some p))).run Tryd.prog w = .ok (.int .u8 x) w := by
  simp [Instr.loadAt, Instr.sureAddr, loadVar, Tryd.isAgg24, hc, go_sem]
theorem ex_pickW {o : Oper} {a : Act} {w : World} {x y : Operand} {k : Nat} {kd : IntKind} {L : List ByteArray} (ho : o.op = .index 67 x y) (hx : a.eval x = .agg (w16 L)) (hy : a.eval y = .int kd k) (hL : L.length = 16) (hk : k < 16) : (execOp a.eval o).run Tryd.prog w = .ok (.value (.string (L.getD k ⟨#[]⟩))) w := by
  have h0 : ¬ ((k : Int) < 0) := by omega
  have h1 : (k : Int) < 16 := by omega
  have h2 : (w16 L)[k]? = some (.string (L.getD k ⟨#[]⟩)) := by
    simp only [w16, List.getElem?_toArray, List.getElem?_map]
    rw [List.getElem?_eq_getElem (by omega), List.getD_eq_getElem?_getD, List.getElem?_eq_getElem (by omega)]
    rfl
  have hr : (Instr.index 67 (.agg (w16 L)) (.int kd k)).run Tryd.prog w = .ok (.string (L.getD k ⟨#[]⟩)) w := by
    have hc : (0 : Int) ≤ k ∧ (k : Int) < ((16 : Nat) : Int) := ⟨by omega, by omega⟩
    simp only [Instr.index, Sem.run_bind, asIntOf, Sem.run_pure, Result.andThen_ok, run_underlying Tryd.underlying67]
    rw [if_pos hc]
    simp [Tryd.sizeOf9, part, Tryd.isAgg9, go_sem]
    rw [h2]
    rfl
  unfold execOp
  simp [ho, hx, hy, hr]
theorem itoaW (v : Int) (h0 : -9223372036854775808 ≤ v) (h1 : v ≤ 9223372036854775807) (w : World) (hg : GlobE w) :
    Calls Tryd.prog 38 #[.int .i64 v] w fun e w' => e = .returned (.string (itW v)) ∧ Below w.heap.size w w' := itoa_any v h0 h1 w hg
end Go.Proofs.YtimhkgpjfppkmaaDoor
namespace Go.Proofs.YtimhkgpjfppkmaaDoor
open Go.RowKit Go.Shelf

/-- A text as tokens. -/
def charsT (s : ByteArray) : List Tok := if s = ⟨#[]⟩ then [] else [⟨3, ⟨#[]⟩, [], s⟩]
set_option maxRecDepth 100000 in
theorem charsT_any (s : ByteArray) (w : World) (hs : s.size ≤ 9223372036854775807) : Calls Tryd.prog 18 #[.string s] w fun e w' => (∃ ao cap av, e = .returned (.slice ao (charsT s).length cap) ∧ TokMem w'.heap.size w' ao (charsT s) av) ∧ Below w.heap.size w w' := by
  by_cases h : s = ⟨#[]⟩
  · have hP : ∃ (ao : Option Addr) (cap : Nat) (av : Nat → Option Addr × Nat), Value.slice none 0 0 = .slice ao (charsT s).length cap ∧ TokMem w.heap.size w ao (charsT s) av := by
      have e : charsT s = [] := if_pos h
      rw [e]
      exact ⟨none, 0, fun _ => (none, 0), rfl, by simp, fun k t hk => by simp at hk⟩
    subst h
    have HP := hide hP
    clear hP hs
    go_enter Tryd.func18, Tryd.ntmps18
    go_wp2_with fail
    go_ret
    obtain ⟨ao, cap, av, h1, h2⟩ := HP.out
    exact ⟨⟨ao, cap, av, congrArg Ending.returned h1, h2⟩, Below.refl _ _⟩
  · have hne := full_ne h
    have hbs : (Instr.buildSlice 27 1 #[(0, .agg #[.int .u8 3, .string ⟨#[]⟩, .slice none 0 0, .string s])]).run Tryd.prog w = .ok (.slice (some ⟨w.heap.size, 0, none⟩) 1 1) (w.alloc (.cells #[.int .u8 3, .string ⟨#[]⟩, .slice none 0 0, .string s] 46)) := by kernel_rfl
    have f := World.alloc_heap_new w (.cells #[.int .u8 3, .string ⟨#[]⟩, .slice none 0 0, .string s] 46)
    have hl := (Array.getElem?_eq_some_iff.1 f).1
    have hP : ∃ (ao : Option Addr) (cap : Nat) (av : Nat → Option Addr × Nat), Value.slice (some ⟨w.heap.size, 0, none⟩) 1 1 = .slice ao (charsT s).length cap ∧ TokMem (w.alloc (.cells #[.int .u8 3, .string ⟨#[]⟩, .slice none 0 0, .string s] 46)).heap.size (w.alloc (.cells #[.int .u8 3, .string ⟨#[]⟩, .slice none 0 0, .string s] 46)) ao (charsT s) av := by
      have e : charsT s = [⟨3, ⟨#[]⟩, [], s⟩] := if_neg h
      rw [e]
      refine ⟨_, _, fun _ => (none, 0), rfl, by simp, fun k t hk => ?_⟩
      match k, hk with
      | 0, hk =>
        simp at hk
        subst hk
        refine ⟨show (3 : Nat) < 256 by decide, show (⟨#[]⟩ : ByteArray).size ≤ _ by decide, hs, ⟨by simp, fun a ha => by simp at ha, fun j a hj => by simp at hj⟩, by simp, w.heap.size, 0, rfl, hl, ?_, ?_, ?_, ?_⟩ <;> (simp only [World.cell?]; rw [f]; rfl)
    have HP := hide (And.intro hP ((Below.refl _ w).alloc (Nat.le_refl _) (.cells #[.int .u8 3, .string ⟨#[]⟩, .slice none 0 0, .string s] 46)))
    clear hP f hl h hs
    go_enter Tryd.func18, Tryd.ntmps18
    go_wp2_with (refine l_val rfl _ (ex_sliceK (us := #[(0, .agg #[.int .u8 3, .string ⟨#[]⟩, .slice none 0 0, .string s])]) rfl (by simp [Act.eval]) hbs) ?_)
    go_ret
    obtain ⟨⟨ao, cap, av, h1, h2⟩, h3⟩ := HP.out
    exact ⟨⟨ao, cap, av, congrArg Ending.returned h1, h2⟩, h3⟩
theorem attrMem_raise {n₀ n₁ : Nat} {w : World} {ao : Option Addr} {al : List (ByteArray × ByteArray)} (h : AttrMem n₀ w ao al) (hn : n₀ ≤ n₁) : AttrMem n₁ w ao al :=
  ⟨h.1, h.2.1, fun j a hj => by
    obtain ⟨b, off, e, hb, c⟩ := h.2.2 j a hj
    exact ⟨b, off, e, Nat.lt_of_lt_of_le hb hn, c⟩⟩
theorem words_size (L : List ByteArray) (k : Nat) (h : L.all (fun s => decide (s.size ≤ 100)) = true) : (L.getD k ⟨#[]⟩).size ≤ 9223372036854775807 := by
  rw [List.getD_eq_getElem?_getD]
  cases hk : L[k]? with
  | none => exact Nat.zero_le _
  | some s =>
    have := List.all_eq_true.1 h s (List.mem_of_getElem? hk)
    have h2 := of_decide_eq_true this
    show s.size ≤ _
    omega
theorem itW_size {v : Int} (h0 : -9223372036854775808 ≤ v) (h1 : v ≤ 9223372036854775807) : (itW v).size ≤ 9223372036854775807 := by
  have := Lib.itoa_length_le v h0 h1
  show (Lib.itoa v).length ≤ _
  omega
theorem addL_all {b : Bool} {nm s : ByteArray} {al : List (ByteArray × ByteArray)} (h : ∀ a ∈ al, a.1.size ≤ 9223372036854775807 ∧ a.2.size ≤ 9223372036854775807) (h1 : nm.size ≤ 9223372036854775807) (h2 : s.size ≤ 9223372036854775807) : ∀ a ∈ addL b nm s al, a.1.size ≤ 9223372036854775807 ∧ a.2.size ≤ 9223372036854775807 := by
  intro a ha
  unfold addL at ha
  rcases List.mem_append.1 ha with ha | ha
  · exact h a ha
  · cases b with
    | true =>
      simp at ha
      subst ha
      exact ⟨h1, h2⟩
    | false => simp at ha
theorem attrs_size {r : Rq} (hf : RqFits r) : ∀ a ∈ attrsR r, a.1.size ≤ 9223372036854775807 ∧ a.2.size ≤ 9223372036854775807 := by
  have h0 : ∀ a ∈ at0 r, a.1.size ≤ 9223372036854775807 ∧ a.2.size ≤ 9223372036854775807 := fun a ha => by simp [at0] at ha
  have h1 : ∀ a ∈ at1 r, a.1.size ≤ 9223372036854775807 ∧ a.2.size ≤ 9223372036854775807 := addL_all h0 (by decide) (hf.node)
  have h2 : ∀ a ∈ at2 r, a.1.size ≤ 9223372036854775807 ∧ a.2.size ≤ 9223372036854775807 := addL_all h1 (by decide) (hf.item)
  have h3 : ∀ a ∈ at3 r, a.1.size ≤ 9223372036854775807 ∧ a.2.size ≤ 9223372036854775807 := addL_all h2 (by decide) (hf.jid)
  have h4 : ∀ a ∈ at4 r, a.1.size ≤ 9223372036854775807 ∧ a.2.size ≤ 9223372036854775807 := addL_all h3 (by decide) (words_size rolesL r.role (by decide))
  have h5 : ∀ a ∈ at5 r, a.1.size ≤ 9223372036854775807 ∧ a.2.size ≤ 9223372036854775807 := addL_all h4 (by decide) (words_size accsL r.acc (by decide))
  have h6 : ∀ a ∈ at6 r, a.1.size ≤ 9223372036854775807 ∧ a.2.size ≤ 9223372036854775807 := addL_all h5 (by decide) (itW_size hf.max0 hf.max1)
  have h7 : ∀ a ∈ at7 r, a.1.size ≤ 9223372036854775807 ∧ a.2.size ≤ 9223372036854775807 := addL_all h6 (by decide) (itW_size hf.depth0 hf.depth1)
  have h8 : ∀ a ∈ at8 r, a.1.size ≤ 9223372036854775807 ∧ a.2.size ≤ 9223372036854775807 := addL_all h7 (by decide) (hf.parent)
  have h9 : ∀ a ∈ at9 r, a.1.size ≤ 9223372036854775807 ∧ a.2.size ≤ 9223372036854775807 := addL_all h8 (by decide) (words_size typesL _ (by decide))
  exact h9
/-- The payload of a request. -/
def psB : ByteArray := ⟨#[112, 117, 98, 115, 117, 98]⟩
def encT (r : Rq) : List Tok := elemT psB [] (elemT (verbB r.verb) (attrsR r) (charsT r.text))
theorem verbB_size (v : Nat) : (verbB v).size ≤ 9223372036854775807 := words_size verbsL v (by decide)
end Go.Proofs.YtimhkgpjfppkmaaDoor
