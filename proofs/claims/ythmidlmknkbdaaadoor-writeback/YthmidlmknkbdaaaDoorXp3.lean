/- A parser: a beginning. -/
import Derived.Test.YthmidlmknkbdaaaDoorXp2
import Derived.Test.YthmidlmknkbdaaaDoorXr4
namespace Go.Proofs.YthmidlmknkbdaaaDoor.Xm
open Go.RowKit

/-- No two of a name. -/
def NoRep (al : List (ByteArray × ByteArray)) : Prop := ∀ (i j : Nat) (a b : ByteArray × ByteArray), j < i → al[i]? = some a → al[j]? = some b → a.1 ≠ b.1

set_option maxRecDepth 100000 in
set_option maxHeartbeats 2000000 in
theorem repeats_any (n₀ : Nat) (ao : Option Addr) (cap : Nat) (al : List (ByteArray × ByteArray)) (w : World) (hA : AttrMem n₀ w ao al) (hn : n₀ ≤ w.heap.size) (hcap : al.length ≤ cap) (hl : al.length ≤ 100000) :
    Calls Tryd.prog 103 #[.slice ao al.length cap] w fun e w' => Tells (¬ NoRep al) e ∧ Below w.heap.size w w' := by
  have HA := hide hA
  clear hA
  go_enter Tryd.func103, Tryd.ntmps103
  go_wp2_with fail
  go_loopw [9] (fun i wr => ∃ k : Nat, k ≤ al.length ∧ i = .int .i64 k ∧ (∀ i j a b, i < k → j < i → al[i]? = some a → al[j]? = some b → a.1 ≠ b.1) ∧ Below w.heap.size w wr) (fun i _ => al.length - (intOf i).toNat)
  case atStart => exact ⟨0, Nat.zero_le _, rfl, fun i j a b h => by omega, Below.refl _ _⟩
  case round =>
    obtain ⟨k, hk, rfl, hno, hbw⟩ := hrel
    have hsw := hbw.size
    have HI := hide (And.intro hno hbw)
    clear hno hbw
    by_cases hlt : k < al.length
    · obtain ⟨a, ha⟩ : ∃ a, al[k]? = some a := ⟨al[k], by simp [hlt]⟩
      obtain ⟨b, off, rfl, hb, c1, c2⟩ := HA.out.2.2 k a ha
      have d1 := (HI.out.2.cell (p := ⟨b, _, none⟩) (show b < _ by omega)).trans c1
      have d2 := (HI.out.2.cell (p := ⟨b, _, none⟩) (show b < _ by omega)).trans c2
      clear c1 c2
      have hkc : (k : Int) ≤ cap := by omega
      have hk0 : (0 : Int) ≤ k := by omega
      go_wp2_with fail
      obtain ⟨W1, hW1⟩ : ∃ W1, wr.alloc (.cells #[.string a.1, .string a.2] 65) = W1 := ⟨_, rfl⟩
      have hB1 : Below wr.heap.size wr W1 := by rw [← hW1]; exact (Below.refl _ wr).alloc (Nat.le_refl _) _
      have z1 : W1.heap.size = wr.heap.size + 1 := by rw [← hW1]; simp
      have f1 : W1.heap[wr.heap.size]? = some (.cells #[.string a.1, .string a.2] 65) := by rw [← hW1]; exact World.alloc_heap_new wr _
      rw [hW1]
      obtain ⟨X, hX⟩ : ∃ X, wr.heap.size = X := ⟨_, rfl⟩
      rw [hX] at f1 z1 ⊢
      have H1 := hide (And.intro f1 (HI.out.2.trans (hB1.mono hsw)))
      clear f1 hB1 hW1 d1 d2
      go_loopw [18] (fun i wq => ∃ j : Nat, j ≤ k ∧ i = .int .i64 j ∧ (∀ i b, i < j → al[i]? = some b → a.1 ≠ b.1) ∧ wq.heap[X]? = some (.cells #[.string a.1, .string a.2] 65) ∧ Below w.heap.size w wq) (fun i _ => k - (intOf i).toNat)
      case atStart => exact ⟨0, Nat.zero_le _, rfl, fun i b h => by omega, H1.out.1, H1.out.2⟩
      case round =>
        obtain ⟨j, hj, rfl, hjn, fx, hbq⟩ := hrel
        have hqs := hbq.size
        have hXl : X < wr.heap.size := (Array.getElem?_eq_some_iff.1 fx).1
        have x0 : wr.cell? ⟨X, 0, none⟩ = some (.string a.1) := by simp [World.cell?, fx]
        have HQ := hide (And.intro hjn (And.intro fx hbq))
        clear hjn fx hbq
        by_cases hjk : j < k
        · obtain ⟨y, hy⟩ : ∃ y, al[j]? = some y := ⟨al[j], by simp [show j < al.length by omega]⟩
          obtain ⟨b', off', e, hb', c1, c2⟩ := HA.out.2.2 j y hy
          cases e
          have e1 := (HQ.out.2.2.cell (p := ⟨b, _, none⟩) (show b < _ by omega)).trans c1
          have e2 := (HQ.out.2.2.cell (p := ⟨b, _, none⟩) (show b < _ by omega)).trans c2
          clear c1 c2
          by_cases he : a.1 = y.1
          · have he' : (a.1.toList == y.1.toList) = true := by simp [he]
            go_wp2_with fail
            go_ret
            exact ⟨.inl ⟨fun h => h k j a y hjk ha hy he, rfl⟩, HQ.out.2.2.alloc hqs _⟩
          · have he' : (a.1.toList == y.1.toList) = false := str_ne he
            go_wp2_with fail
            go_roundw
            case rel =>
              refine ⟨j + 1, by omega, by simp, fun i z hi hz => ?_, (Below.heap_alloc _ _ _ hXl).trans HQ.out.2.1, HQ.out.2.2.alloc hqs _⟩
              rcases Nat.lt_or_ge i j with h | h
              · exact HQ.out.1 i z h hz
              · obtain rfl : i = j := by omega
                rw [hy] at hz
                cases hz
                exact he
            case measure => simp [intOf]; omega
        · go_wp2_with fail
          go_roundw
          case rel =>
            refine ⟨k + 1, by omega, by simp, fun i j' p q hi hj' hp hq => ?_, HQ.out.2.2⟩
            rcases Nat.lt_or_ge i k with h | h
            · exact HI.out.1 i j' p q h hj' hp hq
            · obtain rfl : i = k := by omega
              rw [ha] at hp
              cases hp
              exact HQ.out.1 j' q (by omega) hq
          case measure => simp [intOf]; omega
    · go_wp2_with fail
      go_ret
      exact ⟨.inr ⟨fun h => h (fun i j a b hij ha hb => HI.out.1 i j a b (by have := (List.getElem?_eq_some_iff.1 ha).1; omega) hij ha hb), rfl⟩, HI.out.2⟩

open Classical in
noncomputable def repB (al : List (ByteArray × ByteArray)) : Bool := decide (¬ NoRep al)
theorem repB_iff (al : List (ByteArray × ByteArray)) : ¬ NoRep al ↔ repB al = true := by simp [repB]
/-- An element begins. -/
noncomputable def beginP (st : PS) (nm : ByteArray) (al : List (ByteArray × ByteArray)) (ends : Bool) : Except Int (PS × List Tok) :=
  if st.op.length = 0 ∧ st.rooted = true then .error 6 else if 8 < al.length then .error 5 else if repB al = true then .error 6 else if 8 ≤ st.op.length then .error 5
  else if ends = true then .ok ({ st with rooted := true }, [⟨1, nm, al, ⟨#[]⟩⟩, ⟨2, nm, [], ⟨#[]⟩⟩]) else .ok ({ st with rooted := true, op := st.op ++ [nm] }, [⟨1, nm, al, ⟨#[]⟩⟩])
/-- One name more in a row of the call's own: a step of a region that draws. -/
theorem step_nm {ops : Array Oper} {o : Oper} {a : Act} {w : World} {K : Act → World → Prop} {Q : Exit → Act → World → Prop} {E : Prop} (hg : o.guard = none) (s x : Operand)
    (hop : o.op = Op.call { callee := Callee.builtin Builtin.append, args := #[s, x], argTypes := #[66, 66] }) (base : Nat) (v : Value) (op : List ByteArray) (hs : a.eval s = v) (hE : w.ownsRow base 9 1 v op.length (nameCells op)) (u : ByteArray) (bx : Nat)
    (hx : a.eval x = .slice (some ⟨bx, 0, none⟩) 1 1) (hc : w.heap[bx]? = some (.cells #[.string u] 9)) (hl : op.length ≤ 2000) (hb : base ≤ w.heap.size)
    (hK : ∀ v' w', w'.ownsRow base 9 1 v' (op ++ [u]).length (nameCells (op ++ [u])) → w.grownBy w' v.ownBlock → (v'.ownBlock = v.ownBlock ∨ v'.ownBlock = some w.heap.size) → K (a.put o.dst v') w') :
    if Region.wanted o (yielded ops a.tmps) = true then Oper.wp Tryd.prog o a w K Q else E := by
  have hw : Region.wanted o (yielded ops a.tmps) = true := by simp [Region.wanted, hg]
  rw [if_pos hw]
  obtain ⟨i, hi, hz0, hz1, hz2⟩ := info_parts infoString
  obtain ⟨v', w', hrun, r1, r2, _, r4⟩ := run_append_own_at (P := Tryd.prog) w base 66 o.type 9 i _ 1 16 Tryd.underlying66 hi hz0 hz1 hz2 rfl (by decide) v op.length (nameCells op) hE ⟨bx, 0, none⟩ 1 1 [.string u] rfl (fun j z hj => by
    match j, hj with
    | 0, hj => simp at hj; subst hj; simp [Addr.add, World.cell?, hc]) (by simp [Value.oneCell']) (by unfold maxLen; omega) (by omega) hb
  unfold Oper.wp
  simp [execOp, hop, resolve, invoke, builtin, hs, hx, hrun, Result.andThen]
  have h2 : nameCells (op ++ [u]) = nameCells op ++ [.string u] := by simp [nameCells]
  exact hK v' w' (by rw [h2, List.length_append]; exact r1) r2 r4

/-- One token more, and what stays. -/
theorem append_tok2 (w : World) {ops : Array Oper} {rest : List Oper} {o : Oper} {a : Act} {Q : Exit → Act → World → Prop} (hg : o.guard = none) (s x : Operand)
    (hop : o.op = Op.call { callee := Callee.builtin Builtin.append, args := #[s, x], argTypes := #[22, 22] }) (base : Nat) (v : Value) (l : List TokV) (y : TokV) (hs : a.eval s = v) (hE : ElRow base w v l)
    (hy : w.ownsRow base 65 2 (.slice y.2.1 y.1.attrs.length y.2.2) y.1.attrs.length (attrCells y.1.attrs) ∧ Sized y.1) (bx : Nat) (hx : a.eval x = .slice (some ⟨bx, 0, none⟩) 1 1)
    (hc : w.heap[bx]? = some (.cells #[.int .u8 y.1.kind, .string y.1.name, .slice y.2.1 y.1.attrs.length y.2.2, .string y.1.text] 55)) (hl : l.length ≤ 2000) (hb : base ≤ w.heap.size)
    (hK : ∀ v' w', ElRow base w' v' (l ++ [y]) → w.grownBy w' v.ownBlock → wpList Tryd.prog ops Q rest (a.put o.dst v') w') : wpList Tryd.prog ops Q (o :: rest) a w := by
  obtain ⟨i, hi, hz0, hz1, hz2⟩ := info_parts infoTok
  refine wpList_append_own w hg s x 22 hop base 55 i _ 4 64 Tryd.underlying22 hi hz0 hz1 hz2 rfl (by decide) v l.length (l.flatMap tokC) hs hE.1 ⟨bx, 0, none⟩ 1 1 (tokC y) hx rfl (fun j u hj => ?_) (fun u hu => ?_) (by unfold maxLen; omega) (by omega) hb ?_
  · match j, hj with
    | 0, hj => simp [tokC] at hj; subst hj; simp [Addr.add, World.cell?, hc]
    | 1, hj => simp [tokC] at hj; subst hj; simp [Addr.add, World.cell?, hc]
    | 2, hj => simp [tokC] at hj; subst hj; simp [Addr.add, World.cell?, hc]
    | 3, hj => simp [tokC] at hj; subst hj; simp [Addr.add, World.cell?, hc]
  · simp [tokC] at hu
    rcases hu with rfl | rfl | rfl | rfl <;> rfl
  · intro v' w' ho hgr _
    exact hK v' w' (hE.more hy ho hgr) hgr

set_option maxRecDepth 100000 in
set_option maxHeartbeats 4000000 in
theorem pbegin_any (base p bt : Nat) (st : PS) (vw vo : Value) (nm : ByteArray) (ga : Option Addr) (gc : Nat) (al : List (ByteArray × ByteArray)) (ends : Bool) (w : World) (hP : IsP base p st vw vo w) (hn : nm.size ≤ 100000) (hbt : bt ≤ w.heap.size) (hol : st.op.length ≤ 1000)
    (hA : w.ownsRow bt 65 2 (.slice ga al.length gc) al.length (attrCells al)) (hall : al.length ≤ 100000) (hsz : ∀ a ∈ al, a.1.size ≤ 9223372036854775807 ∧ a.2.size ≤ 9223372036854775807) :
    Calls Tryd.prog 90 #[.pointer (some ⟨p, 0, none⟩), .agg #[.string nm, .slice ga al.length gc, .bool ends]] w fun e w' => ((∃ st' toks v l vo', beginP st nm al ends = .ok (st', toks) ∧ e = .returned v ∧ l.map (·.1) = toks ∧ ElRow bt w' v l ∧ IsP base p st' vw vo' w' ∧ (vo'.ownBlock = vo.ownBlock ∨ ∀ g, vo'.ownBlock = some g → w.heap.size ≤ g)) ∨ (∃ err, beginP st nm al ends = .error err ∧ e = stopE err ∧ IsP base p st vw vo w')) ∧
      (Below 0 w w' ∧ ∀ j, j < w.heap.size → j ≠ p → some j ≠ vo.ownBlock → w'.heap[j]? = w.heap[j]?) := by
  obtain ⟨_, _, c2, _, c4, _, cf⟩ := hP.cells
  have cf2 := cf 2 (by omega)
  have cf4 := cf 4 (by omega)
  clear cf
  obtain ⟨go, goc, rfl⟩ := own_shape hP.2.2.2
  obtain ⟨ao, cap, hao, hcap, hAM⟩ := attrMem_own hA (by omega) hsz
  cases hao
  have hpl := hP.lt
  obtain ⟨W1, hW1⟩ : ∃ W1, w.alloc (.cells #[.string nm, .slice ga al.length gc, .bool ends] 124) = W1 := ⟨_, rfl⟩
  have hb1 : Below w.heap.size w W1 := by rw [← hW1]; exact (Below.refl _ w).alloc (Nat.le_refl _) _
  have z1 : W1.heap.size = w.heap.size + 1 := by rw [← hW1]; simp
  have f1 : W1.heap[w.heap.size]? = some (.cells #[.string nm, .slice ga al.length gc, .bool ends] 124) := by rw [← hW1]; exact World.alloc_heap_new w _
  have e0 : W1.cell? ⟨w.heap.size, 0, none⟩ = some (.string nm) := by simp [World.cell?, f1]
  have e1 : W1.cell? ⟨w.heap.size, 1, none⟩ = some (.slice ga al.length gc) := by simp [World.cell?, f1]
  have e2 : W1.cell? ⟨w.heap.size, 2, none⟩ = some (.bool ends) := by simp [World.cell?, f1]
  have hre := repeats_any w.heap.size ga gc al W1 (hAM.below hb1) (by omega) hcap hall
  have d2 := (hb1.cell (p := ⟨p, 2, none⟩) hpl).trans c2
  have d4 := (hb1.cell (p := ⟨p, 4, none⟩) hpl).trans c4
  have HP := hide (And.intro (hP.below hb1) (And.intro hb1 (And.intro hre (And.intro f1 (And.intro hA hP)))))
  have hfr0 : ∀ W, Below w.heap.size w W → (Below 0 w W ∧ ∀ j, j < w.heap.size → j ≠ p → some j ≠ (Value.slice go st.op.length goc).ownBlock → W.heap[j]? = w.heap[j]?) := fun W h => ⟨h.mono (Nat.zero_le _), fun j hj _ _ => h.block j hj⟩
  have HF := hide hfr0
  clear hb1 hre f1 hA hAM hP c2 c4 hfr0
  obtain ⟨no, hno⟩ : ∃ no, st.op.length = no := ⟨_, rfl⟩
  have HNO := hide hno
  rw [hno] at d2 hol
  by_cases h1 : no = 0 ∧ st.rooted = true
  · obtain ⟨h0, hr⟩ := h1
    rw [hr] at d4
    have h0' : ((no : Int) == 0) = true := by rw [h0]; rfl
    have hbp : beginP st nm al ends = .error 6 := by unfold beginP; rw [if_pos ⟨HNO.out.trans h0, hr⟩]
    have HBP := hide hbp
    clear hbp
    go_enter Tryd.func90, Tryd.ntmps90
    go_wp2_with fail
    refine (giveUp_any 6 W1).mono ?_
    rintro e w5 ⟨rfl, hw⟩
    subst hw
    exact ⟨rfl, .inr ⟨6, HBP.out, rfl, HP.out.1⟩, HF.out _ HP.out.2.1⟩
  have hb1 : ¬ (st.op.length = 0 ∧ st.rooted = true) := by rw [HNO.out]; exact h1
  have HB1 := hide hb1
  clear hb1
  have hcs : (((no : Int) == 0) = true ∧ st.rooted = false) ∨ ((no : Int) == 0) = false := by
    by_cases h0 : no = 0
    · refine .inl ⟨by rw [h0]; rfl, ?_⟩
      cases hr : st.rooted with
      | true => exact absurd ⟨h0, hr⟩ h1
      | false => rfl
    · exact .inr (by rw [beq_eq_false_iff_ne]; omega)
  clear h1
  rcases hcs with ⟨hz, hr⟩ | hz
  all_goals
    (try rw [hr] at d4)
    by_cases h8 : 8 < (al.length : Int)
    · go_enter Tryd.func90, Tryd.ntmps90
      go_wp2_with fail
      refine (giveUp_any 5 W1).mono ?_
      rintro e w5 ⟨rfl, hw⟩
      subst hw
      exact ⟨rfl, .inr ⟨5, by unfold beginP; rw [if_neg HB1.out, if_pos (by omega)], rfl, HP.out.1⟩, HF.out _ HP.out.2.1⟩
    go_enter Tryd.func90, Tryd.ntmps90
    go_wp2_with fail
    refine HP.out.2.2.1.mono ?_
    rintro e w2 ⟨⟨hrp, rfl⟩ | ⟨hrp, rfl⟩, hb2⟩
    · have H2 := hide hb2
      clear hb2
      go_wp2_with fail
      refine (giveUp_any 6 w2).mono ?_
      rintro e w5 ⟨rfl, hw⟩
      subst hw
      exact ⟨rfl, .inr ⟨6, by unfold beginP; rw [if_neg HB1.out, if_neg (by omega), if_pos ((repB_iff _).1 hrp)], rfl, HP.out.1.below H2.out⟩, HF.out _ (HP.out.2.1.trans (H2.out.mono (by omega)))⟩
    have hz2 := hb2.size
    have g2 := (hb2.cell (p := ⟨p, 2, none⟩) (show p < _ by omega)).trans d2
    have g4 := (hb2.cell (p := ⟨p, 4, none⟩) (show p < _ by omega)).trans d4
    have gf := HP.out.1.below hb2
    obtain ⟨_, _, _, _, _, _, kf⟩ := gf.cells
    have kf2 := kf 2 (by omega)
    have kf4 := kf 4 (by omega)
    have fx := (hb2.block w.heap.size (by omega)).trans HP.out.2.2.2.1
    have x0 : w2.cell? ⟨w.heap.size, 0, none⟩ = some (.string nm) := by simp [World.cell?, fx]
    have x1 : w2.cell? ⟨w.heap.size, 1, none⟩ = some (.slice ga al.length gc) := by simp [World.cell?, fx]
    have x2 : w2.cell? ⟨w.heap.size, 2, none⟩ = some (.bool ends) := by simp [World.cell?, fx]
    have hbw2 : Below w.heap.size w w2 := HP.out.2.1.trans (hb2.mono (by omega))
    have hA2 := own_same HP.out.2.2.2.2.1 (fun g hg => hbw2.block g (own_lt HP.out.2.2.2.2.1 g hg))
    have hrn : ¬ (repB al = true) := fun h => hrp ((repB_iff _).2 h)
    have H2 := hide (And.intro gf (And.intro hbw2 (And.intro hA2 (And.intro hrn fx))))
    clear gf hbw2 hA2 hb2 kf hrn hrp fx d2 d4 e0 e1 e2
    by_cases h8o : 8 ≤ (no : Int)
    · go_wp2_with fail
      refine (giveUp_any 5 w2).mono ?_
      rintro e w5 ⟨rfl, hw⟩
      subst hw
      exact ⟨rfl, .inr ⟨5, by unfold beginP; rw [if_neg HB1.out, if_neg (by omega), if_neg H2.out.2.2.2.1, if_pos (by rw [HNO.out]; omega)], rfl, H2.out.1⟩, HF.out _ H2.out.2.1⟩
    have hne1 : ¬ (w.heap.size = p) := by omega
    have hne2 : ¬ (p = w.heap.size) := by omega
    have hxl : w.heap.size < w2.heap.size := by omega
    have hpl2 : p < w2.heap.size := by omega
    have hroot := H2.out.1.set_rooted
    have HRT := hide hroot
    clear hroot
    obtain ⟨W3, hW3⟩ : ∃ W3, (w2.setCell ⟨p, 4, none⟩ (.bool true)).alloc (.cells #[.int .u8 1, .string nm, .slice ga al.length gc, .string ⟨#[]⟩] 55) = W3 := ⟨_, rfl⟩
    have z3 : W3.heap.size = w2.heap.size + 1 := by rw [← hW3]; simp
    have hk3 : ∀ j, j < w2.heap.size → W3.heap[j]? = (w2.setCell ⟨p, 4, none⟩ (.bool true)).heap[j]? := fun j hj => by rw [← hW3]; exact Below.heap_alloc _ _ _ (by simpa using hj)
    have hP3 : IsP base p { st with rooted := true } vw (.slice go st.op.length goc) W3 := HRT.out.keep (fun j hj => hk3 j (by simpa using hj))
    have hE3 : ElRow bt W3 (.slice (some ⟨w2.heap.size, 0, none⟩) 1 1) [(⟨1, nm, al, ⟨#[]⟩⟩, ga, gc)] := by
      have hh : W3.heap[w2.heap.size]? = some (.cells #[.int .u8 1, .string nm, .slice ga al.length gc, .string ⟨#[]⟩] 55) := by
        rw [← hW3]
        have h := World.alloc_heap_new (w2.setCell ⟨p, 4, none⟩ (.bool true)) (.cells #[.int .u8 1, .string nm, .slice ga al.length gc, .string ⟨#[]⟩] 55)
        rwa [World.size_setCell] at h
      refine ⟨⟨by simp [tokC], .inr ⟨w2.heap.size, 1, _, rfl, by omega, hh, Nat.le_refl _, by unfold maxLen; omega, by simp, by simp [tokC]⟩⟩, fun x hx => ?_⟩
      simp at hx
      subst hx
      refine ⟨own_same H2.out.2.2.1 (fun g hg => (hk3 g (own_lt H2.out.2.2.1 g hg)).trans (Below.heap_setCell _ _ _ _ (own_ne0 H2.out.2.2.1 H2.out.1.2.1 (by decide) g hg))), ⟨by simp, by show nm.size ≤ _; omega, Nat.zero_le _, by show al.length ≤ _; omega, hsz⟩⟩
    have hfr3 : ∀ j, j < w.heap.size → j ≠ p → W3.heap[j]? = w.heap[j]? := fun j hj hjp => (hk3 j (by omega)).trans ((Below.heap_setCell _ _ _ _ hjp).trans (H2.out.2.1.block j hj))
    have hb03 : Below 0 w W3 := by rw [← hW3]; exact ((H2.out.2.1.mono (Nat.zero_le _)).setCell (p := ⟨p, 4, none⟩) (Nat.zero_le _) _).alloc (Nat.zero_le _) _
    have H3 := hide (And.intro hP3 (And.intro hE3 (And.intro hfr3 (And.intro hb03 hk3))))
    clear hP3 hE3 hfr3 hb03 hk3
    have HW3 := hide hW3
    clear hW3
    cases ends with
    | true =>
      go_wp2_with (at_builtin; refine stopHere ?_)
      unfold Hid
      rw [HW3.out]
      refine append_tok2 _ rfl _ _ rfl bt _ [(⟨1, nm, al, ⟨#[]⟩⟩, ga, gc)] (⟨2, nm, [], ⟨#[]⟩⟩, none, 0) rfl (H3.out.2.1.kept (fun j hj => Below.heap_alloc _ _ _ hj)) ⟨World.ownsRow_nil _ _ _ _, ⟨by simp, by show nm.size ≤ _; omega, Nat.zero_le _, Nat.zero_le _, fun a h => by simp at h⟩⟩ (w2.heap.size + 1) rfl (by rw [← z3]; exact World.alloc_heap_new W3 _) (by simp) (by simp; omega) ?_
      intro v5 w5 hE5 hgr5
      have hkp : ∀ j, j < w2.heap.size → w5.heap[j]? = W3.heap[j]? := fun j hj => (hgr5.block j (by simp; omega) (fun e => by have e' : some j = some w2.heap.size := e; cases e'; omega)).trans (Below.heap_alloc _ _ _ (by omega))
      have hb05 : Below 0 w w5 := (H3.out.2.2.2.1.alloc (Nat.zero_le _) _).grown hgr5 (Nat.zero_le _) (fun _ _ => Nat.zero_le _)
      have H5 := hide (And.intro hE5 (And.intro hkp hb05))
      clear hE5 hgr5 hkp hb05
      go_wp2_with fail
      go_ret
      refine ⟨.inl ⟨{ st with rooted := true }, [⟨1, nm, al, ⟨#[]⟩⟩, ⟨2, nm, [], ⟨#[]⟩⟩], v5, _, .slice go st.op.length goc, ?_, rfl, ?_, H5.out.1, ?_, .inl rfl⟩, H5.out.2.2, fun j hj hjp _ => (H5.out.2.1 j (by omega)).trans (H3.out.2.2.1 j hj hjp)⟩
      · unfold beginP
        rw [if_neg HB1.out, if_neg (by omega), if_neg H2.out.2.2.2.1, if_neg (by rw [HNO.out]; omega), if_pos rfl]
      · rfl
      · exact HRT.out.keep (fun j hj => (H5.out.2.1 j (by simpa using hj)).trans (H3.out.2.2.2.2 j (by simpa using hj)))
    | false =>
      go_wp2_with fail
      rw [HW3.out]
      obtain ⟨_, _, q2, _, _, _, qf⟩ := H3.out.1.cells
      rw [HNO.out] at q2
      have qf2 := qf 2 (by omega)
      have y0 : W3.cell? ⟨w.heap.size, 0, none⟩ = some (.string nm) := by
        have h := (H3.out.2.2.2.2 w.heap.size hxl).trans ((Below.heap_setCell _ _ _ _ hne1).trans H2.out.2.2.2.2)
        simp [World.cell?, h]
      have Z3 := hide z3
      have hown3 : W3.ownsRow base 9 1 (.slice go no goc) st.op.length (nameCells st.op) := by
        rw [← HNO.out]
        exact H3.out.1.2.2.2
      have HO3 := hide hown3
      have hpl3 : p < W3.heap.size := H3.out.1.lt
      have q2a : (W3.alloc (.cells #[.string nm] 9)).cell? ⟨p, 2, none⟩ = some (.slice go no goc) := (((Below.refl W3.heap.size W3).alloc (Nat.le_refl _) _).cell (p := ⟨p, 2, none⟩) hpl3).trans q2
      clear qf z3 hown3 x0 x1 x2 g2 g4 kf2 kf4
      go_region_law
        (refine step_nm rfl _ _ rfl base _ st.op rfl (own_same HO3.out (fun g hg => Below.heap_alloc _ _ _ (own_lt HO3.out g hg))) nm _ rfl (World.alloc_heap_new W3.drew _) (by rw [HNO.out]; omega) (by have h0 := H3.out.1.1; have h1 := H3.out.1.lt; simp; omega) ?_; intro v6 w6 hown6 hgr6 hob6; obtain ⟨g6, c6, rfl⟩ := own_shape hown6; have hkp : ∀ j, j < W3.heap.size → some j ≠ (Value.slice go no goc).ownBlock → w6.heap[j]? = W3.heap[j]? := (fun j hj hne => (hgr6.block j (by simp; omega) hne).trans (Below.heap_alloc _ _ _ (by simpa using hj))); have hp6 := (hkp p H3.out.1.lt (fun e => own_ne0 HO3.out H3.out.1.2.1 (by decide) p e.symm rfl)).trans H3.out.1.2.1; have j2 : w6.cell? ⟨p, 2, none⟩ = some (.slice go st.op.length goc) := (by simp [World.cell?, hp6]); have jf : w6.frozen? ⟨p, 2, none⟩ = false := (by simp [World.frozen?, hp6]))
      all_goals
        have hP6 : IsP base p { st with rooted := true, op := st.op ++ [nm] } vw (.slice g6 (st.op ++ [nm]).length c6) (w6.setCell ⟨p, 2, none⟩ (.slice g6 (st.op ++ [nm]).length c6)) := by
          have hw6 : w6.ownsRow base 5 1 vw st.wait.length (Lib.byteCells st.wait) := own_same H3.out.1.2.2.1 (fun g hg => hkp g (own_lt H3.out.1.2.2.1 g hg) (own_types H3.out.1.2.2.1 HO3.out (by decide) g hg))
          exact ⟨H3.out.1.1, heap_setCell_same _ _ 2 _ _ _ hp6, own_same hw6 (fun g hg => Below.heap_setCell _ _ _ _ (own_ne0 hw6 hp6 (by decide) g hg)), own_same hown6 (fun g hg => Below.heap_setCell _ _ _ _ (own_ne0 hown6 hp6 (by decide) g hg))⟩
        have hE6 : ElRow bt (w6.setCell ⟨p, 2, none⟩ (.slice g6 (st.op ++ [nm]).length c6)) (.slice (some ⟨w2.heap.size, 0, none⟩) 1 1) [(⟨1, nm, al, ⟨#[]⟩⟩, ga, gc)] :=
          ⟨own_same H3.out.2.1.1 (fun g hg => (Below.heap_setCell _ _ _ _ (own_ne0 H3.out.2.1.1 H3.out.1.2.1 (by decide) g hg)).trans (hkp g (own_lt H3.out.2.1.1 g hg) (own_types H3.out.2.1.1 HO3.out (by decide) g hg))), fun x hx => ⟨own_same (H3.out.2.1.2 x hx).1 (fun g hg => (Below.heap_setCell _ _ _ _ (own_ne0 (H3.out.2.1.2 x hx).1 H3.out.1.2.1 (by decide) g hg)).trans (hkp g (own_lt (H3.out.2.1.2 x hx).1 g hg) (own_types (H3.out.2.1.2 x hx).1 HO3.out (by decide) g hg))), (H3.out.2.1.2 x hx).2⟩⟩
        have hb06 : Below 0 w (w6.setCell ⟨p, 2, none⟩ (.slice g6 (st.op ++ [nm]).length c6)) := (((H3.out.2.2.2.1.drew).alloc (Nat.zero_le _) _).grown hgr6 (Nat.zero_le _) (fun _ _ => Nat.zero_le _)).setCell (p := ⟨p, 2, none⟩) (Nat.zero_le _) _
        have hfr6 : ∀ j, j < w.heap.size → j ≠ p → some j ≠ (Value.slice go no goc).ownBlock → (w6.setCell ⟨p, 2, none⟩ (.slice g6 (st.op ++ [nm]).length c6)).heap[j]? = w.heap[j]? := fun j hj hjp hjo => (Below.heap_setCell _ _ _ _ hjp).trans ((hkp j (by have := Z3.out; omega) hjo).trans (H3.out.2.2.1 j hj hjp))
        have hob : (Value.slice g6 (st.op ++ [nm]).length c6).ownBlock = (Value.slice go no goc).ownBlock ∨ ∀ g, (Value.slice g6 (st.op ++ [nm]).length c6).ownBlock = some g → w.heap.size ≤ g := by
          rcases hob6 with h | h
          · exact .inl h
          · refine .inr (fun g hg => ?_)
            rw [h] at hg
            cases hg
            have := Z3.out
            simp
            omega
        have HH := hide (And.intro hP6 (And.intro hE6 (And.intro hb06 (And.intro hfr6 hob))))
        clear hP6 hE6 hb06 hfr6 hob hkp hp6 j2 jf hown6 hgr6 hob6
        go_wp2_with fail
        go_ret
        have hlen : (st.op ++ [nm]).length = no + 1 := by rw [List.length_append, HNO.out]; rfl
        have h7 := HH.out
        rw [hlen] at h7
        refine ⟨.inl ⟨{ st with rooted := true, op := st.op ++ [nm] }, [⟨1, nm, al, ⟨#[]⟩⟩], ?_, .slice (some ⟨w2.heap.size, 0, none⟩) 1 1, rfl, [(⟨1, nm, al, ⟨#[]⟩⟩, ga, gc)], rfl, h7.2.1, .slice g6 (no + 1) c6, h7.1, h7.2.2.2.2⟩, h7.2.2.1, h7.2.2.2.1⟩
        unfold beginP
        rw [if_neg HB1.out, if_neg (by omega), if_neg H2.out.2.2.2.1, if_neg (by rw [HNO.out]; omega), if_neg (by simp)]
end Go.Proofs.YthmidlmknkbdaaaDoor.Xm
