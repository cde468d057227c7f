/- Nodes in memory. -/
import Derived.Test.YtffjmkngdjbjlaaDoorDL
import Derived.Test.YtffjmkngdjbjlaaDoorA0g
namespace Go.Proofs.YtffjmkngdjbjlaaDoor
open Go.RowKit

/-- A node. -/
structure Nd where
  name : ByteArray
  coll : Bool
  acc : Nat
  max : Int
  affs : List (ByteArray × Nat)
  subs : List (ByteArray × Bool × Int)
  items : List (ByteArray × ByteArray × ByteArray)
  parent : ByteArray
/-- Where a node's lists lie: an address and a room each. -/
structure NdW where
  aa : Option Addr
  ac : Nat
  sa : Option Addr
  sc : Nat
  ia : Option Addr
  ic : Nat
def ndC (n : Nd) (v : NdW) : List Value := [.string n.name, .bool n.coll, .int .u8 n.acc, .int .i64 n.max, .slice v.aa n.affs.length v.ac, .slice v.sa n.subs.length v.sc, .slice v.ia n.items.length v.ic, .string n.parent]
def ndA (n : Nd) (v : NdW) : Array Value := #[.string n.name, .bool n.coll, .int .u8 n.acc, .int .i64 n.max, .slice v.aa n.affs.length v.ac, .slice v.sa n.subs.length v.sc, .slice v.ia n.items.length v.ic, .string n.parent]
def AffMem (n₀ : Nat) (w : World) (ao : Option Addr) (l : List (ByteArray × Nat)) : Prop :=
  l.length ≤ 1000000 ∧ ∀ k x, l[k]? = some x → ∃ b off, ao = some ⟨b, off, none⟩ ∧ b < n₀ ∧ w.cell? ⟨b, off + k * 2, none⟩ = some (.string x.1) ∧ w.cell? ⟨b, off + k * 2 + 1, none⟩ = some (.int .u8 x.2)
def SubMem (n₀ : Nat) (w : World) (ao : Option Addr) (l : List (ByteArray × Bool × Int)) : Prop :=
  l.length ≤ 1000000 ∧ ∀ k x, l[k]? = some x → ∃ b off, ao = some ⟨b, off, none⟩ ∧ b < n₀ ∧ w.cell? ⟨b, off + k * 3, none⟩ = some (.string x.1) ∧ w.cell? ⟨b, off + k * 3 + 1, none⟩ = some (.bool x.2.1) ∧ w.cell? ⟨b, off + k * 3 + 2, none⟩ = some (.int .i64 x.2.2)
theorem AffMem.below {n₀ : Nat} {w w' : World} {ao : Option Addr} {l : List (ByteArray × Nat)} (h : AffMem n₀ w ao l) (hb : Below n₀ w w') : AffMem n₀ w' ao l :=
  ⟨h.1, fun k x hk => by
    obtain ⟨b, off, e, hb1, c0, c1⟩ := h.2 k x hk
    exact ⟨b, off, e, hb1, (hb.cell (p := ⟨b, _, none⟩) hb1).trans c0, (hb.cell (p := ⟨b, _, none⟩) hb1).trans c1⟩⟩
theorem SubMem.below {n₀ : Nat} {w w' : World} {ao : Option Addr} {l : List (ByteArray × Bool × Int)} (h : SubMem n₀ w ao l) (hb : Below n₀ w w') : SubMem n₀ w' ao l :=
  ⟨h.1, fun k x hk => by
    obtain ⟨b, off, e, hb1, c0, c1, c2⟩ := h.2 k x hk
    exact ⟨b, off, e, hb1, (hb.cell (p := ⟨b, _, none⟩) hb1).trans c0, (hb.cell (p := ⟨b, _, none⟩) hb1).trans c1, (hb.cell (p := ⟨b, _, none⟩) hb1).trans c2⟩⟩
theorem AffMem.raise {n₀ n₁ : Nat} {w : World} {ao : Option Addr} {l : List (ByteArray × Nat)} (h : AffMem n₀ w ao l) (hn : n₀ ≤ n₁) : AffMem n₁ w ao l :=
  ⟨h.1, fun k x hk => by
    obtain ⟨b, off, e, hb1, c⟩ := h.2 k x hk
    exact ⟨b, off, e, Nat.lt_of_lt_of_le hb1 hn, c⟩⟩
theorem SubMem.raise {n₀ n₁ : Nat} {w : World} {ao : Option Addr} {l : List (ByteArray × Bool × Int)} (h : SubMem n₀ w ao l) (hn : n₀ ≤ n₁) : SubMem n₁ w ao l :=
  ⟨h.1, fun k x hk => by
    obtain ⟨b, off, e, hb1, c⟩ := h.2 k x hk
    exact ⟨b, off, e, Nat.lt_of_lt_of_le hb1 hn, c⟩⟩
/-- A node's lists lie there. -/
def NdOk (n₀ : Nat) (w : World) (n : Nd) (v : NdW) : Prop := AffMem n₀ w v.aa n.affs ∧ SubMem n₀ w v.sa n.subs ∧ n.affs.length ≤ v.ac ∧ n.subs.length ≤ v.sc
theorem NdOk.below {n₀ : Nat} {w w' : World} {n : Nd} {v : NdW} (h : NdOk n₀ w n v) (hb : Below n₀ w w') : NdOk n₀ w' n v := ⟨h.1.below hb, h.2.1.below hb, h.2.2⟩
theorem NdOk.raise {n₀ n₁ : Nat} {w : World} {n : Nd} {v : NdW} (h : NdOk n₀ w n v) (hn : n₀ ≤ n₁) : NdOk n₁ w n v := ⟨h.1.raise hn, h.2.1.raise hn, h.2.2⟩
/-- Nodes that are read. -/
def NdsMem (n₀ : Nat) (w : World) (ao : Option Addr) (l : List Nd) (vs : Nat → NdW) : Prop :=
  l.length ≤ 1000 ∧ ∀ k n, l[k]? = some n → NdOk n₀ w n (vs k) ∧ ∃ b off, ao = some ⟨b, off, none⟩ ∧ b < n₀ ∧ ∀ j (h : j < 8), w.cell? ⟨b, off + k * 8 + j, none⟩ = some ((ndC n (vs k))[j]'h)
theorem NdsMem.below {n₀ : Nat} {w w' : World} {ao : Option Addr} {l : List Nd} {vs : Nat → NdW} (h : NdsMem n₀ w ao l vs) (hb : Below n₀ w w') : NdsMem n₀ w' ao l vs :=
  ⟨h.1, fun k n hk => by
    obtain ⟨h1, b, off, e, hb1, c⟩ := h.2 k n hk
    exact ⟨h1.below hb, b, off, e, hb1, fun j hj => (hb.cell (p := ⟨b, _, none⟩) hb1).trans (c j hj)⟩⟩
theorem NdsMem.raise {n₀ n₁ : Nat} {w : World} {ao : Option Addr} {l : List Nd} {vs : Nat → NdW} (h : NdsMem n₀ w ao l vs) (hn : n₀ ≤ n₁) : NdsMem n₁ w ao l vs :=
  ⟨h.1, fun k n hk => by
    obtain ⟨h1, b, off, e, hb1, c⟩ := h.2 k n hk
    exact ⟨h1.raise hn, b, off, e, Nat.lt_of_lt_of_le hb1 hn, c⟩⟩
theorem nd_box {w : World} {b : Nat} {n : Nd} {v : NdW} {ty : TypeId} (h : w.heap[b]? = some (.cells (ndA n v) ty)) : w.cell? ⟨b, 0, none⟩ = some (.string n.name) ∧ w.cell? ⟨b, 1, none⟩ = some (.bool n.coll) ∧ w.cell? ⟨b, 2, none⟩ = some (.int .u8 n.acc) ∧ w.cell? ⟨b, 3, none⟩ = some (.int .i64 n.max) ∧ w.cell? ⟨b, 4, none⟩ = some (.slice v.aa n.affs.length v.ac) ∧ w.cell? ⟨b, 5, none⟩ = some (.slice v.sa n.subs.length v.sc) ∧ w.cell? ⟨b, 6, none⟩ = some (.slice v.ia n.items.length v.ic) ∧ w.cell? ⟨b, 7, none⟩ = some (.string n.parent) := by
  unfold ndA at h
  refine ⟨?_, ?_, ?_, ?_, ?_, ?_, ?_, ?_⟩ <;> simp [World.cell?, h]
/-- Whom a subscription of a node tells, so many steps down. -/
def reachB (steps : Int) (x : ByteArray × Bool × Int) : Bool := !x.2.1 && (decide (steps = 0) || decide (x.2.2 = 0) || decide (steps ≤ x.2.2))
def reachL (steps : Int) (l : List (ByteArray × Bool × Int)) : List ByteArray := (l.filter (reachB steps)).map (·.1)
end Go.Proofs.YtffjmkngdjbjlaaDoor
