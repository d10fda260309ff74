/-
  OWN. Cells at the head of a block; evidence as the program reads it. No project text.
-/
import Derived.Test.YtepehjalpkfniaaDoorPathR
namespace Go.Proofs.YtepehjalpkfniaaDoor
open Go.RowKit

/-- These cells lie at the head of a block, not frozen. -/
def Cells (w : World) (q : Nat) (vs : List Value) : Prop := (∀ i v, vs[i]? = some v → w.cell? ⟨q, i, none⟩ = some v) ∧ ∀ o, w.frozen? ⟨q, o, none⟩ = false
theorem Cells.below {w w' : World} {q n : Nat} {vs : List Value} (h : Cells w q vs) (hb : Below n w w') (hq : q < n) : Cells w' q vs :=
  ⟨fun i v hv => (hb.cell (p := ⟨q, i, none⟩) hq).trans (h.1 i v hv), fun o => (hb.frozen (p := ⟨q, o, none⟩) hq).trans (h.2 o)⟩
theorem Cells.but {w w' : World} {r q n : Nat} {vs : List Value} (h : Cells w q vs) (hb : But r n w w') (hq : q < n) (hr : q ≠ r) : Cells w' q vs :=
  ⟨fun i v hv => (hb.cell (p := ⟨q, i, none⟩) hq hr).trans (h.1 i v hv), fun o => (hb.frozen (p := ⟨q, o, none⟩) hq hr).trans (h.2 o)⟩
theorem cells_mk (w : World) (t : TypeId) (vs : List Value) : Cells (w.alloc (.cells vs.toArray t)) w.heap.size vs := by
  refine ⟨fun i v hv => ?_, fun o => by simp⟩
  simpa using hv
theorem Cells.set {w : World} {q : Nat} {vs : List Value} (h : Cells w q vs) (i : Nat) (u : Value) (hi : i < vs.length) : Cells (w.setCell ⟨q, i, none⟩ u) q (vs.set i u) := by
  refine ⟨fun j v hv => ?_, fun o => by rw [World.frozen?_setCell]; exact h.2 o⟩
  rw [List.getElem?_set] at hv
  by_cases e : i = j
  · subst e
    simp [hi] at hv
    subst hv
    exact World.cell?_setCell_same _ _ _ (h.1 i _ (List.getElem?_eq_getElem hi))
  · rw [if_neg e] at hv
    rw [World.cell?_setCell_other _ _ _ _ (by simp)]
    exact h.1 j v hv
theorem Cells.other {w : World} {q : Nat} {vs : List Value} (h : Cells w q vs) (p : Addr) (u : Value) (hp : q ≠ p.block) : Cells (w.setCell p u) q vs := by
  refine ⟨fun j v hv => (World.cell?_of_block (w := w) (Below.heap_setCell w p u q hp)).trans (h.1 j v hv), fun o => by rw [World.frozen?_setCell]; exact h.2 o⟩
theorem Cells.lt {w : World} {q : Nat} {v : Value} {vs : List Value} (h : Cells w q (v :: vs)) : q < w.heap.size := by
  rcases Nat.lt_or_ge q w.heap.size with h' | h'
  · exact h'
  · have := h.1 0 v rfl; simp [World.cell?, Array.getElem?_eq_none h'] at this

/-- Evidence, as the program reads it. -/
structure PEv where
  n : Nat
  nth : Nat
  many : Nat
  tn : Nat
  op : List UInt8
  p : List H4
  q : List H4
  ahead : H4
  behind : List UInt8
  short : Bool
def pev (l : List UInt8) : PEv :=
  let c1 := nx 4 (l, false)
  let c2 := nx 1 c1
  let c3 := nx 1 c2
  let c4 := nx 8 c3
  let c5 := nx 2 c4
  let c6 := nx (numL (c4.1.take 2)) c5
  let c7 := nx (4 * numL (c6.1.take 1)) (nx 1 c6)
  let c8 := nx (4 * numL (c7.1.take 1)) (nx 1 c7)
  let c9 := nx 4 c8
  let c10 := nx c9.1.length c9
  ⟨numL (l.take 4), numL (c1.1.take 1), numL (c2.1.take 1), numL (c3.1.take 8), c5.1.take (numL (c4.1.take 2)), padL (c6.1.drop 1) (numL (c6.1.take 1)), padL (c7.1.drop 1) (numL (c7.1.take 1)), pad4 (c8.1.take 4), c9.1.take c9.1.length, c10.2⟩
/-- Is it of the form? -/
def PEv.ok (v : PEv) : Bool := !v.short && decide (1 ≤ v.n) && decide (v.nth < v.many) && decide (v.many ≤ 16) && (!decide (v.n ≤ 3) || decide (v.ahead = zero4))
end Go.Proofs.YtepehjalpkfniaaDoor
