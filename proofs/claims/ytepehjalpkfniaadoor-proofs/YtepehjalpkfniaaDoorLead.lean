/-
  OWN. A chain that leads from one digest to another (chain: Leads), walked. No project text.
-/
import Derived.Test.YtepehjalpkfniaaDoorDig
import Derived.Deep.LoopGhost
import Derived.Deep.RegionHeld3
namespace Go.Proofs.YtepehjalpkfniaaDoor
open Go.RowKit

/-- A round of the loop: what the next header is read as, and what that means. -/
theorem round_read (b : Nat) (hk : H4) (m : Int) (g : H4) (l : List UInt8) (r blk : Nat) (h0 : 0 < l.length) :
    ∃ (n : Nat) (x y : H4) (ok : Bool) (c' : List UInt8 × Bool), n < 4294967296 ∧
      Hid (∀ W, Prt W r blk (l, false) → blk < W.heap.size → Calls Tryd.prog 61 #[.pointer (some ⟨r, 0, none⟩)] W fun e w' => e = .returned (.tuple #[hdr (n : Int) x y, .bool ok]) ∧ Prt w' r blk c' ∧ But r W.heap.size W w') ∧
      ((ok = false ∧ Hid (extT b hk m g l = false)) ∨ (ok = true ∧ ¬ n = b + 1 ∧ Hid (extT b hk m g l = false)) ∨ (ok = true ∧ n = b + 1 ∧ ¬ x = hk ∧ Hid (extT b hk m g l = false)) ∨
       (ok = true ∧ n = b + 1 ∧ x = hk ∧ c' = (l.drop 13, false) ∧ 13 ≤ l.length ∧ Hid (extT b hk m g l = extT (b + 1) (sumL (hdL n x y)) m g (l.drop 13)))) := by
  have N := fun W h1 h2 => readHeader_any r blk (l, false) W h1 h2
  by_cases hl : 13 ≤ l.length
  · obtain ⟨n, x, y, hn, e1, e2, e3, h4, h5⟩ := header_read l hl
    rw [e1, e2, e3] at N
    refine ⟨n, x, y, _, _, hn, N, ?_⟩
    rw [nx4_all l hl]
    have h6 := h5 b hk
    by_cases hm : numL (l.take 1) = 66
    · have ho : (decide (numL (l.take 1) = 66) && !false) = true := by simp [hm]
      by_cases hb : n = b + 1
      · by_cases hx : x = hk
        · refine .inr (.inr (.inr ⟨ho, hb, hx, rfl, hl, ?_⟩))
          obtain ⟨g1, g2⟩ := h6.2 ⟨hm, hb, hx⟩
          show _ = _
          rw [extT_ok b hk m g l hl g1 g2, h4 hm]
        · exact .inr (.inr (.inl ⟨ho, hb, hx, extT_no b hk m g l h0 (.inr fun e => hx (h6.1 e).2.2)⟩))
      · exact .inr (.inl ⟨ho, hb, extT_no b hk m g l h0 (.inr fun e => hb (h6.1 e).2.1)⟩)
    · exact .inl ⟨by simp [hm], extT_no b hk m g l h0 (.inr fun e => hm (h6.1 e).1)⟩
  · refine ⟨_, _, _, _, _, numL_take_lt 4 _, N, .inl ⟨?_, extT_no b hk m g l h0 (.inl (by omega))⟩⟩
    rw [nx4_short]
    have : decide (l.length < 13) = true := decide_eq_true (by omega)
    rw [this]
    simp

theorem lead_start (w : World) (b : Int) (h : H4) (m : Int) (g : H4) (l : List UInt8) (blk off cap : Nat) (hl : l.length ≤ 140737488351232) (hlc : l.length ≤ cap) (hc : cap ≤ 140737488355328) (hi : InB w blk off l) (w0 : World)
    (hw : (((w.alloc (.cells #[.int .i64 b, B h.1, B h.2.1, B h.2.2.1, B h.2.2.2] 74)).alloc (.cells #[.int .i64 m, B g.1, B g.2.1, B g.2.2.1, B g.2.2.2] 74)).alloc (.cells #[.slice (some ⟨blk, off, none⟩) l.length cap, .bool false] 106)).alloc (.cells #[.int .i64 b, B h.1, B h.2.1, B h.2.2.1, B h.2.2.2] 74) = w0) :
    Below w.heap.size w w0 ∧ w0.heap.size = w.heap.size + 4 ∧ Dig w0 (w.heap.size + 1) m g ∧ Dig w0 (w.heap.size + 3) b h ∧ Prt w0 (w.heap.size + 2) blk (l, false) := by
  subst hw
  have A := fun (W : World) (o : Obj) => (Below.refl W.heap.size W).alloc (Nat.le_refl _) o
  obtain ⟨w1, e1⟩ : ∃ w1, w.alloc (.cells #[.int .i64 b, B h.1, B h.2.1, B h.2.2.1, B h.2.2.2] 74) = w1 := ⟨_, rfl⟩
  have A1 := A w (.cells #[.int .i64 b, B h.1, B h.2.1, B h.2.2.1, B h.2.2.2] 74)
  have z1 : w1.heap.size = w.heap.size + 1 := by rw [← e1]; simp
  rw [e1] at A1 ⊢
  obtain ⟨w2, e2⟩ : ∃ w2, w1.alloc (.cells #[.int .i64 m, B g.1, B g.2.1, B g.2.2.1, B g.2.2.2] 74) = w2 := ⟨_, rfl⟩
  have A2 := A w1 (.cells #[.int .i64 m, B g.1, B g.2.1, B g.2.2.1, B g.2.2.2] 74)
  have D2 := dig_mk w1 74 m g
  have z2 : w2.heap.size = w.heap.size + 2 := by rw [← e2]; simp [z1]
  rw [e2] at A2 D2 ⊢
  obtain ⟨w3, e3⟩ : ∃ w3, w2.alloc (.cells #[.slice (some ⟨blk, off, none⟩) l.length cap, .bool false] 106) = w3 := ⟨_, rfl⟩
  have A3 := A w2 (.cells #[.slice (some ⟨blk, off, none⟩) l.length cap, .bool false] 106)
  have z3 : w3.heap.size = w.heap.size + 3 := by rw [← e3]; simp [z2]
  have c0 : w3.cell? ⟨w.heap.size + 2, 0, none⟩ = some (.slice (some ⟨blk, off, none⟩) l.length cap) := by rw [← e3, ← z2]; simp
  have c1 : w3.cell? ⟨w.heap.size + 2, 1, none⟩ = some (.bool false) := by rw [← e3, ← z2]; simp
  have cf : ∀ o, w3.frozen? ⟨w.heap.size + 2, o, none⟩ = false := fun o => by rw [← e3, ← z2]; simp
  rw [e3] at A3 ⊢
  have A4 := A w3 (.cells #[.int .i64 b, B h.1, B h.2.1, B h.2.2.1, B h.2.2.2] 74)
  have D4 := dig_mk w3 74 b h
  have z4 : (w3.alloc (.cells #[.int .i64 b, B h.1, B h.2.1, B h.2.2.1, B h.2.2.2] 74)).heap.size = w.heap.size + 4 := by simp [z3]
  generalize w3.alloc (.cells #[.int .i64 b, B h.1, B h.2.1, B h.2.2.1, B h.2.2.2] 74) = w4 at *
  rw [z1] at D2
  rw [z3] at D4
  have B3 : Below w.heap.size w w3 := (A1.trans (A2.mono (by omega))).trans (A3.mono (by omega))
  have P3 : Prt w3 (w.heap.size + 2) blk (l, false) := ⟨off, cap, c0, c1, cf, by have := hi.1; omega, hlc, hl, hc, hi.below B3 hi.1⟩
  exact ⟨B3.trans (A4.mono (by omega)), z4, (D2.below A3 (by omega)).below A4 (by omega), D4, P3.below A4 (by omega) (by have := hi.1; omega)⟩
end Go.Proofs.YtepehjalpkfniaaDoor
