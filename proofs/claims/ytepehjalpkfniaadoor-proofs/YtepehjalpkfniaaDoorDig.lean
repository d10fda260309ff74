/-
  OWN. Digests, compared; digests in memory. No project text.
-/
import Derived.Test.YtepehjalpkfniaaDoorLeadM
import Derived.Test.YtepehjalpkfniaaDoorHeadR
import Derived.Test.YtepehjalpkfniaaDoorRoot
import Derived.Laws.StructEq
namespace Go.Proofs.YtepehjalpkfniaaDoor
open Go.RowKit

def dgv (b : Int) (h : H4) : Value := .agg #[.int .i64 b, B h.1, B h.2.1, B h.2.2.1, B h.2.2.2]
theorem eqA9 (a0 a1 a2 a3 b0 b1 b2 b3 : Int) (w : World) :
    (Op.equalIn 9999 62 (.agg #[.int .u8 a0, .int .u8 a1, .int .u8 a2, .int .u8 a3]) (.agg #[.int .u8 b0, .int .u8 b1, .int .u8 b2, .int .u8 b3])).run Tryd.prog w
      = .ok (a0 == b0 && a1 == b1 && a2 == b2 && a3 == b3) w := by
  have u5 := Tryd.underlying5
  have z5 : ∀ w, (sizeOf 5).run Tryd.prog w = .ok 1 w := fun w => by kernel_rfl
  have a5 : ∀ w, (isAgg 5).run Tryd.prog w = .ok false w := fun w => by kernel_rfl
  rw [show (9999 : Nat) = 9998 + 1 from rfl, Op.equalIn]
  simp only [Sem.run_bind, run_underlying Tryd.underlying62, Result.andThen_ok]
  simp only [Std.Legacy.Range.forIn_eq_forIn_range', Std.Legacy.Range.size, Nat.sub_zero, Nat.add_sub_cancel, Nat.div_one, List.range'_succ, List.range'_zero, List.forIn_cons, List.forIn_nil]
  cases h0 : (a0 == b0)
  · go_simp
  · cases h1 : (a1 == b1)
    · go_simp
    · cases h2 : (a2 == b2)
      · go_simp
      · cases h3 : (a3 == b3)
        · go_simp
        · go_simp
theorem eqD (b m a0 a1 a2 a3 b0 b1 b2 b3 : Int) (w : World) :
    (Op.equalIn 10000 74 (.agg #[.int .i64 b, .int .u8 a0, .int .u8 a1, .int .u8 a2, .int .u8 a3]) (.agg #[.int .i64 m, .int .u8 b0, .int .u8 b1, .int .u8 b2, .int .u8 b3])).run Tryd.prog w
      = .ok (b == m && (a0 == b0 && a1 == b1 && a2 == b2 && a3 == b3)) w := by
  have z5 : ∀ w, (sizeOf 3).run Tryd.prog w = .ok 1 w := fun w => by kernel_rfl
  have z6 : ∀ w, (sizeOf 62).run Tryd.prog w = .ok 4 w := fun w => by kernel_rfl
  have a5 : ∀ w, (isAgg 3).run Tryd.prog w = .ok false w := fun w => by kernel_rfl
  have a6 : ∀ w, (isAgg 62).run Tryd.prog w = .ok true w := fun w => by kernel_rfl
  have e9 := fun w => eqA9 a0 a1 a2 a3 b0 b1 b2 b3 w
  have hS : Tryd.prog.underlying 74 = some (.struct (Tryd.prog.fieldsOf 74)) := by kernel_rfl
  have hp : Tryd.prog.stoodInHeld 74 = false := by kernel_rfl
  rw [show (10000 : Nat) = 9999 + 1 from rfl, run_equalIn_agg w 9999 74 _ _ hS hp]
  simp only [Program.fieldsOf, Tryd.underlying74]
  generalize (a0 == b0 && a1 == b1 && a2 == b2 && a3 == b3) = t at *
  cases h0 : (b == m)
  · go_simp
  · cases t
    · go_simp
    · go_simp
theorem eqDH (b m : Int) (h g : H4) (w : World) : (Op.equalIn 10000 74 (dgv b h) (dgv m g)).run Tryd.prog w = .ok (decide (b = m ∧ h = g)) w := by
  obtain ⟨x0, x1, x2, x3⟩ := h
  obtain ⟨y0, y1, y2, y3⟩ := g
  simp only [dgv, B]
  rw [eqD]
  congr 1
  rw [Bool.eq_iff_iff]
  simp only [u8_int, Bool.and_eq_true, decide_eq_true_iff, beq_iff_eq, Prod.mk.injEq, and_assoc]

/-- Five cells at the head of a block, not frozen: a digest. -/
def Dig (w : World) (q : Nat) (b : Int) (h : H4) : Prop :=
  w.cell? ⟨q, 0, none⟩ = some (.int .i64 b) ∧ w.cell? ⟨q, 1, none⟩ = some (B h.1) ∧ w.cell? ⟨q, 2, none⟩ = some (B h.2.1) ∧ w.cell? ⟨q, 3, none⟩ = some (B h.2.2.1) ∧ w.cell? ⟨q, 4, none⟩ = some (B h.2.2.2) ∧ ∀ o, w.frozen? ⟨q, o, none⟩ = false
theorem Dig.below {w w' : World} {q n : Nat} {b : Int} {h : H4} (hd : Dig w q b h) (hb : Below n w w') (hr : q < n) : Dig w' q b h := by
  obtain ⟨h0, h1, h2, h3, h4, hf⟩ := hd
  have c := fun o => hb.cell (p := ⟨q, o, none⟩) hr
  exact ⟨(c _).trans h0, (c _).trans h1, (c _).trans h2, (c _).trans h3, (c _).trans h4, fun o => (hb.frozen (p := ⟨q, o, none⟩) hr).trans (hf o)⟩
theorem Dig.but {w w' : World} {r q n : Nat} {b : Int} {h : H4} (hd : Dig w q b h) (hb : But r n w w') (hq : q < n) (hr : q ≠ r) : Dig w' q b h := by
  obtain ⟨h0, h1, h2, h3, h4, hf⟩ := hd
  have c := fun o => hb.cell (p := ⟨q, o, none⟩) hq hr
  exact ⟨(c _).trans h0, (c _).trans h1, (c _).trans h2, (c _).trans h3, (c _).trans h4, fun o => (hb.frozen (p := ⟨q, o, none⟩) hq hr).trans (hf o)⟩
theorem dig_mk (w : World) (t : TypeId) (b : Int) (h : H4) : Dig (w.alloc (.cells #[.int .i64 b, B h.1, B h.2.1, B h.2.2.1, B h.2.2.2] t)) w.heap.size b h := by
  refine ⟨?_, ?_, ?_, ?_, ?_, fun o => ?_⟩ <;> simp
theorem Dig.lt {w : World} {q : Nat} {b : Int} {h : H4} (hd : Dig w q b h) : q < w.heap.size := by
  rcases Nat.lt_or_ge q w.heap.size with h' | h'
  · exact h'
  · have := hd.1; simp [World.cell?, Array.getElem?_eq_none h'] at this
theorem Dig.set {w : World} {q : Nat} {b : Int} {h : H4} (hd : Dig w q b h) (b' : Int) (h' : H4) :
    Dig (((((w.setCell ⟨q, 0, none⟩ (.int .i64 b')).setCell ⟨q, 1, none⟩ (B h'.1)).setCell ⟨q, 2, none⟩ (B h'.2.1)).setCell ⟨q, 3, none⟩ (B h'.2.2.1)).setCell ⟨q, 4, none⟩ (B h'.2.2.2)) q b' h' := by
  obtain ⟨h0, h1, h2, h3, h4, hf⟩ := hd
  refine ⟨?_, ?_, ?_, ?_, ?_, fun o => ?_⟩
  · rw [World.cell?_setCell_other _ _ _ _ (by simp), World.cell?_setCell_other _ _ _ _ (by simp), World.cell?_setCell_other _ _ _ _ (by simp), World.cell?_setCell_other _ _ _ _ (by simp)]
    exact World.cell?_setCell_same _ _ _ h0
  · rw [World.cell?_setCell_other _ _ _ _ (by simp), World.cell?_setCell_other _ _ _ _ (by simp), World.cell?_setCell_other _ _ _ _ (by simp)]
    exact World.cell?_setCell_same _ _ _ (show _ = some (B h.1) by rw [World.cell?_setCell_other _ _ _ _ (by simp)]; exact h1)
  · rw [World.cell?_setCell_other _ _ _ _ (by simp), World.cell?_setCell_other _ _ _ _ (by simp)]
    exact World.cell?_setCell_same _ _ _ (show _ = some (B h.2.1) by rw [World.cell?_setCell_other _ _ _ _ (by simp), World.cell?_setCell_other _ _ _ _ (by simp)]; exact h2)
  · rw [World.cell?_setCell_other _ _ _ _ (by simp)]
    exact World.cell?_setCell_same _ _ _ (show _ = some (B h.2.2.1) by rw [World.cell?_setCell_other _ _ _ _ (by simp), World.cell?_setCell_other _ _ _ _ (by simp), World.cell?_setCell_other _ _ _ _ (by simp)]; exact h3)
  · exact World.cell?_setCell_same _ _ _ (show _ = some (B h.2.2.2) by rw [World.cell?_setCell_other _ _ _ _ (by simp), World.cell?_setCell_other _ _ _ _ (by simp), World.cell?_setCell_other _ _ _ _ (by simp), World.cell?_setCell_other _ _ _ _ (by simp)]; exact h4)
  · rw [World.frozen?_setCell, World.frozen?_setCell, World.frozen?_setCell, World.frozen?_setCell, World.frozen?_setCell]; exact hf o
theorem set5_but (w : World) (q n : Nat) (a0 a1 a2 a3 a4 : Value) : But q n w (((((w.setCell ⟨q, 0, none⟩ a0).setCell ⟨q, 1, none⟩ a1).setCell ⟨q, 2, none⟩ a2).setCell ⟨q, 3, none⟩ a3).setCell ⟨q, 4, none⟩ a4) := by
  have h := fun (W : World) (o : Nat) (u : Value) (hb : But q n w W) => But.setCell hb ⟨q, o, none⟩ (.inl rfl) u
  exact h _ _ _ (h _ _ _ (h _ _ _ (h _ _ _ (h _ _ _ (But.refl q n w)))))
theorem Prt.but {w w' : World} {r b q n : Nat} {c : List UInt8 × Bool} (h : Prt w r b c) (hb : But q n w w') (hr : r < n) (hrq : r ≠ q) (hbn : b < n) (hbq : b ≠ q) : Prt w' r b c := by
  obtain ⟨off, cap, h0, h1, hf, hne, hl, hl2, hl3, hi⟩ := h
  exact ⟨off, cap, (hb.cell (p := ⟨r, 0, none⟩) hr hrq).trans h0, (hb.cell (p := ⟨r, 1, none⟩) hr hrq).trans h1, fun o => (hb.frozen (p := ⟨r, o, none⟩) hr hrq).trans (hf o), hne, hl, hl2, hl3, hi.but hb hbn hbq⟩
end Go.Proofs.YtepehjalpkfniaaDoor
