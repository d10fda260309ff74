/-
  OWN. sums' join, carry and Root, walked. No project text.
-/
import Derived.Test.YtepehjalpkfniaaDoorMem
namespace Go.Proofs.YtepehjalpkfniaaDoor
open Go.RowKit

/-- Four bytes lie at the head of a block. -/
def At4 (w : World) (r : Nat) (x : H4) : Prop :=
  w.cell? ⟨r, 0, none⟩ = some (B x.1) ∧ w.cell? ⟨r, 1, none⟩ = some (B x.2.1) ∧ w.cell? ⟨r, 2, none⟩ = some (B x.2.2.1) ∧ w.cell? ⟨r, 3, none⟩ = some (B x.2.2.2)
theorem At4.lt {w : World} {r : Nat} {x : H4} (h : At4 w r x) : r < w.heap.size := by
  rcases Nat.lt_or_ge r w.heap.size with h' | h'
  · exact h'
  · have := h.1; simp [World.cell?, Array.getElem?_eq_none h'] at this
theorem At4.below {w w' : World} {r n : Nat} {x : H4} (h : At4 w r x) (hb : Below n w w') (hr : r < n) : At4 w' r x :=
  ⟨(hb.cell (p := ⟨r, 0, none⟩) hr).trans h.1, (hb.cell (p := ⟨r, 1, none⟩) hr).trans h.2.1, (hb.cell (p := ⟨r, 2, none⟩) hr).trans h.2.2.1, (hb.cell (p := ⟨r, 3, none⟩) hr).trans h.2.2.2⟩
theorem At4.alloc {w : World} {r : Nat} {x : H4} (h : At4 w r x) (o : Obj) : At4 (w.alloc o) r x := h.below ((Below.refl _ _).alloc (Nat.le_refl _) _) h.lt
/-- What the package's variable for 'no sum' holds. -/
def NoS (w : World) : Prop := At4 w 0 noS

theorem NoS.below {w w' : World} {n : Nat} (h : NoS w) (hb : Below n w w') (hn : 0 < n) : NoS w' := At4.below h hb hn
theorem NoS.cells {w : World} (h : NoS w) : w.cell? ⟨0, 0, none⟩ = some (.int .u8 255) ∧ w.cell? ⟨0, 1, none⟩ = some (.int .u8 255) ∧ w.cell? ⟨0, 2, none⟩ = some (.int .u8 255) ∧ w.cell? ⟨0, 3, none⟩ = some (.int .u8 255) := h
theorem eqA (a0 a1 a2 a3 b0 b1 b2 b3 : Int) (w : World) :
    (Op.equalIn 10000 62 (.agg #[.int .u8 a0, .int .u8 a1, .int .u8 a2, .int .u8 a3]) (.agg #[.int .u8 b0, .int .u8 b1, .int .u8 b2, .int .u8 b3])).run Tryd.prog w
      = .ok (a0 == b0 && a1 == b1 && a2 == b2 && a3 == b3) w := by
  have u5 := Tryd.underlying5
  have z5 : ∀ w, (sizeOf 5).run Tryd.prog w = .ok 1 w := fun w => by kernel_rfl
  have a5 : ∀ w, (isAgg 5).run Tryd.prog w = .ok false w := fun w => by kernel_rfl
  rw [show (10000 : Nat) = 9999 + 1 from rfl, Op.equalIn]
  simp only [Sem.run_bind, run_underlying Tryd.underlying62, Result.andThen_ok]
  simp only [Std.Legacy.Range.forIn_eq_forIn_range', Std.Legacy.Range.size, Nat.sub_zero, Nat.add_sub_cancel, Nat.div_one, List.range'_succ, List.range'_zero, List.forIn_cons, List.forIn_nil]
  cases h0 : (a0 == b0)
  · go_simp
  · cases h1 : (a1 == b1)
    · go_simp
    · cases h2 : (a2 == b2)
      · go_simp
      · cases h3 : (a3 == b3)
        · go_simp
        · go_simp
theorem u8_int (a b : UInt8) : ((a.toNat : Int) == (b.toNat : Int)) = decide (a = b) := by
  rw [Bool.eq_iff_iff, beq_iff_eq, decide_eq_true_iff, ← UInt8.toNat_inj]
  omega
theorem eqH (x y : H4) (w : World) : (Op.equalIn 10000 62 (hv x) (hv y)).run Tryd.prog w = .ok (decide (x = y)) w := by
  obtain ⟨x0, x1, x2, x3⟩ := x
  obtain ⟨y0, y1, y2, y3⟩ := y
  simp only [hv, B]
  rw [eqA]
  simp only [u8_int, Prod.mk.injEq, Bool.decide_and, Bool.and_assoc]

set_option maxHeartbeats 1000000 in
theorem join_any (x y : H4) (w : World) (hg : NoS w) :
    Calls Tryd.prog 47 #[hv x, hv y] w fun e w' => e = .returned (hv (joinL x y)) ∧ Below w.heap.size w w' := by
  have e1 : ∀ w, (Op.equalIn 10000 62 (hv x) (.agg #[.int .u8 255, .int .u8 255, .int .u8 255, .int .u8 255])).run Tryd.prog w = .ok (decide (x = noS)) w := eqH x noS
  have e2 : ∀ w, (Op.equalIn 10000 62 (hv y) (.agg #[.int .u8 255, .int .u8 255, .int .u8 255, .int .u8 255])).run Tryd.prog w = .ok (decide (y = noS)) w := eqH y noS
  have hlt : 0 < w.heap.size := hg.lt
  obtain ⟨z, hz⟩ : ∃ z, joinL x y = z := ⟨_, rfl⟩
  obtain ⟨g0, g1, g2, g3⟩ := hg.cells
  clear hg
  rw [hz]
  unfold joinL at hz
  have HN : ∀ W, Hid (Calls Tryd.prog 59 #[hv x, hv y] W fun e w' => e = .returned (hv (nodeL x y)) ∧ Below W.heap.size W w') := nodeSum_any x y
  by_cases hx : x = noS
  · rw [if_pos hx] at hz
    subst hz
    rw [decide_eq_true hx] at e1
    clear hx e2 HN
    obtain ⟨x0, x1, x2, x3⟩ := x
    obtain ⟨y0, y1, y2, y3⟩ := y
    simp only [hv, B] at *
    go_enter Tryd.func47, Tryd.ntmps47
    go_wp2
    refine bodyPost_ret (v := .agg #[.int .u8 y0.toNat, .int .u8 y1.toNat, .int .u8 y2.toNat, .int .u8 y3.toNat]) (by simp [results, Tryd.results47, go_sem]) rfl ⟨rfl, ?_⟩
    exact (((Below.refl _ _).alloc (Nat.le_refl _) _).alloc (by simp) _).alloc (by simp <;> omega) _
  · rw [if_neg hx] at hz
    rw [decide_eq_false hx] at e1
    by_cases hy : y = noS
    · rw [if_pos hy] at hz
      subst hz
      rw [decide_eq_true hy] at e2
      clear hx hy HN
      obtain ⟨x0, x1, x2, x3⟩ := x
      obtain ⟨y0, y1, y2, y3⟩ := y
      simp only [hv, B] at *
      go_enter Tryd.func47, Tryd.ntmps47
      go_wp2
      refine bodyPost_ret (v := .agg #[.int .u8 x0.toNat, .int .u8 x1.toNat, .int .u8 x2.toNat, .int .u8 x3.toNat]) (by simp [results, Tryd.results47, go_sem]) rfl ⟨rfl, ?_⟩
      exact (((Below.refl _ _).alloc (Nat.le_refl _) _).alloc (by simp) _).alloc (by simp <;> omega) _
    · rw [if_neg hy] at hz
      rw [decide_eq_false hy] at e2
      rw [hz] at HN
      clear hx hy hz
      obtain ⟨x0, x1, x2, x3⟩ := x
      obtain ⟨y0, y1, y2, y3⟩ := y
      obtain ⟨z0, z1, z2, z3⟩ := z
      simp only [hv, B] at *
      have S3 := slot4_new ((w.alloc (.cells #[.int .u8 x0.toNat, .int .u8 x1.toNat, .int .u8 x2.toNat, .int .u8 x3.toNat] 62)).alloc (.cells #[.int .u8 y0.toNat, .int .u8 y1.toNat, .int .u8 y2.toNat, .int .u8 y3.toNat] 62)) 62
      rw [World.size_alloc, World.size_alloc] at S3
      go_enter Tryd.func47, Tryd.ntmps47
      go_wp2_with fail
      refine ((HN _).out).mono ?_
      rintro e w1 ⟨rfl, hb1⟩
      have hz : w.heap.size + 1 + 1 < w1.heap.size := by have := hb1.size; simp at this; omega
      obtain ⟨c0, c1, c2, c3, f0⟩ := S3.below hb1 (by simp)
      have HC : Hid (Below w.heap.size w w1) := ((((Below.refl _ _).alloc (Nat.le_refl _) _).alloc (by simp) _).alloc (by simp <;> omega) _).trans (hb1.mono (by simp; omega))
      clear hb1 S3 HN g0 g1 g2 g3 e1 e2
      go_wp2
      refine bodyPost_ret (v := .agg #[.int .u8 z0.toNat, .int .u8 z1.toNat, .int .u8 z2.toNat, .int .u8 z3.toNat]) (by simp [results, Tryd.results47, go_sem, c0, c1, c2, c3]) rfl ⟨rfl, ?_⟩
      exact Below.setCell (Below.setCell (Below.setCell (Below.setCell HC.out (by simp; omega) _) (by simp; omega) _) (by simp; omega) _) (by simp; omega) _
end Go.Proofs.YtepehjalpkfniaaDoor
