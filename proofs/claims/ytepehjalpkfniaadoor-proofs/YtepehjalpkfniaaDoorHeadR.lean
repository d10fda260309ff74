/-
  OWN. A header that is read (chain: readHeader), walked. No project text.
-/
import Derived.Test.YtepehjalpkfniaaDoorPartsH
import Derived.Test.YtepehjalpkfniaaDoorHead
namespace Go.Proofs.YtepehjalpkfniaaDoor
open Go.RowKit

/-- Nine cells at the head of a block, not frozen. -/
def Slot9 (w : World) (r : Nat) (a0 a1 a2 a3 a4 a5 a6 a7 a8 : Value) : Prop :=
  w.cell? ⟨r, 0, none⟩ = some a0 ∧ w.cell? ⟨r, 1, none⟩ = some a1 ∧ w.cell? ⟨r, 2, none⟩ = some a2 ∧ w.cell? ⟨r, 3, none⟩ = some a3 ∧ w.cell? ⟨r, 4, none⟩ = some a4 ∧ w.cell? ⟨r, 5, none⟩ = some a5 ∧ w.cell? ⟨r, 6, none⟩ = some a6 ∧ w.cell? ⟨r, 7, none⟩ = some a7 ∧ w.cell? ⟨r, 8, none⟩ = some a8 ∧ ∀ o, w.frozen? ⟨r, o, none⟩ = false
theorem Slot9.below {w w' : World} {r n : Nat} {a0 a1 a2 a3 a4 a5 a6 a7 a8 : Value} (h : Slot9 w r a0 a1 a2 a3 a4 a5 a6 a7 a8) (hb : Below n w w') (hr : r < n) : Slot9 w' r a0 a1 a2 a3 a4 a5 a6 a7 a8 := by
  obtain ⟨h0, h1, h2, h3, h4, h5, h6, h7, h8, hf⟩ := h
  have c := fun o => hb.cell (p := ⟨r, o, none⟩) hr
  exact ⟨(c _).trans h0, (c _).trans h1, (c _).trans h2, (c _).trans h3, (c _).trans h4, (c _).trans h5, (c _).trans h6, (c _).trans h7, (c _).trans h8, fun o => (hb.frozen (p := ⟨r, o, none⟩) hr).trans (hf o)⟩
theorem Slot9.but {w w' : World} {r q n : Nat} {a0 a1 a2 a3 a4 a5 a6 a7 a8 : Value} (h : Slot9 w q a0 a1 a2 a3 a4 a5 a6 a7 a8) (hb : But r n w w') (hq : q < n) (hr : q ≠ r) : Slot9 w' q a0 a1 a2 a3 a4 a5 a6 a7 a8 := by
  obtain ⟨h0, h1, h2, h3, h4, h5, h6, h7, h8, hf⟩ := h
  have c := fun o => hb.cell (p := ⟨q, o, none⟩) hq hr
  exact ⟨(c _).trans h0, (c _).trans h1, (c _).trans h2, (c _).trans h3, (c _).trans h4, (c _).trans h5, (c _).trans h6, (c _).trans h7, (c _).trans h8, fun o => (hb.frozen (p := ⟨q, o, none⟩) hq hr).trans (hf o)⟩
theorem slot9_mk (w : World) (t : TypeId) (a0 a1 a2 a3 a4 a5 a6 a7 a8 : Value) : Slot9 (w.alloc (.cells #[a0, a1, a2, a3, a4, a5, a6, a7, a8] t)) w.heap.size a0 a1 a2 a3 a4 a5 a6 a7 a8 := by
  refine ⟨?_, ?_, ?_, ?_, ?_, ?_, ?_, ?_, ?_, fun o => ?_⟩ <;> simp

theorem set9_below (w : World) (q : Nat) (a0 a1 a2 a3 a4 a5 a6 a7 a8 : Value) : Below q w (((((((((w.setCell ⟨q, 0, none⟩ a0).setCell ⟨q, 1, none⟩ a1).setCell ⟨q, 2, none⟩ a2).setCell ⟨q, 3, none⟩ a3).setCell ⟨q, 4, none⟩ a4).setCell ⟨q, 5, none⟩ a5).setCell ⟨q, 6, none⟩ a6).setCell ⟨q, 7, none⟩ a7).setCell ⟨q, 8, none⟩ a8).drew := by
  have h := fun (W : World) (o : Nat) (u : Value) (hb : Below q w W) => Below.setCell (p := ⟨q, o, none⟩) hb (Nat.le_refl q) u
  exact (h _ _ _ (h _ _ _ (h _ _ _ (h _ _ _ (h _ _ _ (h _ _ _ (h _ _ _ (h _ _ _ (h _ _ _ (Below.refl q w)))))))))).drew
set_option maxRecDepth 100000 in
set_option maxHeartbeats 2000000 in
theorem readHeader_any (r b : Nat) (c : List UInt8 × Bool) (w : World) (hc : Prt w r b c) (hbw : b < w.heap.size) :
    Calls Tryd.prog 61 #[.pointer (some ⟨r, 0, none⟩)] w fun e w' => e = .returned (.tuple #[hdr (numL ((nx 1 c).1.take 4) : Int) (pad4 ((nx 4 (nx 1 c)).1.take 4)) (pad4 ((nx 4 (nx 4 (nx 1 c))).1.take 4)), .bool (decide (numL (c.1.take 1) = 66) && !(nx 4 (nx 4 (nx 4 (nx 1 c)))).2)]) ∧ Prt w' r b (nx 4 (nx 4 (nx 4 (nx 1 c)))) ∧ But r w.heap.size w w' := by
  have hrw := hc.lt
  have HC := hide hc
  clear hc
  obtain ⟨c1, e1⟩ : ∃ x, nx 1 c = x := ⟨_, rfl⟩
  rw [e1]
  obtain ⟨c2, e2⟩ : ∃ x, nx 4 c1 = x := ⟨_, rfl⟩
  rw [e2]
  obtain ⟨c3, e3⟩ : ∃ x, nx 4 c2 = x := ⟨_, rfl⟩
  rw [e3]
  obtain ⟨c4, e4⟩ : ∃ x, nx 4 c3 = x := ⟨_, rfl⟩
  rw [e4]
  have N1 := hide (fun W h => number_small r b 1 c W h (by omega))
  have N2 := hide (fun W h => number_small r b 4 c1 W h (by omega))
  have N3 := hide (fun W h h2 => phash_any r b c2 W h h2)
  have N4 := hide (fun W h h2 => phash_any r b c3 W h h2)
  rw [e1] at N1
  rw [e2] at N2
  rw [e3] at N3
  rw [e4] at N4
  clear e1 e2 e3 e4
  have hm : numL (c.1.take 1) < 256 := numL_take_lt 1 c.1
  have hn : numL (c1.1.take 4) < 4294967296 := numL_take_lt 4 c1.1
  generalize numL (c.1.take 1) = m at *
  generalize numL (c1.1.take 4) = n at *
  generalize pad4 (c2.1.take 4) = x at *
  generalize pad4 (c3.1.take 4) = y at *
  obtain ⟨x0, x1, x2, x3⟩ := x
  obtain ⟨y0, y1, y2, y3⟩ := y
  simp only [hdr, hv] at *
  go_enter Tryd.func61, Tryd.ntmps61
  go_wp2_with fail
  refine (N1.out _ ?p1).mono ?_
  case p1 => exact HC.out.below ((Below.refl _ _).alloc (Nat.le_refl _) _) hrw hbw
  rintro e w1 ⟨rfl, hp1, hb1, hz1⟩
  have P1 := hide hp1
  have B1 : Hid (But r w.heap.size w w1) := (But.of_below ((Below.refl _ _).alloc (Nat.le_refl _) _)).trans (hb1.mono (by simp))
  have S1 := hide ((slot9_mk w 108 (.int .i64 0) (.int .u8 0) (.int .u8 0) (.int .u8 0) (.int .u8 0) (.int .u8 0) (.int .u8 0) (.int .u8 0) (.int .u8 0)).but hb1 (by simp) (by omega))
  have z1 : w1.heap.size = w.heap.size + 1 := by rw [hz1]; simp
  clear hp1 hb1 hz1 HC N1
  go_wp2_with fail
  refine (N2.out _ P1.out).mono ?_
  rintro e w2 ⟨rfl, hp2, hb2, hz2⟩
  have P2 := hide hp2
  have B2 := hide (B1.out.trans (hb2.mono (by omega)))
  have S2 := hide (S1.out.but hb2 (by omega) (by omega))
  have z2 : w2.heap.size = w.heap.size + 1 := by rw [hz2, z1]
  clear hp2 hb2 hz2 P1 B1 S1 N2
  go_wp2_with fail
  refine (N3.out _ P2.out (by omega)).mono ?_
  rintro e w3 ⟨rfl, hp3, hb3⟩
  have P3 := hide hp3
  have B3 := hide (B2.out.trans (hb3.mono (by omega)))
  have S3 := hide (S2.out.but hb3 (by omega) (by omega))
  have z3 : w.heap.size + 1 ≤ w3.heap.size := by have := hb3.size; omega
  clear hp3 hb3 P2 B2 S2 N3
  go_wp2_with fail
  refine (N4.out _ P3.out (by omega)).mono ?_
  rintro e w4 ⟨rfl, hp4, hb4⟩
  have P4 := hide hp4
  have B4 := hide (B3.out.trans (hb4.mono (by omega)))
  have S4 := hide (S3.out.but hb4 (by omega) (by omega))
  have z4 : w.heap.size + 1 ≤ w4.heap.size := by have := hb4.size; omega
  clear hp4 hb4 P3 B3 S3 N4
  simp only [B] at *
  go_wp2_with fail
  obtain ⟨w5, hw5⟩ : ∃ w5, w4.alloc (.cells #[.int .i64 (n : Int), .int .u8 x0.toNat, .int .u8 x1.toNat, .int .u8 x2.toNat, .int .u8 x3.toNat, .int .u8 y0.toNat, .int .u8 y1.toNat, .int .u8 y2.toNat, .int .u8 y3.toNat] 108) = w5 := ⟨_, rfl⟩
  have hA := (Below.refl _ w4).alloc (Nat.le_refl _) (.cells #[.int .i64 (n : Int), .int .u8 x0.toNat, .int .u8 x1.toNat, .int .u8 x2.toNat, .int .u8 x3.toNat, .int .u8 y0.toNat, .int .u8 y1.toNat, .int .u8 y2.toNat, .int .u8 y3.toNat] 108)
  have hS := slot9_mk w4 108 (.int .i64 (n : Int)) (.int .u8 x0.toNat) (.int .u8 x1.toNat) (.int .u8 x2.toNat) (.int .u8 x3.toNat) (.int .u8 y0.toNat) (.int .u8 y1.toNat) (.int .u8 y2.toNat) (.int .u8 y3.toNat)
  rw [hw5] at hA hS ⊢
  have P5 := hide (P4.out.below hA (Nat.lt_of_lt_of_le hrw (by omega)) (by omega))
  have B5 := hide (B4.out.trans (But.of_below (hA.mono (by omega))))
  obtain ⟨s0, s1, s2, s3, s4, s5, s6, s7, s8, sf⟩ := S4.out.below hA (by omega)
  obtain ⟨t0, t1, t2, t3, t4, t5, t6, t7, t8, tf⟩ := hS
  have ⟨_, _, _, q1, _⟩ := P5.out
  have hne : ¬ w4.heap.size = w.heap.size := by omega
  have hne2 : ¬ r = w.heap.size := by omega
  have hne3 : ¬ w.heap.size = w4.heap.size := by omega
  have hne4 : ¬ w.heap.size = r := by omega
  clear hw5 hA P4 B4 S4
  have hr5 : Hid (r < w4.heap.size ∧ r < w.heap.size) := ⟨by omega, hrw⟩
  by_cases hmark : m = 66
  · subst hmark
    go_region_held3 (fun W => W.cell? ⟨w4.heap.size, 0, none⟩ = some (.int .i64 (n : Int)) ∧ W.cell? ⟨w4.heap.size, 1, none⟩ = some (.int .u8 x0.toNat) ∧ W.cell? ⟨w4.heap.size, 2, none⟩ = some (.int .u8 x1.toNat) ∧ W.cell? ⟨w4.heap.size, 3, none⟩ = some (.int .u8 x2.toNat) ∧ W.cell? ⟨w4.heap.size, 4, none⟩ = some (.int .u8 x3.toNat) ∧ W.cell? ⟨w4.heap.size, 5, none⟩ = some (.int .u8 y0.toNat) ∧ W.cell? ⟨w4.heap.size, 6, none⟩ = some (.int .u8 y1.toNat) ∧ W.cell? ⟨w4.heap.size, 7, none⟩ = some (.int .u8 y2.toNat) ∧ W.cell? ⟨w4.heap.size, 8, none⟩ = some (.int .u8 y3.toNat) ∧ W.cell? ⟨r, 1, none⟩ = some (.bool c4.2)) (go_keep) (fail)
    go_wp2
    have HB := set9_below w5 w.heap.size (.int .i64 (n : Int)) (.int .u8 x0.toNat) (.int .u8 x1.toNat) (.int .u8 x2.toNat) (.int .u8 x3.toNat) (.int .u8 y0.toNat) (.int .u8 y1.toNat) (.int .u8 y2.toNat) (.int .u8 y3.toNat)
    refine bodyPost_ret (v := .tuple #[.agg #[.int .i64 (n : Int), .int .u8 x0.toNat, .int .u8 x1.toNat, .int .u8 x2.toNat, .int .u8 x3.toNat, .int .u8 y0.toNat, .int .u8 y1.toNat, .int .u8 y2.toNat, .int .u8 y3.toNat], .bool (!c4.2)]) (by simp [results, Tryd.results61, go_sem, s0, s1, s2, s3, s4, s5, s6, s7, s8]) rfl ⟨?_, P5.out.below HB hr5.out.2 hbw, B5.out.trans (But.of_below HB)⟩
    simp [B]
  · have hm2 : ((m : Int) == 66) = false := beq_eq_false_iff_ne.2 (by omega)
    go_region
    go_wp2
    have HB := set9_below w5 w.heap.size (.int .i64 (n : Int)) (.int .u8 x0.toNat) (.int .u8 x1.toNat) (.int .u8 x2.toNat) (.int .u8 x3.toNat) (.int .u8 y0.toNat) (.int .u8 y1.toNat) (.int .u8 y2.toNat) (.int .u8 y3.toNat)
    refine bodyPost_ret (v := .tuple #[.agg #[.int .i64 (n : Int), .int .u8 x0.toNat, .int .u8 x1.toNat, .int .u8 x2.toNat, .int .u8 x3.toNat, .int .u8 y0.toNat, .int .u8 y1.toNat, .int .u8 y2.toNat, .int .u8 y3.toNat], .bool false]) (by simp [results, Tryd.results61, go_sem, s0, s1, s2, s3, s4, s5, s6, s7, s8]) rfl ⟨?_, P5.out.below HB hr5.out.2 hbw, B5.out.trans (But.of_below HB)⟩
    simp [B, hmark]
end Go.Proofs.YtepehjalpkfniaaDoor
