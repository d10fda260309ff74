/-
  OWN. Evidence that is read (chain: readEvidence), walked. No project text.
-/
import Derived.Test.YtepehjalpkfniaaDoorCells
namespace Go.Proofs.YtepehjalpkfniaaDoor
open Go.RowKit

theorem Own.slice {w : World} {base : Nat} {v : Value} {hs : List H4} (h : Own w base v hs) : ∃ a cap, v = .slice a hs.length cap := by
  rcases h.2 with ⟨e, e2⟩ | ⟨g, cap, cur, e, _⟩
  · exact ⟨none, 0, by rw [e, e2]⟩
  · exact ⟨_, cap, e⟩
theorem Own.mono {w : World} {base base' : Nat} {v : Value} {hs : List H4} (h : Own w base v hs) (hb : base' ≤ base) : Own w base' v hs :=
  ⟨h.1, h.2.imp id (fun ⟨g, cap, cur, e, hbg, r⟩ => ⟨g, cap, cur, e, Nat.le_trans hb hbg, r⟩)⟩
theorem set12_but (w : World) (q n : Nat) (v0 v1 v2 v3 v4 v5 v6 v7 v8 v9 v10 v11 : Value) : But q n w ((((((((((((w.setCell ⟨q, 0, none⟩ (v0)).setCell ⟨q, 1, none⟩ (v1)).setCell ⟨q, 2, none⟩ (v2)).setCell ⟨q, 3, none⟩ (v3)).setCell ⟨q, 4, none⟩ (v4)).setCell ⟨q, 5, none⟩ (v5)).setCell ⟨q, 6, none⟩ (v6)).setCell ⟨q, 7, none⟩ (v7)).setCell ⟨q, 8, none⟩ (v8)).setCell ⟨q, 9, none⟩ (v9)).setCell ⟨q, 10, none⟩ (v10)).setCell ⟨q, 11, none⟩ (v11)).drew := by
  have h := fun (W : World) (o : Nat) (u : Value) (hb : But q n w W) => But.setCell hb ⟨q, o, none⟩ (.inl rfl) u
  exact (h _ _ _ (h _ _ _ (h _ _ _ (h _ _ _ (h _ _ _ (h _ _ _ (h _ _ _ (h _ _ _ (h _ _ _ (h _ _ _ (h _ _ _ (h _ _ _ (But.refl q n w))))))))))))).drew
theorem numL_take8 (l : List UInt8) : numL (l.take 8) < 18446744073709551616 := numL_take_lt 8 l
/-- What comes back: evidence in memory. -/
def EvAt (w : World) (base blk : Nat) (e : Value) (v : PEv) : Prop :=
  ∃ oOp oBe vP vQ, e = .agg #[.int .i64 (v.n : Int), .int .i64 (v.nth : Int), .int .i64 (v.many : Int), .int .i64 (wrap64 (v.tn : Int)), .slice (some ⟨blk, oOp, none⟩) v.op.length v.op.length, vP, vQ, B v.ahead.1, B v.ahead.2.1, B v.ahead.2.2.1, B v.ahead.2.2.2, .slice (some ⟨blk, oBe, none⟩) v.behind.length v.behind.length] ∧
    InB w blk oOp v.op ∧ InB w blk oBe v.behind ∧ Own w base vP v.p ∧ Own w base vQ v.q

set_option maxRecDepth 100000 in
set_option maxHeartbeats 8000000 in
theorem readEvidence_any (l : List UInt8) (blk off cap : Nat) (w : World) (hl : l.length ≤ 140737488351232) (hlc : l.length ≤ cap) (hc : cap ≤ 140737488355328) (hi : InB w blk off l) :
    Calls Tryd.prog 63 #[.slice (some ⟨blk, off, none⟩) l.length cap] w fun e w' => ∃ ev, e = .returned (.tuple #[ev, .bool (pev l).ok]) ∧ EvAt w' w.heap.size blk ev (pev l) ∧ Below w.heap.size w w' := by
  have hblk := hi.1
  obtain ⟨c1, e1⟩ : ∃ x, nx 4 (l, false) = x := ⟨_, rfl⟩
  obtain ⟨c2, e2⟩ : ∃ x, nx 1 c1 = x := ⟨_, rfl⟩
  obtain ⟨c3, e3⟩ : ∃ x, nx 1 c2 = x := ⟨_, rfl⟩
  obtain ⟨c4, e4⟩ : ∃ x, nx 8 c3 = x := ⟨_, rfl⟩
  obtain ⟨c5, e5⟩ : ∃ x, nx 2 c4 = x := ⟨_, rfl⟩
  obtain ⟨c6, e6⟩ : ∃ x, nx (numL (c4.1.take 2)) c5 = x := ⟨_, rfl⟩
  obtain ⟨c7, e7⟩ : ∃ x, nx (4 * numL (c6.1.take 1)) (nx 1 c6) = x := ⟨_, rfl⟩
  obtain ⟨c8, e8⟩ : ∃ x, nx (4 * numL (c7.1.take 1)) (nx 1 c7) = x := ⟨_, rfl⟩
  obtain ⟨c9, e9⟩ : ∃ x, nx 4 c8 = x := ⟨_, rfl⟩
  obtain ⟨c10, e10⟩ : ∃ x, nx c9.1.length c9 = x := ⟨_, rfl⟩
  have N1 := hide (fun W h => number_small (w.heap.size + 1) blk 4 (l, false) W h (by omega))
  have N2 := hide (fun W h => number_small (w.heap.size + 1) blk 1 c1 W h (by omega))
  have N3 := hide (fun W h => number_small (w.heap.size + 1) blk 1 c2 W h (by omega))
  have N4 := hide (fun W h => number_any (w.heap.size + 1) blk 8 c3 W h (by omega))
  have N5 := hide (fun W h => number_small (w.heap.size + 1) blk 2 c4 W h (by omega))
  have hol : numL (c4.1.take 2) < 65536 := numL_take_lt 2 c4.1
  have N6 := hide (fun W h => next_any (w.heap.size + 1) blk (numL (c4.1.take 2)) c5 W h (by omega))
  have N7 := hide (fun W h h2 => path_any (w.heap.size + 1) blk c6 W h h2)
  have N8 := hide (fun W h h2 => path_any (w.heap.size + 1) blk c7 W h h2)
  have N9 := hide (fun W h h2 => phash_any (w.heap.size + 1) blk c8 W h h2)
  have hpev : pev l = ⟨numL (l.take 4), numL (c1.1.take 1), numL (c2.1.take 1), numL (c3.1.take 8), c5.1.take (numL (c4.1.take 2)), padL (c6.1.drop 1) (numL (c6.1.take 1)), padL (c7.1.drop 1) (numL (c7.1.take 1)), pad4 (c8.1.take 4), c9.1.take c9.1.length, c10.2⟩ := by
    subst e1 e2 e3 e4 e5 e6 e7 e8 e9 e10; rfl
  have h9l : c9.1.length ≤ l.length := by
    subst e1 e2 e3 e4 e5 e6 e7 e8 e9
    simp only [nx, List.length_drop]
    omega
  have N10 := hide (fun W h => next_any (w.heap.size + 1) blk c9.1.length c9 W h (by omega))
  rw [e1] at N1
  rw [e2] at N2
  rw [e3] at N3
  rw [e4] at N4
  rw [e5] at N5
  rw [e6] at N6
  rw [e7] at N7
  rw [e8] at N8
  rw [e9] at N9
  rw [e10] at N10
  clear e1 e2 e3 e4 e5 e6 e7 e8 e9 e10
  rw [hpev]
  clear hpev
  have HQ : Hid (∀ W, (w.alloc (.cells #[.int .i64 0, .int .i64 0, .int .i64 0, .int .i64 0, .slice none 0 0, .slice none 0 0, .slice none 0 0, .int .u8 0, .int .u8 0, .int .u8 0, .int .u8 0, .slice none 0 0] 113)).alloc (.cells #[.slice (some ⟨blk, off, none⟩) l.length cap, .bool false] 106) = W →
      Prt W (w.heap.size + 1) blk (l, false) ∧ Below w.heap.size w W ∧ W.heap.size = w.heap.size + 2 ∧ Cells W w.heap.size [.int .i64 0, .int .i64 0, .int .i64 0, .int .i64 0, .slice none 0 0, .slice none 0 0, .slice none 0 0, .int .u8 0, .int .u8 0, .int .u8 0, .int .u8 0, .slice none 0 0]) := by
    intro W hW
    subst hW
    have A := fun (W : World) (o : Obj) => (Below.refl W.heap.size W).alloc (Nat.le_refl _) o
    have C0 := cells_mk w 113 [.int .i64 0, .int .i64 0, .int .i64 0, .int .i64 0, .slice none 0 0, .slice none 0 0, .slice none 0 0, .int .u8 0, .int .u8 0, .int .u8 0, .int .u8 0, .slice none 0 0]
    have A1 := A w (.cells #[.int .i64 0, .int .i64 0, .int .i64 0, .int .i64 0, .slice none 0 0, .slice none 0 0, .slice none 0 0, .int .u8 0, .int .u8 0, .int .u8 0, .int .u8 0, .slice none 0 0] 113)
    have z1 : (w.alloc (.cells #[.int .i64 0, .int .i64 0, .int .i64 0, .int .i64 0, .slice none 0 0, .slice none 0 0, .slice none 0 0, .int .u8 0, .int .u8 0, .int .u8 0, .int .u8 0, .slice none 0 0] 113)).heap.size = w.heap.size + 1 := by simp
    simp only [List.toArray] at C0
    generalize w.alloc (.cells #[.int .i64 0, .int .i64 0, .int .i64 0, .int .i64 0, .slice none 0 0, .slice none 0 0, .slice none 0 0, .int .u8 0, .int .u8 0, .int .u8 0, .int .u8 0, .slice none 0 0] 113) = w1 at *
    have A2 := A w1 (.cells #[.slice (some ⟨blk, off, none⟩) l.length cap, .bool false] 106)
    have C1 := cells_mk w1 106 [.slice (some ⟨blk, off, none⟩) l.length cap, .bool false]
    have z2 : (w1.alloc (.cells #[.slice (some ⟨blk, off, none⟩) l.length cap, .bool false] 106)).heap.size = w.heap.size + 2 := by simp [z1]
    rw [z1] at C1
    have B2 : Below w.heap.size w (w1.alloc (.cells #[.slice (some ⟨blk, off, none⟩) l.length cap, .bool false] 106)) := A1.trans (A2.mono (by omega))
    exact ⟨⟨off, cap, C1.1 0 _ rfl, C1.1 1 _ rfl, C1.2, by omega, hlc, hl, hc, hi.below B2 hblk⟩, B2, z2, C0.below A2 (by omega)⟩
  have hn0 : numL (l.take 4) < 4294967296 := numL_take_lt 4 l
  have ha0 : numL (c1.1.take 1) < 256 := numL_take_lt 1 c1.1
  have hm0 : numL (c2.1.take 1) < 256 := numL_take_lt 1 c2.1
  have ht0 := numL_take8 c3.1
  generalize numL (l.take 4) = n at *
  generalize numL (c1.1.take 1) = nth at *
  generalize numL (c2.1.take 1) = many at *
  generalize numL (c3.1.take 8) = tn at *
  generalize numL (c4.1.take 2) = ol at *
  generalize padL (c6.1.drop 1) (numL (c6.1.take 1)) = P at *
  generalize padL (c7.1.drop 1) (numL (c7.1.take 1)) = Q at *
  generalize c5.1.take ol = op at *
  generalize c9.1.take c9.1.length = behind at *
  obtain ⟨⟨x0, x1, x2, x3⟩, hx⟩ : ∃ x, pad4 (c8.1.take 4) = x := ⟨_, rfl⟩
  rw [hx] at N9 ⊢
  clear hx hl hlc hc hi
  go_enter Tryd.func63, Tryd.ntmps63
  obtain ⟨p0, b0, z0, r0⟩ := HQ.out _ rfl
  go_wp2_with fail
  refine (N1.out _ p0).mono ?_
  rintro e w1 ⟨rfl, hp1, hb1, hz1⟩
  have P1 := hide hp1
  have B1 := hide (b0.trans (hb1.below (m := w.heap.size) (by omega) (by omega)))
  have R1 := hide (r0.but hb1 (by omega) (by omega))
  have z1 : w1.heap.size = w.heap.size + 2 := hz1.trans z0
  clear hp1 hb1 hz1 p0 b0 z0 r0 N1 HQ
  go_wp2_with fail
  refine (N2.out _ P1.out).mono ?_
  rintro e w2 ⟨rfl, hp2, hb2, hz2⟩
  have P2 := hide hp2
  have B2 := hide (B1.out.trans (hb2.below (m := w.heap.size) (by omega) (by omega)))
  have R2 := hide (R1.out.but hb2 (by omega) (by omega))
  have z2 : w2.heap.size = w.heap.size + 2 := hz2.trans z1
  clear hp2 hb2 hz2 P1 B1 R1 z1 N2
  go_wp2_with fail
  refine (N3.out _ P2.out).mono ?_
  rintro e w3 ⟨rfl, hp3, hb3, hz3⟩
  have P3 := hide hp3
  have B3 := hide (B2.out.trans (hb3.below (m := w.heap.size) (by omega) (by omega)))
  have R3 := hide (R2.out.but hb3 (by omega) (by omega))
  have z3 : w3.heap.size = w.heap.size + 2 := hz3.trans z2
  clear hp3 hb3 hz3 P2 B2 R2 z2 N3
  go_wp2_with fail
  refine (N4.out _ P3.out).mono ?_
  rintro e w4 ⟨rfl, hp4, hb4, hz4⟩
  have P4 := hide hp4
  have B4 := hide (B3.out.trans (hb4.below (m := w.heap.size) (by omega) (by omega)))
  have R4 := hide (R3.out.but hb4 (by omega) (by omega))
  have z4 : w4.heap.size = w.heap.size + 2 := hz4.trans z3
  clear hp4 hb4 hz4 P3 B3 R3 z3 N4
  obtain ⟨tv, htv⟩ : ∃ tv, wrap64 (tn : Int) = tv := ⟨_, rfl⟩
  rw [htv]
  have HTV := hide htv
  clear htv
  obtain ⟨w5, hw5⟩ : ∃ w5, w4.alloc (.cells #[.int .i64 (n : Int), .int .i64 (nth : Int), .int .i64 (many : Int), .int .i64 tv, .slice none 0 0, .slice none 0 0, .slice none 0 0, .int .u8 0, .int .u8 0, .int .u8 0, .int .u8 0, .slice none 0 0] 113) = w5 := ⟨_, rfl⟩
  have hA := (Below.refl _ w4).alloc (Nat.le_refl _) (.cells #[.int .i64 (n : Int), .int .i64 (nth : Int), .int .i64 (many : Int), .int .i64 tv, .slice none 0 0, .slice none 0 0, .slice none 0 0, .int .u8 0, .int .u8 0, .int .u8 0, .int .u8 0, .slice none 0 0] 113)
  have hE := cells_mk w4 113 [.int .i64 (n : Int), .int .i64 (nth : Int), .int .i64 (many : Int), .int .i64 tv, .slice none 0 0, .slice none 0 0, .slice none 0 0, .int .u8 0, .int .u8 0, .int .u8 0, .int .u8 0, .slice none 0 0]
  rw [z4] at hE
  simp only [List.toArray] at hE
  rw [hw5] at hA hE
  have z5 : w5.heap.size = w.heap.size + 3 := by rw [← hw5]; simp [z4]
  have P5 := hide (P4.out.below hA (by omega) (by omega))
  have B5 := hide (B4.out.trans (hA.mono (by omega)))
  have R5 := hide (R4.out.below hA (by omega))
  have E5 := hide hE
  have HW5 := hide hw5
  clear hA hE P4 B4 R4 hw5
  go_wp2_with fail
  rw [HW5.out]
  clear HW5 z4
  refine (N5.out _ P5.out).mono ?_
  rintro e w6 ⟨rfl, hp6, hb6, hz6⟩
  have P6 := hide hp6
  have B6 := hide (B5.out.trans (hb6.below (m := w.heap.size) (by omega) (by omega)))
  have R6 := hide (R5.out.but hb6 (by omega) (by omega))
  have E6 := hide (E5.out.but hb6 (by omega) (by omega))
  have z6 : w6.heap.size = w.heap.size + 3 := hz6.trans z5
  clear hp6 hb6 hz6 P5 B5 R5 E5 N5 z5
  go_wp2_with fail
  refine (N6.out _ P6.out).mono ?_
  rintro e w7 ⟨oOp, rfl, hi7, hp7, hb7, hz7⟩
  have P7 := hide hp7
  have I7 := hide hi7
  have B7 := hide (B6.out.trans (hb7.below (m := w.heap.size) (by omega) (by omega)))
  have R7 := hide (R6.out.but hb7 (by omega) (by omega))
  have E7 := E6.out.but hb7 (by omega) (by omega)
  have z7 : w7.heap.size = w.heap.size + 3 := hz7.trans z6
  have q7 := E7.1 4 _ rfl
  have f7 := E7.2
  have E8 := hide (E7.set 4 (.slice (some ⟨blk, oOp, none⟩) op.length op.length) (by simp))
  simp only [List.set] at E8
  have hS := But.setCell (But.refl (w.heap.size + 2) w7.heap.size w7) ⟨w.heap.size + 2, 4, none⟩ (.inl rfl) (.slice (some ⟨blk, oOp, none⟩) op.length op.length)
  obtain ⟨w8, hw8⟩ : ∃ w8, w7.setCell ⟨w.heap.size + 2, 4, none⟩ (.slice (some ⟨blk, oOp, none⟩) op.length op.length) = w8 := ⟨_, rfl⟩
  rw [hw8] at hS E8
  have P8 := hide (P7.out.but hS (by omega) (by omega) (by omega) (by omega))
  have I8 := hide (I7.out.but hS (by omega) (by omega))
  have B8 := hide (B7.out.trans (hS.below (m := w.heap.size) (by omega) (by omega)))
  have R8 := hide (R7.out.but hS (by omega) (by omega))
  have z8 : w8.heap.size = w.heap.size + 3 := by rw [← hw8]; simp [World.setCell, z7]
  have HW8 := hide hw8
  clear hp7 hi7 hb7 hz7 P6 B6 R6 E6 E7 N6 z6 hw8 hS P7 I7 B7 R7
  go_wp2_with fail
  rw [HW8.out]
  clear HW8 z7 q7 f7
  refine (N7.out _ P8.out (by omega)).mono ?_
  rintro e w9 ⟨vP, rfl, ho9, hp9, hb9⟩
  obtain ⟨aP, kP, rfl⟩ := ho9.slice
  have P9 := hide hp9
  have O9 := hide (ho9.mono (show w.heap.size + 3 ≤ w8.heap.size by omega))
  have I9 := hide (I8.out.but hb9 (by omega) (by omega))
  have B9 := hide (B8.out.trans (hb9.below (m := w.heap.size) (by omega) (by omega)))
  have R9 := hide (R8.out.but hb9 (by omega) (by omega))
  have E9 := hide (E8.out.but hb9 (by omega) (by omega))
  have z9 : w.heap.size + 3 ≤ w9.heap.size := by have := hb9.size; omega
  clear hp9 hb9 ho9 P8 B8 R8 E8 I8 N7 z8
  generalize hPl : P.length = pl at *
  have HPL := hide hPl
  clear hPl
  go_wp2_with fail
  refine (N8.out _ P9.out (by omega)).mono ?_
  rintro e w10 ⟨vQ, rfl, ho10, hp10, hb10⟩
  obtain ⟨aQ, kQ, rfl⟩ := ho10.slice
  have P10 := hide hp10
  have OQ := hide (ho10.mono (show w.heap.size + 3 ≤ w9.heap.size by omega))
  have OP := hide (O9.out.but hb10 (by omega))
  have I10 := hide (I9.out.but hb10 (by omega) (by omega))
  have B10 := hide (B9.out.trans (hb10.below (m := w.heap.size) (by omega) (by omega)))
  have R10 := hide (R9.out.but hb10 (by omega) (by omega))
  have E10 := hide (E9.out.but hb10 (by omega) (by omega))
  have z10 : w.heap.size + 3 ≤ w10.heap.size := by have := hb10.size; omega
  clear hp10 hb10 ho10 P9 B9 R9 E9 I9 O9 N8
  generalize hQl : Q.length = ql at *
  have HQL := hide hQl
  clear hQl
  go_wp2_with fail
  refine (N9.out _ P10.out (by omega)).mono ?_
  rintro e w11 ⟨rfl, hp11, hb11⟩
  have P11 := hide hp11
  have OQ11 := hide (OQ.out.but hb11 (by omega))
  have OP11 := hide (OP.out.but hb11 (by omega))
  have I11 := hide (I10.out.but hb11 (by omega) (by omega))
  have B11 := hide (B10.out.trans (hb11.below (m := w.heap.size) (by omega) (by omega)))
  have R11 := hide (R10.out.but hb11 (by omega) (by omega))
  have E11 := E10.out.but hb11 (by omega) (by omega)
  have z11 : w.heap.size + 3 ≤ w11.heap.size := by have := hb11.size; omega
  clear hp11 hb11 P10 B10 R10 E10 I10 OP OQ N9
  simp only [hv, B]
  have q5 := E11.1 5 _ rfl
  have q6 := E11.1 6 _ rfl
  have q7 := E11.1 7 _ rfl
  have q8 := E11.1 8 _ rfl
  have q9 := E11.1 9 _ rfl
  have q10 := E11.1 10 _ rfl
  have qf := E11.2
  have E12 := hide ((((((E11.set 5 (.slice aP pl kP) (by simp)).set 6 (.slice aQ ql kQ) (by simp)).set 7 (.int .u8 x0.toNat) (by simp)).set 8 (.int .u8 x1.toNat) (by simp)).set 9 (.int .u8 x2.toNat) (by simp)).set 10 (.int .u8 x3.toNat) (by simp))
  simp only [List.set] at E12
  have hS : But (w.heap.size + 2) w11.heap.size w11 ((((((w11.setCell ⟨w.heap.size + 2, 5, none⟩ (.slice aP pl kP)).setCell ⟨w.heap.size + 2, 6, none⟩ (.slice aQ ql kQ)).setCell ⟨w.heap.size + 2, 7, none⟩ (.int .u8 x0.toNat)).setCell ⟨w.heap.size + 2, 8, none⟩ (.int .u8 x1.toNat)).setCell ⟨w.heap.size + 2, 9, none⟩ (.int .u8 x2.toNat)).setCell ⟨w.heap.size + 2, 10, none⟩ (.int .u8 x3.toNat)) := by
    have h := fun (W : World) (o : Nat) (u : Value) (hb : But (w.heap.size + 2) w11.heap.size w11 W) => But.setCell hb ⟨w.heap.size + 2, o, none⟩ (.inl rfl) u
    exact h _ _ _ (h _ _ _ (h _ _ _ (h _ _ _ (h _ _ _ (h _ _ _ (But.refl _ _ _))))))
  obtain ⟨w12, hw12⟩ : ∃ w12, (((((w11.setCell ⟨w.heap.size + 2, 5, none⟩ (.slice aP pl kP)).setCell ⟨w.heap.size + 2, 6, none⟩ (.slice aQ ql kQ)).setCell ⟨w.heap.size + 2, 7, none⟩ (.int .u8 x0.toNat)).setCell ⟨w.heap.size + 2, 8, none⟩ (.int .u8 x1.toNat)).setCell ⟨w.heap.size + 2, 9, none⟩ (.int .u8 x2.toNat)).setCell ⟨w.heap.size + 2, 10, none⟩ (.int .u8 x3.toNat) = w12 := ⟨_, rfl⟩
  rw [hw12] at hS E12
  have P12 := hide (P11.out.but hS (by omega) (by omega) (by omega) (by omega))
  have OQ12 := hide (OQ11.out.but hS (by omega))
  have OP12 := hide (OP11.out.but hS (by omega))
  have I12 := hide (I11.out.but hS (by omega) (by omega))
  have B12 := hide (B11.out.trans (hS.below (m := w.heap.size) (by omega) (by omega)))
  have R12 := hide (R11.out.but hS (by omega) (by omega))
  have z12 : w.heap.size + 3 ≤ w12.heap.size := by have := hS.size; omega
  have ⟨o12, k12, s12, _⟩ := P12.out
  have s12' : ((((((w11.setCell ⟨w.heap.size + 2, 5, none⟩ (.slice aP pl kP)).setCell ⟨w.heap.size + 2, 6, none⟩ (.slice aQ ql kQ)).setCell ⟨w.heap.size + 2, 7, none⟩ (.int .u8 x0.toNat)).setCell ⟨w.heap.size + 2, 8, none⟩ (.int .u8 x1.toNat)).setCell ⟨w.heap.size + 2, 9, none⟩ (.int .u8 x2.toNat)).setCell ⟨w.heap.size + 2, 10, none⟩ (.int .u8 x3.toNat)).cell? ⟨w.heap.size + 1, 0, none⟩ = some (.slice (some ⟨blk, o12, none⟩) c9.1.length k12) := by rw [hw12]; exact s12
  have s11 : w11.cell? ⟨w.heap.size + 1, 0, none⟩ = some (.slice (some ⟨blk, o12, none⟩) c9.1.length k12) := by rw [← s12]; exact (hS.cell (p := ⟨w.heap.size + 1, 0, none⟩) (by show w.heap.size + 1 < _; omega) (by show w.heap.size + 1 ≠ _; omega)).symm
  have HW12 := hide hw12
  clear hS hw12 E11 P11 OQ11 OP11 I11 B11 R11 s12 s12'
  go_wp2_with fail
  rw [HW12.out]
  clear HW12 q5 q6 q7 q8 q9 q10 qf s11
  refine (N10.out _ P12.out).mono ?_
  rintro e w13 ⟨oBe, rfl, hi13, hp13, hb13, hz13⟩
  have P13 := hide hp13
  have J13 := hide hi13
  have OQ13 := hide (OQ12.out.but hb13 (by omega))
  have OP13 := hide (OP12.out.but hb13 (by omega))
  have I13 := hide (I12.out.but hb13 (by omega) (by omega))
  have B13 := hide (B12.out.trans (hb13.below (m := w.heap.size) (by omega) (by omega)))
  have R13 := hide (R12.out.but hb13 (by omega) (by omega))
  have E13 := E12.out.but hb13 (by omega) (by omega)
  have z13 : w.heap.size + 3 ≤ w13.heap.size := by omega
  clear hp13 hi13 hb13 hz13 P12 OQ12 OP12 I12 B12 R12 E12 N10
  have q11 := E13.1 11 _ rfl
  have qf := E13.2
  have E14 := hide (E13.set 11 (.slice (some ⟨blk, oBe, none⟩) behind.length behind.length) (by simp))
  simp only [List.set] at E14
  have hS := But.setCell (But.refl (w.heap.size + 2) w13.heap.size w13) ⟨w.heap.size + 2, 11, none⟩ (.inl rfl) (.slice (some ⟨blk, oBe, none⟩) behind.length behind.length)
  have hq0 : (w13.setCell ⟨w.heap.size + 2, 11, none⟩ (.slice (some ⟨blk, oBe, none⟩) behind.length behind.length)).cell? ⟨w.heap.size + 2, 0, none⟩ = some (.int .i64 (n : Int)) := E14.out.1 0 _ rfl
  obtain ⟨w14, hw14⟩ : ∃ w14, w13.setCell ⟨w.heap.size + 2, 11, none⟩ (.slice (some ⟨blk, oBe, none⟩) behind.length behind.length) = w14 := ⟨_, rfl⟩
  rw [hw14] at hS E14
  have P14 := P13.out.but hS (by omega) (by omega) (by omega) (by omega)
  have OQ14 := hide (OQ13.out.but hS (by omega))
  have OP14 := hide (OP13.out.but hS (by omega))
  have I14 := hide (I13.out.but hS (by omega) (by omega))
  have J14 := hide (J13.out.but hS (by omega) (by omega))
  have B14 := hide (B13.out.trans (hS.below (m := w.heap.size) (by omega) (by omega)))
  have R14 := hide (R13.out.but hS (by omega) (by omega))
  have z14 : w.heap.size + 3 ≤ w14.heap.size := by have := hS.size; omega
  obtain ⟨_, _, _, sh14, _⟩ := P14
  have HW14 := hide hw14
  have q0 := E13.1 0 _ rfl
  clear hS hw14 E13 P13 OQ13 OP13 I13 J13 B13 R13 hq0
  go_wp2_with fail
  rw [HW14.out]
  clear HW14 q11 qf q0
  have HB12 := set12_but w14 w.heap.size w14.heap.size (.int .i64 (n : Int)) (.int .i64 (nth : Int)) (.int .i64 (many : Int)) (.int .i64 tv) (.slice (some ⟨blk, oOp, none⟩) op.length op.length) (.slice aP pl kP) (.slice aQ ql kQ) (.int .u8 x0.toNat) (.int .u8 x1.toNat) (.int .u8 x2.toNat) (.int .u8 x3.toNat) (.slice (some ⟨blk, oBe, none⟩) behind.length behind.length)
  have FIN : Hid (∀ ok, ok = PEv.ok ⟨n, nth, many, tn, op, P, Q, (x0, x1, x2, x3), behind, c10.2⟩ → ∃ ev, Ending.returned (.tuple #[.agg #[.int .i64 (n : Int), .int .i64 (nth : Int), .int .i64 (many : Int), .int .i64 tv, .slice (some ⟨blk, oOp, none⟩) op.length op.length, .slice aP pl kP, .slice aQ ql kQ, .int .u8 x0.toNat, .int .u8 x1.toNat, .int .u8 x2.toNat, .int .u8 x3.toNat, .slice (some ⟨blk, oBe, none⟩) behind.length behind.length], .bool ok]) = Ending.returned (.tuple #[ev, .bool (PEv.ok ⟨n, nth, many, tn, op, P, Q, (x0, x1, x2, x3), behind, c10.2⟩)]) ∧ EvAt ((((((((((((w14.setCell ⟨w.heap.size, 0, none⟩ (.int .i64 (n : Int))).setCell ⟨w.heap.size, 1, none⟩ (.int .i64 (nth : Int))).setCell ⟨w.heap.size, 2, none⟩ (.int .i64 (many : Int))).setCell ⟨w.heap.size, 3, none⟩ (.int .i64 tv)).setCell ⟨w.heap.size, 4, none⟩ (.slice (some ⟨blk, oOp, none⟩) op.length op.length)).setCell ⟨w.heap.size, 5, none⟩ (.slice aP pl kP)).setCell ⟨w.heap.size, 6, none⟩ (.slice aQ ql kQ)).setCell ⟨w.heap.size, 7, none⟩ (.int .u8 x0.toNat)).setCell ⟨w.heap.size, 8, none⟩ (.int .u8 x1.toNat)).setCell ⟨w.heap.size, 9, none⟩ (.int .u8 x2.toNat)).setCell ⟨w.heap.size, 10, none⟩ (.int .u8 x3.toNat)).setCell ⟨w.heap.size, 11, none⟩ (.slice (some ⟨blk, oBe, none⟩) behind.length behind.length)).drew w.heap.size blk ev ⟨n, nth, many, tn, op, P, Q, (x0, x1, x2, x3), behind, c10.2⟩ ∧ Below w.heap.size w ((((((((((((w14.setCell ⟨w.heap.size, 0, none⟩ (.int .i64 (n : Int))).setCell ⟨w.heap.size, 1, none⟩ (.int .i64 (nth : Int))).setCell ⟨w.heap.size, 2, none⟩ (.int .i64 (many : Int))).setCell ⟨w.heap.size, 3, none⟩ (.int .i64 tv)).setCell ⟨w.heap.size, 4, none⟩ (.slice (some ⟨blk, oOp, none⟩) op.length op.length)).setCell ⟨w.heap.size, 5, none⟩ (.slice aP pl kP)).setCell ⟨w.heap.size, 6, none⟩ (.slice aQ ql kQ)).setCell ⟨w.heap.size, 7, none⟩ (.int .u8 x0.toNat)).setCell ⟨w.heap.size, 8, none⟩ (.int .u8 x1.toNat)).setCell ⟨w.heap.size, 9, none⟩ (.int .u8 x2.toNat)).setCell ⟨w.heap.size, 10, none⟩ (.int .u8 x3.toNat)).setCell ⟨w.heap.size, 11, none⟩ (.slice (some ⟨blk, oBe, none⟩) behind.length behind.length)).drew) := by
    intro ok hok
    refine ⟨_, by rw [hok], ⟨oOp, oBe, .slice aP pl kP, .slice aQ ql kQ, by rw [HTV.out]; rfl, I14.out.but HB12 (by omega) (by omega), J14.out.but HB12 (by omega) (by omega), ?_, ?_⟩, B14.out.trans (HB12.below (by omega) (Nat.le_refl _))⟩
    · exact (OP14.out.but HB12 (by omega)).mono (by omega)
    · exact (OQ14.out.but HB12 (by omega)).mono (by omega)
  have ⟨qc, qf⟩ := E14.out
  have q0 := qc 0 _ rfl
  have q1 := qc 1 _ rfl
  have q2 := qc 2 _ rfl
  have q3 := qc 3 _ rfl
  have q4 := qc 4 _ rfl
  have q5 := qc 5 _ rfl
  have q6 := qc 6 _ rfl
  have q7 := qc 7 _ rfl
  have q8 := qc 8 _ rfl
  have q9 := qc 9 _ rfl
  have q10 := qc 10 _ rfl
  have q11 := qc 11 _ rfl
  have ⟨rc, rf⟩ := R14.out
  have r0 := rc 0 _ rfl
  have r1 := rc 1 _ rfl
  have r2 := rc 2 _ rfl
  have r3 := rc 3 _ rfl
  have r4 := rc 4 _ rfl
  have r5 := rc 5 _ rfl
  have r6 := rc 6 _ rfl
  have r7 := rc 7 _ rfl
  have r8 := rc 8 _ rfl
  have r9 := rc 9 _ rfl
  have r10 := rc 10 _ rfl
  have r11 := rc 11 _ rfl
  have hne1 : ¬ w.heap.size + 2 = w.heap.size := by omega
  have hne2 : ¬ w.heap.size = w.heap.size + 2 := by omega
  have hne3 : ¬ w.heap.size + 1 = w.heap.size := by omega
  have hne4 : ¬ w.heap.size = w.heap.size + 1 := by omega
  clear qc rc E14 R14 OQ14 OP14 I14 J14 B14 HB12 HTV
  by_cases hA : c10.2 = true
  · rw [hA] at sh14
    have HA := hide hA
    clear hA
    go_region
    go_wp2
    refine bodyPost_ret (v := .tuple #[.agg #[.int .i64 (n : Int), .int .i64 (nth : Int), .int .i64 (many : Int), .int .i64 tv, .slice (some ⟨blk, oOp, none⟩) op.length op.length, .slice aP pl kP, .slice aQ ql kQ, .int .u8 x0.toNat, .int .u8 x1.toNat, .int .u8 x2.toNat, .int .u8 x3.toNat, .slice (some ⟨blk, oBe, none⟩) behind.length behind.length], .bool false]) (by simp [results, Tryd.results63, go_sem, r0, r1, r2, r3, r4, r5, r6, r7, r8, r9, r10, r11]) rfl (FIN.out false (by simp [PEv.ok, HA.out]))
  · have hA' : c10.2 = false := by simpa using hA
    rw [hA'] at sh14
    have HA := hide hA'
    clear hA hA'
    by_cases hB : 1 ≤ n
    · have hB1 : (1 : Int) ≤ (n : Int) := by omega
      by_cases hC : nth < many
      · have hC1 : (nth : Int) < (many : Int) := by omega
        by_cases hD : many ≤ 16
        · have hD1 : (many : Int) ≤ 16 := by omega
          by_cases hE : n ≤ 3
          · have hE1 : (n : Int) ≤ 3 := by omega
            by_cases hF : (x0, x1, x2, x3) = zero4
            · have e0 : ∀ W, (Op.equalIn 10000 62 (.agg #[.int .u8 x0.toNat, .int .u8 x1.toNat, .int .u8 x2.toNat, .int .u8 x3.toNat]) (.agg #[.int .u8 0, .int .u8 0, .int .u8 0, .int .u8 0])).run Tryd.prog W = .ok true W := fun W => by
                have h := eqH (x0, x1, x2, x3) zero4 W
                rw [decide_eq_true hF] at h
                exact h
              have HF := hide hF
              clear hF
              go_region
              go_wp2
              refine bodyPost_ret (v := .tuple #[.agg #[.int .i64 (n : Int), .int .i64 (nth : Int), .int .i64 (many : Int), .int .i64 tv, .slice (some ⟨blk, oOp, none⟩) op.length op.length, .slice aP pl kP, .slice aQ ql kQ, .int .u8 x0.toNat, .int .u8 x1.toNat, .int .u8 x2.toNat, .int .u8 x3.toNat, .slice (some ⟨blk, oBe, none⟩) behind.length behind.length], .bool true]) (by simp [results, Tryd.results63, go_sem, r0, r1, r2, r3, r4, r5, r6, r7, r8, r9, r10, r11]) rfl (FIN.out true (by simp [PEv.ok, HA.out, hB, hC, hD, hE, HF.out]))
            · have e0 : ∀ W, (Op.equalIn 10000 62 (.agg #[.int .u8 x0.toNat, .int .u8 x1.toNat, .int .u8 x2.toNat, .int .u8 x3.toNat]) (.agg #[.int .u8 0, .int .u8 0, .int .u8 0, .int .u8 0])).run Tryd.prog W = .ok false W := fun W => by
                have h := eqH (x0, x1, x2, x3) zero4 W
                rw [decide_eq_false hF] at h
                exact h
              have HF := hide hF
              clear hF
              go_region
              go_wp2
              refine bodyPost_ret (v := .tuple #[.agg #[.int .i64 (n : Int), .int .i64 (nth : Int), .int .i64 (many : Int), .int .i64 tv, .slice (some ⟨blk, oOp, none⟩) op.length op.length, .slice aP pl kP, .slice aQ ql kQ, .int .u8 x0.toNat, .int .u8 x1.toNat, .int .u8 x2.toNat, .int .u8 x3.toNat, .slice (some ⟨blk, oBe, none⟩) behind.length behind.length], .bool false]) (by simp [results, Tryd.results63, go_sem, r0, r1, r2, r3, r4, r5, r6, r7, r8, r9, r10, r11]) rfl (FIN.out false (by simp [PEv.ok, HA.out, hB, hC, hD, hE, HF.out]))
          · have hE1 : ¬ (n : Int) ≤ 3 := by omega
            have hE2 : decide ((n : Int) ≤ 3) = false := decide_eq_false hE1
            go_region
            go_wp2
            refine bodyPost_ret (v := .tuple #[.agg #[.int .i64 (n : Int), .int .i64 (nth : Int), .int .i64 (many : Int), .int .i64 tv, .slice (some ⟨blk, oOp, none⟩) op.length op.length, .slice aP pl kP, .slice aQ ql kQ, .int .u8 x0.toNat, .int .u8 x1.toNat, .int .u8 x2.toNat, .int .u8 x3.toNat, .slice (some ⟨blk, oBe, none⟩) behind.length behind.length], .bool true]) (by simp [results, Tryd.results63, go_sem, r0, r1, r2, r3, r4, r5, r6, r7, r8, r9, r10, r11]) rfl (FIN.out true (by simp [PEv.ok, HA.out, hB, hC, hD, hE]))
        · have hD1 : ¬ (many : Int) ≤ 16 := by omega
          have hD2 : decide ((many : Int) ≤ 16) = false := decide_eq_false hD1
          have hD3 : decide (many ≤ 16) = false := decide_eq_false hD
          go_region
          go_wp2
          refine bodyPost_ret (v := .tuple #[.agg #[.int .i64 (n : Int), .int .i64 (nth : Int), .int .i64 (many : Int), .int .i64 tv, .slice (some ⟨blk, oOp, none⟩) op.length op.length, .slice aP pl kP, .slice aQ ql kQ, .int .u8 x0.toNat, .int .u8 x1.toNat, .int .u8 x2.toNat, .int .u8 x3.toNat, .slice (some ⟨blk, oBe, none⟩) behind.length behind.length], .bool false]) (by simp [results, Tryd.results63, go_sem, r0, r1, r2, r3, r4, r5, r6, r7, r8, r9, r10, r11]) rfl (FIN.out false (by simp [PEv.ok, HA.out, hB, hC, hD]))
      · have hC1 : ¬ (nth : Int) < (many : Int) := by omega
        have hC2 : decide ((nth : Int) < (many : Int)) = false := decide_eq_false hC1
        have hC3 : decide (nth < many) = false := decide_eq_false hC
        go_region
        go_wp2
        refine bodyPost_ret (v := .tuple #[.agg #[.int .i64 (n : Int), .int .i64 (nth : Int), .int .i64 (many : Int), .int .i64 tv, .slice (some ⟨blk, oOp, none⟩) op.length op.length, .slice aP pl kP, .slice aQ ql kQ, .int .u8 x0.toNat, .int .u8 x1.toNat, .int .u8 x2.toNat, .int .u8 x3.toNat, .slice (some ⟨blk, oBe, none⟩) behind.length behind.length], .bool false]) (by simp [results, Tryd.results63, go_sem, r0, r1, r2, r3, r4, r5, r6, r7, r8, r9, r10, r11]) rfl (FIN.out false (by simp [PEv.ok, HA.out, hB, hC]))
    · have hB1 : ¬ (1 : Int) ≤ (n : Int) := by omega
      have hB2 : decide ((1 : Int) ≤ (n : Int)) = false := decide_eq_false hB1
      have hB3 : decide (1 ≤ n) = false := decide_eq_false hB
      go_region
      go_wp2
      refine bodyPost_ret (v := .tuple #[.agg #[.int .i64 (n : Int), .int .i64 (nth : Int), .int .i64 (many : Int), .int .i64 tv, .slice (some ⟨blk, oOp, none⟩) op.length op.length, .slice aP pl kP, .slice aQ ql kQ, .int .u8 x0.toNat, .int .u8 x1.toNat, .int .u8 x2.toNat, .int .u8 x3.toNat, .slice (some ⟨blk, oBe, none⟩) behind.length behind.length], .bool false]) (by simp [results, Tryd.results63, go_sem, r0, r1, r2, r3, r4, r5, r6, r7, r8, r9, r10, r11]) rfl (FIN.out false (by simp [PEv.ok, HA.out, hB]))
end Go.Proofs.YtepehjalpkfniaaDoor
