/-
  OWN. A chain that leads from one digest to another (chain: Leads), walked. No project text.
-/
import Derived.Test.YtepehjalpkfniaaDoorLead
import Derived.Test.YtepehjalpkfniaaDoorClimb
namespace Go.Proofs.YtepehjalpkfniaaDoor
open Go.RowKit

set_option maxRecDepth 100000 in
set_option maxHeartbeats 8000000 in
theorem leads_go (b : Nat) (h : H4) (m : Int) (g : H4) (l : List UInt8) (blk off cap : Nat) (w : World) (hb : b ≤ 9223372036854775807) (hz : b = 0 → h = zero4) (hl : l.length ≤ 140737488351232) (hlc : l.length ≤ cap) (hc : cap ≤ 140737488355328) (hi : InB w blk off l) :
    Calls Tryd.prog 51 #[dgv (b : Int) h, dgv m g, .slice (some ⟨blk, off, none⟩) l.length cap] w fun e w' => e = .returned (.bool (extT b h m g l)) ∧ Below w.heap.size w w' := by
  have START := hide (fun w0 hw => lead_start w (b : Int) h m g l blk off cap hl hlc hc hi w0 hw)
  have eD := hide (fun (b : Int) (h : H4) W => eqDH b m h g W)
  have e0 := fun W => eqH h zero4 W
  have hblk : blk < w.heap.size := hi.1
  clear hi
  have HR := hide (fun k hk lk => round_read k hk m g lk (w.heap.size + 2) blk)
  have HNIL := hide (fun k hk => extT_nil k hk m g)
  obtain ⟨R, hR⟩ : ∃ R, extT b h m g l = R := ⟨_, rfl⟩
  have HR0 : Hid (R = extT b h m g l) := hR.symm
  rw [hR]
  clear hR
  have hcase : (((b : Int) == 0) = true ∧ decide (h = zero4) = true) ∨ ((b : Int) == 0) = false := by
    by_cases e : b = 0
    · exact .inl ⟨by subst e; rfl, decide_eq_true (hz e)⟩
    · exact .inr (beq_eq_false_iff_ne.2 (by omega))
  have hb0 : ¬ ((b : Int) < 0) := by omega
  clear hz
  obtain ⟨h0, h1, h2, h3⟩ := h
  obtain ⟨g0, g1, g2, g3⟩ := g
  simp only [dgv, hv, B, zero4] at *
  go_enter Tryd.func51, Tryd.ntmps51
  rcases hcase with ⟨e1, e2⟩ | e1
  case' inl =>
    rw [e2] at e0
    have e0' : ∀ W, (Op.equalIn 10000 62 (.agg #[.int .u8 h0.toNat, .int .u8 h1.toNat, .int .u8 h2.toNat, .int .u8 h3.toNat]) (.agg #[.int .u8 0, .int .u8 0, .int .u8 0, .int .u8 0])).run Tryd.prog W = .ok true W := e0
    clear e0 e2
    go_wp2
    clear e0' e1
  case' inr =>
    clear e0
    go_wp2
    clear e1
  all_goals
    clear hb0
    obtain ⟨w0, hw0⟩ : ∃ w0, (((w.alloc (.cells #[.int .i64 (b : Int), .int .u8 h0.toNat, .int .u8 h1.toNat, .int .u8 h2.toNat, .int .u8 h3.toNat] 74)).alloc (.cells #[.int .i64 m, .int .u8 g0.toNat, .int .u8 g1.toNat, .int .u8 g2.toNat, .int .u8 g3.toNat] 74)).alloc (.cells #[.slice (some ⟨blk, off, none⟩) l.length cap, .bool false] 106)).alloc (.cells #[.int .i64 (b : Int), .int .u8 h0.toNat, .int .u8 h1.toNat, .int .u8 h2.toNat, .int .u8 h3.toNat] 74) = w0 := ⟨_, rfl⟩
    obtain ⟨bl0, z0, dt0, da0, p0⟩ := START.out w0 hw0
    rw [hw0]
    have P0 : Hid (Below w.heap.size w w0 ∧ Dig w0 (w.heap.size + 1) m (g0, g1, g2, g3) ∧ Dig w0 (w.heap.size + 3) (b : Int) (h0, h1, h2, h3) ∧ Prt w0 (w.heap.size + 2) blk (l, false)) := ⟨bl0, dt0, da0, p0⟩
    clear START hw0 bl0 dt0 da0 p0
    go_loopg [9] l.length (fun gk _p wr => w.heap.size + 4 ≤ wr.heap.size ∧ ∃ (k : Nat) (hk : H4) (lk : List UInt8), gk = lk.length ∧ k ≤ 9223372036854775807 ∧ Hid (R = extT k hk m (g0, g1, g2, g3) lk) ∧ Hid (Below w.heap.size w wr ∧ Dig wr (w.heap.size + 1) m (g0, g1, g2, g3) ∧ Dig wr (w.heap.size + 3) (k : Int) hk ∧ Prt wr (w.heap.size + 2) blk (lk, false)))
    case atStart => exact ⟨by omega, b, _, l, rfl, hb, HR0.out, P0.out⟩
    case round =>
      obtain ⟨hzr, k, ⟨k0, k1, k2, k3⟩, lk, rfl, hbk, hrr, hP⟩ := hrel
      clear P0 HR0
      have ⟨off', cap', q0, q1, _⟩ := hP.out.2.2.2
      simp only at q0 q1
      by_cases hne : 0 < lk.length
      · obtain ⟨n, ⟨x0, x1, x2, x3⟩, ⟨y0, y1, y2, y3⟩, ok, c', hn, hN, hcs⟩ := HR.out k (k0, k1, k2, k3) lk hne
        have HCS := hide hcs
        clear HR HNIL eD hcs
        simp only [hdr, B] at hN
        go_wp2_with fail
        refine (hN.out _ hP.out.2.2.2 (by omega)).mono ?_
        rintro e w1 ⟨rfl, hp1, hb1⟩
        obtain ⟨bl, dt, da, _⟩ := hP.out
        have P1 := hide hp1
        have DT1 := hide (dt.but hb1 (by omega) (by omega))
        have DA1 := hide (da.but hb1 (by omega) (by omega))
        have BL1 := hide (bl.trans (hb1.below (m := w.heap.size) (by omega) (by omega)))
        have z1 := Nat.le_trans hzr hb1.size
        clear hp1 hb1 bl dt da hP q0 q1 hN
        have BF : Hid (Below w.heap.size w (w1.alloc (.cells #[.int .i64 (n : Int), .int .u8 x0.toNat, .int .u8 x1.toNat, .int .u8 x2.toNat, .int .u8 x3.toNat, .int .u8 y0.toNat, .int .u8 y1.toNat, .int .u8 y2.toNat, .int .u8 y3.toNat] 108))) := BL1.out.alloc (by omega) _
        have ⟨a0, a1, a2, a3, a4, af⟩ := (show Dig w1 (w.heap.size + 1 + 1 + 1) (k : Int) (k0, k1, k2, k3) from DA1.out)
        simp only [B] at a0 a1 a2 a3 a4
        have hlt1 : w.heap.size + 1 + 1 + 1 < w1.heap.size := by omega
        rcases HCS.out with ⟨rfl, hF⟩ | ⟨rfl, hn1, hF⟩ | ⟨rfl, hn1, hx, hF⟩ | ⟨rfl, hn1, hx, hc1, hl13, hF⟩
        · have hR : Hid (R = false) := hrr.out.trans hF.out
          clear HCS
          go_wp2
          go_ret
          exact ⟨by rw [hR.out]; rfl, BF.out⟩
        · have hR : Hid (R = false) := hrr.out.trans hF.out
          have hq : ¬ (n : Int) - 1 = (k : Int) := by omega
          clear HCS hF
          go_wp2
          go_ret
          exact ⟨by rw [hR.out]; rfl, BF.out⟩
        · have hR : Hid (R = false) := hrr.out.trans hF.out
          have hq : (n : Int) - 1 = (k : Int) := by omega
          have eX : ∀ W, (Op.equalIn 10000 62 (.agg #[.int .u8 x0.toNat, .int .u8 x1.toNat, .int .u8 x2.toNat, .int .u8 x3.toNat]) (.agg #[.int .u8 k0.toNat, .int .u8 k1.toNat, .int .u8 k2.toNat, .int .u8 k3.toNat])).run Tryd.prog W = .ok false W := fun W => by
            have h := eqH (x0, x1, x2, x3) (k0, k1, k2, k3) W
            rw [decide_eq_false hx] at h
            exact h
          clear HCS hF hx hn1
          go_wp2
          go_ret
          exact ⟨by rw [hR.out]; rfl, BF.out⟩
        · have hR : Hid (R = extT n (sumL (hdL n (x0, x1, x2, x3) (y0, y1, y2, y3))) m (g0, g1, g2, g3) (lk.drop 13)) := by
            have h := hrr.out.trans hF.out
            rw [← hn1] at h
            exact h
          have hq : (n : Int) - 1 = (k : Int) := by omega
          have eX : ∀ W, (Op.equalIn 10000 62 (.agg #[.int .u8 x0.toNat, .int .u8 x1.toNat, .int .u8 x2.toNat, .int .u8 x3.toNat]) (.agg #[.int .u8 k0.toNat, .int .u8 k1.toNat, .int .u8 k2.toNat, .int .u8 k3.toNat])).run Tryd.prog W = .ok true W := fun W => by
            have h := eqH (x0, x1, x2, x3) (k0, k1, k2, k3) W
            rw [decide_eq_true hx] at h
            exact h
          have HNB : Hid (n = k + 1) := hn1
          clear HCS hF hx hn1
          have HH := hide (fun W => hhash_any n (x0, x1, x2, x3) (y0, y1, y2, y3) W (by omega))
          obtain ⟨⟨t0, t1, t2, t3⟩, ht⟩ : ∃ t, sumL (hdL n (x0, x1, x2, x3) (y0, y1, y2, y3)) = t := ⟨_, rfl⟩
          rw [ht] at hR HH
          simp only [hdr, hv, B] at HH
          clear ht
          go_wp2_with fail
          obtain ⟨w2, hw2⟩ : ∃ w2, w1.alloc (.cells #[.int .i64 (n : Int), .int .u8 x0.toNat, .int .u8 x1.toNat, .int .u8 x2.toNat, .int .u8 x3.toNat, .int .u8 y0.toNat, .int .u8 y1.toNat, .int .u8 y2.toNat, .int .u8 y3.toNat] 108) = w2 := ⟨_, rfl⟩
          have hA := (Below.refl _ w1).alloc (Nat.le_refl _) (.cells #[.int .i64 (n : Int), .int .u8 x0.toNat, .int .u8 x1.toNat, .int .u8 x2.toNat, .int .u8 x3.toNat, .int .u8 y0.toNat, .int .u8 y1.toNat, .int .u8 y2.toNat, .int .u8 y3.toNat] 108)
          have hS := slot9_mk w1 108 (.int .i64 (n : Int)) (.int .u8 x0.toNat) (.int .u8 x1.toNat) (.int .u8 x2.toNat) (.int .u8 x3.toNat) (.int .u8 y0.toNat) (.int .u8 y1.toNat) (.int .u8 y2.toNat) (.int .u8 y3.toNat)
          have z2 : w2.heap.size = w1.heap.size + 1 := by rw [← hw2]; simp
          rw [hw2] at hA hS BF ⊢
          have P2 := hide (P1.out.below hA (by omega) (by omega))
          have DT2 := hide (DT1.out.below hA (by omega))
          have DA2 := hide (DA1.out.below hA (by omega))
          have HS2 := hide hS
          obtain ⟨v0, v1, v2, v3, v4, v5, v6, v7, v8, vf⟩ := hS
          clear hw2 hA P1 DT1 DA1 a0 a1 a2 a3 a4 af BL1 hq eX hlt1
          have hne1 : ¬ w1.heap.size = w.heap.size + 1 + 1 + 1 := by omega
          have hne2 : ¬ w.heap.size + 1 + 1 + 1 = w1.heap.size := by omega
          go_region_held3 (fun W => W.cell? ⟨w1.heap.size, 0, none⟩ = some (.int .i64 (n : Int)) ∧ W.cell? ⟨w1.heap.size, 1, none⟩ = some (.int .u8 x0.toNat) ∧ W.cell? ⟨w1.heap.size, 2, none⟩ = some (.int .u8 x1.toNat) ∧ W.cell? ⟨w1.heap.size, 3, none⟩ = some (.int .u8 x2.toNat) ∧ W.cell? ⟨w1.heap.size, 4, none⟩ = some (.int .u8 x3.toNat) ∧ W.cell? ⟨w1.heap.size, 5, none⟩ = some (.int .u8 y0.toNat) ∧ W.cell? ⟨w1.heap.size, 6, none⟩ = some (.int .u8 y1.toNat) ∧ W.cell? ⟨w1.heap.size, 7, none⟩ = some (.int .u8 y2.toNat) ∧ W.cell? ⟨w1.heap.size, 8, none⟩ = some (.int .u8 y3.toNat)) (go_keep) ((first | (go_at_call 62; refine (HH.out _).mono ?_; rintro e w3 ⟨rfl, hb3⟩; have hb4 : Below w2.heap.size w2 w3 := Below.of_drew hb3; obtain ⟨u0, u1, u2, u3, u4, u5, u6', u7, u8, uf⟩ := HS2.out.below hb4 (by omega); have ⟨d0, d1, d2, d3, d4, df⟩ := (show Dig w3 (w.heap.size + 1 + 1 + 1) (k : Int) (k0, k1, k2, k3) from DA2.out.below hb4 (by omega)); have B3 := hide hb4; simp only [B] at d0 d1 d2 d3 d4; clear hb3 hb4)))
          have hset := set5_but w3 (w.heap.size + 1 + 1 + 1) w3.heap.size (.int .i64 (n : Int)) (.int .u8 t0.toNat) (.int .u8 t1.toNat) (.int .u8 t2.toNat) (.int .u8 t3.toNat)
          have z3 : w2.heap.size ≤ w3.heap.size := B3.out.size
          have hDA : Dig _ (w.heap.size + 1 + 1 + 1) (n : Int) (t0, t1, t2, t3) := (show Dig w3 (w.heap.size + 1 + 1 + 1) (k : Int) (k0, k1, k2, k3) from DA2.out.below B3.out (by omega)).set (n : Int) (t0, t1, t2, t3)
          have FIN : Hid (w.heap.size + 4 ≤ (((((w3.setCell ⟨w.heap.size + 1 + 1 + 1, 0, none⟩ (.int .i64 (n : Int))).setCell ⟨w.heap.size + 1 + 1 + 1, 1, none⟩ (.int .u8 t0.toNat)).setCell ⟨w.heap.size + 1 + 1 + 1, 2, none⟩ (.int .u8 t1.toNat)).setCell ⟨w.heap.size + 1 + 1 + 1, 3, none⟩ (.int .u8 t2.toNat)).setCell ⟨w.heap.size + 1 + 1 + 1, 4, none⟩ (.int .u8 t3.toNat)).heap.size ∧
              (Below w.heap.size w (((((w3.setCell ⟨w.heap.size + 1 + 1 + 1, 0, none⟩ (.int .i64 (n : Int))).setCell ⟨w.heap.size + 1 + 1 + 1, 1, none⟩ (.int .u8 t0.toNat)).setCell ⟨w.heap.size + 1 + 1 + 1, 2, none⟩ (.int .u8 t1.toNat)).setCell ⟨w.heap.size + 1 + 1 + 1, 3, none⟩ (.int .u8 t2.toNat)).setCell ⟨w.heap.size + 1 + 1 + 1, 4, none⟩ (.int .u8 t3.toNat)) ∧
              Dig (((((w3.setCell ⟨w.heap.size + 1 + 1 + 1, 0, none⟩ (.int .i64 (n : Int))).setCell ⟨w.heap.size + 1 + 1 + 1, 1, none⟩ (.int .u8 t0.toNat)).setCell ⟨w.heap.size + 1 + 1 + 1, 2, none⟩ (.int .u8 t1.toNat)).setCell ⟨w.heap.size + 1 + 1 + 1, 3, none⟩ (.int .u8 t2.toNat)).setCell ⟨w.heap.size + 1 + 1 + 1, 4, none⟩ (.int .u8 t3.toNat)) (w.heap.size + 1) m (g0, g1, g2, g3) ∧
              Dig (((((w3.setCell ⟨w.heap.size + 1 + 1 + 1, 0, none⟩ (.int .i64 (n : Int))).setCell ⟨w.heap.size + 1 + 1 + 1, 1, none⟩ (.int .u8 t0.toNat)).setCell ⟨w.heap.size + 1 + 1 + 1, 2, none⟩ (.int .u8 t1.toNat)).setCell ⟨w.heap.size + 1 + 1 + 1, 3, none⟩ (.int .u8 t2.toNat)).setCell ⟨w.heap.size + 1 + 1 + 1, 4, none⟩ (.int .u8 t3.toNat)) (w.heap.size + 3) (n : Int) (t0, t1, t2, t3) ∧
              Prt (((((w3.setCell ⟨w.heap.size + 1 + 1 + 1, 0, none⟩ (.int .i64 (n : Int))).setCell ⟨w.heap.size + 1 + 1 + 1, 1, none⟩ (.int .u8 t0.toNat)).setCell ⟨w.heap.size + 1 + 1 + 1, 2, none⟩ (.int .u8 t1.toNat)).setCell ⟨w.heap.size + 1 + 1 + 1, 3, none⟩ (.int .u8 t2.toNat)).setCell ⟨w.heap.size + 1 + 1 + 1, 4, none⟩ (.int .u8 t3.toNat)) (w.heap.size + 2) blk (lk.drop 13, false))) := by
            refine ⟨Nat.le_trans (by omega) hset.size, (BF.out.trans (B3.out.mono (by omega))).trans (hset.below (by omega) (by omega)), (DT2.out.below B3.out (by omega)).but hset (by omega) (by omega), hDA, ?_⟩
            rw [hc1] at P2
            exact (P2.out.below B3.out (by omega) (by omega)).but hset (by omega) (by omega) (by omega) (by omega)
          have hl14 := hide hl13
          clear hset hDA B3 P2 DT2 DA2 HS2 BF HH u0 u1 u2 u3 u4 u5 u6' u7 u8 uf d0 d1 d2 d3 d4 df v0 v1 v2 v3 v4 v5 v6 v7 v8 vf hc1 hl13
          go_wp2
          go_roundg (lk.drop 13).length
          case measure => rw [List.length_drop]; have := hl14.out; omega
          case rel => exact ⟨FIN.out.1, n, (t0, t1, t2, t3), lk.drop 13, rfl, by omega, hR.out, FIN.out.2⟩
      · obtain rfl : lk = [] := List.eq_nil_of_length_eq_zero (by omega)
        obtain ⟨bl, dt, da, _⟩ := hP.out
        obtain ⟨a0, a1, a2, a3, a4, _⟩ := (show Dig wr (w.heap.size + 1 + 1 + 1) (k : Int) (k0, k1, k2, k3) from da)
        obtain ⟨b0, b1, b2, b3, b4, _⟩ := dt
        have eQ : ∀ W, (Op.equalIn 10000 74 (.agg #[.int .i64 (k : Int), .int .u8 k0.toNat, .int .u8 k1.toNat, .int .u8 k2.toNat, .int .u8 k3.toNat]) (.agg #[.int .i64 m, .int .u8 g0.toNat, .int .u8 g1.toNat, .int .u8 g2.toNat, .int .u8 g3.toNat])).run Tryd.prog W = .ok R W := fun W => by
          rw [hrr.out, HNIL.out]
          exact eD.out (k : Int) (k0, k1, k2, k3) W
        have BL := hide bl
        simp only [B] at a0 a1 a2 a3 a4 b0 b1 b2 b3 b4
        clear eD HNIL HR hrr hP bl da
        go_wp2
        go_ret
        exact ⟨rfl, BL.out⟩
end Go.Proofs.YtepehjalpkfniaaDoor
