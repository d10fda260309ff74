/-
  OWN. sums' Root, walked. No project text.
-/
import Derived.Test.YtepehjalpkfniaaDoorCarry
namespace Go.Proofs.YtepehjalpkfniaaDoor
open Go.RowKit

/-- The slice v holds the leaves ls. -/
def Lvs (w : World) (v : Value) (ls : List (List UInt8)) : Prop :=
  ∃ a cap, v = .slice a ls.length cap ∧ ls.length ≤ cap ∧ cap ≤ maxLen ∧ ∀ i, i < ls.length → ∃ b off u, a = some ⟨b, off, none⟩ ∧ b < w.heap.size ∧ w.cell? ⟨b, off + i, none⟩ = some u ∧ Byts w u (ls.getD i [])
theorem Lvs.below {w w' : World} {v : Value} {ls : List (List UInt8)} {n : Nat} (h : Lvs w v ls) (hb : Below n w w') (hn : w.heap.size ≤ n) : Lvs w' v ls := by
  obtain ⟨a, cap, e, hl, hm, hc⟩ := h
  refine ⟨a, cap, e, hl, hm, fun i hi => ?_⟩
  obtain ⟨b, off, u, ea, hlt, hcell, hby⟩ := hc i hi
  exact ⟨b, off, u, ea, Nat.lt_of_lt_of_le hlt hb.size, (hb.cell (p := ⟨b, off + i, none⟩) (Nat.lt_of_lt_of_le hlt hn)).trans hcell, hby.below hb hn⟩
/-- The leaf at a place. -/
theorem Lvs.at {w : World} {a : Option Addr} {n cap : Nat} {ls : List (List UInt8)} (h : Lvs w (.slice a n cap) ls) (i : Nat) (hi : i < ls.length) :
    ∃ b off u, a = some ⟨b, off, none⟩ ∧ b < w.heap.size ∧ w.cell? ⟨b, off + i, none⟩ = some u ∧ Byts w u (ls.getD i []) := by
  obtain ⟨a', cap', e, hl, hm, hc⟩ := h
  simp only [Value.slice.injEq] at e
  obtain ⟨rfl, rfl, rfl⟩ := e
  exact hc i hi
/-- What the package's variable for the root of no leaves holds. -/
def NoL (w : World) : Prop := w.cell? ⟨1, 0, none⟩ = some (.int .u8 0) ∧ w.cell? ⟨1, 1, none⟩ = some (.int .u8 0) ∧ w.cell? ⟨1, 2, none⟩ = some (.int .u8 21) ∧ w.cell? ⟨1, 3, none⟩ = some (.int .u8 5)
theorem NoL.lt {w : World} (h : NoL w) : 1 < w.heap.size := by
  rcases Nat.lt_or_ge 1 w.heap.size with h' | h'
  · exact h'
  · have := h.1; simp [World.cell?, Array.getElem?_eq_none h'] at this
theorem NoL.below {w w' : World} {n : Nat} (h : NoL w) (hb : Below n w w') (hn : 1 < n) : NoL w' :=
  ⟨(hb.cell (p := ⟨_, 0, none⟩) hn).trans h.1, (hb.cell (p := ⟨_, 1, none⟩) hn).trans h.2.1, (hb.cell (p := ⟨_, 2, none⟩) hn).trans h.2.2.1, (hb.cell (p := ⟨_, 3, none⟩) hn).trans h.2.2.2⟩
theorem hv_nil : hv (sumL []) = .agg #[.int .u8 0, .int .u8 0, .int .u8 21, .int .u8 5] := by
  have : sumL [] = ((0 : UInt8), (0 : UInt8), (21 : UInt8), (5 : UInt8)) := by decide
  rw [this]; rfl

theorem carryL_len (hs : List H4) (r : H4) : (carryL hs r).length ≤ hs.length + 1 := by
  induction hs generalizing r with
  | nil => simp [carryL]
  | cons x hs ih =>
    unfold carryL
    split
    · simp
    · simp only [List.length_cons]; have := ih (nodeL x r); omega
theorem foldl_len (L s : List H4) : (L.foldl carryL s).length ≤ s.length + L.length := by
  induction L generalizing s with
  | nil => simp
  | cons x L ih => have h1 := ih (carryL s x); have h2 := carryL_len s x; simp only [List.foldl_cons, List.length_cons]; omega
theorem fullL_len (L : List H4) : (fullL L).length ≤ L.length := by have := foldl_len L []; unfold fullL; simpa using this
theorem fullL_snoc (L : List H4) (x : H4) : fullL (L ++ [x]) = carryL (fullL L) x := by unfold fullL; rw [List.foldl_append]; rfl
theorem leaves_snoc (ls : List (List UInt8)) (k : Nat) (h : k < ls.length) : (ls.take (k + 1)).map leafL = (ls.take k).map leafL ++ [leafL (ls.getD k [])] := by
  rw [List.take_succ_eq_append_getElem h, List.map_append]
  simp [h]
theorem tops_snoc (hs : List H4) (k : Nat) (x : H4) (h : hs[k]? = some x) : topL (hs.take (k + 1)) = joinL x (topL (hs.take k)) := by
  have hlt : k < hs.length := (List.getElem?_eq_some_iff.1 h).1
  rw [List.take_succ_eq_append_getElem hlt, topL_snoc, (List.getElem?_eq_some_iff.1 h).2]
theorem Own.some {w : World} {base : Nat} {v : Value} {hs : List H4} (h : Own w base v hs) : ∃ a cap, v = .slice a hs.length cap := by
  rcases h.2 with ⟨e, e2⟩ | ⟨g, cap, cur, e, _⟩
  · exact ⟨none, 0, by rw [e, e2]⟩
  · exact ⟨_, cap, e⟩

/-- What the counter of full trees is behind so many leaves. -/
def fullK (ls : List (List UInt8)) (k : Nat) : List H4 := fullL ((ls.take k).map leafL)
theorem fullK_succ (ls : List (List UInt8)) (k : Nat) (h : k < ls.length) : fullK ls (k + 1) = carryL (fullK ls k) (leafL (ls.getD k [])) := by
  unfold fullK
  rw [leaves_snoc ls k h, fullL_snoc]
theorem fullK_len (ls : List (List UInt8)) (k : Nat) (h : k ≤ ls.length) : (fullK ls k).length ≤ k := by
  have := fullL_len ((ls.take k).map leafL)
  unfold fullK
  simp only [List.length_map, List.length_take] at this
  omega

set_option maxHeartbeats 2000000 in
theorem root_any (ls : List (List UInt8)) (v : Value) (w : World) (hl : Lvs w v ls) (hs : NoS w) (hn : NoL w) (hlen : ls.length ≤ 8796093022208) :
    Calls Tryd.prog 30 #[v] w fun e w' => e = .returned (hv (rt (ls.map leafL))) ∧ Below w.heap.size w w' := by
  obtain ⟨⟨z0, z1, z2, z3⟩, hz⟩ : ∃ z, rt (ls.map leafL) = z := ⟨_, rfl⟩
  rw [hz]
  have hz' : rootL (ls.map leafL) = (z0, z1, z2, z3) := by
    rw [← hz]
    exact rootL_eq _ (fun x hx => by obtain ⟨y, _, rfl⟩ := List.mem_map.1 hx; exact leafL_ne y)
  have HZ := hide hz'
  clear hz hz'
  obtain ⟨a, cap, rfl⟩ : ∃ a cap, v = .slice a ls.length cap := by obtain ⟨a, cap, e, _⟩ := hl; exact ⟨a, cap, e⟩
  obtain ⟨n, hnn⟩ : ∃ n, ls.length = n := ⟨_, rfl⟩
  have HN := hide hnn
  rw [hnn] at hl hlen ⊢
  clear hnn
  have hlt0 : 0 < w.heap.size := hs.lt
  have hlt1 : 1 < w.heap.size := hn.lt
  have HR := hide (slot4_new w 62)
  have HL := hide hl
  have HS := hide hs
  have HNL := hide hn
  clear hl hs hn
  go_enter Tryd.func30, Tryd.ntmps30
  go_wp2
  go_loopw [3, 11] (fun f i wr => ∃ k : Nat, k ≤ n ∧ i = .int .i64 k ∧ ∃ fa fc, f = .slice fa (fullK ls k).length fc ∧ Own wr (w.heap.size + 1) (.slice fa (fullK ls k).length fc) (fullK ls k) ∧ Below (w.heap.size + 1) (w.alloc (.cells #[.int .u8 0, .int .u8 0, .int .u8 0, .int .u8 0] 62)) wr)
    (fun _ i _ => n - (intOf i).toNat)
  case atStart => exact ⟨0, Nat.zero_le _, rfl, none, 0, rfl, World.ownsRow_nil _ _ _ _, Below.refl _ _⟩
  case round =>
    obtain ⟨k, hk, rfl, fa, fc, rfl, hown, hbel⟩ := hrel
    have hsz : w.heap.size + 1 ≤ wr.heap.size := by have := hbel.size; simpa using this
    have hb0 : Below w.heap.size w wr := ((Below.refl _ _).alloc (Nat.le_refl _) _).trans (hbel.mono (by omega))
    by_cases hlt : k < n
    · obtain ⟨b, off, u, ea, hbw, hcell, hby⟩ := (HL.out.below hb0 (Nat.le_refl _)).at k (by rw [HN.out]; exact hlt)
      subst ea
      have hsu := fullK_succ ls k (by rw [HN.out]; exact hlt)
      have hm := fullK_len ls k (by rw [HN.out]; exact hk)
      generalize ls.getD k [] = lf at *
      generalize hF : fullK ls k = F at *
      have HSU := hide hsu
      have HO := hide hown
      have HB := hide hbel
      have HY := hide hby
      have HS1 := hide (HS.out.below hb0 hlt0)
      have HM := hide hm
      clear hown hbel hby hb0 hm hsu hF
      go_wp2_with fail
      refine (leafSum_any u lf _ HY.out).mono ?_
      rintro e w1 ⟨rfl, hb1⟩
      have S1 : NoS w1 := HS1.out.below hb1 (by omega)
      have z1 := hb1.size
      have HB1 := hide hb1
      have HO1 : Hid (Own w1 (w.heap.size + 1) (.slice fa F.length fc) F) := HO.out.below hb1 (Nat.le_refl _)
      clear hb1
      go_wp2_with fail
      refine (carry_any F (leafL lf) _ (w.heap.size + 1) w1 S1 HO1.out ?_ ?_ ?_).mono ?_
      · omega
      · omega
      · have := HM.out; omega
      rintro e w2 ⟨v2, rfl, hown2, hb2⟩
      rw [← HSU.out] at hown2
      obtain ⟨fa2, fc2, hv2⟩ := hown2.some
      rw [hv2] at hown2 ⊢
      have B2 : Below (w.heap.size + 1) (w.alloc (.cells #[.int .u8 0, .int .u8 0, .int .u8 0, .int .u8 0] 62)) w2 := HB.out.trans ((HB1.out.mono hsz).trans hb2)
      have HO2 := hide hown2
      have HB2 := hide B2
      clear hown2 hb2 B2 HO1 HB1 S1 HS1 HY HO hv2
      go_wp2
      go_roundw
      case rel => exact ⟨k + 1, by omega, by go_num, fa2, fc2, rfl, HO2.out, HB2.out⟩
      case measure => simp [intOf]; omega
    · have hkn : fullK ls k = fullL (ls.map leafL) := by unfold fullK; rw [List.take_of_length_le (by rw [HN.out]; omega)]
      have HS1 := HS.out.below hb0 hlt0
      have HN1 := HNL.out.below hb0 hlt1
      rw [hkn] at hown ⊢
      have HZ2 : Hid ((if topL (fullL (ls.map leafL)) = noS then sumL [] else topL (fullL (ls.map leafL))) = (z0, z1, z2, z3)) := HZ.out
      have hm : (fullL (ls.map leafL)).length ≤ n := by have := fullL_len (ls.map leafL); rw [List.length_map, HN.out] at this; exact this
      generalize fullL (ls.map leafL) = full at *
      have HO := hide hown
      have HB := hide hbel
      have HBB := hide hb0
      clear hown hbel hkn HZ HL HS HNL hb0
      generalize wr = W at *
      obtain ⟨g0, g1, g2, g3⟩ := HS1.cells
      obtain ⟨l0, l1, l2, l3⟩ := (id HN1)
      obtain ⟨m, hmm⟩ : ∃ m, full.length = m := ⟨_, rfl⟩
      have HMM := hide hmm
      rw [hmm] at hm ⊢
      clear hmm
      have h0w : 0 < W.heap.size := by omega
      have h1w : 1 < W.heap.size := by omega
      have HSS := hide HS1
      have HNN := hide HN1
      have SD := hide (slot4_mk W 62 (B 255) (B 255) (B 255) (B 255))
      have OD := hide (HO.out.alloc (.cells #[B 255, B 255, B 255, B 255] 62))
      have RR := hide (HR.out.below HB.out (by simp))
      clear HS1 HN1
      go_wp2
      go_loopw [23] (fun i w2 => ∃ k2 : Nat, k2 ≤ m ∧ i = .int .i64 k2 ∧ ∃ rk : H4, Hid (rk = topL (full.take k2)) ∧ Slot4 w2 W.heap.size (B rk.1) (B rk.2.1) (B rk.2.2.1) (B rk.2.2.2) ∧ Own w2 (w.heap.size + 1) (.slice fa full.length fc) full ∧ Below W.heap.size W w2 ∧ W.heap.size < w2.heap.size)
        (fun i _ => m - (intOf i).toNat)
      case atStart => exact ⟨0, Nat.zero_le _, rfl, noS, rfl, SD.out, OD.out, (Below.refl _ _).alloc (Nat.le_refl _) _, by simp⟩
      case round =>
        obtain ⟨k2, hk2, rfl, ⟨y0, y1, y2, y3⟩, hrk, hsl, hoo, hbb, hzz⟩ := hrel
        obtain ⟨s0, s1, s2, s3, sf⟩ := (id hsl)
        have HSL := hide hsl
        have hss : NoS wr := HSS.out.below hbb h0w
        have HSR := hide hss
        obtain ⟨q0, q1, q2, q3⟩ := hss.cells
        obtain ⟨p0, p1, p2, p3⟩ := (id (HNN.out.below hbb h1w))
        obtain ⟨r0, r1, r2, r3, rf⟩ := (id (RR.out.below hbb (by omega)))
        have HBX : Hid (Below w.heap.size w wr) := HBB.out.trans (hbb.mono (by omega))
        have h0r : 0 < wr.heap.size := by omega
        have h1r : 1 < wr.heap.size := by omega
        have hwr : w.heap.size < wr.heap.size := by omega
        have hwW : w.heap.size ≠ W.heap.size := by omega
        by_cases hlt2 : k2 < m
        · obtain ⟨⟨x0, x1, x2, x3⟩, hx⟩ : ∃ x, full[k2]? = some x := ⟨_, List.getElem?_eq_getElem (by rw [HMM.out]; exact hlt2)⟩
          obtain ⟨g, cap', ev, hgb, hgl, _⟩ := hoo.shape (by rw [HMM.out]; omega)
          simp only [Value.slice.injEq] at ev
          obtain ⟨rfl, _, rfl⟩ := ev
          obtain ⟨c0, c1, c2, c3⟩ := Own.at4 hoo k2 _ hx
          have hgD : g < W.heap.size := by
            obtain ⟨g', _, ev, _, hgl', _⟩ := HO.out.shape (by rw [HMM.out]; omega)
            simp only [Value.slice.injEq, Option.some.injEq, Addr.mk.injEq] at ev
            rw [ev.1.1]; exact hgl'
          have htop := tops_snoc full k2 _ hx
          have HJ : Hid (joinL (x0, x1, x2, x3) (y0, y1, y2, y3) = topL (full.take (k2 + 1))) := by
            show _ = _
            rw [htop, hrk.out]
          have HOO := hide hoo
          have HBR := hide hbb
          clear hx htop hrk hoo hbb hsl hss
          simp only [B] at c0 c1 c2 c3 s0 s1 s2 s3
          go_wp2_with fail
          refine (join_any (x0, x1, x2, x3) (y0, y1, y2, y3) _ ?hns).mono ?_
          case hns => exact HSR.out.below ((Below.refl _ _).alloc (Nat.le_refl _) _) h0r
          rintro e w3 ⟨rfl, hb3⟩
          generalize joinL (x0, x1, x2, x3) (y0, y1, y2, y3) = j at *
          obtain ⟨j0, j1, j2, j3⟩ := j
          have z3' : wr.heap.size < w3.heap.size := by have := hb3.size; simp at this; omega
          have SS3 : Slot4 w3 W.heap.size (.int .u8 y0.toNat) (.int .u8 y1.toNat) (.int .u8 y2.toNat) (.int .u8 y3.toNat) := (HSL.out.alloc _).below hb3 (by simp; omega)
          have O3 : Own w3 (w.heap.size + 1) (.slice (some ⟨g, 0, none⟩) full.length fc) full := (HOO.out.alloc _).below hb3 (Nat.le_refl _)
          have B3 : Below W.heap.size W w3 := (HBR.out.alloc (by omega) _).trans (hb3.mono (by simp; omega))
          have hoth : (Value.slice (some ⟨g, 0, none⟩) full.length fc).ownBlock ≠ some W.heap.size := by simp [Value.ownBlock]; omega
          obtain ⟨d0, d1, d2, d3, df⟩ := (id SS3)
          have R1 : Hid (Own ((((w3.setCell ⟨W.heap.size, 0, none⟩ (.int .u8 j0.toNat)).setCell ⟨W.heap.size, 1, none⟩ (.int .u8 j1.toNat)).setCell ⟨W.heap.size, 2, none⟩ (.int .u8 j2.toNat)).setCell ⟨W.heap.size, 3, none⟩ (.int .u8 j3.toNat)) (w.heap.size + 1) (.slice (some ⟨g, 0, none⟩) full.length fc) full) :=
            (((O3.other _ _ hoth).other _ _ hoth).other _ _ hoth).other _ _ hoth
          have R2 : Hid (Slot4 ((((w3.setCell ⟨W.heap.size, 0, none⟩ (.int .u8 j0.toNat)).setCell ⟨W.heap.size, 1, none⟩ (.int .u8 j1.toNat)).setCell ⟨W.heap.size, 2, none⟩ (.int .u8 j2.toNat)).setCell ⟨W.heap.size, 3, none⟩ (.int .u8 j3.toNat)) W.heap.size (B j0) (B j1) (B j2) (B j3)) := SS3.set _ _ _ _
          have R3 : Hid (Below W.heap.size W ((((w3.setCell ⟨W.heap.size, 0, none⟩ (.int .u8 j0.toNat)).setCell ⟨W.heap.size, 1, none⟩ (.int .u8 j1.toNat)).setCell ⟨W.heap.size, 2, none⟩ (.int .u8 j2.toNat)).setCell ⟨W.heap.size, 3, none⟩ (.int .u8 j3.toNat))) :=
            (((B3.setCell (Nat.le_refl _) _).setCell (Nat.le_refl _) _).setCell (Nat.le_refl _) _).setCell (Nat.le_refl _) _
          clear hb3 SS3 O3 B3 hoth c0 c1 c2 c3 s0 s1 s2 s3 sf q0 q1 q2 q3 p0 p1 p2 p3 r0 r1 r2 r3 rf g0 g1 g2 g3 l0 l1 l2 l3
          simp only [hv, B]
          go_wp2
          go_roundw
          case rel => exact ⟨k2 + 1, by omega, by go_num, (j0, j1, j2, j3), HJ.out, R2.out, R1.out, R3.out, by simp [World.setCell]; omega⟩
          case measure => simp [intOf]; omega
        · have hrk2 : (y0, y1, y2, y3) = topL full := by rw [hrk.out, List.take_of_length_le (by rw [HMM.out]; omega)]
          have hfin := HZ2.out
          rw [← hrk2] at hfin
          have e1 : ∀ w, (Op.equalIn 10000 62 (hv (y0, y1, y2, y3)) (.agg #[.int .u8 255, .int .u8 255, .int .u8 255, .int .u8 255])).run Tryd.prog w = .ok (decide ((y0, y1, y2, y3) = noS)) w := eqH (y0, y1, y2, y3) noS
          simp only [B] at s0 s1 s2 s3
          simp only [hv, B] at e1
          by_cases hy : (y0, y1, y2, y3) = noS
          · rw [if_pos hy] at hfin
            rw [decide_eq_true hy] at e1
            have HV : Hid (hv (z0, z1, z2, z3) = .agg #[.int .u8 0, .int .u8 0, .int .u8 21, .int .u8 5]) := by
              show _ = _
              rw [← hfin]; exact hv_nil
            clear hy hfin hrk2 hrk hoo hbb hsl hss HSL HSR HO HB HBB SD OD RR HZ2 HMM HSS HNN g0 g1 g2 g3 l0 l1 l2 l3
            go_wp2
            refine bodyPost_ret (v := .agg #[.int .u8 0, .int .u8 0, .int .u8 21, .int .u8 5]) (by simp [results, Tryd.results30, go_sem, r0, r1, r2, r3]) rfl ⟨by rw [HV.out], ?_⟩
            exact (((HBX.out.setCell (Nat.le_refl _) _).setCell (Nat.le_refl _) _).setCell (Nat.le_refl _) _).setCell (Nat.le_refl _) _
          · rw [if_neg hy] at hfin
            rw [decide_eq_false hy] at e1
            have HV := hide hfin
            clear hy hfin hrk2 hrk hoo hbb hsl hss HSL HSR HO HB HBB SD OD RR HZ2 HMM HSS HNN g0 g1 g2 g3 l0 l1 l2 l3
            go_wp2
            refine bodyPost_ret (v := .agg #[.int .u8 y0.toNat, .int .u8 y1.toNat, .int .u8 y2.toNat, .int .u8 y3.toNat]) (by simp [results, Tryd.results30, go_sem, r0, r1, r2, r3]) rfl ⟨by rw [← HV.out]; rfl, ?_⟩
            exact (((HBX.out.setCell (Nat.le_refl _) _).setCell (Nat.le_refl _) _).setCell (Nat.le_refl _) _).setCell (Nat.le_refl _) _
end Go.Proofs.YtepehjalpkfniaaDoor
