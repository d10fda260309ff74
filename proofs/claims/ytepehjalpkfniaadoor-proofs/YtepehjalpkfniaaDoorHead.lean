/-
  OWN. Headers and entries as bytes (chain: text, hash, entry), walked. No project text.
-/
import Derived.Test.YtepehjalpkfniaaDoorNum
import Derived.Deep.AppendLies
import Derived.Deep.RegionHeld3
namespace Go.Proofs.YtepehjalpkfniaaDoor
open Go.RowKit

theorem be4 (n : Nat) : be 4 n = bs (hsh n) := by
  simp [be, bs, hsh]
theorem OwnB.byts {w : World} {base : Nat} {v : Value} {l : List UInt8} (h : OwnB w base v l) (hl : l.length ≤ 140737488355328) : Byts w v l := by
  rcases h.2 with ⟨e, e2⟩ | ⟨g, cap, cur, e, hb, hg, hc, _⟩
  · have e0 : l = [] := List.length_eq_zero_iff.1 e2
    subst e0
    rw [e]
    exact Byts.nil w
  · refine ⟨_, cap, e, hl, fun i hi => ⟨g, 0, rfl, (Array.getElem?_eq_some_iff.1 hg).1, ?_⟩⟩
    rw [e] at h
    rw [Nat.zero_add]
    refine (World.ownsRow.cellAt h i (by omega)).trans ?_
    rw [List.getElem?_map, List.getElem?_eq_getElem hi]
    simp [hi]
/-- A header as a value. -/
def hdr (n : Int) (x y : H4) : Value := .agg #[.int .i64 n, B x.1, B x.2.1, B x.2.2.1, B x.2.2.2, B y.1, B y.2.1, B y.2.2.1, B y.2.2.2]
/-- A header as bytes. -/
def hdL (n : Nat) (x y : H4) : List UInt8 := 66 :: (be 4 n ++ (bs x ++ bs y))

theorem OwnB.mono {w : World} {base base' : Nat} {v : Value} {l : List UInt8} (h : OwnB w base v l) (hb : base' ≤ base) : OwnB w base' v l :=
  ⟨h.1, h.2.imp id (fun ⟨g, cap, cur, e, hbg, r⟩ => ⟨g, cap, cur, e, Nat.le_trans hb hbg, r⟩)⟩
theorem news1b (w : World) (c : UInt8) (v : Value) (t : TypeId) (hv : v = B c) : ∀ (j : Nat) (u : Value), [B c][j]? = some u → (w.alloc (.cells #[v] t)).cell? ((⟨w.heap.size, 0, none⟩ : Addr).add j) = some u := by
  intro j u hj
  match j, hj with
  | 0, hj => simp at hj; subst hj; simp [Addr.add, hv]
theorem one1 (c : UInt8) : ∀ u ∈ [B c], u.oneCell' = true := by intro u hu; simp at hu; subst hu; rfl
theorem one4B (x : H4) : ∀ u ∈ [B x.1, B x.2.1, B x.2.2.1, B x.2.2.2], u.oneCell' = true := by
  intro u hu
  simp only [List.mem_cons, List.not_mem_nil, or_false] at hu
  rcases hu with rfl | rfl | rfl | rfl <;> rfl
/-- Four bytes at a place in a block. -/
def Four (w : World) (r o : Nat) (x : H4) : Prop := w.cell? ⟨r, o, none⟩ = some (B x.1) ∧ w.cell? ⟨r, o + 1, none⟩ = some (B x.2.1) ∧ w.cell? ⟨r, o + 2, none⟩ = some (B x.2.2.1) ∧ w.cell? ⟨r, o + 3, none⟩ = some (B x.2.2.2)
theorem Four.below {w w' : World} {r o n : Nat} {x : H4} (h : Four w r o x) (hb : Below n w w') (hr : r < n) : Four w' r o x :=
  ⟨(hb.cell (p := ⟨r, _, none⟩) hr).trans h.1, (hb.cell (p := ⟨r, _, none⟩) hr).trans h.2.1, (hb.cell (p := ⟨r, _, none⟩) hr).trans h.2.2.1, (hb.cell (p := ⟨r, _, none⟩) hr).trans h.2.2.2⟩
theorem Four.news {w : World} {r o : Nat} {x : H4} (h : Four w r o x) : ∀ (j : Nat) (u : Value), [B x.1, B x.2.1, B x.2.2.1, B x.2.2.2][j]? = some u → w.cell? ((⟨r, o, none⟩ : Addr).add j) = some u := by
  intro j u hj
  match j, hj with
  | 0, hj => simp at hj; subst hj; exact h.1
  | 1, hj => simp at hj; subst hj; exact h.2.1
  | 2, hj => simp at hj; subst hj; exact h.2.2.1
  | 3, hj => simp at hj; subst hj; exact h.2.2.2
theorem map_bs (x : H4) : (bs x).map B = [B x.1, B x.2.1, B x.2.2.1, B x.2.2.2] := rfl

set_option maxRecDepth 100000 in
set_option maxHeartbeats 2000000 in
theorem htext_any (n : Nat) (x y : H4) (w : World) (hn : n ≤ 4294967296) :
    Calls Tryd.prog 73 #[hdr (n : Int) x y] w fun e w' => ∃ v', e = .returned v' ∧ OwnB w' w.heap.size v' (hdL n x y) ∧ Below w.heap.size w w' := by
  obtain ⟨i0, hi0, hz0, hz1, hz2⟩ := info_parts info_u8
  obtain ⟨x0, x1, x2, x3⟩ := x
  obtain ⟨y0, y1, y2, y3⟩ := y
  simp only [hdr, B]
  go_enter Tryd.func73, Tryd.ntmps73
  go_wp2_with (at_make; refine wpList_make_own _ rfl _ _ 37 rfl (w.heap.size + 1) 5 i0 (.int .u8 0) 1 Tryd.underlying37 hi0 hz0 hz1 .i64 .i64 _ 13 rfl rfl rfl ?m1 ?m2 ?m3 ?_)
  case m1 => rw [hz2]; omega
  case m2 => unfold maxLen; omega
  case m3 => simp
  intro w1 hown1 hgrow1
  have BX : Hid (Below (w.heap.size + 1) (w.alloc (.cells #[.int .i64 (n : Int), .int .u8 x0.toNat, .int .u8 x1.toNat, .int .u8 x2.toNat, .int .u8 x3.toNat, .int .u8 y0.toNat, .int .u8 y1.toNat, .int .u8 y2.toNat, .int .u8 y3.toNat] 108)) w1) := Below.grown (Below.refl _ _) hgrow1 (by simp) (fun k h => by cases h)
  have O1 : Hid (OwnB w1 (w.heap.size + 1) (.slice (some ⟨w.heap.size + 1, 0, none⟩) 0 13) []) := hown1
  have z1 : w.heap.size + 1 ≤ w1.heap.size := by have := BX.out.size; simpa using this
  clear hown1 hgrow1
  go_wp2_with (at_builtin; refine wpList_append_own _ rfl _ _ 37 rfl (w.heap.size + 1) 5 i0 (.int .u8 0) 1 1 Tryd.underlying37 hi0 hz0 hz1 hz2 rfl (by decide) _ _ _ rfl (O1.out.alloc _) ⟨w1.heap.size, 0, none⟩ 1 1 [B 66] rfl rfl ?c1 ?c2 ?c3 ?c4 ?c5 ?_)
  case c1 => exact news1b w1 66 _ _ rfl
  case c2 => exact one1 66
  case c3 => unfold maxLen; simp
  case c4 => simp
  case c5 => simp; omega
  intro v2 w2 hown2 hgrow2 _
  have O2 : Hid (OwnB w2 (w.heap.size + 1) v2 [66]) := hown2
  have B2 : Hid (Below (w.heap.size + 1) (w.alloc (.cells #[.int .i64 (n : Int), .int .u8 x0.toNat, .int .u8 x1.toNat, .int .u8 x2.toNat, .int .u8 x3.toNat, .int .u8 y0.toNat, .int .u8 y1.toNat, .int .u8 y2.toNat, .int .u8 y3.toNat] 108)) w2) := (BX.out.alloc (by omega) _).grown hgrow2 (by simp; omega) (fun j hj => (O1.out.lt j hj).1)
  have z2 : w.heap.size + 1 ≤ w2.heap.size := by have := B2.out.size; simpa using this
  clear hown2 hgrow2 O1 BX
  have k0 : w2.cell? ⟨w.heap.size, 0, none⟩ = some (.int .i64 (n : Int)) := (B2.out.cell (p := ⟨w.heap.size, 0, none⟩) (by simp)).trans (by simp)
  go_wp2_with fail
  refine (nappend_any v2 [66] n 4 (w.heap.size + 1) _ (by omega) O2.out (by simp) z2).mono ?_
  rintro e w3 ⟨v3, rfl, hown3, hb3⟩
  have O3 : Hid (OwnB w3 (w.heap.size + 1) v3 ([66] ++ be 4 n)) := hown3
  have B3 : Hid (Below (w.heap.size + 1) (w.alloc (.cells #[.int .i64 (n : Int), .int .u8 x0.toNat, .int .u8 x1.toNat, .int .u8 x2.toNat, .int .u8 x3.toNat, .int .u8 y0.toNat, .int .u8 y1.toNat, .int .u8 y2.toNat, .int .u8 y3.toNat] 108)) w3) := B2.out.trans hb3
  have z3 : w.heap.size + 1 ≤ w3.heap.size := by have := B3.out.size; simpa using this
  clear hown3 hb3 O2 B2 k0
  have FX : Hid (Four w3 w.heap.size 1 (x0, x1, x2, x3)) := Four.below (w := w.alloc (.cells #[.int .i64 (n : Int), .int .u8 x0.toNat, .int .u8 x1.toNat, .int .u8 x2.toNat, .int .u8 x3.toNat, .int .u8 y0.toNat, .int .u8 y1.toNat, .int .u8 y2.toNat, .int .u8 y3.toNat] 108)) (by refine ⟨?_, ?_, ?_, ?_⟩ <;> simp [B]) B3.out (by simp)
  have FY : Hid (Four w3 w.heap.size 5 (y0, y1, y2, y3)) := Four.below (w := w.alloc (.cells #[.int .i64 (n : Int), .int .u8 x0.toNat, .int .u8 x1.toNat, .int .u8 x2.toNat, .int .u8 x3.toNat, .int .u8 y0.toNat, .int .u8 y1.toNat, .int .u8 y2.toNat, .int .u8 y3.toNat] 108)) (by refine ⟨?_, ?_, ?_, ?_⟩ <;> simp [B]) B3.out (by simp)
  obtain ⟨D, hD⟩ : ∃ D, [66] ++ be 4 n = D := ⟨_, rfl⟩
  have hDl : D.length = 5 := by rw [← hD]; simp [be_len]
  have HD : Hid (hdL n (x0, x1, x2, x3) (y0, y1, y2, y3) = D ++ bs (x0, x1, x2, x3) ++ bs (y0, y1, y2, y3)) := by
    show _ = _
    rw [← hD]; simp [hdL]
  rw [hD] at O3
  clear hD
  obtain ⟨fa, fc, rfl⟩ := O3.out.some
  have O3' : Hid (w3.ownsRow (w.heap.size + 1) 5 1 (.slice fa 5 fc) 5 (D.map B)) := by
    have h := O3.out
    unfold OwnB at h
    rw [hDl] at h
    exact h
  have HDl := hide hDl
  rw [hDl]
  clear hDl O3
  go_wp2_with fail
  go_region_held3 (fun _ => True) (trivial) ((first
    | (refine step_append_lies _ (by rfl) _ _ _ (by rfl) (w.heap.size + 1) 5 i0 _ 1 1 Tryd.underlying37 hi0 hz0 hz1 hz2 rfl (by omega) (.slice fa 5 fc) 5 (D.map B) (by rfl) O3'.out.drew ⟨w.heap.size, 1, none⟩ 4 4 [B x0, B x1, B x2, B x3] (by rfl) (by rfl) (Four.news (x := (x0, x1, x2, x3)) FX.out) (one4B (x0, x1, x2, x3)) (by omega) (by unfold maxLen; omega) (by omega) (by simpa using z3) w3.heap.size (by simp) ?_; intro g cap' w4 hown4 hgrow4 hat4 hlt4; have B4 : Hid (Below (w.heap.size + 1) w3 w4) := ((Below.refl _ w3).drew).grown hgrow4 (by simpa using z3) (fun j hj => (O3'.out.lt j hj).1); have O4 := hide hown4; have FY4 := hide (FY.out.below B4.out (by omega)); have z4 : w.heap.size + 1 ≤ w4.heap.size := Nat.le_trans z3 B4.out.size; clear hown4 hgrow4 hat4)
    | (refine step_append_lies _ (by rfl) _ _ _ (by rfl) (w.heap.size + 1) 5 i0 _ 1 1 Tryd.underlying37 hi0 hz0 hz1 hz2 rfl (by omega) (.slice (some ⟨g, 0, none⟩) 9 cap') 9 (D.map B ++ [B x0, B x1, B x2, B x3]) (by rfl) O4.out ⟨w.heap.size, 5, none⟩ 4 4 [B y0, B y1, B y2, B y3] (by rfl) (by rfl) (Four.news (x := (y0, y1, y2, y3)) FY4.out) (one4B (y0, y1, y2, y3)) (by omega) (by unfold maxLen; omega) (by omega) (by omega) w4.heap.size (by rfl) ?_; intro g2 cap2 w5 hown5 hgrow5 hat5 hlt5; have B5 : Hid (Below (w.heap.size + 1) w4 w5) := (Below.refl _ w4).grown hgrow5 z4 (fun j hj => (O4.out.lt j hj).1); have O5 := hide hown5; clear hown5 hgrow5 hat5)))
  have G1 : Hid (OwnB w5 (w.heap.size + 1) (.slice (some ⟨g2, 0, none⟩) 13 cap2) (hdL n (x0, x1, x2, x3) (y0, y1, y2, y3))) := by
    show OwnB _ _ _ _
    rw [HD.out]
    unfold OwnB
    rw [List.map_append, List.map_append, map_bs, map_bs, List.length_append, List.length_append, HDl.out]
    exact O5.out
  have G2 : Hid (Below w.heap.size w w5) := ((Below.refl _ _).alloc (Nat.le_refl _) _).trans (((B3.out.trans B4.out).trans B5.out).mono (by omega))
  clear O5 B5 O4 B4 O3' B3 FX FY FY4
  go_wp2
  go_ret
  exact ⟨_, rfl, G1.out.mono (by omega), G2.out⟩

theorem hdL_len (n : Nat) (x y : H4) : (hdL n x y).length = 13 := by simp [hdL, be_len, bs]
set_option maxRecDepth 100000 in
set_option maxHeartbeats 2000000 in
theorem hhash_any (n : Nat) (x y : H4) (w : World) (hn : n ≤ 4294967296) :
    Calls Tryd.prog 62 #[hdr (n : Int) x y] w fun e w' => e = .returned (hv (sumL (hdL n x y))) ∧ Below w.heap.size w w' := by
  have HT := hide (fun W => htext_any n x y W hn)
  have hl := hdL_len n x y
  generalize hdL n x y = T at *
  have HS := hide (fun v W h => sum_any v T W h)
  generalize sumL T = S at *
  obtain ⟨s0, s1, s2, s3⟩ := S
  obtain ⟨x0, x1, x2, x3⟩ := x
  obtain ⟨y0, y1, y2, y3⟩ := y
  simp only [hdr, hv, B] at *
  have HL := hide hl
  clear hl
  go_enter Tryd.func62, Tryd.ntmps62
  go_wp2_with fail
  refine (HT.out _).mono ?_
  rintro e w1 ⟨v1, rfl, hown1, hb1⟩
  have O1 := hide hown1
  have S0 := slot4_new (w.alloc (.cells #[.int .i64 (n : Int), .int .u8 x0.toNat, .int .u8 x1.toNat, .int .u8 x2.toNat, .int .u8 x3.toNat, .int .u8 y0.toNat, .int .u8 y1.toNat, .int .u8 y2.toNat, .int .u8 y3.toNat] 108)) 62
  rw [World.size_alloc] at S0
  have S1 := hide (S0.below hb1 (by simp))
  have B1 : Hid (Below w.heap.size w w1) := (((Below.refl _ _).alloc (Nat.le_refl _) _).alloc (by simp) _).trans (hb1.mono (by simp; omega))
  have z1 : w.heap.size + 1 < w1.heap.size := by have := hb1.size; simp at this; omega
  clear hown1 hb1 S0 HT
  go_wp2_with fail
  refine (HS.out _ _ ?hb).mono ?_
  case hb => exact O1.out.byts (by rw [HL.out]; omega)
  rintro e w2 ⟨rfl, hb2⟩
  obtain ⟨c0, c1, c2, c3, f0⟩ := S1.out.below hb2 z1
  have B2 : Hid (Below w.heap.size w w2) := B1.out.trans (hb2.mono (by omega))
  have z2 := hb2.size
  clear hb2 S1 B1 O1 HS
  go_wp2
  refine bodyPost_ret (v := .agg #[.int .u8 s0.toNat, .int .u8 s1.toNat, .int .u8 s2.toNat, .int .u8 s3.toNat]) (by simp [results, Tryd.results62, go_sem, c0, c1, c2, c3]) rfl ⟨rfl, ?_⟩
  exact Below.setCell (Below.setCell (Below.setCell (Below.setCell B2.out (by simp) _) (by simp) _) (by simp) _) (by simp) _
end Go.Proofs.YtepehjalpkfniaaDoor
