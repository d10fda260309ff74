/-
  OWN. An entry as bytes (chain: entry), walked. No project text.
-/
import Derived.Test.YtepehjalpkfniaaDoorHead
namespace Go.Proofs.YtepehjalpkfniaaDoor
open Go.RowKit

theorem wrapB (c : UInt8) : Value.int .u8 (IntKind.u8.wrap (c.toNat : Int)) = B c := by
  have := c.toNat_lt
  unfold B
  congr 1
  simp [IntKind.wrap, IntKind.bits, IntKind.signed]
  omega
/-- An entry as bytes. -/
def enL (n : Nat) (t : Nat) (ops : Nat) (r : H4) : List UInt8 := be 4 n ++ be 8 t ++ [UInt8.ofNat ops] ++ bs r
set_option maxRecDepth 100000 in
set_option maxHeartbeats 2000000 in
theorem entry_any (n t ops : Nat) (tv : Int) (r : H4) (w : World) (hn : n ≤ 4294967296) (ho : ops < 256) (htv : IntKind.u64.wrap tv = (t : Int)) :
    Calls Tryd.prog 64 #[.int .i64 (n : Int), .int .i64 tv, .int .i64 (ops : Int), hv r] w fun e w' => ∃ v', e = .returned v' ∧ OwnB w' w.heap.size v' (enL n t ops r) ∧ Below w.heap.size w w' := by
  obtain ⟨i0, hi0, hz0, hz1, hz2⟩ := info_parts info_u8
  obtain ⟨x0, x1, x2, x3⟩ := r
  simp only [hv, B]
  go_enter Tryd.func64, Tryd.ntmps64
  go_wp2_with (at_make; refine wpList_make_own _ rfl _ _ 37 rfl (w.heap.size + 1) 5 i0 (.int .u8 0) 1 Tryd.underlying37 hi0 hz0 hz1 .i64 .i64 _ 17 rfl rfl rfl ?m1 ?m2 ?m3 ?_)
  case m1 => rw [hz2]; omega
  case m2 => unfold maxLen; omega
  case m3 => simp
  intro w1 hown1 hgrow1
  have B1 : Hid (Below (w.heap.size + 1) (w.alloc (.cells #[.int .u8 x0.toNat, .int .u8 x1.toNat, .int .u8 x2.toNat, .int .u8 x3.toNat] 62)) w1) := Below.grown (Below.refl _ _) hgrow1 (by simp) (fun k h => by cases h)
  have O1 : Hid (OwnB w1 (w.heap.size + 1) (.slice (some ⟨w.heap.size + 1, 0, none⟩) 0 17) []) := hown1
  have z1 : w.heap.size + 1 ≤ w1.heap.size := by have := B1.out.size; simpa using this
  clear hown1 hgrow1
  go_wp2_with fail
  refine (nappend_any _ [] n 4 (w.heap.size + 1) _ (by omega) O1.out (by simp) z1).mono ?_
  rintro e w2 ⟨v2, rfl, hown2, hb2⟩
  have O2 := hide hown2
  have B2 := hide (B1.out.trans hb2)
  have z2 : w.heap.size + 1 ≤ w2.heap.size := by have := B2.out.size; simpa using this
  clear hown2 hb2 B1 O1
  go_wp2_with fail
  refine (nappend_any _ _ t 8 (w.heap.size + 1) _ (by omega) O2.out (by simp [be_len]) z2).mono ?_
  rintro e w3 ⟨v3, rfl, hown3, hb3⟩
  have B3 := hide (B2.out.trans hb3)
  have z3 : w.heap.size + 1 ≤ w3.heap.size := by have := B3.out.size; simpa using this
  have FX : Hid (Four w3 w.heap.size 0 (x0, x1, x2, x3)) := Four.below (w := w.alloc (.cells #[.int .u8 x0.toNat, .int .u8 x1.toNat, .int .u8 x2.toNat, .int .u8 x3.toNat] 62)) (by refine ⟨?_, ?_, ?_, ?_⟩ <;> simp [B]) B3.out (by simp)
  obtain ⟨D, hD⟩ : ∃ D, [] ++ be 4 n ++ be 8 t = D := ⟨_, rfl⟩
  have hDl : D.length = 12 := by rw [← hD]; simp [be_len]
  have HD : Hid (enL n t ops (x0, x1, x2, x3) = D ++ [UInt8.ofNat ops] ++ bs (x0, x1, x2, x3)) := by
    show _ = _
    rw [← hD]; simp [enL]
  rw [hD] at hown3
  clear hD hb3 B2 O2 htv
  obtain ⟨fa, fc, rfl⟩ := hown3.some
  have O3' : Hid (w3.ownsRow (w.heap.size + 1) 5 1 (.slice fa 12 fc) 12 (D.map B)) := by
    have h := hown3
    unfold OwnB at h
    rw [hDl] at h
    exact h
  have HDl := hide hDl
  rw [hDl]
  clear hDl hown3
  obtain ⟨c, hc⟩ : ∃ c, UInt8.ofNat ops = c := ⟨_, rfl⟩
  have hcv : ((ops : Int)) = (c.toNat : Int) := by rw [← hc, UInt8.toNat_ofNat']; omega
  rw [hc] at HD
  have hcr := B_range c
  have HCV := hide hcv
  clear hc
  rw [hcv]
  clear hcv ho
  go_wp2_with fail
  go_region_held3 (fun _ => True) (trivial) ((first
    | (refine step_append_lies _ (by rfl) _ _ _ (by rfl) (w.heap.size + 1) 5 i0 _ 1 1 Tryd.underlying37 hi0 hz0 hz1 hz2 rfl (by omega) (.slice fa 12 fc) 12 (D.map B) (by rfl) (O3'.out.drew.alloc _) ⟨w3.heap.size, 0, none⟩ 1 1 [B c] (by rfl) (by rfl) (news1b w3.drew c _ _ (wrapB c)) (one1 c) (by omega) (by unfold maxLen; omega) (by omega) (by simp; omega) (w3.heap.size + 1) (by simp) ?_; intro g cap' w4 hown4 hgrow4 hat4 hlt4; have B4 : Hid (Below (w.heap.size + 1) w3 w4) := (((Below.refl _ w3).drew).alloc (by simpa using z3) _).grown hgrow4 (by simp; omega) (fun j hj => (O3'.out.lt j hj).1); have O4 := hide hown4; have FX4 := hide (FX.out.below B4.out (by omega)); have z4 : w.heap.size + 1 ≤ w4.heap.size := Nat.le_trans z3 B4.out.size; clear hown4 hgrow4 hat4)
    | (refine step_append_lies _ (by rfl) _ _ _ (by rfl) (w.heap.size + 1) 5 i0 _ 1 1 Tryd.underlying37 hi0 hz0 hz1 hz2 rfl (by omega) (.slice (some ⟨g, 0, none⟩) 13 cap') 13 (D.map B ++ [B c]) (by rfl) O4.out ⟨w.heap.size, 0, none⟩ 4 4 [B x0, B x1, B x2, B x3] (by rfl) (by rfl) (Four.news (x := (x0, x1, x2, x3)) FX4.out) (one4B (x0, x1, x2, x3)) (by omega) (by unfold maxLen; omega) (by omega) (by omega) w4.heap.size (by rfl) ?_; intro g2 cap2 w5 hown5 hgrow5 hat5 hlt5; have B5 : Hid (Below (w.heap.size + 1) w4 w5) := (Below.refl _ w4).grown hgrow5 z4 (fun j hj => (O4.out.lt j hj).1); have O5 := hide hown5; clear hown5 hgrow5 hat5)))
  have G1 : Hid (OwnB w5 (w.heap.size + 1) (.slice (some ⟨g2, 0, none⟩) 17 cap2) (enL n t ops (x0, x1, x2, x3))) := by
    show OwnB _ _ _ _
    rw [HD.out]
    unfold OwnB
    rw [List.map_append, List.map_append, map_bs, List.length_append, List.length_append, HDl.out]
    exact O5.out
  have G2 : Hid (Below w.heap.size w w5) := ((Below.refl _ _).alloc (Nat.le_refl _) _).trans (((B3.out.trans B4.out).trans B5.out).mono (by omega))
  clear O5 B5 O4 B4 O3' B3 FX FX4
  go_wp2
  go_ret
  exact ⟨_, rfl, G1.out.mono (by omega), G2.out⟩
end Go.Proofs.YtepehjalpkfniaaDoor
