/-
  OWN. A path that is read (chain: parts, path), walked. No project text.
-/
import Derived.Test.YtepehjalpkfniaaDoorPathP
namespace Go.Proofs.YtepehjalpkfniaaDoor
open Go.RowKit

theorem set4_at (w : World) (q o : Nat) (a b c d : Value) : Below q w ((((w.setCell ⟨q, o, none⟩ a).setCell ⟨q, o + 1, none⟩ b).setCell ⟨q, o + 2, none⟩ c).setCell ⟨q, o + 3, none⟩ d) := by
  have h := fun (W : World) (o : Nat) (u : Value) (hb : Below q w W) => Below.setCell (p := ⟨q, o, none⟩) hb (Nat.le_refl q) u
  exact h _ _ _ (h _ _ _ (h _ _ _ (h _ _ _ (Below.refl q w))))
set_option maxRecDepth 100000 in
set_option maxHeartbeats 4000000 in
theorem path_any (r b : Nat) (c : List UInt8 × Bool) (w : World) (hc : Prt w r b c) (hbw : b < w.heap.size) :
    Calls Tryd.prog 75 #[.pointer (some ⟨r, 0, none⟩)] w fun e w' => ∃ v, e = .returned v ∧ Own w' w.heap.size v (padL (c.1.drop 1) (numL (c.1.take 1))) ∧ Prt w' r b (nx (4 * numL (c.1.take 1)) (nx 1 c)) ∧ But r w.heap.size w w' := by
  have hrw := hc.lt
  have HC := hide hc
  clear hc
  have N1 := hide (fun W h => number_small r b 1 c W h (by omega))
  have hn : numL (c.1.take 1) < 256 := numL_take_lt 1 c.1
  have ec : (nx 1 c).1 = c.1.drop 1 := rfl
  rw [← ec]
  clear ec
  generalize nx 1 c = c1 at *
  generalize numL (c.1.take 1) = n at *
  have NH := hide (fun k W h h2 => phash_any r b (nx (4 * k) c1) W h h2)
  have NHs : Hid (∀ k, nx 4 (nx (4 * k) c1) = nx (4 * (k + 1)) c1) := fun k => nx_nx k c1
  have NHv : Hid (∀ k, (nx (4 * k) c1).1 = c1.1.drop (4 * k)) := fun k => rfl
  have NH0 := hide (nx_zero c1)
  have info := info55
  obtain ⟨i0, hi0, hz0, hz1, hz2⟩ := info_parts info
  clear info
  go_enter Tryd.func75, Tryd.ntmps75
  go_wp2_with fail
  refine (N1.out _ HC.out).mono ?_
  rintro e w1 ⟨rfl, hp1, hb1, hz⟩
  have P1 : Hid (Prt w1 r b (nx (4 * 0) c1)) := by show Prt _ _ _ _; rw [NH0.out]; exact hp1
  have B1 := hide hb1
  have z1 := hz
  clear hp1 hb1 hz HC N1 NH0
  go_wp2_with (at_make; refine wpList_make_full _ rfl _ _ 64 rfl w.heap.size 62 i0 (.agg #[.int .u8 0, .int .u8 0, .int .u8 0, .int .u8 0]) 4 Tryd.underlying64 hi0 hz0 hz1 .i64 .i64 _ _ n rfl rfl ?m1 ?m2 ?m3 ?m4 ?m5 ?_)
  case m1 => omega
  case m2 => omega
  case m3 => rw [hz2]; omega
  case m4 => unfold maxLen; omega
  case m5 => omega
  intro w2 hown hgrow
  have O2 : Hid (Own w2 w.heap.size (.slice (some ⟨w.heap.size, 0, none⟩) n n) (padL c1.1 0 ++ List.replicate (n - 0) zero4)) := by
    show w2.ownsRow _ _ _ _ _ _
    rw [done_len _ 0 n (Nat.zero_le _), show padL c1.1 0 = [] from rfl, List.nil_append, Nat.sub_zero, ← made_zero, ← z1]
    rw [← z1] at hown
    exact hown
  have G2 : Below w1.heap.size w1 w2 := Below.grown (Below.refl _ _) hgrow (Nat.le_refl _) (fun k h => by cases h)
  have P2 := hide (P1.out.below G2 (by omega) (by omega))
  have B2 : Hid (But r w.heap.size w w2) := B1.out.trans (But.of_below (G2.mono (by omega)))
  clear hown hgrow G2 P1 B1
  go_wp2
  go_loopw [10] (fun i wr => ∃ k : Nat, k ≤ n ∧ i = .int .i64 k ∧ Hid (Own wr w.heap.size (.slice (some ⟨w.heap.size, 0, none⟩) n n) (padL c1.1 k ++ List.replicate (n - k) zero4) ∧ Prt wr r b (nx (4 * k) c1) ∧ But r w.heap.size w wr)) (fun i _ => n - (intOf i).toNat)
  case atStart => exact ⟨0, Nat.zero_le _, rfl, O2.out, P2.out, B2.out⟩
  case round =>
    obtain ⟨k, hk, rfl, hall⟩ := hrel
    clear O2 P2 B2
    by_cases hlt : k < n
    · have hwr := hall.out.2.2.size
      have NHk := hide (NH.out k)
      rw [NHs.out k, NHv.out k] at NHk
      have HSD := hide (set_done c1.1 k n hlt)
      obtain ⟨⟨x0, x1, x2, x3⟩, hx⟩ : ∃ x, pad4 ((c1.1.drop (4 * k)).take 4) = x := ⟨_, rfl⟩
      rw [hx] at NHk HSD
      simp only [hv] at NHk
      clear NH NHs NHv hx
      go_wp2_with fail
      refine (NHk.out _ hall.out.2.1 (by omega)).mono ?_
      rintro e w3 ⟨rfl, hp3, hb3⟩
      have hlen := done_len c1.1 k n hk
      have O3 := hall.out.1.but hb3 hrw
      generalize (padL c1.1 k ++ List.replicate (n - k) zero4) = hs at *
      obtain ⟨⟨o0, o1, o2, o3⟩, ho⟩ : ∃ x, hs[k]? = some x := ⟨_, List.getElem?_eq_getElem (by omega)⟩
      have O4 : Own w3 w.heap.size (.slice (some ⟨w.heap.size, 0, none⟩) hs.length n) hs := by rw [hlen]; exact O3
      obtain ⟨d0, d1, d2, d3⟩ := O4.at4 k _ ho
      have hfz : ∀ o, w3.frozen? ⟨w.heap.size, o, none⟩ = false := fun o => World.ownsRow.frozenAt O4 o
      have O5 := O4.set4 k (x0, x1, x2, x3)
      rw [hlen, HSD.out] at O5
      have hst := fun (a b c d : Value) => set4_at w3 w.heap.size (k * 4) a b c d
      have FIN : Hid (Own ((((w3.setCell ⟨w.heap.size, k * 4, none⟩ (B x0)).setCell ⟨w.heap.size, k * 4 + 1, none⟩ (B x1)).setCell ⟨w.heap.size, k * 4 + 2, none⟩ (B x2)).setCell ⟨w.heap.size, k * 4 + 3, none⟩ (B x3)) w.heap.size (.slice (some ⟨w.heap.size, 0, none⟩) n n) (padL c1.1 (k + 1) ++ List.replicate (n - (k + 1)) zero4) ∧ Prt ((((w3.setCell ⟨w.heap.size, k * 4, none⟩ (B x0)).setCell ⟨w.heap.size, k * 4 + 1, none⟩ (B x1)).setCell ⟨w.heap.size, k * 4 + 2, none⟩ (B x2)).setCell ⟨w.heap.size, k * 4 + 3, none⟩ (B x3)) r b (nx (4 * (k + 1)) c1) ∧ But r w.heap.size w ((((w3.setCell ⟨w.heap.size, k * 4, none⟩ (B x0)).setCell ⟨w.heap.size, k * 4 + 1, none⟩ (B x1)).setCell ⟨w.heap.size, k * 4 + 2, none⟩ (B x2)).setCell ⟨w.heap.size, k * 4 + 3, none⟩ (B x3))) :=
        ⟨O5, hp3.below (hst _ _ _ _) hrw hbw, (hall.out.2.2.trans (hb3.mono (by omega))).trans (But.of_below (hst _ _ _ _))⟩
      clear O5 O4 O3 ho HSD hst hall NHk hp3 hb3
      simp only [B] at d0 d1 d2 d3 FIN
      simp only [B]
      go_wp2
      go_roundw
      case rel => exact ⟨k + 1, by omega, by go_num, FIN.out⟩
      case measure => simp [intOf]; omega
    · obtain rfl : k = n := by omega
      have FIN : Hid (Own wr w.heap.size (.slice (some ⟨w.heap.size, 0, none⟩) k k) (padL c1.1 k) ∧ Prt wr r b (nx (4 * k) c1) ∧ But r w.heap.size w wr) := by
        have h := hall.out
        rw [done_all] at h
        exact h
      clear hall NH NHs NHv
      go_wp2
      go_ret
      exact ⟨_, rfl, FIN.out⟩
end Go.Proofs.YtepehjalpkfniaaDoor
