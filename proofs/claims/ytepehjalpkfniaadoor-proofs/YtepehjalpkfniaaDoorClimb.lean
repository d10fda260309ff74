/-
  OWN. sums' climb, walked. No project text.
-/
import Derived.Test.YtepehjalpkfniaaDoorSmall
import Derived.Deep.RegionWith
import Derived.Deep.DeepMust
namespace Go.Proofs.YtepehjalpkfniaaDoor
open Go.RowKit

/-- The slice v holds the sums hs, from the head of a block on. -/
def Hsl (w : World) (v : Value) (hs : List H4) : Prop :=
  ∃ a cap, v = .slice a hs.length cap ∧ hs.length ≤ cap ∧ ∀ i x, hs[i]? = some x → ∃ b, a = some ⟨b, 0, none⟩ ∧ b < w.heap.size ∧
    w.cell? ⟨b, i * 4, none⟩ = some (B x.1) ∧ w.cell? ⟨b, i * 4 + 1, none⟩ = some (B x.2.1) ∧ w.cell? ⟨b, i * 4 + 2, none⟩ = some (B x.2.2.1) ∧ w.cell? ⟨b, i * 4 + 3, none⟩ = some (B x.2.2.2)
theorem Hsl.below {w w' : World} {v : Value} {hs : List H4} {n : Nat} (h : Hsl w v hs) (hb : Below n w w') (hn : w.heap.size ≤ n) : Hsl w' v hs := by
  obtain ⟨a, cap, e, hl, hc⟩ := h
  refine ⟨a, cap, e, hl, fun i x hx => ?_⟩
  obtain ⟨b, ea, hlt, h0, h1, h2, h3⟩ := hc i x hx
  have hb' := Nat.lt_of_lt_of_le hlt hn
  exact ⟨b, ea, Nat.lt_of_lt_of_le hlt hb.size, (hb.cell (p := ⟨b, _, none⟩) hb').trans h0, (hb.cell (p := ⟨b, _, none⟩) hb').trans h1, (hb.cell (p := ⟨b, _, none⟩) hb').trans h2, (hb.cell (p := ⟨b, _, none⟩) hb').trans h3⟩
theorem Own.hsl {w : World} {base : Nat} {v : Value} {hs : List H4} (h : Own w base v hs) : Hsl w v hs := by
  by_cases hp : 0 < hs.length
  · obtain ⟨g, cap, e, hb, hlt, hc⟩ := h.shape hp
    refine ⟨_, cap, e, hc, fun i x hx => ⟨g, rfl, hlt, ?_⟩⟩
    rw [e] at h
    exact Own.at4 h i x hx
  · have e0 : hs = [] := List.length_eq_zero_iff.1 (by omega)
    subst e0
    rcases h.2 with ⟨e, _⟩ | ⟨g, cap, cur, e, _⟩
    · exact ⟨none, 0, e, Nat.le_refl _, fun i x hx => by simp at hx⟩
    · exact ⟨_, cap, e, Nat.zero_le _, fun i x hx => by simp at hx⟩
/-- Without the last. -/
theorem Hsl.init {w : World} {a : Option Addr} {n cap : Nat} {hs : List H4} (h : Hsl w (.slice a n cap) hs) : Hsl w (.slice a (n - 1) cap) hs.dropLast := by
  obtain ⟨a', cap', e, hl, hc⟩ := h
  simp only [Value.slice.injEq] at e
  obtain ⟨rfl, rfl, rfl⟩ := e
  refine ⟨a, cap, by rw [List.length_dropLast], by rw [List.length_dropLast]; omega, fun i x hx => ?_⟩
  refine hc i x ?_
  have hlt := (List.getElem?_eq_some_iff.1 hx).1
  rw [List.length_dropLast] at hlt
  rw [List.getElem?_dropLast] at hx
  simpa [hlt] using hx
theorem Hsl.last {w : World} {a : Option Addr} {n cap : Nat} {hs : List H4} (h : Hsl w (.slice a n cap) hs) (hp : hs ≠ []) :
    ∃ b, a = some ⟨b, 0, none⟩ ∧ b < w.heap.size ∧ n ≤ cap ∧
    w.cell? ⟨b, (n - 1) * 4, none⟩ = some (B (hs.getLastD noS).1) ∧ w.cell? ⟨b, (n - 1) * 4 + 1, none⟩ = some (B (hs.getLastD noS).2.1) ∧ w.cell? ⟨b, (n - 1) * 4 + 2, none⟩ = some (B (hs.getLastD noS).2.2.1) ∧ w.cell? ⟨b, (n - 1) * 4 + 3, none⟩ = some (B (hs.getLastD noS).2.2.2) := by
  obtain ⟨a', cap', e, hl, hc⟩ := h
  simp only [Value.slice.injEq] at e
  obtain ⟨rfl, rfl, rfl⟩ := e
  have hpos : 0 < hs.length := List.length_pos_iff.2 hp
  have hx : hs[hs.length - 1]? = some (hs.getLastD noS) := by
    rw [List.getElem?_eq_getElem (by omega), List.getLastD_eq_getLast?, List.getLast?_eq_getElem?, List.getElem?_eq_getElem (by omega)]
    rfl
  obtain ⟨b, ea, hlt, h⟩ := hc _ _ hx
  exact ⟨b, ea, hlt, hl, h⟩

set_option maxHeartbeats 1000000 in
theorem climb_one_walk (v : Value) (l : List UInt8) (i : Int) (pv : Value) (w : World) (hl : Byts w v l) :
    Calls Tryd.prog 50 #[v, .int .i64 i, .int .i64 1, pv] w fun e w' => e = .returned (hv (leafL l)) ∧ Below w.heap.size w w' := by
  generalize hX : leafL l = X
  have HLS := hide (fun W h => leafSum_any v l W h)
  rw [hX] at HLS
  clear hX
  obtain ⟨x0, x1, x2, x3⟩ := X
  have HL := hide hl
  clear hl
  go_enter Tryd.func50, Tryd.ntmps50
  go_wp2_with fail
  refine (HLS.out _ ?hb).mono ?_
  case hb => exact HL.out.below ((Below.refl _ _).alloc (Nat.le_refl _) _) (Nat.le_refl _)
  rintro e w1 ⟨rfl, hb1⟩
  have hz : w.heap.size < w1.heap.size := by have := hb1.size; simp at this; omega
  obtain ⟨c0, c1, c2, c3, f0⟩ := (slot4_new w 62).below hb1 (by simp)
  have HC : Hid (Below w.heap.size w w1) := ((Below.refl _ _).alloc (Nat.le_refl _) _).trans (hb1.mono (by simp))
  clear hb1 HL HLS
  simp only [hv, B]
  go_wp2
  refine bodyPost_ret (v := .agg #[.int .u8 x0.toNat, .int .u8 x1.toNat, .int .u8 x2.toNat, .int .u8 x3.toNat]) (by simp [results, Tryd.results50, go_sem, c0, c1, c2, c3]) rfl ⟨rfl, ?_⟩
  exact Below.setCell (Below.setCell (Below.setCell (Below.setCell HC.out (Nat.le_refl _) _) (Nat.le_refl _) _) (Nat.le_refl _) _) (Nat.le_refl _) _

theorem Slot4.drew {w : World} {r : Nat} {a b c d : Value} (h : Slot4 w r a b c d) : Slot4 w.drew r a b c d := h
theorem Below.of_drew {B : Nat} {w w' : World} (h : Below B w.drew w') : Below B w w' := ⟨h.os, h.tape, h.output, h.size, h.block⟩

set_option maxHeartbeats 2000000 in
theorem climb_left_walk (v : Value) (l : List UInt8) (i n : Nat) (a : Option Addr) (m cap : Nat) (p : List H4) (w : World)
    (hl : Byts w v l) (hp : Hsl w (.slice a (m + 1) cap) p) (hne : p ≠ []) (hn : 2 ≤ n) (hmax : n ≤ 8796093022208) (hmx : m ≤ 8796093022208) (hi : i < half n)
    (IH : ∀ (pv : Value) (W : World), Byts W v l → Hsl W pv p.dropLast → Calls Tryd.prog 50 #[v, .int .i64 i, .int .i64 (half n : Int), pv] W fun e w' => e = .returned (hv (climbL (leafL l) i (half n) p.dropLast)) ∧ Below W.heap.size W w') :
    Calls Tryd.prog 50 #[v, .int .i64 i, .int .i64 (n : Int), .slice a (m + 1) cap] w fun e w' => e = .returned (hv (climbL (leafL l) i n p)) ∧ Below w.heap.size w w' := by
  have hh := half_lt n hn
  have hsp := hide (fun W => split_any n W hn (by omega))
  have hc := climb_left (leafL l) i n p hn hi
  have hin := hp.init
  obtain ⟨b, rfl, hbw, hcap, c0, c1, c2, c3⟩ := hp.last hne
  simp only [Nat.add_sub_cancel] at c0 c1 c2 c3 hin
  rw [hc]
  generalize climbL (leafL l) i (half n) p.dropLast = y at *
  generalize p.getLastD noS = x at *
  obtain ⟨z, hz⟩ : ∃ z, nodeL y x = z := ⟨_, rfl⟩
  have HNS := hide (fun W => nodeSum_any y x W)
  rw [hz] at HNS ⊢
  generalize half n = q at *
  have HIH := hide IH
  have HL := hide hl
  have HIN := hide hin
  clear IH hl hin hc hz hne hp
  obtain ⟨x0, x1, x2, x3⟩ := x
  obtain ⟨y0, y1, y2, y3⟩ := y
  obtain ⟨z0, z1, z2, z3⟩ := z
  simp only [hv, B] at *
  have hS := hide (slot4_new w 62)
  have hm1 : (m : Int) < (m : Int) + 1 := by omega
  have hm0 : (0 : Int) ≤ (m : Int) := by omega
  go_enter Tryd.func50, Tryd.ntmps50
  go_wp2_with fail
  refine (hsp.out _).mono ?_
  rintro e w' ⟨rfl, rfl⟩
  go_wp2_with fail
  go_region_with (first
    | (go_at_call 50; go_must (refine (HIH.out _ _ ?_ ?_).mono ?_; exact HL.out.below (((Below.refl _ _).alloc (Nat.le_refl _) _).drew) (Nat.le_refl _); exact HIN.out.below (((Below.refl _ _).alloc (Nat.le_refl _) _).drew) (Nat.le_refl _); rintro e w1 ⟨rfl, hb1⟩; have d0 := hb1.cell (p := ⟨b, m * 4, none⟩) (by simp; omega); have d1 := hb1.cell (p := ⟨b, m * 4 + 1, none⟩) (by simp; omega); have d2 := hb1.cell (p := ⟨b, m * 4 + 2, none⟩) (by simp; omega); have d3 := hb1.cell (p := ⟨b, m * 4 + 3, none⟩) (by simp; omega); have HB1 := hide hb1; clear hb1))
    | (go_at_call 59; go_must (refine (HNS.out _).mono ?_; rintro e w2 ⟨rfl, hb2⟩; have hz1 := HB1.out.size; have hz2 := hb2.size; simp only [World.size_drew, World.size_alloc] at hz1 hz2; obtain ⟨r0, r1, r2, r3, rf⟩ := Slot4.below (Slot4.below (Slot4.drew hS.out) HB1.out (by simp)) hb2 (by omega); have HB2 := hide hb2; clear hb2)))
  all_goals
    have A : Below w.heap.size w w1 := ((Below.refl _ _).alloc (Nat.le_refl _) _).drew.trans (HB1.out.mono (by simp))
    have C : Below w.heap.size w w2 := A.trans (HB2.out.mono (by omega))
    have HCC := hide C
    clear A C
    go_wp2
    refine bodyPost_ret (v := .agg #[.int .u8 z0.toNat, .int .u8 z1.toNat, .int .u8 z2.toNat, .int .u8 z3.toNat]) (by simp [results, Tryd.results50, go_sem, r0, r1, r2, r3]) rfl ⟨rfl, ?_⟩
    exact Below.setCell (Below.setCell (Below.setCell (Below.setCell HCC.out (Nat.le_refl _) _) (Nat.le_refl _) _) (Nat.le_refl _) _) (Nat.le_refl _) _
set_option maxHeartbeats 2000000 in
theorem climb_right_walk (v : Value) (l : List UInt8) (i n : Nat) (a : Option Addr) (m cap : Nat) (p : List H4) (w : World)
    (hl : Byts w v l) (hp : Hsl w (.slice a (m + 1) cap) p) (hne : p ≠ []) (hn : 2 ≤ n) (hmax : n ≤ 8796093022208) (hmx : m ≤ 8796093022208) (hi : half n ≤ i) (hin' : i < n)
    (IH : ∀ (pv : Value) (W : World), Byts W v l → Hsl W pv p.dropLast → Calls Tryd.prog 50 #[v, .int .i64 ((i : Int) - (half n : Int)), .int .i64 ((n : Int) - (half n : Int)), pv] W fun e w' => e = .returned (hv (climbL (leafL l) (i - half n) (n - half n) p.dropLast)) ∧ Below W.heap.size W w') :
    Calls Tryd.prog 50 #[v, .int .i64 i, .int .i64 (n : Int), .slice a (m + 1) cap] w fun e w' => e = .returned (hv (climbL (leafL l) i n p)) ∧ Below w.heap.size w w' := by
  have hh := half_lt n hn
  have hsp := hide (fun W => split_any n W hn (by omega))
  have hc := climb_right (leafL l) i n p hn (by omega)
  have hin := hp.init
  obtain ⟨b, rfl, hbw, hcap, c0, c1, c2, c3⟩ := hp.last hne
  simp only [Nat.add_sub_cancel] at c0 c1 c2 c3 hin
  rw [hc]
  generalize climbL (leafL l) (i - half n) (n - half n) p.dropLast = y at *
  generalize p.getLastD noS = x at *
  obtain ⟨z, hz⟩ : ∃ z, nodeL x y = z := ⟨_, rfl⟩
  have HNS := hide (fun W => nodeSum_any x y W)
  rw [hz] at HNS ⊢
  generalize half n = q at *
  have HIH := hide IH
  have HL := hide hl
  have HIN := hide hin
  clear IH hl hin hc hz hne hp
  obtain ⟨x0, x1, x2, x3⟩ := x
  obtain ⟨y0, y1, y2, y3⟩ := y
  obtain ⟨z0, z1, z2, z3⟩ := z
  simp only [hv, B] at *
  have hS := hide (slot4_new w 62)
  have hm1 : (m : Int) < (m : Int) + 1 := by omega
  have hm0 : (0 : Int) ≤ (m : Int) := by omega
  go_enter Tryd.func50, Tryd.ntmps50
  go_wp2_with fail
  refine (hsp.out _).mono ?_
  rintro e w' ⟨rfl, rfl⟩
  go_wp2_with fail
  go_region_with (first
    | (go_at_call 50; go_must (refine (HIH.out _ _ ?_ ?_).mono ?_; exact HL.out.below (((Below.refl _ _).alloc (Nat.le_refl _) _).drew) (Nat.le_refl _); exact HIN.out.below (((Below.refl _ _).alloc (Nat.le_refl _) _).drew) (Nat.le_refl _); rintro e w1 ⟨rfl, hb1⟩; have d0 := hb1.cell (p := ⟨b, m * 4, none⟩) (by simp; omega); have d1 := hb1.cell (p := ⟨b, m * 4 + 1, none⟩) (by simp; omega); have d2 := hb1.cell (p := ⟨b, m * 4 + 2, none⟩) (by simp; omega); have d3 := hb1.cell (p := ⟨b, m * 4 + 3, none⟩) (by simp; omega); have HB1 := hide hb1; clear hb1))
    | (go_at_call 59; go_must (refine (HNS.out _).mono ?_; rintro e w2 ⟨rfl, hb2⟩; have hz1 := HB1.out.size; have hz2 := hb2.size; simp only [World.size_drew, World.size_alloc] at hz1 hz2; obtain ⟨r0, r1, r2, r3, rf⟩ := Slot4.below (Slot4.below (Slot4.drew hS.out) HB1.out (by simp)) hb2 (by omega); have HB2 := hide hb2; clear hb2)))
  all_goals
    have A : Below w.heap.size w w1 := ((Below.refl _ _).alloc (Nat.le_refl _) _).drew.trans (HB1.out.mono (by simp))
    have C : Below w.heap.size w w2 := A.trans (HB2.out.mono (by omega))
    have HCC := hide C
    clear A C
    go_wp2
    refine bodyPost_ret (v := .agg #[.int .u8 z0.toNat, .int .u8 z1.toNat, .int .u8 z2.toNat, .int .u8 z3.toNat]) (by simp [results, Tryd.results50, go_sem, r0, r1, r2, r3]) rfl ⟨rfl, ?_⟩
    exact Below.setCell (Below.setCell (Below.setCell (Below.setCell HCC.out (Nat.le_refl _) _) (Nat.le_refl _) _) (Nat.le_refl _) _) (Nat.le_refl _) _

/-- climb, whatever the path: it has as many roots as the leaf is deep. -/
theorem climb_any (v : Value) (l : List UInt8) : ∀ (N i n : Nat) (pv : Value) (p : List H4) (w : World), n ≤ N → Byts w v l → Hsl w pv p → i < n → n ≤ 8796093022208 → p.length = deep i n → p.length ≤ 8796093022208 →
    Calls Tryd.prog 50 #[v, .int .i64 i, .int .i64 (n : Int), pv] w fun e w' => e = .returned (hv (climbL (leafL l) i n p)) ∧ Below w.heap.size w w' := by
  intro N
  induction N with
  | zero => intro i n pv p w hN _ _ hi; omega
  | succ N ih =>
    intro i n pv p w hN hl hp hi hmax hd hpm
    by_cases h1 : n ≤ 1
    · obtain rfl : n = 1 := by omega
      rw [climb_one _ _ _ _ (Nat.le_refl _)]
      exact climb_one_walk v l i pv w hl
    · have hh := half_lt n (by omega)
      have hp0 := half_pos n (by omega)
      obtain ⟨a, cap, e, hlc, _⟩ := id hp
      by_cases hlt : i < half n
      · rw [deep_left i n (by omega) hlt] at hd
        have hne : p ≠ [] := by intro h; rw [h] at hd; simp at hd
        obtain ⟨m, hm⟩ : ∃ m, p.length = m + 1 := ⟨p.length - 1, by omega⟩
        rw [e, hm] at hp ⊢
        refine climb_left_walk v l i n a m cap p w hl hp hne (by omega) hmax (by omega) hlt ?_
        intro pv' W hlW hpW
        exact ih i (half n) pv' p.dropLast W (by omega) hlW hpW hlt (by omega) (by rw [List.length_dropLast]; omega) (by rw [List.length_dropLast]; omega)
      · rw [deep_right i n (by omega) hlt] at hd
        have hne : p ≠ [] := by intro h; rw [h] at hd; simp at hd
        obtain ⟨m, hm⟩ : ∃ m, p.length = m + 1 := ⟨p.length - 1, by omega⟩
        rw [e, hm] at hp ⊢
        refine climb_right_walk v l i n a m cap p w hl hp hne (by omega) hmax (by omega) (by omega) hi ?_
        intro pv' W hlW hpW
        have := ih (i - half n) (n - half n) pv' p.dropLast W (by omega) hlW hpW (by omega) (by omega) (by rw [List.length_dropLast]; omega) (by rw [List.length_dropLast]; omega)
        rw [Int.ofNat_sub (by omega), Int.ofNat_sub (by omega)] at this
        exact this
end Go.Proofs.YtepehjalpkfniaaDoor
