/-
  OWN. sums' way, walked. No project text.
-/
import Derived.Test.YtepehjalpkfniaaDoorClimb
import Derived.Deep.RegionHeld3
import Derived.Deep.AppendLies
namespace Go.Proofs.YtepehjalpkfniaaDoor
open Go.RowKit

theorem wrap_in (x : Int) (h : 0 ≤ x ∧ x ≤ 4611686018427387904) : IntKind.i64.wrap x = x := by rw [IntKind.wrap_i64]; omega
theorem deepF_le (f i n : Nat) : deepF f i n ≤ f := by
  induction f generalizing i n with
  | zero => simp [deepF]
  | succ f ih =>
    unfold deepF
    split
    · omega
    · split
      · have := ih i (half n); omega
      · have := ih (i - half n) (n - half n); omega
theorem deep_le (i n : Nat) : deep i n ≤ n := deepF_le n i n
theorem Lvs.take {w : World} {a : Option Addr} {n cap : Nat} {ls : List (List UInt8)} (h : Lvs w (.slice a n cap) ls) (k : Nat) (hk : k ≤ ls.length) : Lvs w (.slice a k cap) (ls.take k) := by
  obtain ⟨a', cap', e, hl, hm, hc⟩ := h
  simp only [Value.slice.injEq] at e
  obtain ⟨rfl, rfl, rfl⟩ := e
  refine ⟨a, cap, by rw [List.length_take, Nat.min_eq_left hk], by rw [List.length_take]; omega, hm, fun i hi => ?_⟩
  rw [List.length_take] at hi
  obtain ⟨b, off, u, ea, hlt, hcell, hby⟩ := hc i (by omega)
  refine ⟨b, off, u, ea, hlt, hcell, ?_⟩
  rw [List.getD_eq_getElem?_getD, List.getElem?_take, if_pos (by omega), ← List.getD_eq_getElem?_getD]
  exact hby
theorem Lvs.drop {w : World} {b off n cap : Nat} {ls : List (List UInt8)} (h : Lvs w (.slice (some ⟨b, off, none⟩) n cap) ls) (k : Nat) (_hk : k ≤ ls.length) : Lvs w (.slice (some ⟨b, off + k, none⟩) (n - k) (cap - k)) (ls.drop k) := by
  obtain ⟨a', cap', e, hl, hm, hc⟩ := h
  simp only [Value.slice.injEq] at e
  obtain ⟨rfl, rfl, rfl⟩ := e
  refine ⟨_, cap - k, by rw [List.length_drop], by rw [List.length_drop]; omega, Nat.le_trans (Nat.sub_le _ _) hm, fun i hi => ?_⟩
  rw [List.length_drop] at hi
  obtain ⟨b', off', u, ea, hlt, hcell, hby⟩ := hc (k + i) (by omega)
  simp only [Option.some.injEq, Addr.mk.injEq] at ea
  obtain ⟨rfl, rfl, _⟩ := ea
  refine ⟨b, off + k, u, rfl, hlt, ?_, ?_⟩
  · rw [Nat.add_assoc]; exact hcell
  · rw [List.getD_eq_getElem?_getD, List.getElem?_drop, ← List.getD_eq_getElem?_getD]
    exact hby

theorem one4 (a b c d : UInt8) : ∀ u ∈ [Value.int .u8 (a.toNat : Int), .int .u8 (b.toNat : Int), .int .u8 (c.toNat : Int), .int .u8 (d.toNat : Int)], u.oneCell' = true := by
  intro u hu
  simp only [List.mem_cons, List.not_mem_nil, or_false] at hu
  rcases hu with rfl | rfl | rfl | rfl <;> rfl

set_option maxHeartbeats 1000000 in
theorem way_one_walk (i : Int) (a : Option Addr) (cap : Nat) (w : World) :
    Calls Tryd.prog 48 #[.slice a 1 cap, .int .i64 i] w fun e w' => ∃ v', e = .returned v' ∧ Own w' w.heap.size v' [] ∧ Below w.heap.size w w' := by
  go_enter Tryd.func48, Tryd.ntmps48
  go_wp2
  go_ret
  exact ⟨_, rfl, World.ownsRow_nil _ _ _ _, Below.refl _ _⟩

set_option maxRecDepth 100000 in
set_option maxHeartbeats 2000000 in
theorem way_left_walk (i n b off cap : Nat) (ls : List (List UInt8)) (p : List H4) (x : H4) (w : World)
    (hl : Lvs w (.slice (some ⟨b, off, none⟩) n cap) ls) (hnl : ls.length = n) (hn : 2 ≤ n) (hmax : n ≤ 8796093022208) (hcap : n ≤ cap) (hi : i < half n) (hs : NoS w) (hnn : NoL w)
    (hx : rt ((ls.drop (half n)).map leafL) = x) (hpl : p.length ≤ 8796093022208)
    (IH : ∀ (pv : Value) (W : World), Lvs W pv (ls.take (half n)) → NoS W → NoL W → Calls Tryd.prog 48 #[pv, .int .i64 i] W fun e w' => ∃ v', e = .returned v' ∧ Own w' W.heap.size v' p ∧ Below W.heap.size W w') :
    Calls Tryd.prog 48 #[.slice (some ⟨b, off, none⟩) n cap, .int .i64 i] w fun e w' => ∃ v', e = .returned v' ∧ Own w' w.heap.size v' (p ++ [x]) ∧ Below w.heap.size w w' := by
  have hh := half_lt n hn
  have hp := half_pos n hn
  have hsp := hide (fun W => split_any n W hn (by omega))
  have hT := hl.take (half n) (by omega)
  have hD := hl.drop (half n) (by omega)
  have hR := hide (fun (v : Value) (W : World) h1 h2 h3 => root_any (ls.drop (half n)) v W h1 h2 h3 (by rw [List.length_drop]; omega))
  rw [hx] at hR
  obtain ⟨x0, x1, x2, x3⟩ := x
  simp only [hv, B] at hR
  generalize half n = q at *
  have HIH := hide IH
  have HT := hide hT
  have HD := hide hD
  have HS := hide hs
  have HN := hide hnn
  have hlt0 : 0 < w.heap.size := hs.lt
  have hlt1 : 1 < w.heap.size := hnn.lt
  clear IH hT hD hl hx hnl hs hnn
  obtain ⟨i0, hi0, hz0, hz1, hz2⟩ := info_parts info55
  have hq0 : (0 : Int) ≤ (q : Int) := by omega
  have hq1 : (q : Int) ≤ (n : Int) := by omega
  have hq2 : (q : Int) ≤ (cap : Int) := by omega
  have hcq : ¬ cap = q := by omega
  have hn1 : ((n : Int) == 1) = false := beq_eq_false_iff_ne.2 (by omega)
  go_enter Tryd.func48, Tryd.ntmps48
  go_wp2_with fail
  refine (hsp.out _).mono ?_
  rintro e w' ⟨rfl, rfl⟩
  go_wp2_with fail
  go_region_held3 (fun _ => True) (trivial) ((first
    | (refine step_append_lies _ (by rfl) _ _ _ (by rfl) w'.heap.size 62 i0 _ 4 4 Tryd.underlying64 hi0 hz0 hz1 hz2 rfl (by omega) v1 p.length (cellsH p) (by rfl) (HO2.out.alloc _) ⟨w2.heap.size, 0, none⟩ 1 1 [.int .u8 x0.toNat, .int .u8 x1.toNat, .int .u8 x2.toNat, .int .u8 x3.toNat] (by rfl) (by rfl) (news4 w2 _ _ _ _ _) (one4 x0 x1 x2 x3) (by omega) (by unfold maxLen; omega) (by omega) (by simp; omega) (w2.heap.size + 1) (by simp) ?_; intro g cap' w3 hown3 hgrow3 hat3 hlt3)
    | (go_at_call 48; refine (HIH.out _ _ ?_ ?_ ?_).mono ?_; exact HT.out.below ((Below.refl _ _).drew) (Nat.le_refl _); exact HS.out.below ((Below.refl _ _).drew) hlt0; exact HN.out.below ((Below.refl _ _).drew) hlt1; rintro e w1 ⟨v1, rfl, hown1, hb1⟩; have HC1 : Hid (Below w'.heap.size w' w1) := Below.of_drew hb1; have HO1 : Hid (Own w1 w'.heap.size v1 p) := hown1; have hz1' : w'.heap.size ≤ w1.heap.size := HC1.out.size; clear hown1 hb1)
    | (go_at_call 30; refine (hR.out _ _ ?_ ?_ ?_).mono ?_; exact HD.out.below HC1.out (Nat.le_refl _); exact HS.out.below HC1.out hlt0; exact HN.out.below HC1.out hlt1; rintro e w2 ⟨rfl, hb2⟩; have HC2 := hide hb2; have HO2 : Hid (Own w2 w'.heap.size v1 p) := HO1.out.below hb2 (Nat.le_refl _); have hz2' : w1.heap.size ≤ w2.heap.size := hb2.size; clear hb2)))
  have G1 : Own w3 w'.heap.size (.slice (some ⟨g, 0, none⟩) (p.length + 1) cap') (p ++ [(x0, x1, x2, x3)]) := by
    unfold Own
    rw [cellsH_append, List.length_append]
    exact hown3
  have G2 : Below w'.heap.size w' w3 := ((HC1.out.trans (HC2.out.mono hz1')).alloc (by omega) _).grown hgrow3 (by simp; omega) (fun j hj => (HO2.out.lt j hj).1)
  have H1 := hide G1
  have H2 := hide G2
  clear G1 G2 hown3 hgrow3 hat3
  go_wp2
  go_ret
  exact ⟨_, rfl, H1.out, H2.out⟩
set_option maxRecDepth 100000 in
set_option maxHeartbeats 2000000 in
theorem way_right_walk (i n b off cap : Nat) (ls : List (List UInt8)) (p : List H4) (x : H4) (w : World)
    (hl : Lvs w (.slice (some ⟨b, off, none⟩) n cap) ls) (hnl : ls.length = n) (hn : 2 ≤ n) (hmax : n ≤ 8796093022208) (hcap : n ≤ cap) (hi : half n ≤ i) (hi2 : i < n) (hs : NoS w) (hnn : NoL w)
    (hx : rt ((ls.take (half n)).map leafL) = x) (hpl : p.length ≤ 8796093022208)
    (IH : ∀ (pv : Value) (j : Int) (W : World), j = (i : Int) - (half n : Int) → Lvs W pv (ls.drop (half n)) → NoS W → NoL W → Calls Tryd.prog 48 #[pv, .int .i64 j] W fun e w' => ∃ v', e = .returned v' ∧ Own w' W.heap.size v' p ∧ Below W.heap.size W w') :
    Calls Tryd.prog 48 #[.slice (some ⟨b, off, none⟩) n cap, .int .i64 i] w fun e w' => ∃ v', e = .returned v' ∧ Own w' w.heap.size v' (p ++ [x]) ∧ Below w.heap.size w w' := by
  have hh := half_lt n hn
  have hp := half_pos n hn
  have hsp := hide (fun W => split_any n W hn (by omega))
  have hT := hl.take (half n) (by omega)
  have hD := hl.drop (half n) (by omega)
  have hR := hide (fun (v : Value) (W : World) h1 h2 h3 => root_any (ls.take (half n)) v W h1 h2 h3 (by rw [List.length_take]; omega))
  rw [hx] at hR
  obtain ⟨x0, x1, x2, x3⟩ := x
  simp only [hv, B] at hR
  generalize half n = q at *
  have HIH := hide IH
  have HT := hide hT
  have HD := hide hD
  have HS := hide hs
  have HN := hide hnn
  have hlt0 : 0 < w.heap.size := hs.lt
  have hlt1 : 1 < w.heap.size := hnn.lt
  clear IH hT hD hl hx hnl hs hnn
  obtain ⟨i0, hi0, hz0, hz1, hz2⟩ := info_parts info55
  have hq0 : (0 : Int) ≤ (q : Int) := by omega
  have hq1 : (q : Int) ≤ (n : Int) := by omega
  have hq2 : (q : Int) ≤ (cap : Int) := by omega
  have hcq : ¬ cap = q := by omega
  have hn1 : ((n : Int) == 1) = false := beq_eq_false_iff_ne.2 (by omega)
  go_enter Tryd.func48, Tryd.ntmps48
  go_wp2_with fail
  refine (hsp.out _).mono ?_
  rintro e w' ⟨rfl, rfl⟩
  go_wp2_with fail
  go_region_held3 (fun _ => True) (trivial) ((first
    | (refine step_append_lies _ (by rfl) _ _ _ (by rfl) w'.heap.size 62 i0 _ 4 4 Tryd.underlying64 hi0 hz0 hz1 hz2 rfl (by omega) v1 p.length (cellsH p) (by rfl) (HO2.out.alloc _) ⟨w2.heap.size, 0, none⟩ 1 1 [.int .u8 x0.toNat, .int .u8 x1.toNat, .int .u8 x2.toNat, .int .u8 x3.toNat] (by rfl) (by rfl) (news4 w2 _ _ _ _ _) (one4 x0 x1 x2 x3) (by omega) (by unfold maxLen; omega) (by omega) (by simp; omega) (w2.heap.size + 1) (by simp) ?_; intro g cap' w3 hown3 hgrow3 hat3 hlt3)
    | (go_at_call 48; refine (HIH.out _ _ _ ?_ ?_ ?_ ?_).mono ?_; (first | rfl | exact wrap_in _ (by omega)); exact HD.out.below ((Below.refl _ _).drew) (Nat.le_refl _); exact HS.out.below ((Below.refl _ _).drew) hlt0; exact HN.out.below ((Below.refl _ _).drew) hlt1; rintro e w1 ⟨v1, rfl, hown1, hb1⟩; have HC1 : Hid (Below w'.heap.size w' w1) := Below.of_drew hb1; have HO1 : Hid (Own w1 w'.heap.size v1 p) := hown1; have hz1' : w'.heap.size ≤ w1.heap.size := HC1.out.size; clear hown1 hb1)
    | (go_at_call 30; refine (hR.out _ _ ?_ ?_ ?_).mono ?_; exact HT.out.below HC1.out (Nat.le_refl _); exact HS.out.below HC1.out hlt0; exact HN.out.below HC1.out hlt1; rintro e w2 ⟨rfl, hb2⟩; have HC2 := hide hb2; have HO2 : Hid (Own w2 w'.heap.size v1 p) := HO1.out.below hb2 (Nat.le_refl _); have hz2' : w1.heap.size ≤ w2.heap.size := hb2.size; clear hb2)))
  have G1 : Own w3 w'.heap.size (.slice (some ⟨g, 0, none⟩) (p.length + 1) cap') (p ++ [(x0, x1, x2, x3)]) := by
    unfold Own
    rw [cellsH_append, List.length_append]
    exact hown3
  have G2 : Below w'.heap.size w' w3 := ((HC1.out.trans (HC2.out.mono hz1')).alloc (by omega) _).grown hgrow3 (by simp; omega) (fun j hj => (HO2.out.lt j hj).1)
  have H1 := hide G1
  have H2 := hide G2
  clear G1 G2 hown3 hgrow3 hat3
  go_wp2
  go_ret
  exact ⟨_, rfl, H1.out, H2.out⟩

/-- way, of whatever leaves: the path by its words. -/
theorem way_any : ∀ (N i : Nat) (ls : List (List UInt8)) (v : Value) (w : World), ls.length ≤ N → Lvs w v ls → i < ls.length → ls.length ≤ 8796093022208 → NoS w → NoL w →
    Calls Tryd.prog 48 #[v, .int .i64 i] w fun e w' => ∃ v', e = .returned v' ∧ Own w' w.heap.size v' (path (ls.map leafL) i) ∧ Below w.heap.size w w' := by
  intro N
  induction N with
  | zero => intro i ls v w hN _ hi; omega
  | succ N ih =>
    intro i ls v w hN hl hi hmax hs hnn
    obtain ⟨n, hn⟩ : ∃ n, ls.length = n := ⟨_, rfl⟩
    have hml : (ls.map leafL).length = n := by rw [List.length_map, hn]
    have hi' : i < n := by omega
    have hpl : (path (ls.map leafL) i).length ≤ n := by rw [path_length, hml]; exact deep_le i n
    by_cases h1 : n ≤ 1
    · obtain ⟨a, cap, e, _⟩ := id hl
      rw [path_one _ _ (by omega), e, show ls.length = 1 by omega]
      exact way_one_walk i a cap w
    · have hh := half_lt n (by omega)
      have hp0 := half_pos n (by omega)
      obtain ⟨a, cap, e, hlc, _, hc⟩ := id hl
      obtain ⟨b, off, u, ea, _⟩ := hc 0 (by omega)
      subst ea
      rw [e, hn] at hl ⊢
      by_cases hlt : i < half n
      · rw [path_left _ _ (by omega) (by rw [hml]; exact hlt), hml]
        rw [path_left _ _ (by omega) (by rw [hml]; exact hlt), hml, List.length_append] at hpl
        refine way_left_walk i n b off cap ls _ _ w hl hn (by omega) (by omega) (by omega) hlt hs hnn (by rw [List.map_drop]) (by omega) ?_
        intro pv W hW h2 h3
        have := ih i (ls.take (half n)) pv W (by rw [List.length_take]; omega) hW (by rw [List.length_take]; omega) (by rw [List.length_take]; omega) h2 h3
        rw [List.map_take] at this
        exact this
      · rw [path_right _ _ (by omega) (by rw [hml]; exact hlt), hml]
        rw [path_right _ _ (by omega) (by rw [hml]; exact hlt), hml, List.length_append] at hpl
        refine way_right_walk i n b off cap ls _ _ w hl hn (by omega) (by omega) (by omega) (by omega) hi' hs hnn (by rw [List.map_take]) (by omega) ?_
        intro pv j W hj hW h2 h3
        subst hj
        have := ih (i - half n) (ls.drop (half n)) pv W (by rw [List.length_drop]; omega) hW (by rw [List.length_drop]; omega) (by rw [List.length_drop]; omega) h2 h3
        rw [List.map_drop, Int.ofNat_sub (by omega)] at this
        exact this
end Go.Proofs.YtepehjalpkfniaaDoor
