/-
  OWN. The document's Path (daybookref), walked. No project text.
-/
import Derived.Test.YtepehjalpkfniaaDoorRefR
namespace Go.Proofs.YtepehjalpkfniaaDoor
open Go.RowKit

set_option maxHeartbeats 1000000 in
theorem refPath_one (i : Int) (a : Option Addr) (cap : Nat) (w : World) :
    Calls Tryd.prog 14 #[.slice a 1 cap, .int .i64 i] w fun e w' => e = .returned (str []) ∧ Below w.heap.size w w' := by
  unfold str
  go_enter Tryd.func14, Tryd.ntmps14
  go_wp2
  go_ret
  exact ⟨rfl, Below.refl _ _⟩

set_option maxRecDepth 100000 in
set_option maxHeartbeats 2000000 in
theorem refPath_left (i n b off cap : Nat) (L : List (List UInt8)) (p : List UInt8) (x : H4) (w : World)
    (hl : TxS w (.slice (some ⟨b, off, none⟩) n cap) L) (hL : L.length = n) (hn : 2 ≤ n) (hm : n ≤ 8796093022208) (hcap : n ≤ cap) (hi : i < half n) (hx : rt ((L.drop (half n)).map leafL) = x) (hpl : p.length ≤ 35184372088832)
    (IH : ∀ (pv : Value) (W : World), TxS W pv (L.take (half n)) → Calls Tryd.prog 14 #[pv, .int .i64 i] W fun e w' => e = .returned (str p) ∧ Below W.heap.size W w') :
    Calls Tryd.prog 14 #[.slice (some ⟨b, off, none⟩) n cap, .int .i64 i] w fun e w' => e = .returned (str (p ++ bs x)) ∧ Below w.heap.size w w' := by
  have hh := half_lt n hn
  have hp := half_pos n hn
  have hsp := hide (fun W => refHalf_any n W hn (by omega))
  have HT := hide (hl.take (half n) (by omega))
  have HD := hide (hl.drop (half n))
  have hR := hide (fun (v : Value) (W : World) h1 => refRoot_any (L.drop (half n)).length (L.drop (half n)) v W (Nat.le_refl _) h1 (by rw [List.length_drop]; omega))
  rw [hx] at hR
  generalize half n = q at *
  have HIH := hide IH
  have HA := hide (str_app p (bs x))
  clear IH hl hx hL
  have lx : (⟨(bs x).toArray⟩ : ByteArray).size = 4 := size_str _
  have lp : (⟨p.toArray⟩ : ByteArray).size ≤ 35184372088832 := by rw [size_str]; exact hpl
  have hadd := fun W => run_string_add_sum (P := Tryd.prog) W ⟨p.toArray⟩ ⟨(bs x).toArray⟩ (by omega)
  have hq0 : (0 : Int) ≤ (q : Int) := by omega
  have hq1 : (q : Int) ≤ (n : Int) := by omega
  have hq2 : (q : Int) ≤ (cap : Int) := by omega
  have hcq : ¬ cap = q := by omega
  have hn1 : ((n : Int) == 1) = false := beq_eq_false_iff_ne.2 (by omega)
  unfold str at *
  go_enter Tryd.func14, Tryd.ntmps14
  go_wp2_with fail
  refine (hsp.out _).mono ?_
  rintro e w' ⟨rfl, rfl⟩
  go_wp2_with fail
  go_region_held3 (fun _ => True) (trivial) ((first
    | (go_at_call 14; refine (HIH.out _ _ ?_).mono ?_; exact HT.out.below ((Below.refl _ _).drew) (Nat.le_refl _); rintro e w1 ⟨rfl, hb1⟩; have HC1 : Hid (Below w'.heap.size w' w1) := Below.of_drew hb1; have hz1 : w'.heap.size ≤ w1.heap.size := HC1.out.size; clear hb1)
    | (go_at_call 12; refine (hR.out _ _ ?_).mono ?_; exact HD.out.below HC1.out (Nat.le_refl _); rintro e w2 ⟨rfl, hb2⟩; have HC2 : Hid (Below w'.heap.size w' w2) := HC1.out.trans (hb2.mono hz1); clear hb2)))
  go_wp2
  go_ret
  exact ⟨congrArg (fun s => Ending.returned (Value.string s)) HA.out, HC2.out⟩
set_option maxRecDepth 100000 in
set_option maxHeartbeats 2000000 in
theorem refPath_right (i n b off cap : Nat) (L : List (List UInt8)) (p : List UInt8) (x : H4) (w : World)
    (hl : TxS w (.slice (some ⟨b, off, none⟩) n cap) L) (hL : L.length = n) (hn : 2 ≤ n) (hm : n ≤ 8796093022208) (hcap : n ≤ cap) (hi : half n ≤ i) (hi2 : i < n) (hx : rt ((L.take (half n)).map leafL) = x) (hpl : p.length ≤ 35184372088832)
    (IH : ∀ (pv : Value) (j : Int) (W : World), j = (i : Int) - (half n : Int) → TxS W pv (L.drop (half n)) → Calls Tryd.prog 14 #[pv, .int .i64 j] W fun e w' => e = .returned (str p) ∧ Below W.heap.size W w') :
    Calls Tryd.prog 14 #[.slice (some ⟨b, off, none⟩) n cap, .int .i64 i] w fun e w' => e = .returned (str (p ++ bs x)) ∧ Below w.heap.size w w' := by
  have hh := half_lt n hn
  have hp := half_pos n hn
  have hsp := hide (fun W => refHalf_any n W hn (by omega))
  have HT := hide (hl.take (half n) (by omega))
  have HD := hide (hl.drop (half n))
  have hR := hide (fun (v : Value) (W : World) h1 => refRoot_any (L.take (half n)).length (L.take (half n)) v W (Nat.le_refl _) h1 (by rw [List.length_take]; omega))
  rw [hx] at hR
  generalize half n = q at *
  have HIH := hide IH
  have HA := hide (str_app p (bs x))
  clear IH hl hx hL
  have lx : (⟨(bs x).toArray⟩ : ByteArray).size = 4 := size_str _
  have lp : (⟨p.toArray⟩ : ByteArray).size ≤ 35184372088832 := by rw [size_str]; exact hpl
  have hadd := fun W => run_string_add_sum (P := Tryd.prog) W ⟨p.toArray⟩ ⟨(bs x).toArray⟩ (by omega)
  have hq0 : (0 : Int) ≤ (q : Int) := by omega
  have hq1 : (q : Int) ≤ (n : Int) := by omega
  have hq2 : (q : Int) ≤ (cap : Int) := by omega
  have hcq : ¬ cap = q := by omega
  have hn1 : ((n : Int) == 1) = false := beq_eq_false_iff_ne.2 (by omega)
  unfold str at *
  go_enter Tryd.func14, Tryd.ntmps14
  go_wp2_with fail
  refine (hsp.out _).mono ?_
  rintro e w' ⟨rfl, rfl⟩
  go_wp2_with fail
  go_region_held3 (fun _ => True) (trivial) ((first
    | (go_at_call 14; refine (HIH.out _ _ _ ?_ ?_).mono ?_; (first | rfl | exact wrap_in _ (by omega)); exact HD.out.below ((Below.refl _ _).drew) (Nat.le_refl _); rintro e w1 ⟨rfl, hb1⟩; have HC1 : Hid (Below w'.heap.size w' w1) := Below.of_drew hb1; have hz1 : w'.heap.size ≤ w1.heap.size := HC1.out.size; clear hb1)
    | (go_at_call 12; refine (hR.out _ _ ?_).mono ?_; exact HT.out.below HC1.out (Nat.le_refl _); rintro e w2 ⟨rfl, hb2⟩; have HC2 : Hid (Below w'.heap.size w' w2) := HC1.out.trans (hb2.mono hz1); clear hb2)))
  go_wp2
  go_ret
  exact ⟨congrArg (fun s => Ending.returned (Value.string s)) HA.out, HC2.out⟩

theorem refPath_any : ∀ (N i : Nat) (L : List (List UInt8)) (v : Value) (w : World), L.length ≤ N → TxS w v L → i < L.length → L.length ≤ 8796093022208 →
    Calls Tryd.prog 14 #[v, .int .i64 i] w fun e w' => e = .returned (str ((path (L.map leafL) i).flatMap bs)) ∧ Below w.heap.size w w' := by
  intro N
  induction N with
  | zero => intro i L v w hN _ hi; omega
  | succ N ih =>
    intro i L v w hN hl hi hm
    obtain ⟨n, hn⟩ : ∃ n, L.length = n := ⟨_, rfl⟩
    have hml : (L.map leafL).length = n := by rw [List.length_map, hn]
    have hi' : i < n := by omega
    have hpl : ((path (L.map leafL) i).flatMap bs).length ≤ 4 * n := by rw [flat_length, path_length, hml]; have := deep_le i n; omega
    obtain ⟨a, cap, e, hlc, hc⟩ := id hl
    by_cases h1 : n ≤ 1
    · rw [path_one _ _ (by omega), e, show L.length = 1 by omega]
      exact refPath_one i a cap w
    · have hh := half_lt n (by omega)
      have hp0 := half_pos n (by omega)
      obtain ⟨b, off, s, ea, _⟩ := hc 0 (by omega)
      subst ea
      rw [e, hn] at hl ⊢
      by_cases hlt : i < half n
      · rw [path_left _ _ (by omega) (by rw [hml]; exact hlt), hml, List.flatMap_append]
        rw [path_left _ _ (by omega) (by rw [hml]; exact hlt), hml, List.flatMap_append, List.length_append] at hpl
        rw [show [rt ((L.map leafL).drop (half n))].flatMap bs = bs (rt ((L.map leafL).drop (half n))) by simp]
        refine refPath_left i n b off cap L _ _ w hl hn (by omega) (by omega) (by omega) hlt (by rw [List.map_drop]) (by omega) ?_
        intro pv W hW
        have := ih i (L.take (half n)) pv W (by rw [List.length_take]; omega) hW (by rw [List.length_take]; omega) (by rw [List.length_take]; omega)
        rw [List.map_take] at this
        exact this
      · rw [path_right _ _ (by omega) (by rw [hml]; exact hlt), hml, List.flatMap_append]
        rw [path_right _ _ (by omega) (by rw [hml]; exact hlt), hml, List.flatMap_append, List.length_append] at hpl
        rw [show [rt ((L.map leafL).take (half n))].flatMap bs = bs (rt ((L.map leafL).take (half n))) by simp]
        refine refPath_right i n b off cap L _ _ w hl hn (by omega) (by omega) (by omega) (by omega) hi' (by rw [List.map_take]) (by omega) ?_
        intro pv j W hj hW
        subst hj
        have := ih (i - half n) (L.drop (half n)) pv W (by rw [List.length_drop]; omega) hW (by rw [List.length_drop]; omega) (by rw [List.length_drop]; omega)
        rw [List.map_drop, Int.ofNat_sub (by omega)] at this
        exact this
end Go.Proofs.YtepehjalpkfniaaDoor
