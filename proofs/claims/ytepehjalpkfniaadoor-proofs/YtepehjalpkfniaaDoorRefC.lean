/-
  OWN. The document's Climb (daybookref), walked. No project text.
-/
import Derived.Test.YtepehjalpkfniaaDoorRefP
namespace Go.Proofs.YtepehjalpkfniaaDoor
open Go.RowKit

set_option maxHeartbeats 1000000 in
theorem refClimb_one (s : ByteArray) (i : Int) (q : Value) (w : World) (hs : s.size ≤ 140737488351232) :
    Calls Tryd.prog 19 #[.string s, .int .i64 i, .int .i64 1, q] w fun e w' => e = .returned (str (bs (leafL s.data.toList))) ∧ Below w.heap.size w w' := by
  have HS := hide (refSum_any ((⟨#[0]⟩ : ByteArray) ++ s) (0 :: s.data.toList) w (app0 s) (by rw [app0_size]; omega))
  rw [sumL_leaf] at HS
  generalize leafL s.data.toList = x at *
  unfold str at *
  go_enter Tryd.func19, Tryd.ntmps19
  go_wp2_with fail
  refine HS.out.mono ?_
  rintro e w1 ⟨rfl, hb1⟩
  have HB := hide hb1
  clear hb1
  go_wp2
  go_ret
  exact ⟨rfl, HB.out⟩

theorem extract_init (p : List UInt8) (x : H4) : (⟨(p ++ bs x).toArray⟩ : ByteArray).extract 0 p.length = ⟨p.toArray⟩ := by
  apply ByteArray.ext
  apply Array.toList_inj.1
  rw [Lib.extract_data]
  simp
theorem extract_last (p : List UInt8) (x : H4) : (⟨(p ++ bs x).toArray⟩ : ByteArray).extract p.length (p.length + 4) = ⟨(bs x).toArray⟩ := by
  apply ByteArray.ext
  apply Array.toList_inj.1
  rw [Lib.extract_data]
  simp [bs]

set_option maxRecDepth 100000 in
set_option maxHeartbeats 2000000 in
theorem refClimb_left (s : ByteArray) (i n : Nat) (p : List UInt8) (x y : H4) (w : World) (hn : 2 ≤ n) (hm : n ≤ 8796093022208) (hi : i < half n) (hpl : p.length ≤ 35184372088832)
    (IH : ∀ W, Calls Tryd.prog 19 #[.string s, .int .i64 i, .int .i64 (half n : Int), .string ⟨p.toArray⟩] W fun e w' => e = .returned (str (bs y)) ∧ Below W.heap.size W w') :
    Calls Tryd.prog 19 #[.string s, .int .i64 i, .int .i64 (n : Int), .string ⟨(p ++ bs x).toArray⟩] w fun e w' => e = .returned (str (bs (nodeL y x))) ∧ Below w.heap.size w w' := by
  have hh := half_lt n hn
  have hp := half_pos n hn
  have hsp := hide (fun W => refHalf_any n W hn (by omega))
  have hs1 : ((⟨#[1]⟩ : ByteArray) ++ ⟨(bs y).toArray⟩ ++ ⟨(bs x).toArray⟩).size ≤ 140737488355328 := by rw [app1_size]; have h1 : (bs x).length = 4 := rfl; have h2 : (bs y).length = 4 := rfl; omega
  have HS := hide (fun W => refSum_any ((⟨#[1]⟩ : ByteArray) ++ ⟨(bs y).toArray⟩ ++ ⟨(bs x).toArray⟩) (1 :: (bs y ++ bs x)) W (app1 _ _) hs1)
  rw [sumL_node] at HS
  have lx : (⟨(bs x).toArray⟩ : ByteArray).size = 4 := size_str _
  have ly : (⟨(bs y).toArray⟩ : ByteArray).size = 4 := size_str _
  have l1 : ((⟨#[1]⟩ : ByteArray) ++ ⟨(bs y).toArray⟩).size = 5 := by rw [ByteArray.size_append, ly]; rfl
  have ad1 := fun W => run_string_add_sum (P := Tryd.prog) W ⟨#[1]⟩ ⟨(bs y).toArray⟩ (by show 1 + (bs y).toArray.size ≤ _; have : (bs y).toArray.size = 4 := rfl; omega)
  have ad2 := fun W => run_string_add_sum (P := Tryd.prog) W ((⟨#[1]⟩ : ByteArray) ++ ⟨(bs y).toArray⟩) ⟨(bs x).toArray⟩ (by omega)
  have ei := extract_init p x
  have el := extract_last p x
  have lpx : (⟨(p ++ bs x).toArray⟩ : ByteArray).size = p.length + 4 := by rw [size_str, List.length_append]; rfl
  generalize nodeL y x = z at *
  generalize half n = q at *
  generalize (⟨(p ++ bs x).toArray⟩ : ByteArray) = P at *
  generalize (⟨p.toArray⟩ : ByteArray) = p0 at *
  generalize p.length = m at *
  have HIH := hide IH
  clear IH hs1
  have hn1 : ((n : Int) == 1) = false := beq_eq_false_iff_ne.2 (by omega)
  unfold str at *
  go_enter Tryd.func19, Tryd.ntmps19
  go_wp2_with fail
  refine (hsp.out _).mono ?_
  rintro e w' ⟨rfl, rfl⟩
  go_wp2_with fail
  go_region_with (first
    | (go_at_call 19; go_must (refine (HIH.out _).mono ?_; rintro e w1 ⟨rfl, hb1⟩; have HC1 : Hid (Below w'.heap.size w' w1) := Below.of_drew hb1; have hz1 : w'.heap.size ≤ w1.heap.size := HC1.out.size; clear hb1))
    | (go_at_call 32; go_must (refine (HS.out _).mono ?_; rintro e w2 ⟨rfl, hb2⟩; have HC2 : Hid (Below w'.heap.size w' w2) := HC1.out.trans (hb2.mono hz1); clear hb2)))
  all_goals
    go_wp2
    go_ret
    exact ⟨rfl, HC2.out⟩

set_option maxRecDepth 100000 in
set_option maxHeartbeats 2000000 in
theorem refClimb_right (s : ByteArray) (i n : Nat) (p : List UInt8) (x y : H4) (w : World) (hn : 2 ≤ n) (hm : n ≤ 8796093022208) (hi : half n ≤ i) (hi2 : i < n) (hpl : p.length ≤ 35184372088832)
    (IH : ∀ W, Calls Tryd.prog 19 #[.string s, .int .i64 ((i : Int) - (half n : Int)), .int .i64 ((n : Int) - (half n : Int)), .string ⟨p.toArray⟩] W fun e w' => e = .returned (str (bs y)) ∧ Below W.heap.size W w') :
    Calls Tryd.prog 19 #[.string s, .int .i64 i, .int .i64 (n : Int), .string ⟨(p ++ bs x).toArray⟩] w fun e w' => e = .returned (str (bs (nodeL x y))) ∧ Below w.heap.size w w' := by
  have hh := half_lt n hn
  have hp := half_pos n hn
  have hsp := hide (fun W => refHalf_any n W hn (by omega))
  have hs1 : ((⟨#[1]⟩ : ByteArray) ++ ⟨(bs x).toArray⟩ ++ ⟨(bs y).toArray⟩).size ≤ 140737488355328 := by rw [app1_size]; have h1 : (bs x).length = 4 := rfl; have h2 : (bs y).length = 4 := rfl; omega
  have HS := hide (fun W => refSum_any ((⟨#[1]⟩ : ByteArray) ++ ⟨(bs x).toArray⟩ ++ ⟨(bs y).toArray⟩) (1 :: (bs x ++ bs y)) W (app1 _ _) hs1)
  rw [sumL_node] at HS
  have lx : (⟨(bs x).toArray⟩ : ByteArray).size = 4 := size_str _
  have ly : (⟨(bs y).toArray⟩ : ByteArray).size = 4 := size_str _
  have l1 : ((⟨#[1]⟩ : ByteArray) ++ ⟨(bs x).toArray⟩).size = 5 := by rw [ByteArray.size_append, lx]; rfl
  have ad1 := fun W => run_string_add_sum (P := Tryd.prog) W ⟨#[1]⟩ ⟨(bs x).toArray⟩ (by show 1 + (bs x).toArray.size ≤ _; have : (bs x).toArray.size = 4 := rfl; omega)
  have ad2 := fun W => run_string_add_sum (P := Tryd.prog) W ((⟨#[1]⟩ : ByteArray) ++ ⟨(bs x).toArray⟩) ⟨(bs y).toArray⟩ (by omega)
  have ei := extract_init p x
  have el := extract_last p x
  have lpx : (⟨(p ++ bs x).toArray⟩ : ByteArray).size = p.length + 4 := by rw [size_str, List.length_append]; rfl
  generalize nodeL x y = z at *
  generalize half n = q at *
  generalize (⟨(p ++ bs x).toArray⟩ : ByteArray) = P at *
  generalize (⟨p.toArray⟩ : ByteArray) = p0 at *
  generalize p.length = m at *
  have HIH := hide IH
  clear IH hs1
  have hn1 : ((n : Int) == 1) = false := beq_eq_false_iff_ne.2 (by omega)
  unfold str at *
  go_enter Tryd.func19, Tryd.ntmps19
  go_wp2_with fail
  refine (hsp.out _).mono ?_
  rintro e w' ⟨rfl, rfl⟩
  go_wp2_with fail
  go_region_with (first
    | (go_at_call 19; go_must (refine (HIH.out _).mono ?_; rintro e w1 ⟨rfl, hb1⟩; have HC1 : Hid (Below w'.heap.size w' w1) := Below.of_drew hb1; have hz1 : w'.heap.size ≤ w1.heap.size := HC1.out.size; clear hb1))
    | (go_at_call 32; go_must (refine (HS.out _).mono ?_; rintro e w2 ⟨rfl, hb2⟩; have HC2 : Hid (Below w'.heap.size w' w2) := HC1.out.trans (hb2.mono hz1); clear hb2)))
  all_goals
    go_wp2
    go_ret
    exact ⟨rfl, HC2.out⟩


theorem snoc_last (p : List H4) (h : p ≠ []) : p.flatMap bs = p.dropLast.flatMap bs ++ bs (p.getLastD noS) := by
  rcases List.eq_nil_or_concat p with e | ⟨q, x, e⟩
  · exact absurd e h
  · rw [List.concat_eq_append] at e
    subst e
    simp only [List.dropLast_concat, List.getLastD_concat, List.flatMap_append]
    simp

theorem refClimb_any (s : ByteArray) (hs : s.size ≤ 140737488351232) : ∀ (N i n : Nat) (p : List H4) (w : World), n ≤ N → i < n → n ≤ 8796093022208 → p.length = deep i n → p.length ≤ 8796093022208 →
    Calls Tryd.prog 19 #[.string s, .int .i64 i, .int .i64 (n : Int), .string ⟨(p.flatMap bs).toArray⟩] w fun e w' => e = .returned (str (bs (climbL (leafL s.data.toList) i n p))) ∧ Below w.heap.size w w' := by
  intro N
  induction N with
  | zero => intro i n p w hN hi; omega
  | succ N ih =>
    intro i n p w hN hi hm hd hpm
    by_cases h1 : n ≤ 1
    · obtain rfl : n = 1 := by omega
      rw [climb_one _ _ _ _ (Nat.le_refl _)]
      exact refClimb_one s i _ w hs
    · have hh := half_lt n (by omega)
      have hp0 := half_pos n (by omega)
      by_cases hlt : i < half n
      · rw [deep_left i n (by omega) hlt] at hd
        have hne : p ≠ [] := by intro h; rw [h] at hd; simp at hd
        have hdl : p.dropLast.length = deep i (half n) := by rw [List.length_dropLast]; omega
        rw [climb_left _ _ _ _ (by omega) hlt, snoc_last p hne]
        exact refClimb_left s i n _ _ _ w (by omega) hm hlt (by rw [flat_length, List.length_dropLast]; omega) (fun W => ih i (half n) p.dropLast W (by omega) hlt (by omega) hdl (by omega))
      · rw [deep_right i n (by omega) hlt] at hd
        have hne : p ≠ [] := by intro h; rw [h] at hd; simp at hd
        have hdl : p.dropLast.length = deep (i - half n) (n - half n) := by rw [List.length_dropLast]; omega
        rw [climb_right _ _ _ _ (by omega) hlt, snoc_last p hne]
        refine refClimb_right s i n _ _ _ w (by omega) hm (by omega) hi (by rw [flat_length, List.length_dropLast]; omega) (fun W => ?_)
        have := ih (i - half n) (n - half n) p.dropLast W (by omega) (by omega) (by omega) hdl (by omega)
        rw [Int.ofNat_sub (by omega), Int.ofNat_sub (by omega)] at this
        exact this
end Go.Proofs.YtepehjalpkfniaaDoor
