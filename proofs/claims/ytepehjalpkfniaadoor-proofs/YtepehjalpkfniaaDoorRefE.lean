/-
  OWN. The document's Extends (daybookref), walked. No project text.
-/
import Derived.Test.YtepehjalpkfniaaDoorRefN
namespace Go.Proofs.YtepehjalpkfniaaDoor
open Go.RowKit

theorem str_zero (h : H4) (hh : h = zero4) : (⟨(bs h).toArray⟩ : ByteArray) = ⟨#[0, 0, 0, 0]⟩ := by subst hh; rfl
theorem bytes_beq_yes (a b : ByteArray) (h : a = b) : (a.toList == b.toList) = true := by subst h; simp
theorem bytes_beq_no (a b : ByteArray) (h : a ≠ b) : (a.toList == b.toList) = false := by
  simp only [beq_eq_false_iff_ne, ne_eq]
  intro e
  rw [ByteArray.toList_eq, ByteArray.toList_eq] at e
  exact h (ByteArray.ext (Array.toList_inj.1 e))
theorem wrap_u64 (x : Int) (h0 : 0 ≤ x) (h1 : x < 18446744073709551616) : IntKind.u64.wrap x = x := by
  simp [IntKind.wrap, IntKind.bits, IntKind.signed]
  omega
theorem bs_inj (x y : H4) (h : bs x = bs y) : x = y := by
  obtain ⟨a, b, c, d⟩ := x
  obtain ⟨e, f, g, i⟩ := y
  simp only [bs, List.cons.injEq, and_true] at h
  obtain ⟨rfl, rfl, rfl, rfl⟩ := h
  rfl
theorem str_inj (a b : List UInt8) : ((⟨a.toArray⟩ : ByteArray) = ⟨b.toArray⟩) ↔ a = b := by
  constructor
  · intro h
    have := congrArg (fun x => x.data.toList) h
    simpa using this
  · intro h; rw [h]

set_option maxRecDepth 100000 in
set_option maxHeartbeats 1000000 in
theorem refExtends_go (b N : Nat) (m : Int) (h g : H4) (s : ByteArray) (w : World) (hm : s.size ≤ 140737488355328) (hN : s.size = 13 * N) (hz : b = 0 → h = zero4) (hbm : m ≤ 9223372036854775807) (hmb : m - (b : Int) = (N : Int)) :
    Calls Tryd.prog 23 #[.int .i64 (b : Int), str (bs h), .int .i64 m, str (bs g), .string s] w fun e w' => e = .returned (.bool (decide (chainL N (b + 1) h s.data.toList = some g))) ∧ Below w.heap.size w w' := by
  unfold str
  have HM := hide hmb
  have h1 : ¬ ((b : Int) < 0) := by omega
  have h2 : ¬ (m < (b : Int)) := by omega
  have h6 : ((N : Int) != m - (b : Int)) = false := by rw [hmb]; simp
  have h7 : -9223372036854775808 ≤ m - (b : Int) ∧ m - (b : Int) ≤ 9223372036854775807 := by omega
  clear hmb
  have hcase : (((b : Int) == 0) = true ∧ (bs h == [0, 0, 0, 0]) = true) ∨ ((b : Int) == 0) = false := by
    by_cases e : b = 0
    · refine .inl ⟨by subst e; rfl, by rw [hz e]; rfl⟩
    · exact .inr (beq_eq_false_iff_ne.2 (by omega))
  clear hz
  go_enter Tryd.func23, Tryd.ntmps23
  rcases hcase with ⟨e1, e2⟩ | e1
  · go_wp2
    clear e1 e2 h1 h2 h6 h7
    go_loopw [1, 11] (fun v i wr => ∃ (k : Nat) (hk : H4), k ≤ N ∧ i = .int .i64 k ∧ v = .string ⟨(bs hk).toArray⟩ ∧ Hid (chainL N (b + 1) h s.data.toList = chainL (N - k) (b + 1 + k) hk (s.data.toList.drop (13 * k))) ∧ Below w.heap.size w wr) (fun _ i _ => N - (intOf i).toNat)
    case atStart => exact ⟨0, h, Nat.zero_le _, rfl, rfl, by show _ = _; simp, Below.refl _ _⟩
    case round =>
      obtain ⟨k, hk, hkN, rfl, rfl, hch, hbel⟩ := hrel
      by_cases hlt : k < N
      · have HX : Hid ((s.extract (13 * k) (13 * k + 13)).data.toList = (s.data.toList.drop (13 * k)).take 13) := by
          show _ = _
          rw [Lib.extract_data]; congr 1; omega
        have hXs : (s.extract (13 * k) (13 * k + 13)).size = 13 := by rw [ByteArray.size_extract]; omega
        have hb1 : b + 1 + k ≤ 9223372036854775807 := by have := HM.out; omega
        by_cases hc1 : b + 1 + k ≤ 4294967295
        · have HBY := hide (fun W => refBytes_any (b + 1 + k) W (by omega))
          rw [show ((b + 1 + k : Nat) : Int) = (b : Int) + 1 + (k : Int) by omega] at HBY
          have HL : Hid ((s.extract (13 * k) (13 * k + 13)).extract 0 9 = ⟨((s.data.toList.drop (13 * k)).take 9).toArray⟩) := by
            show _ = _
            apply ByteArray.ext
            apply Array.toList_inj.1
            rw [Lib.extract_data, HX.out]
            simp [List.take_take]
          have HSM := hide (fun W => refSum_any (s.extract (13 * k) (13 * k + 13)) _ W HX.out (by omega))
          have l1 : (⟨(bs (hsh (b + 1 + k))).toArray⟩ : ByteArray).size = 4 := size_str _
          have l2 : (⟨(bs hk).toArray⟩ : ByteArray).size = 4 := size_str _
          have HSU : Hid (((⟨#[66]⟩ : ByteArray) ++ ⟨(bs (hsh (b + 1 + k))).toArray⟩) ++ ⟨(bs hk).toArray⟩ = ⟨(lead (b + 1 + k) (bs hk)).toArray⟩) := by
            show _ = _
            rw [show (⟨#[66]⟩ : ByteArray) = ⟨[66].toArray⟩ from rfl, str_app, str_app]; rfl
          unfold str at HBY
          generalize (⟨(bs (hsh (b + 1 + k))).toArray⟩ : ByteArray) = Z1 at *
          generalize (⟨(bs hk).toArray⟩ : ByteArray) = Z2 at *
          have l0 : (⟨#[66]⟩ : ByteArray).size = 1 := rfl
          have l3 : ((⟨#[66]⟩ : ByteArray) ++ Z1).size = 5 := by rw [ByteArray.size_append, l0, l1]
          have ad1 := fun W => run_string_add_sum (P := Tryd.prog) W ⟨#[66]⟩ Z1 (by omega)
          have ad2 := fun W => run_string_add_sum (P := Tryd.prog) W ((⟨#[66]⟩ : ByteArray) ++ Z1) Z2 (by omega)
          have HBL := hide hbel
          clear hbel
          by_cases hc2 : (s.data.toList.drop (13 * k)).take 9 = lead (b + 1 + k) (bs hk)
          · have hcm : (((s.extract (13 * k) (13 * k + 13)).extract 0 9).toList == ((⟨#[66]⟩ : ByteArray) ++ Z1 ++ Z2).toList) = true := (bytes_beq_yes _ _ (by rw [HSU.out, HL.out, hc2]))
            have HNX : Hid (chainL N (b + 1) h s.data.toList = chainL (N - (k + 1)) (b + 1 + (k + 1)) (sumL ((s.data.toList.drop (13 * k)).take 13)) (s.data.toList.drop (13 * (k + 1)))) := by
              show _ = _
              rw [hch.out, show N - k = N - (k + 1) + 1 by omega, chainL_succ _ _ _ _ hc1 hc2, List.drop_drop]
              congr 1
            clear hch hc2 HL HSU
            go_wp2_with fail
            generalize (s.extract (13 * k) (13 * k + 13)) = X at *
            have h9 : (9 : Int) ≤ (X.size : Int) := by omega
            have hB0 : (0 : Int) ≤ (b : Int) + 1 + (k : Int) := by omega
            have hB1 : (b : Int) + 1 + (k : Int) ≤ 4294967295 := by omega
            generalize (b : Int) + 1 + (k : Int) = Bv at *
            have hd : decide (4294967295 < Bv) = false := decide_eq_false (by omega)
            have hwr : IntKind.u64.wrap Bv = Bv := wrap_u64 Bv hB0 (by omega)
            go_region_held3 (fun _ => True) (trivial) ((go_at_call 39; refine (HBY.out _).mono ?_; rintro e w1 ⟨rfl, hb1'⟩; have HC1 : Hid (Below w.heap.size w w1) := HBL.out.trans ((Below.of_drew hb1').mono HBL.out.size); clear hb1'))
            clear hcm hd hwr ad1 ad2 HBY
            go_wp2_with fail
            refine (HSM.out _).mono ?_
            rintro e w2 ⟨rfl, hb2⟩
            have HC2 : Hid (Below w.heap.size w w2) := HC1.out.trans (hb2.mono HC1.out.size)
            clear hb2 HSM HC1
            unfold str
            go_wp2
            go_roundw
            case rel => exact ⟨k + 1, _, by omega, by go_num, rfl, HNX.out, HC2.out⟩
            case measure => simp [intOf]; omega
          · have hcm : (((s.extract (13 * k) (13 * k + 13)).extract 0 9).toList == ((⟨#[66]⟩ : ByteArray) ++ Z1 ++ Z2).toList) = false := (bytes_beq_no _ _ (by rw [HSU.out, HL.out]; exact fun e => hc2 ((str_inj _ _).1 e)))
            have HNO : Hid (chainL N (b + 1) h s.data.toList = none) := by
              show _ = _
              rw [hch.out, show N - k = N - (k + 1) + 1 by omega]
              exact chainL_no _ _ _ _ (fun e => hc2 e.2)
            clear hch hc2 HL HSU HSM
            go_wp2_with fail
            generalize (s.extract (13 * k) (13 * k + 13)) = X at *
            have h9 : (9 : Int) ≤ (X.size : Int) := by omega
            have hB0 : (0 : Int) ≤ (b : Int) + 1 + (k : Int) := by omega
            have hB1 : (b : Int) + 1 + (k : Int) ≤ 4294967295 := by omega
            generalize (b : Int) + 1 + (k : Int) = Bv at *
            have hd : decide (4294967295 < Bv) = false := decide_eq_false (by omega)
            have hwr : IntKind.u64.wrap Bv = Bv := wrap_u64 Bv hB0 (by omega)
            go_region_held3 (fun _ => True) (trivial) ((go_at_call 39; refine (HBY.out _).mono ?_; rintro e w1 ⟨rfl, hb1'⟩; have HC1 : Hid (Below w.heap.size w w1) := HBL.out.trans ((Below.of_drew hb1').mono HBL.out.size); clear hb1'))
            clear hcm hd hwr ad1 ad2 HBY
            go_wp2
            go_ret
            exact ⟨by rw [HNO.out]; rfl, HC1.out⟩
        · have HNO : Hid (chainL N (b + 1) h s.data.toList = none) := by
            show _ = _
            rw [hch.out, show N - k = N - (k + 1) + 1 by omega]
            exact chainL_no _ _ _ _ (fun e => hc1 e.1)
          have HBL := hide hbel
          clear hch hbel
          go_wp2_with fail
          generalize (s.extract (13 * k) (13 * k + 13)) = X at *
          have hB1 : (4294967295 : Int) < (b : Int) + 1 + (k : Int) := by omega
          generalize (b : Int) + 1 + (k : Int) = Bv at *
          go_quiet (fail)
          go_wp2
          go_ret
          exact ⟨by rw [HNO.out]; rfl, below_drewN HBL.out _⟩
      · have HFI : Hid (chainL N (b + 1) h s.data.toList = some hk) := by
          show _ = _
          rw [hch.out, show N - k = 0 by omega]
          rfl
        have HBL := hide hbel
        clear hch hbel
        have HEQ : ((⟨(bs hk).toArray⟩ : ByteArray).toList == (⟨(bs g).toArray⟩ : ByteArray).toList) = decide (hk = g) := by
          by_cases e : hk = g
          · rw [bytes_beq_yes _ _ (by rw [e]), decide_eq_true e]
          · rw [bytes_beq_no _ _ (fun x => e (bs_inj _ _ ((str_inj _ _).1 x))), decide_eq_false e]
        generalize (⟨(bs hk).toArray⟩ : ByteArray) = Z1 at *
        generalize (⟨(bs g).toArray⟩ : ByteArray) = Z2 at *
        go_wp2
        go_ret
        exact ⟨by rw [HFI.out]; simp, HBL.out⟩
  · go_wp2
    clear e1 h1 h2 h6 h7
    go_loopw [1, 11] (fun v i wr => ∃ (k : Nat) (hk : H4), k ≤ N ∧ i = .int .i64 k ∧ v = .string ⟨(bs hk).toArray⟩ ∧ Hid (chainL N (b + 1) h s.data.toList = chainL (N - k) (b + 1 + k) hk (s.data.toList.drop (13 * k))) ∧ Below w.heap.size w wr) (fun _ i _ => N - (intOf i).toNat)
    case atStart => exact ⟨0, h, Nat.zero_le _, rfl, rfl, by show _ = _; simp, Below.refl _ _⟩
    case round =>
      obtain ⟨k, hk, hkN, rfl, rfl, hch, hbel⟩ := hrel
      by_cases hlt : k < N
      · have HX : Hid ((s.extract (13 * k) (13 * k + 13)).data.toList = (s.data.toList.drop (13 * k)).take 13) := by
          show _ = _
          rw [Lib.extract_data]; congr 1; omega
        have hXs : (s.extract (13 * k) (13 * k + 13)).size = 13 := by rw [ByteArray.size_extract]; omega
        have hb1 : b + 1 + k ≤ 9223372036854775807 := by have := HM.out; omega
        by_cases hc1 : b + 1 + k ≤ 4294967295
        · have HBY := hide (fun W => refBytes_any (b + 1 + k) W (by omega))
          rw [show ((b + 1 + k : Nat) : Int) = (b : Int) + 1 + (k : Int) by omega] at HBY
          have HL : Hid ((s.extract (13 * k) (13 * k + 13)).extract 0 9 = ⟨((s.data.toList.drop (13 * k)).take 9).toArray⟩) := by
            show _ = _
            apply ByteArray.ext
            apply Array.toList_inj.1
            rw [Lib.extract_data, HX.out]
            simp [List.take_take]
          have HSM := hide (fun W => refSum_any (s.extract (13 * k) (13 * k + 13)) _ W HX.out (by omega))
          have l1 : (⟨(bs (hsh (b + 1 + k))).toArray⟩ : ByteArray).size = 4 := size_str _
          have l2 : (⟨(bs hk).toArray⟩ : ByteArray).size = 4 := size_str _
          have HSU : Hid (((⟨#[66]⟩ : ByteArray) ++ ⟨(bs (hsh (b + 1 + k))).toArray⟩) ++ ⟨(bs hk).toArray⟩ = ⟨(lead (b + 1 + k) (bs hk)).toArray⟩) := by
            show _ = _
            rw [show (⟨#[66]⟩ : ByteArray) = ⟨[66].toArray⟩ from rfl, str_app, str_app]; rfl
          unfold str at HBY
          generalize (⟨(bs (hsh (b + 1 + k))).toArray⟩ : ByteArray) = Z1 at *
          generalize (⟨(bs hk).toArray⟩ : ByteArray) = Z2 at *
          have l0 : (⟨#[66]⟩ : ByteArray).size = 1 := rfl
          have l3 : ((⟨#[66]⟩ : ByteArray) ++ Z1).size = 5 := by rw [ByteArray.size_append, l0, l1]
          have ad1 := fun W => run_string_add_sum (P := Tryd.prog) W ⟨#[66]⟩ Z1 (by omega)
          have ad2 := fun W => run_string_add_sum (P := Tryd.prog) W ((⟨#[66]⟩ : ByteArray) ++ Z1) Z2 (by omega)
          have HBL := hide hbel
          clear hbel
          by_cases hc2 : (s.data.toList.drop (13 * k)).take 9 = lead (b + 1 + k) (bs hk)
          · have hcm : (((s.extract (13 * k) (13 * k + 13)).extract 0 9).toList == ((⟨#[66]⟩ : ByteArray) ++ Z1 ++ Z2).toList) = true := (bytes_beq_yes _ _ (by rw [HSU.out, HL.out, hc2]))
            have HNX : Hid (chainL N (b + 1) h s.data.toList = chainL (N - (k + 1)) (b + 1 + (k + 1)) (sumL ((s.data.toList.drop (13 * k)).take 13)) (s.data.toList.drop (13 * (k + 1)))) := by
              show _ = _
              rw [hch.out, show N - k = N - (k + 1) + 1 by omega, chainL_succ _ _ _ _ hc1 hc2, List.drop_drop]
              congr 1
            clear hch hc2 HL HSU
            go_wp2_with fail
            generalize (s.extract (13 * k) (13 * k + 13)) = X at *
            have h9 : (9 : Int) ≤ (X.size : Int) := by omega
            have hB0 : (0 : Int) ≤ (b : Int) + 1 + (k : Int) := by omega
            have hB1 : (b : Int) + 1 + (k : Int) ≤ 4294967295 := by omega
            generalize (b : Int) + 1 + (k : Int) = Bv at *
            have hd : decide (4294967295 < Bv) = false := decide_eq_false (by omega)
            have hwr : IntKind.u64.wrap Bv = Bv := wrap_u64 Bv hB0 (by omega)
            go_region_held3 (fun _ => True) (trivial) ((go_at_call 39; refine (HBY.out _).mono ?_; rintro e w1 ⟨rfl, hb1'⟩; have HC1 : Hid (Below w.heap.size w w1) := HBL.out.trans ((Below.of_drew hb1').mono HBL.out.size); clear hb1'))
            clear hcm hd hwr ad1 ad2 HBY
            go_wp2_with fail
            refine (HSM.out _).mono ?_
            rintro e w2 ⟨rfl, hb2⟩
            have HC2 : Hid (Below w.heap.size w w2) := HC1.out.trans (hb2.mono HC1.out.size)
            clear hb2 HSM HC1
            unfold str
            go_wp2
            go_roundw
            case rel => exact ⟨k + 1, _, by omega, by go_num, rfl, HNX.out, HC2.out⟩
            case measure => simp [intOf]; omega
          · have hcm : (((s.extract (13 * k) (13 * k + 13)).extract 0 9).toList == ((⟨#[66]⟩ : ByteArray) ++ Z1 ++ Z2).toList) = false := (bytes_beq_no _ _ (by rw [HSU.out, HL.out]; exact fun e => hc2 ((str_inj _ _).1 e)))
            have HNO : Hid (chainL N (b + 1) h s.data.toList = none) := by
              show _ = _
              rw [hch.out, show N - k = N - (k + 1) + 1 by omega]
              exact chainL_no _ _ _ _ (fun e => hc2 e.2)
            clear hch hc2 HL HSU HSM
            go_wp2_with fail
            generalize (s.extract (13 * k) (13 * k + 13)) = X at *
            have h9 : (9 : Int) ≤ (X.size : Int) := by omega
            have hB0 : (0 : Int) ≤ (b : Int) + 1 + (k : Int) := by omega
            have hB1 : (b : Int) + 1 + (k : Int) ≤ 4294967295 := by omega
            generalize (b : Int) + 1 + (k : Int) = Bv at *
            have hd : decide (4294967295 < Bv) = false := decide_eq_false (by omega)
            have hwr : IntKind.u64.wrap Bv = Bv := wrap_u64 Bv hB0 (by omega)
            go_region_held3 (fun _ => True) (trivial) ((go_at_call 39; refine (HBY.out _).mono ?_; rintro e w1 ⟨rfl, hb1'⟩; have HC1 : Hid (Below w.heap.size w w1) := HBL.out.trans ((Below.of_drew hb1').mono HBL.out.size); clear hb1'))
            clear hcm hd hwr ad1 ad2 HBY
            go_wp2
            go_ret
            exact ⟨by rw [HNO.out]; rfl, HC1.out⟩
        · have HNO : Hid (chainL N (b + 1) h s.data.toList = none) := by
            show _ = _
            rw [hch.out, show N - k = N - (k + 1) + 1 by omega]
            exact chainL_no _ _ _ _ (fun e => hc1 e.1)
          have HBL := hide hbel
          clear hch hbel
          go_wp2_with fail
          generalize (s.extract (13 * k) (13 * k + 13)) = X at *
          have hB1 : (4294967295 : Int) < (b : Int) + 1 + (k : Int) := by omega
          generalize (b : Int) + 1 + (k : Int) = Bv at *
          go_quiet (fail)
          go_wp2
          go_ret
          exact ⟨by rw [HNO.out]; rfl, below_drewN HBL.out _⟩
      · have HFI : Hid (chainL N (b + 1) h s.data.toList = some hk) := by
          show _ = _
          rw [hch.out, show N - k = 0 by omega]
          rfl
        have HBL := hide hbel
        clear hch hbel
        have HEQ : ((⟨(bs hk).toArray⟩ : ByteArray).toList == (⟨(bs g).toArray⟩ : ByteArray).toList) = decide (hk = g) := by
          by_cases e : hk = g
          · rw [bytes_beq_yes _ _ (by rw [e]), decide_eq_true e]
          · rw [bytes_beq_no _ _ (fun x => e (bs_inj _ _ ((str_inj _ _).1 x))), decide_eq_false e]
        generalize (⟨(bs hk).toArray⟩ : ByteArray) = Z1 at *
        generalize (⟨(bs g).toArray⟩ : ByteArray) = Z2 at *
        go_wp2
        go_ret
        exact ⟨by rw [HFI.out]; simp, HBL.out⟩

set_option maxRecDepth 100000 in
set_option maxHeartbeats 1000000 in
theorem refExtends_no (b m : Int) (h g : H4) (s : ByteArray) (w : World) (hm : s.size ≤ 140737488355328) (wm : -9223372036854775808 ≤ m ∧ m ≤ 9223372036854775807)
    (hno : ¬ (0 ≤ b ∧ b ≤ m ∧ (b = 0 → h = zero4) ∧ s.size % 13 = 0 ∧ ((s.size / 13 : Nat) : Int) = m - b)) :
    Calls Tryd.prog 23 #[.int .i64 b, str (bs h), .int .i64 m, str (bs g), .string s] w fun e w' => e = .returned (.bool false) ∧ w = w' := by
  unfold str
  by_cases h1 : b < 0
  · clear hno
    go_enter Tryd.func23, Tryd.ntmps23
    go_wp2
    go_ret
    exact ⟨rfl, rfl⟩
  by_cases h2 : m < b
  · clear hno
    go_enter Tryd.func23, Tryd.ntmps23
    go_wp2
    go_ret
    exact ⟨rfl, rfl⟩
  have h7 : -9223372036854775808 ≤ m - b ∧ m - b ≤ 9223372036854775807 := by omega
  by_cases h3 : b = 0 ∧ h ≠ zero4
  · obtain ⟨hb0, hz⟩ := h3
    have e1 : (b == 0) = true := beq_iff_eq.2 hb0
    have e2 : (bs h == [0, 0, 0, 0]) = false := beq_eq_false_iff_ne.2 (fun e => hz (bs_inj h zero4 e))
    clear hno hb0 hz
    go_enter Tryd.func23, Tryd.ntmps23
    go_wp2
    go_ret
    exact ⟨rfl, rfl⟩
  have hcase : ((b == 0) = true ∧ (bs h == [0, 0, 0, 0]) = true) ∨ (b == 0) = false := by
    by_cases e : b = 0
    · refine .inl ⟨beq_iff_eq.2 e, ?_⟩
      have : h = zero4 := Classical.byContradiction (fun x => h3 ⟨e, x⟩)
      rw [this]; rfl
    · exact .inr (beq_eq_false_iff_ne.2 e)
  by_cases h4 : s.size % 13 = 0
  · have h5 : (((s.size / 13 : Nat) : Int) != m - b) = true := by
      rw [bne_iff_ne]
      intro e
      exact hno ⟨by omega, by omega, fun e0 => Classical.byContradiction (fun x => h3 ⟨e0, x⟩), h4, e⟩
    have h4' : (((s.size : Int) % 13) != 0) = false := by rw [bne_eq_false_iff_eq]; omega
    clear hno h3 h4
    rcases hcase with ⟨e1, e2⟩ | e1
    · go_enter Tryd.func23, Tryd.ntmps23
      go_wp2
      go_ret
      exact ⟨rfl, rfl⟩
    · go_enter Tryd.func23, Tryd.ntmps23
      go_wp2
      go_ret
      exact ⟨rfl, rfl⟩
  · have h4' : (((s.size : Int) % 13) != 0) = true := by rw [bne_iff_ne]; omega
    clear hno h3 h4
    rcases hcase with ⟨e1, e2⟩ | e1
    · go_enter Tryd.func23, Tryd.ntmps23
      go_wp2
      go_ret
      exact ⟨rfl, rfl⟩
    · go_enter Tryd.func23, Tryd.ntmps23
      go_wp2
      go_ret
      exact ⟨rfl, rfl⟩

theorem refExtends_any (b m : Int) (h g : H4) (s : ByteArray) (w : World) (hm : s.size ≤ 140737488355328) (wm : -9223372036854775808 ≤ m ∧ m ≤ 9223372036854775807) :
    Calls Tryd.prog 23 #[.int .i64 b, str (bs h), .int .i64 m, str (bs g), .string s] w fun e w' => e = .returned (.bool (extB b h m g s.data.toList)) ∧ Below w.heap.size w w' := by
  have hl : s.data.toList.length = s.size := by rw [Array.length_toList]; rfl
  by_cases hyes : 0 ≤ b ∧ b ≤ m ∧ (b = 0 → h = zero4) ∧ s.size % 13 = 0 ∧ ((s.size / 13 : Nat) : Int) = m - b
  · obtain ⟨h1, h2, h3, h4, h5⟩ := id hyes
    obtain ⟨n, rfl⟩ := Int.eq_ofNat_of_zero_le h1
    have := refExtends_go n (s.size / 13) m h g s w hm (by omega) (fun e => h3 (by omega)) wm.2 h5.symm
    refine this.mono ?_
    rintro e w' ⟨rfl, hb⟩
    refine ⟨?_, hb⟩
    congr 2
    unfold extB
    rw [hl]
    exact decide_eq_decide.2 ⟨fun e => ⟨h1, h2, h3, h4, h5, e⟩, fun e => e.2.2.2.2.2⟩
  · refine (refExtends_no b m h g s w hm wm hyes).mono ?_
    rintro e w' ⟨rfl, rfl⟩
    refine ⟨?_, Below.refl _ _⟩
    congr 2
    unfold extB
    rw [hl]
    exact (decide_eq_false (fun e => hyes ⟨e.1, e.2.1, e.2.2.1, e.2.2.2.1, e.2.2.2.2.1⟩)).symm
end Go.Proofs.YtepehjalpkfniaaDoor
