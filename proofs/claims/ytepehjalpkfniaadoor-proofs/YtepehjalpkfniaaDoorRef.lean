/-
  OWN. The document's answers on sums (daybookref), walked: Bytes, Sum, half, Deep. No project text.
-/
import Derived.Test.YtepehjalpkfniaaDoorKeep
namespace Go.Proofs.YtepehjalpkfniaaDoor
open Go.RowKit

set_option maxHeartbeats 1000000 in
theorem refHalf_any (n : Nat) (w : World) (h2 : 2 ≤ n) (hn : n ≤ 140737488355328) :
    Calls Tryd.prog 33 #[.int .i64 (n : Int)] w fun e w' => e = .returned (.int .i64 (half n : Int)) ∧ w' = w := by
  go_enter Tryd.func33, Tryd.ntmps33
  go_wp2
  go_loop [3] (fun i => ∃ k f : Nat, i = .int .i64 k ∧ 1 ≤ k ∧ k < n ∧ n ≤ k + f ∧ half n = halfF f n k) (fun i => n - (intOf i).toNat)
  case atStart => exact ⟨1, n, rfl, by omega, by omega, by omega, rfl⟩
  case round =>
    obtain ⟨k, f, rfl, hk1, hk2, hf, hfin⟩ := hrel
    have HF : Hid (half n = halfF f n k) := hfin
    clear hfin
    by_cases hlt : 2 * k < n
    · go_wp2
      go_round
      case rel => exact ⟨2 * k, f - 1, by go_num, by omega, hlt, by omega, by rw [HF.out]; conv => lhs; rw [show f = f - 1 + 1 by omega]; simp only [halfF]; rw [if_pos hlt]⟩
      case measure => simp [intOf]; omega
    · have hfin : half n = k := by
        rw [HF.out]
        cases f with
        | zero => rfl
        | succ f => simp only [halfF]; rw [if_neg hlt]
      clear HF
      have HE : Hid (half n = k) := hfin
      clear hfin
      go_wp2
      go_ret
      exact ⟨ret_int (by rw [HE.out]), rfl⟩

set_option maxHeartbeats 1000000 in
theorem refDeep_any (i n : Nat) (w : World) (hi : i < n) (hn : n ≤ 8796093022208) :
    Calls Tryd.prog 18 #[.int .i64 (i : Int), .int .i64 (n : Int)] w fun e w' => e = .returned (.int .i64 (deep i n : Int)) ∧ w' = w := by
  obtain ⟨d, hd⟩ : ∃ d, deep i n = d := ⟨_, rfl⟩
  rw [hd]
  have HD := hide hd
  clear hd
  go_enter Tryd.func18, Tryd.ntmps18
  go_wp2
  go_loop [0, 1, 5] (fun a b c => ∃ i' n' c' : Nat, a = .int .i64 i' ∧ b = .int .i64 n' ∧ c = .int .i64 c' ∧ i' < n' ∧ n' + c' ≤ n ∧ Hid (c' + deep i' n' = d)) (fun _ b _ => (intOf b).toNat)
  case atStart => exact ⟨i, n, 0, rfl, rfl, rfl, hi, by omega, by show _ = _; rw [HD.out]; omega⟩
  case round =>
    obtain ⟨i', n', c', rfl, rfl, rfl, hi', hn', hd'⟩ := hrel
    clear HD
    by_cases h1 : 1 < n'
    · have hh := half_lt n' (by omega)
      have hp := half_pos n' (by omega)
      have hsp := hide (fun W => refHalf_any n' W (by omega) (by omega))
      by_cases hlt : i' < half n'
      · have hd2 : Hid (c' + 1 + deep i' (half n') = d) := by
          show _ = _
          rw [← hd'.out, deep_left _ _ (by omega) hlt]; omega
        generalize half n' = q at *
        go_wp2_with fail
        refine (hsp.out _).mono ?_
        rintro e w' ⟨rfl, rfl⟩
        go_wp2
        go_round
        case rel => exact ⟨i', q, c' + 1, rfl, rfl, by go_num, hlt, by omega, hd2⟩
        case measure => simp [intOf]; omega
      · have hd2 : Hid (c' + 1 + deep (i' - half n') (n' - half n') = d) := by
          show _ = _
          rw [← hd'.out, deep_right _ _ (by omega) hlt]; omega
        generalize half n' = q at *
        go_wp2_with fail
        refine (hsp.out _).mono ?_
        rintro e w' ⟨rfl, rfl⟩
        go_wp2
        go_round
        case rel => exact ⟨i' - q, n' - q, c' + 1, by go_num, by go_num, by go_num, by omega, by omega, hd2⟩
        case measure => simp [intOf]; omega
    · have hd2 : Hid (c' = d) := by
        show _ = _
        rw [← hd'.out, deep_one _ _ (by omega)]; rfl
      go_wp2
      go_ret
      exact ⟨ret_int (by rw [hd2.out]), rfl⟩

/-- One byte made a text. -/
theorem conv_one (w : World) (n : Nat) (c : UInt8) (hn : n = w.heap.size) : (convert 37 9 (.slice (some ⟨n, 0, none⟩) 1 1)).run Tryd.prog (w.alloc (.cells #[.int .u8 (c.toNat : Int)] 5)) = .ok (.string ⟨#[c]⟩) (w.alloc (.cells #[.int .u8 (c.toNat : Int)] 5)) := by
  subst hn
  have := run_convert_bytes_back (P := Tryd.prog) (w.alloc (.cells #[.int .u8 (c.toNat : Int)] 5)) 37 9 5 ⟨w.heap.size, 0, none⟩ 1 [c] Tryd.underlying37 Tryd.underlying5 Tryd.underlying9 (by
    intro j hj
    match j, hj with
    | 0, _ => simp [Addr.add])
  exact this
/-- The last so many of four bytes. -/
def tailB (h k : Nat) : List UInt8 := (bs (hsh h)).drop (4 - k)
theorem pow_next (h k : Nat) : h / 256 ^ k / 256 = h / 256 ^ (k + 1) := by rw [Nat.pow_succ, Nat.div_div_eq_div_mul]
theorem tail_next (h k : Nat) (hk : k < 4) : tailB h (k + 1) = UInt8.ofNat (h / 256 ^ k) :: tailB h k := by
  match k, hk with
  | 0, _ => simp [tailB, bs, hsh]
  | 1, _ => simp [tailB, bs, hsh]
  | 2, _ => simp [tailB, bs, hsh]
  | 3, _ => simp [tailB, bs, hsh]

set_option maxRecDepth 100000 in
set_option maxHeartbeats 1000000 in
theorem refBytes_any (h : Nat) (w : World) (hh : h < 4294967296) :
    Calls Tryd.prog 39 #[.int .u64 (h : Int), .int .i64 4] w fun e w' => e = .returned (str (bs (hsh h))) ∧ Below w.heap.size w w' := by
  obtain ⟨z, hz⟩ : ∃ z, bs (hsh h) = z := ⟨_, rfl⟩
  rw [hz]
  have HZ : Hid (tailB h 4 = z) := by show _ = _; rw [← hz]; rfl
  clear hz
  unfold str
  go_enter Tryd.func39, Tryd.ntmps39
  go_wp2
  go_loopw [0, 5, 6] (fun v s i wr => ∃ k q : Nat, k ≤ 4 ∧ Hid (q = h / 256 ^ k) ∧ q < 4294967296 ∧ v = .int .u64 (q : Int) ∧ i = .int .i64 k ∧ s = .string ⟨(tailB h k).toArray⟩ ∧ Below w.heap.size w wr) (fun _ _ i _ => 4 - (intOf i).toNat)
  case atStart => exact ⟨0, h, by omega, by show _ = _; simp, hh, rfl, rfl, by simp [tailB, bs], Below.refl _ _⟩
  case round =>
    obtain ⟨k, q, hk, hq, hqb, rfl, rfl, rfl, hbel⟩ := hrel
    have hzw := hbel.size
    by_cases hlt : k < 4
    · have hnx := tail_next h k hlt
      rw [← hq.out] at hnx
      have hq2 : Hid (q / 256 = h / 256 ^ (k + 1)) := by show _ = _; rw [hq.out, pow_next]
      have hl : (tailB h k).length ≤ 4 := by unfold tailB; simp [bs]
      have hc : ((UInt8.ofNat q).toNat : Int) = (q : Int) % 256 := by rw [UInt8.toNat_ofNat']; omega
      have hcv := conv_one wr wr.heap.size (UInt8.ofNat q) rfl
      rw [hc] at hcv
      have HX := hide hnx
      generalize tailB h k = s at *
      generalize UInt8.ofNat q = c at *
      have HB := hide hbel
      clear hnx hbel hc
      go_wp2
      go_roundw
      case rel =>
        refine ⟨k + 1, q / 256, by omega, hq2, by omega, by go_num, by go_num, ?_, HB.out.alloc hzw _⟩
        rw [HX.out]
        exact congrArg Value.string (str_app [c] s)
      case measure => simp [intOf]; omega
    · have hk4 : k = 4 := by omega
      have HE : Hid (tailB h k = z) := by show _ = _; rw [hk4]; exact HZ.out
      have HB := hide hbel
      clear hbel hk4
      go_wp2
      go_ret
      exact ⟨by rw [← HE.out]; rfl, HB.out⟩

theorem take_bytes (s : ByteArray) (k : Nat) (h : k < s.size) : s.data.toList.take (k + 1) = s.data.toList.take k ++ [s[k]] := by
  rw [List.take_succ_eq_append_getElem (by simpa using h)]; rfl

set_option maxHeartbeats 1000000 in
theorem refSum_any (s : ByteArray) (l : List UInt8) (w : World) (hs : s.data.toList = l) (hm : s.size ≤ 140737488355328) :
    Calls Tryd.prog 32 #[.string s] w fun e w' => e = .returned (str (bs (sumL l))) ∧ Below w.heap.size w w' := by
  subst hs
  have hfin : addN 5381 s.data.toList < 4294967291 := addN_lt _ _ (by decide)
  have HB := hide (fun W => refBytes_any (addN 5381 s.data.toList) W (Nat.lt_trans hfin (by decide)))
  obtain ⟨z, hz⟩ : ∃ z, str (bs (sumL s.data.toList)) = z := ⟨_, rfl⟩
  rw [hz]
  rw [show hsh (addN 5381 s.data.toList) = sumL s.data.toList from rfl, hz] at HB
  clear hz
  obtain ⟨hN, hhN⟩ : ∃ hN, addN 5381 s.data.toList = hN := ⟨_, rfl⟩
  rw [hhN] at HB hfin
  have HN := hide hhN
  clear hhN
  go_enter Tryd.func32, Tryd.ntmps32
  go_wp2
  go_loop [3, 4] (fun h i => ∃ k : Nat, k ≤ s.size ∧ i = .int .i64 k ∧ h = .int .u64 (addN 5381 (s.data.toList.take k) : Int)) (fun _ i => s.size - (intOf i).toNat)
  case atStart => exact ⟨0, Nat.zero_le _, rfl, rfl⟩
  case round =>
    obtain ⟨k, hk, rfl, rfl⟩ := hrel
    have hs0 := addN_lt 5381 (s.data.toList.take k) (by decide)
    by_cases hlt : k < s.size
    · have HS : Hid (addN 5381 (s.data.toList.take (k + 1)) = addB (addN 5381 (s.data.toList.take k)) s[k]) := by
        show _ = _
        rw [take_bytes s k hlt, addN_snoc]
      have hcr := B_range s[k]
      generalize addN 5381 (s.data.toList.take k) = q at *
      go_wp2
      go_round
      case rel => exact ⟨k + 1, by omega, by go_num, by rw [HS.out, addB_int]⟩
      case measure => simp [intOf]; omega
    · have hall : s.data.toList.take k = s.data.toList := List.take_of_length_le (by rw [Array.length_toList]; show s.size ≤ k; omega)
      rw [hall, HN.out]
      clear hall HN hs0
      go_wp2_with fail
      refine (HB.out _).mono ?_
      rintro e w1 ⟨rfl, hb1⟩
      have HB1 := hide hb1
      clear hb1
      go_wp2
      go_ret
      exact ⟨rfl, HB1.out⟩
end Go.Proofs.YtepehjalpkfniaaDoor
