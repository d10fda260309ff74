/-
  OWN. plain's text and hash, sums' height, the statement's fine and pick: walked. No project text.
-/
import Derived.Test.YtepehjalpkfniaaDoorRootW
import Derived.Laws.CopyOwn
import Derived.Laws.IdiomStrings
import Derived.Lib.LazyBuf
namespace Go.Proofs.YtepehjalpkfniaaDoor
open Go.RowKit

set_option maxHeartbeats 1000000 in
theorem text_any (x : H4) (w : World) :
    Calls Tryd.prog 29 #[hv x] w fun e w' => e = .returned (.string ⟨(bs x).toArray⟩) ∧ Below w.heap.size w w' := by
  obtain ⟨x0, x1, x2, x3⟩ := x
  have hcv := run_convert_bytes_back (P := Tryd.prog) (w.alloc (.cells #[.int .u8 x0.toNat, .int .u8 x1.toNat, .int .u8 x2.toNat, .int .u8 x3.toNat] 62)) 37 9 5 ⟨w.heap.size, 0, none⟩ 4 [x0, x1, x2, x3] Tryd.underlying37 Tryd.underlying5 Tryd.underlying9 (by
    intro j hj
    match j, hj with
    | 0, _ => simp [Addr.add]
    | 1, _ => simp [Addr.add]
    | 2, _ => simp [Addr.add]
    | 3, _ => simp [Addr.add])
  simp only [List.length_cons, List.length_nil, Nat.zero_add, Nat.reduceAdd] at hcv
  simp only [hv, B, bs]
  go_enter Tryd.func29, Tryd.ntmps29
  go_wp2
  go_ret
  exact ⟨rfl, (Below.refl _ _).alloc (Nat.le_refl _) _⟩

set_option maxHeartbeats 1000000 in
theorem height_any (i n : Nat) (w : World) (hi : i < n) (hn : n ≤ 8796093022208) :
    Calls Tryd.prog 49 #[.int .i64 (i : Int), .int .i64 (n : Int)] w fun e w' => e = .returned (.int .i64 (deep i n : Int)) ∧ w' = w := by
  obtain ⟨d, hd⟩ : ∃ d, deep i n = d := ⟨_, rfl⟩
  rw [hd]
  have HD := hide hd
  clear hd
  go_enter Tryd.func49, Tryd.ntmps49
  go_wp2
  go_loop [0, 1, 5] (fun a b c => ∃ i' n' c' : Nat, a = .int .i64 i' ∧ b = .int .i64 n' ∧ c = .int .i64 c' ∧ i' < n' ∧ n' + c' ≤ n ∧ Hid (c' + deep i' n' = d)) (fun _ b _ => (intOf b).toNat)
  case atStart => exact ⟨i, n, 0, rfl, rfl, rfl, hi, by omega, by show _ = _; rw [HD.out]; omega⟩
  case round =>
    obtain ⟨i', n', c', rfl, rfl, rfl, hi', hn', hd'⟩ := hrel
    clear HD
    by_cases h1 : 1 < n'
    · have hh := half_lt n' (by omega)
      have hp := half_pos n' (by omega)
      have hsp := hide (fun W => split_any n' W (by omega) (by omega))
      by_cases hlt : i' < half n'
      · have hd2 : Hid (c' + 1 + deep i' (half n') = d) := by
          show _ = _
          rw [← hd'.out, deep_left _ _ (by omega) hlt]; omega
        generalize half n' = q at *
        go_wp2_with fail
        refine (hsp.out _).mono ?_
        rintro e w' ⟨rfl, rfl⟩
        go_wp2
        go_round
        case rel => exact ⟨i', q, c' + 1, rfl, rfl, by go_num, hlt, by omega, hd2⟩
        case measure => simp [intOf]; omega
      · have hd2 : Hid (c' + 1 + deep (i' - half n') (n' - half n') = d) := by
          show _ = _
          rw [← hd'.out, deep_right _ _ (by omega) hlt]; omega
        generalize half n' = q at *
        go_wp2_with fail
        refine (hsp.out _).mono ?_
        rintro e w' ⟨rfl, rfl⟩
        go_wp2
        go_round
        case rel => exact ⟨i' - q, n' - q, c' + 1, by go_num, by go_num, by go_num, by omega, by omega, hd2⟩
        case measure => simp [intOf]; omega
    · have hd2 : Hid (c' = d) := by
        show _ = _
        rw [← hd'.out, deep_one _ _ (by omega)]; rfl
      go_wp2
      go_ret
      exact ⟨ret_int (by rw [hd2.out]), rfl⟩

/-- copy into four bytes, out of a text of four or more. -/
theorem run_copy4 (w : World) (b : Nat) (s : ByteArray) (l : List UInt8) (x0 x1 x2 x3 : UInt8) (t : TypeId) (hs : s.data.toList = x0 :: x1 :: x2 :: x3 :: l) (hb : b = w.heap.size) :
    (Builtin.copy_ #[37, 9] 3 #[.slice (some ⟨b, 0, none⟩) 4 4, .string s]).run Tryd.prog (w.alloc (.cells #[.int .u8 0, .int .u8 0, .int .u8 0, .int .u8 0] t))
      = .ok (goInt 4) (w.alloc (.cells #[.int .u8 x0.toNat, .int .u8 x1.toNat, .int .u8 x2.toNat, .int .u8 x3.toNat] t)) := by
  subst hb
  have hz : ∀ w, (Go.sizeOf 5).run Tryd.prog w = .ok 1 w := fun w => by kernel_rfl
  have hsz : s.size = l.length + 4 := by
    have := congrArg List.length hs
    rw [Array.length_toList] at this
    simp only [List.length_cons] at this
    exact this
  have hmin : Nat.min s.size 4 = 4 := Nat.min_eq_right (by omega)
  have hst := run_storeCells_cells (P := Tryd.prog) w.heap.size 0 [.int .u8 x0.toNat, .int .u8 x1.toNat, .int .u8 x2.toNat, .int .u8 x3.toNat] 0 (w.alloc (.cells #[.int .u8 0, .int .u8 0, .int .u8 0, .int .u8 0] t))
    (by
      intro j hj
      match j, hj with
      | 0, _ => simp
      | 1, _ => simp
      | 2, _ => simp
      | 3, _ => simp) (by intro j _; simp) (by
      intro v hv
      simp only [List.mem_cons, List.not_mem_nil, or_false] at hv
      rcases hv with rfl | rfl | rfl | rfl <;> rfl)
  simp [Builtin.copy_, run_underlying Tryd.underlying37, Builtin.lenOf, Builtin.firstCells, hz, hmin, hs]
  rw [hst]
  simp [World.setCells, Result.andThen, World.setCell_alloc_at]

set_option maxHeartbeats 1000000 in
theorem hash_text (s : ByteArray) (l : List UInt8) (a b c d : UInt8) (w : World) (hs : s.data.toList = a :: b :: c :: d :: l) :
    Calls Tryd.prog 35 #[.string s] w fun e w' => e = .returned (hv (a, b, c, d)) ∧ Below w.heap.size w w' := by
  have hcp := run_copy4 (w.alloc (.cells #[.int .u8 0, .int .u8 0, .int .u8 0, .int .u8 0] 62)) (w.heap.size + 1) s l a b c d 62 hs (by simp)
  have HS := hide hs
  clear hs
  simp only [hv, B]
  go_enter Tryd.func35, Tryd.ntmps35
  go_wp2
  refine bodyPost_ret (v := .agg #[.int .u8 a.toNat, .int .u8 b.toNat, .int .u8 c.toNat, .int .u8 d.toNat]) (by simp [results, Tryd.results35, go_sem]) rfl ⟨rfl, ?_⟩
  repeat (first | exact Below.refl _ _ | refine Below.setCell ?_ (by simp) _ | refine Below.alloc ?_ (by simp) _)
end Go.Proofs.YtepehjalpkfniaaDoor
