/-
  OWN. The document's reading of bytes (daybookref: Number, the cursor), walked. No project text.
-/
import Derived.Test.YtepehjalpkfniaaDoorChain
import Derived.Test.YtepehjalpkfniaaDoorLent
namespace Go.Proofs.YtepehjalpkfniaaDoor
open Go.RowKit

set_option maxHeartbeats 1000000 in
theorem refNumber_any (s : ByteArray) (l : List UInt8) (w : World) (hs : s.data.toList = l) (hm : s.size ≤ 4) :
    Calls Tryd.prog 53 #[.string s] w fun e w' => e = .returned (.int .u64 (numL l : Int)) ∧ w = w' := by
  subst hs
  obtain ⟨hN, hhN⟩ : ∃ hN, numL s.data.toList = hN := ⟨_, rfl⟩
  rw [hhN]
  have HN := hide hhN
  clear hhN
  go_enter Tryd.func53, Tryd.ntmps53
  go_wp2
  go_loop [3, 4] (fun v i => ∃ k : Nat, k ≤ s.size ∧ i = .int .i64 k ∧ v = .int .u64 (numL (s.data.toList.take k) : Int)) (fun _ i => s.size - (intOf i).toNat)
  case atStart => exact ⟨0, Nat.zero_le _, rfl, rfl⟩
  case round =>
    obtain ⟨k, hk, rfl, rfl⟩ := hrel
    have hb : numL (s.data.toList.take k) < 4294967296 := by
      have := numL_lt (s.data.toList.take k)
      exact Nat.lt_of_lt_of_le this (Nat.le_trans (Nat.pow_le_pow_right (by decide) (show (s.data.toList.take k).length ≤ 4 by rw [List.length_take]; omega)) (by decide))
    by_cases hlt : k < s.size
    · have HS : Hid (numL (s.data.toList.take (k + 1)) = 256 * numL (s.data.toList.take k) + s[k].toNat) := by
        show _ = _
        rw [take_bytes s k hlt, numL_snoc]
      have hcr := B_range s[k]
      generalize numL (s.data.toList.take k) = q at *
      go_wp2
      go_round
      case rel => exact ⟨k + 1, by omega, by go_num, by rw [HS.out]; congr 1⟩
      case measure => simp [intOf]; omega
    · have hall : s.data.toList.take k = s.data.toList := List.take_of_length_le (by rw [Array.length_toList]; show s.size ≤ k; omega)
      rw [hall, HN.out]
      clear hall HN hb
      go_wp2
      go_ret
      exact ⟨rfl, rfl⟩

/-- A text that is being taken apart: what is left of it, and whether there was too little. -/
def Cur (w : World) (r : Nat) (s : ByteArray) (bad : Bool) : Prop :=
  w.cell? ⟨r, 0, none⟩ = some (.string s) ∧ w.cell? ⟨r, 1, none⟩ = some (.bool bad) ∧ ∀ o, w.frozen? ⟨r, o, none⟩ = false
theorem Cur.below {w w' : World} {r n : Nat} {s : ByteArray} {bad : Bool} (h : Cur w r s bad) (hb : Below n w w') (hr : r < n) : Cur w' r s bad := by
  obtain ⟨h0, h1, hf⟩ := h
  exact ⟨(hb.cell (p := ⟨r, 0, none⟩) hr).trans h0, (hb.cell (p := ⟨r, 1, none⟩) hr).trans h1, fun o => (hb.frozen (p := ⟨r, o, none⟩) hr).trans (hf o)⟩
theorem Cur.lt {w : World} {r : Nat} {s : ByteArray} {bad : Bool} (h : Cur w r s bad) : r < w.heap.size := cell_lt h.1
theorem Cur.set0 {w : World} {r : Nat} {s : ByteArray} {bad : Bool} (h : Cur w r s bad) (t : ByteArray) : Cur (w.setCell ⟨r, 0, none⟩ (.string t)) r t bad := by
  obtain ⟨h0, h1, hf⟩ := h
  refine ⟨World.cell?_setCell_same _ _ _ h0, ?_, fun o => ?_⟩
  · rw [World.cell?_setCell_other _ _ _ _ (by simp)]; exact h1
  · rw [World.frozen?_setCell]; exact hf o
theorem Cur.set1 {w : World} {r : Nat} {s : ByteArray} {bad : Bool} (h : Cur w r s bad) (t : Bool) : Cur (w.setCell ⟨r, 1, none⟩ (.bool t)) r s t := by
  obtain ⟨h0, h1, hf⟩ := h
  refine ⟨?_, World.cell?_setCell_same _ _ _ h1, fun o => ?_⟩
  · rw [World.cell?_setCell_other _ _ _ _ (by simp)]; exact h0
  · rw [World.frozen?_setCell]; exact hf o
def CurL (w : World) (r : Nat) (c : List UInt8 × Bool) : Prop := ∃ s : ByteArray, s.data.toList = c.1 ∧ Cur w r s c.2
theorem CurL.below {w w' : World} {r n : Nat} {c : List UInt8 × Bool} (h : CurL w r c) (hb : Below n w w') (hr : r < n) : CurL w' r c := by
  obtain ⟨s, e, h⟩ := h
  exact ⟨s, e, h.below hb hr⟩

set_option maxHeartbeats 1000000 in
theorem take_ok (r n : Nat) (s : ByteArray) (bad : Bool) (w : World) (hc : Cur w r s bad) (hn : n ≤ s.size) :
    Calls Tryd.prog 41 #[.pointer (some ⟨r, 0, none⟩), .int .i64 (n : Int)] w fun e w' => e = .returned (.string (s.extract 0 n)) ∧ Cur w' r (s.extract n s.size) bad ∧ Below r w w' := by
  have HC := hide hc
  obtain ⟨c0, c1, cf⟩ := hc
  go_enter Tryd.func41, Tryd.ntmps41
  go_wp2
  go_ret
  exact ⟨rfl, HC.out.set0 _, Below.setCell (Below.refl r w) (p := ⟨r, 0, none⟩) (Nat.le_refl r) _⟩

set_option maxRecDepth 100000 in
set_option maxHeartbeats 1000000 in
theorem take_few (r n : Nat) (s : ByteArray) (bad : Bool) (w : World) (hc : Cur w r s bad) (hn : s.size < n) (hn2 : n ≤ 1048576) :
    Calls Tryd.prog 41 #[.pointer (some ⟨r, 0, none⟩), .int .i64 (n : Int)] w fun e w' => e = .returned (str (List.replicate n 0)) ∧ Cur w' r s true ∧ Below r w w' := by
  have HC := hide hc
  have hlt := hc.lt
  obtain ⟨c0, c1, cf⟩ := hc
  obtain ⟨i0, hi0, hz0, hz1, hz2⟩ := info_parts info5
  unfold str
  go_enter Tryd.func41, Tryd.ntmps41
  go_wp2_with (at_make; refine wpList_make_full _ rfl _ _ 37 rfl w.heap.size 5 i0 (.int .u8 0) 1 Tryd.underlying37 hi0 hz0 hz1 .i64 .i64 _ _ n rfl rfl ?m1 ?m2 ?m3 ?m4 ?m5 ?_)
  case m1 => omega
  case m2 => omega
  case m3 => rw [hz2]; omega
  case m4 => unfold maxLen; omega
  case m5 => simp [World.setCell]
  intro w1 hown hgrow
  have hcells : ∀ j, j < n → w1.cell? ⟨w.heap.size, j, none⟩ = some (.int .u8 0) := by
    rcases hown.2 with ⟨e, _⟩ | ⟨g, cap, cur, e, _, hh, _, _, hcs, htk⟩
    · simp at e
    · simp only [Value.slice.injEq, Option.some.injEq, Addr.mk.injEq] at e
      obtain ⟨⟨rfl, _⟩, _, rfl⟩ := e
      intro j hj
      rw [cell_of_row w1 w.heap.size j cur _ _ hh]
      have h1 : (cur.toList.take (n * 1))[j]? = some (.int .u8 0) := by
        rw [htk, toList_madeCells_one, List.getElem?_replicate, if_pos hj]
      rw [List.getElem?_take_of_lt (by omega), Array.getElem?_toList] at h1
      exact h1
  have hcv := run_convert_bytes_back (P := Tryd.prog) w1 37 9 5 ⟨w.heap.size, 0, none⟩ n (List.replicate n 0) Tryd.underlying37 Tryd.underlying5 Tryd.underlying9 (by
    intro j hj
    rw [List.length_replicate] at hj
    rw [add0, hcells j hj]
    simp)
  rw [List.length_replicate] at hcv
  have HW : Hid (Cur w1 r s true ∧ Below r w w1) := by
    have hb : Below w.heap.size (w.setCell ⟨r, 1, none⟩ (.bool true)) w1 := Below.grown (Below.refl _ _) hgrow (by simp [World.setCell]) (fun k h => by cases h)
    exact ⟨(HC.out.set1 true).below hb hlt, (Below.setCell (Below.refl r w) (p := ⟨r, 1, none⟩) (Nat.le_refl r) _).trans (hb.mono (Nat.le_of_lt hlt))⟩
  clear hown hgrow hcells c0 c1 cf HC
  go_wp2
  go_ret
  exact ⟨rfl, HW.out.1, HW.out.2⟩

theorem take_any (r n : Nat) (c : List UInt8 × Bool) (w : World) (hc : CurL w r c) (hn : n ≤ 1048576) :
    Calls Tryd.prog 41 #[.pointer (some ⟨r, 0, none⟩), .int .i64 (n : Int)] w fun e w' => e = .returned (str (tkL n c).1) ∧ CurL w' r (tkL n c).2 ∧ Below r w w' := by
  obtain ⟨s, hs, hcur⟩ := hc
  have hsz : s.size = c.1.length := by rw [← hs, Array.length_toList]; rfl
  by_cases h : n ≤ s.size
  · have e1 : (tkL n c) = (c.1.take n, (c.1.drop n, c.2)) := by unfold tkL; rw [if_pos (by omega)]
    rw [e1]
    refine (take_ok r n s c.2 w hcur h).mono ?_
    rintro e w' ⟨rfl, hc', hb⟩
    refine ⟨?_, ⟨_, ?_, hc'⟩, hb⟩
    · unfold str
      congr 2
      apply ByteArray.ext
      apply Array.toList_inj.1
      rw [Lib.extract_data, hs]
      simp
    · rw [Lib.extract_data, hs, hsz]
      simp only
      exact List.take_of_length_le (by rw [List.length_drop]; exact Nat.le_refl _)
  · have e1 : (tkL n c) = (List.replicate n 0, (c.1, true)) := by unfold tkL; rw [if_neg (by omega)]
    rw [e1]
    refine (take_few r n s c.2 w hcur (by omega) hn).mono ?_
    rintro e w' ⟨rfl, hc', hb⟩
    exact ⟨rfl, ⟨s, hs, hc'⟩, hb⟩

set_option maxHeartbeats 1000000 in
theorem num_any (r k : Nat) (c : List UInt8 × Bool) (w : World) (hc : CurL w r c) (hk : k ≤ 4) :
    Calls Tryd.prog 40 #[.pointer (some ⟨r, 0, none⟩), .int .i64 (k : Int)] w fun e w' => e = .returned (.int .i64 (numL (tkL k c).1 : Int)) ∧ CurL w' r (tkL k c).2 ∧ Below r w w' := by
  have HT := hide (take_any r k c w hc (by omega))
  have hl := tkL_len k c
  have hb : numL (tkL k c).1 < 4294967296 := by
    have := numL_lt (tkL k c).1
    rw [hl] at this
    exact Nat.lt_of_lt_of_le this (Nat.le_trans (Nat.pow_le_pow_right (by decide) hk) (by decide))
  have HN := hide (fun W => refNumber_any ⟨(tkL k c).1.toArray⟩ (tkL k c).1 W (by simp) (by rw [size_str, hl]; exact hk))
  generalize tkL k c = q at *
  obtain ⟨q1, q2⟩ := q
  simp only at *
  generalize numL q1 = v at *
  unfold str at *
  clear hc hl
  go_enter Tryd.func40, Tryd.ntmps40
  go_wp2_with fail
  refine HT.out.mono ?_
  rintro e w1 ⟨rfl, hc1, hb1⟩
  have HC1 := hide hc1
  have HB1 := hide hb1
  clear hc1 hb1
  go_wp2_with fail
  refine (HN.out _).mono ?_
  rintro e w2 ⟨rfl, rfl⟩
  go_wp2
  go_ret
  exact ⟨rfl, HC1.out, HB1.out⟩
end Go.Proofs.YtepehjalpkfniaaDoor
