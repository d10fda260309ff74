/-
  OWN. A text that is taken apart (chain: parts), walked: hash. No project text.
-/
import Derived.Test.YtepehjalpkfniaaDoorParts
import Derived.Deep.RegionHeld3
import Derived.Laws.CopyOwn
namespace Go.Proofs.YtepehjalpkfniaaDoor
open Go.RowKit

/-- A number that is small is read as it is. -/
theorem number_small (r b k : Nat) (c : List UInt8 × Bool) (w : World) (hc : Prt w r b c) (hk : k ≤ 4) :
    Calls Tryd.prog 71 #[.pointer (some ⟨r, 0, none⟩), .int .i64 (k : Int)] w fun e w' => e = .returned (.int .i64 (numL (c.1.take k) : Int)) ∧ Prt w' r b (nx k c) ∧ But r w.heap.size w w' ∧ w'.heap.size = w.heap.size := by
  refine (number_any r b k c w hc (by omega)).mono ?_
  rintro e w' ⟨rfl, h⟩
  have hlt := numL_take_lt k c.1
  have hlt2 : numL (c.1.take k) < 4294967296 := Nat.lt_of_lt_of_le hlt (Nat.le_trans (Nat.pow_le_pow_right (by decide) hk) (by decide))
  rw [show wrap64 (numL (c.1.take k) : Int) = (numL (c.1.take k) : Int) by unfold wrap64; omega]
  exact ⟨rfl, h⟩

/-- The first four bytes of a text, noughts behind. -/
def pad4 (l : List UInt8) : H4 := (l.getD 0 0, l.getD 1 0, l.getD 2 0, l.getD 3 0)
theorem splice_pad (t : List UInt8) (h : t.length ≤ 4) : splice [Value.int .u8 0, .int .u8 0, .int .u8 0, .int .u8 0] 0 (t.map B) = [B (pad4 t).1, B (pad4 t).2.1, B (pad4 t).2.2.1, B (pad4 t).2.2.2] := by
  match t, h with
  | [], _ => rfl
  | [a], _ => rfl
  | [a, b], _ => rfl
  | [a, b, c], _ => rfl
  | [a, b, c, d], _ => rfl
theorem info_u8s : (Tryd.prog.info? 5).map (·.size) = some 1 := by kernel_rfl
theorem InB.src {w : World} {b off : Nat} {l : List UInt8} (h : InB w b off l) : ∀ (j : Nat) (v : Value), (l.map B)[j]? = some v → w.cell? ((⟨b, off, none⟩ : Addr).add j) = some v := by
  intro j v hj
  rw [List.getElem?_map] at hj
  have hlt : j < l.length := by
    rcases Nat.lt_or_ge j l.length with h' | h'
    · exact h'
    · simp [List.getElem?_eq_none h'] at hj
  rw [show (⟨b, off, none⟩ : Addr).add j = ⟨b, off + j, none⟩ by unfold Addr.add; split <;> simp_all, h.2 j hlt]
  simp [hlt] at hj
  rw [← hj]
  simp [hlt]
theorem oneB (l : List UInt8) : ∀ v ∈ l.map B, v.oneCell' = true := by
  intro v hv
  obtain ⟨c, _, rfl⟩ := List.mem_map.1 hv
  rfl
theorem heap_alloc2 (w : World) (o o2 : Obj) : ((w.alloc o).alloc o2).heap[w.heap.size + 1]? = some o2 := by
  show ((w.heap.push o).push o2)[w.heap.size + 1]? = some o2
  rw [Array.getElem?_push]; simp

theorem Slot4.but {w w' : World} {r q n : Nat} {a b c d : Value} (h : Slot4 w q a b c d) (hb : But r n w w') (hq : q < n) (hr : q ≠ r) : Slot4 w' q a b c d := by
  obtain ⟨h0, h1, h2, h3, hf⟩ := h
  exact ⟨(hb.cell (p := ⟨q, 0, none⟩) hq hr).trans h0, (hb.cell (p := ⟨q, 1, none⟩) hq hr).trans h1, (hb.cell (p := ⟨q, 2, none⟩) hq hr).trans h2, (hb.cell (p := ⟨q, 3, none⟩) hq hr).trans h3, fun o => (hb.frozen (p := ⟨q, o, none⟩) hq hr).trans (hf o)⟩
theorem set4_below (w : World) (q : Nat) (a b c d : Value) : Below q w ((((w.setCell ⟨q, 0, none⟩ a).setCell ⟨q, 1, none⟩ b).setCell ⟨q, 2, none⟩ c).setCell ⟨q, 3, none⟩ d) :=
  Below.setCell (p := ⟨q, 3, none⟩) (Below.setCell (p := ⟨q, 2, none⟩) (Below.setCell (p := ⟨q, 1, none⟩) (Below.setCell (p := ⟨q, 0, none⟩) (Below.refl q w) (Nat.le_refl q) _) (Nat.le_refl q) _) (Nat.le_refl q) _) (Nat.le_refl q) _
theorem Prt.drew {w : World} {r b : Nat} {c : List UInt8 × Bool} (h : Prt w r b c) : Prt w.drew r b c := h
set_option maxRecDepth 100000 in
set_option maxHeartbeats 2000000 in
theorem phash_any (r b : Nat) (c : List UInt8 × Bool) (w : World) (hc : Prt w r b c) (hbw : b < w.heap.size) :
    Calls Tryd.prog 72 #[.pointer (some ⟨r, 0, none⟩)] w fun e w' => e = .returned (hv (pad4 (c.1.take 4))) ∧ Prt w' r b (nx 4 c) ∧ But r w.heap.size w w' := by
  have hrw := hc.lt
  have HT := hide (fun W h => next_any r b 4 c W h (by omega))
  have htl : (c.1.take 4).length ≤ 4 := by rw [List.length_take]; omega
  have HSP := hide (splice_pad _ htl)
  have HC := hide hc
  generalize nx 4 c = c' at *
  generalize c.1.take 4 = t at *
  generalize pad4 t = x at *
  obtain ⟨x0, x1, x2, x3⟩ := x
  have HTL := hide htl
  clear hc htl
  simp only [hv]
  go_enter Tryd.func72, Tryd.ntmps72
  go_wp2_with fail
  obtain ⟨w0, hw0⟩ : ∃ w0, (w.alloc (.cells #[.int .u8 0, .int .u8 0, .int .u8 0, .int .u8 0] 62)).alloc (.cells #[.int .u8 0, .int .u8 0, .int .u8 0, .int .u8 0] 62) = w0 := ⟨_, rfl⟩
  have P0 : Hid (Prt w0 r b c) := by rw [← hw0]; exact HC.out.below (((Below.refl _ _).alloc (Nat.le_refl _) _).alloc (by simp) _) hrw hbw
  have B0 : Hid (Below w.heap.size w w0) := by rw [← hw0]; exact ((Below.refl _ _).alloc (Nat.le_refl _) _).alloc (by simp) _
  have G0 : Hid (w0.heap[w.heap.size + 1]? = some (.cells [Value.int .u8 0, .int .u8 0, .int .u8 0, .int .u8 0].toArray 62 (0, 0))) := by rw [← hw0]; exact heap_alloc2 _ _ _
  have S0 : Hid (Slot4 w0 w.heap.size (.int .u8 0) (.int .u8 0) (.int .u8 0) (.int .u8 0)) := by rw [← hw0]; exact (slot4_new w 62).alloc _
  have z0 : w0.heap.size = w.heap.size + 2 := by rw [← hw0]; simp
  rw [hw0]
  clear hw0 HC
  go_region_held3 (fun _ => True) (trivial) ((first
    | (go_at_call 74; refine (HT.out _ P0.out.drew).mono ?_; rintro e w1 ⟨off, rfl, hi1, hp1, hb1, hs1⟩; have I1 := hide hi1; have P1 := hide hp1; have B1 := hide (But.of_drew hb1); have z1 : w1.heap.size = w.heap.size + 2 := hs1.trans z0; have G1 := hide ((B1.out.block (w.heap.size + 1) (by show w.heap.size + 1 < w0.heap.size; omega) (by omega)).trans G0.out); clear hi1 hp1 hb1 hs1)
    | (refine step_copy_splice (by rfl) _ _ _ _ (by rfl) 5 Tryd.underlying37 info_u8s _ _ _ _ _ _ (by rfl) (by rfl) (w.heap.size + 1) 0 [Value.int .u8 0, .int .u8 0, .int .u8 0, .int .u8 0] 62 G1.out (t.map B) (by rw [List.length_map]; exact (Nat.min_eq_left HTL.out).symm) (fun _ => ⟨rfl, _, rfl, I1.out.src⟩) (by rw [List.length_map]; exact (Nat.zero_add _).symm ▸ HTL.out) (oneB t) (w.heap.size + 1) w1 (Below.refl _ _) (Nat.le_refl _) ?_; intro w2 G2 B2)))
  have e2 := G2.out
  rw [HSP.out] at e2
  have c0 : w2.cell? ⟨w.heap.size + 1, 0, none⟩ = some (B x0) := by rw [cell_of_row w2 _ 0 _ _ _ e2]; rfl
  have c1 : w2.cell? ⟨w.heap.size + 1, 1, none⟩ = some (B x1) := by rw [cell_of_row w2 _ 1 _ _ _ e2]; rfl
  have c2 : w2.cell? ⟨w.heap.size + 1, 2, none⟩ = some (B x2) := by rw [cell_of_row w2 _ 2 _ _ _ e2]; rfl
  have c3 : w2.cell? ⟨w.heap.size + 1, 3, none⟩ = some (B x3) := by rw [cell_of_row w2 _ 3 _ _ _ e2]; rfl
  have S1 : Hid (Slot4 w1 w.heap.size (.int .u8 0) (.int .u8 0) (.int .u8 0) (.int .u8 0)) := S0.out.but B1.out (by show w.heap.size < w0.heap.size; omega) (by omega)
  obtain ⟨s0, s1, s2, s3, sf⟩ := S1.out.below B2 (Nat.lt_succ_self _)
  have P2 : Hid (Prt w2 r b c') := P1.out.below B2 (by omega) (by omega)
  have BB : Hid (But r w.heap.size w w2) := ((But.of_below B0.out).trans (B1.out.mono (by show w.heap.size ≤ w0.heap.size; omega))).trans (But.of_below (B2.mono (by omega)))
  clear e2 G2 G1 G0 P1 P0 B0 B1 B2 HSP HT S0 S1 I1
  simp only [B] at *
  go_wp2
  refine bodyPost_ret (v := .agg #[.int .u8 x0.toNat, .int .u8 x1.toNat, .int .u8 x2.toNat, .int .u8 x3.toNat]) (by simp [results, Tryd.results72, go_sem, s0, s1, s2, s3]) rfl ⟨rfl, ?_, ?_⟩
  · exact P2.out.below (set4_below w2 w.heap.size _ _ _ _) hrw hbw
  · exact BB.out.trans (But.of_below (set4_below w2 w.heap.size _ _ _ _))
end Go.Proofs.YtepehjalpkfniaaDoor
