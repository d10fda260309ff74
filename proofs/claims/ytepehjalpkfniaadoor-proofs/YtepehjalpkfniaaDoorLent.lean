/-
  OWN. The statements' own helpers lent, stays, bare: walked. No project text.
-/
import Derived.Test.YtepehjalpkfniaaDoorRefC
import Derived.Lib.BufferWrite
namespace Go.Proofs.YtepehjalpkfniaaDoor
open Go.RowKit

/-- Bytes that are lent: a row of the caller's, with two marks behind them. -/
def LentAt (w : World) (u : Value) (l : List UInt8) (b : Nat) : Prop :=
  ∃ cs : Array Value, u = .slice (some ⟨b, 0, none⟩) l.length (l.length + 2) ∧ w.heap[b]? = some (.cells cs 5 (0, 0)) ∧ cs.size = l.length + 2 ∧ l.length ≤ 140737488351232 ∧
    (∀ j, j < l.length → cs[j]? = some (B (l.getD j 0))) ∧ cs[l.length]? = some (.int .u8 77) ∧ cs[l.length + 1]? = some (.int .u8 78)
theorem LentAt.byts {w : World} {u : Value} {l : List UInt8} {b : Nat} (h : LentAt w u l b) : Byts w u l := by
  obtain ⟨cs, e, hh, hsz, hl, hc, _⟩ := h
  refine ⟨_, l.length + 2, e, by omega, fun i hi => ⟨b, 0, rfl, (Array.getElem?_eq_some_iff.1 hh).1, ?_⟩⟩
  rw [Nat.zero_add, cell_of_row w b i cs _ (0, 0) hh]
  exact hc i hi
theorem LentAt.keep {w w' : World} {u : Value} {l : List UInt8} {b : Nat} (h : LentAt w u l b) (hb : w'.heap[b]? = w.heap[b]?) : LentAt w' u l b := by
  obtain ⟨cs, e, hh, rest⟩ := h
  exact ⟨cs, e, hb.trans hh, rest⟩
theorem info5 : (Tryd.prog.info? 5).map (fun i => (i.zero, i.size, i.bytes)) = some (some (.int .u8 0), 1, 1) := by kernel_rfl
theorem info5s : (Tryd.prog.info? 5).map (·.size) = some 1 := by kernel_rfl

theorem add0 (b j : Nat) : (⟨b, 0, none⟩ : Addr).add j = ⟨b, j, none⟩ := by unfold Addr.add; split <;> simp_all
/-- copy of a text into the row that was made for it. -/
theorem copy_any (w : World) (g : Nat) (s : ByteArray) (cur : Array Value) (hg : w.heap[g]? = some (.cells cur 5 (0, 0))) (hc : cur.size = s.size + 2) :
    ∃ W cs, (Builtin.copy_ #[37, 9] 3 #[.slice (some ⟨g, 0, none⟩) (s.size + 2) (s.size + 2), .string s]).run Tryd.prog w = .ok (goInt s.size) W ∧ W.heap[g]? = some (.cells cs 5 (0, 0)) ∧ cs.size = s.size + 2 ∧
      (∀ j, j < s.data.toList.length → cs[j]? = some (B (s.data.toList.getD j 0))) ∧ Below g w W ∧ W.heap.size = w.heap.size := by
  have h := Lib.run_copy_row_string (P := Tryd.prog) w 37 9 3 5 g 0 (s.size + 2) (s.size + 2) s cur 5 Tryd.underlying37 info5s hg (by omega) (by omega)
  have hsz : s.data.toList.length = s.size := by rw [Array.length_toList]; rfl
  have hbl : (Lib.byteCells s.data.toList).length = s.size := by rw [Lib.byteCells_length, hsz]
  refine ⟨_, _, h, setRow_heap w g cur _ _ _ hg, ?_, fun j hj => ?_, ?_, by simp [World.setRow]⟩
  · simp [hbl, hc]
  · rw [hsz] at hj
    simp only [List.take_zero, List.nil_append, List.getElem?_toArray]
    rw [List.getElem?_append_left (by rw [hbl]; exact hj)]
    unfold Lib.byteCells
    rw [List.getElem?_map, List.getD_eq_getElem?_getD, List.getElem?_eq_getElem (by rw [hsz]; exact hj)]
    rfl
  · exact ⟨rfl, rfl, rfl, by simp [World.setRow], fun k hk => setRow_other w g k _ (by omega)⟩

set_option maxRecDepth 100000 in
set_option maxHeartbeats 1000000 in
theorem lent_any (s : ByteArray) (l : List UInt8) (w : World) (hs : s.data.toList = l) (hm : s.size ≤ 140737488351232) :
    Calls Tryd.prog 15 #[.string s] w fun e w' => ∃ u, e = .returned u ∧ LentAt w' u l w.heap.size ∧ Below w.heap.size w w' := by
  subst hs
  have hsz : s.data.toList.length = s.size := by rw [Array.length_toList]; rfl
  obtain ⟨i0, hi0, hz0, hz1, hz2⟩ := info_parts info5
  have HSZ := hide hsz
  clear hsz
  go_enter Tryd.func15, Tryd.ntmps15
  go_wp2_with (at_make; refine wpList_make_full _ rfl _ _ 37 rfl w.heap.size 5 i0 (.int .u8 0) 1 Tryd.underlying37 hi0 hz0 hz1 .i64 .i64 _ _ (s.size + 2) rfl rfl ?m1 ?m2 ?m3 ?m4 ?m5 ?_)
  case m1 => omega
  case m2 => omega
  case m3 => rw [hz2]; omega
  case m4 => unfold maxLen; omega
  case m5 => exact Nat.le_refl _
  intro w1 hown hgrow
  obtain ⟨cur, hcur, hcsz⟩ : ∃ cur, w1.heap[w.heap.size]? = some (.cells cur 5 (0, 0)) ∧ cur.size = s.size + 2 := by
    rcases hown.2 with ⟨e, _⟩ | ⟨g, cap, cur, e, _, hh, _, _, hcs, _⟩
    · simp at e
    · simp only [Value.slice.injEq, Option.some.injEq, Addr.mk.injEq] at e
      obtain ⟨⟨rfl, _⟩, _, rfl⟩ := e
      exact ⟨cur, hh, by omega⟩
  obtain ⟨W, cs, hrun, hW, hWs, hcells, hbw, hWz⟩ := copy_any w1 w.heap.size s cur hcur hcsz
  have HB : Hid (Below w.heap.size w W) := (Below.grown (Below.refl _ _) hgrow (Nat.le_refl _) (fun k h => by cases h)).trans hbw
  have d0 : W.cell? ⟨w.heap.size, s.size, none⟩ = some (cs.getD s.size (.int .u8 0)) := by
    rw [cell_of_row W w.heap.size s.size cs _ _ hW, Array.getD_eq_getD_getElem?, Array.getElem?_eq_getElem (by omega)]; rfl
  have d1 : W.cell? ⟨w.heap.size, s.size + 1, none⟩ = some (cs.getD (s.size + 1) (.int .u8 0)) := by
    rw [cell_of_row W w.heap.size (s.size + 1) cs _ _ hW, Array.getD_eq_getD_getElem?, Array.getElem?_eq_getElem (by omega)]; rfl
  have df : ∀ o, W.frozen? ⟨w.heap.size, o, none⟩ = false := fun o => frozen_of_row W w.heap.size o cs _ hW
  have h1 := heap_setCell_same W w.heap.size s.size cs 5 (.int .u8 77) hW
  have h2 := heap_setCell_same (W.setCell ⟨w.heap.size, s.size, none⟩ (.int .u8 77)) w.heap.size (s.size + 1) _ 5 (.int .u8 78) h1
  have HF : Hid (LentAt ((W.setCell ⟨w.heap.size, s.size, none⟩ (.int .u8 77)).setCell ⟨w.heap.size, s.size + 1, none⟩ (.int .u8 78)) (.slice (some ⟨w.heap.size, 0, none⟩) s.size (s.size + 2)) s.data.toList w.heap.size) := by
    refine ⟨_, by rw [HSZ.out], h2, by rw [HSZ.out]; simp [hWs], by rw [HSZ.out]; exact hm, fun j hj => ?_, ?_, ?_⟩
    · rw [HSZ.out] at hj
      rw [Array.getElem?_setIfInBounds_ne (by omega), Array.getElem?_setIfInBounds_ne (by omega)]
      exact hcells j (by rw [HSZ.out]; exact hj)
    · rw [HSZ.out, Array.getElem?_setIfInBounds_ne (by omega), Array.getElem?_setIfInBounds_self_of_lt (by omega)]
    · rw [HSZ.out, Array.getElem?_setIfInBounds_self_of_lt (by simp; omega)]
  clear hown hgrow hcur hcsz hW hWs hcells hbw hWz h1 h2
  go_wp2
  go_ret
  exact ⟨_, rfl, HF.out, (HB.out.setCell (Nat.le_refl _) _).setCell (Nat.le_refl _) _⟩

set_option maxHeartbeats 1000000 in
theorem bare_any (k : Int) (w : World) :
    Calls Tryd.prog 13 #[.agg #[.int .i64 k, .string ⟨#[]⟩, .bool true], .int .i64 k] w fun e w' => e = .returned (.bool true) ∧ Below w.heap.size w w' := by
  go_enter Tryd.func13, Tryd.ntmps13
  go_wp2
  go_ret
  exact ⟨by simp, ((Below.refl _ _).alloc (Nat.le_refl _) _).alloc (by simp) _⟩

set_option maxRecDepth 100000 in
set_option maxHeartbeats 1000000 in
theorem stays_any (s : ByteArray) (l : List UInt8) (u : Value) (b : Nat) (w : World) (hs : s.data.toList = l) (hu : LentAt w u l b) :
    Calls Tryd.prog 17 #[u, .string s] w fun e w' => e = .returned (.bool true) ∧ w.grownBy w' (some b) ∧ w'.heap.size = w.heap.size := by
  subst hs
  have hsz : s.data.toList.length = s.size := by rw [Array.length_toList]; rfl
  obtain ⟨cs, rfl, hh, hcs, hl, hc, h77, h78⟩ := hu
  have hcv := run_convert_bytes_back (P := Tryd.prog) w 37 9 5 ⟨b, 0, none⟩ (s.data.toList.length + 2) s.data.toList Tryd.underlying37 Tryd.underlying5 Tryd.underlying9 (by
    intro j hj
    have := hc j hj
    rw [add0, cell_of_row w b j cs _ _ hh, this, List.getD_eq_getElem?_getD, List.getElem?_eq_getElem hj]
    rfl)
  have es : (⟨s.data.toList.toArray⟩ : ByteArray) = s := by cases s; simp
  rw [es, hsz] at hcv
  rw [hsz] at hcs hl h77 h78 ⊢
  have c0 : w.cell? ⟨b, s.size, none⟩ = some (.int .u8 77) := by rw [cell_of_row w b _ cs _ _ hh]; exact h77
  have c1 : w.cell? ⟨b, s.size + 1, none⟩ = some (.int .u8 78) := by rw [cell_of_row w b _ cs _ _ hh]; exact h78
  have HH := hide hh
  have HCS := hide hcs
  clear hc h77 h78 hsz es hh hcs
  go_enter Tryd.func17, Tryd.ntmps17
  go_wp2
  go_loopw [7] (fun i wr => ∃ k : Nat, k ≤ s.size + 2 ∧ i = .int .i64 k ∧ (∃ cs' : Array Value, wr.heap[b]? = some (.cells cs' 5 (0, 0)) ∧ cs'.size = s.size + 2) ∧ w.grownBy wr (some b) ∧ wr.heap.size = w.heap.size) (fun i _ => s.size + 2 - (intOf i).toNat)
  case atStart => exact ⟨0, Nat.zero_le _, rfl, ⟨cs, HH.out, HCS.out⟩, World.grownBy.refl _ _, rfl⟩
  case round =>
    obtain ⟨k, hk, rfl, ⟨cs', hh', hcs'⟩, hgr, hzz⟩ := hrel
    have HGR := hide hgr
    have HZZ := hide hzz
    clear hgr hzz
    by_cases hlt : k < s.size + 2
    · have d0 : wr.cell? ⟨b, k, none⟩ = some (cs'.getD k (.int .u8 0)) := by
        rw [cell_of_row wr b k cs' _ _ hh', Array.getD_eq_getD_getElem?, Array.getElem?_eq_getElem (by omega)]; rfl
      have df : ∀ o, wr.frozen? ⟨b, o, none⟩ = false := fun o => frozen_of_row wr b o cs' _ hh'
      have h1 := heap_setCell_same wr b k cs' 5 (.int .u8 66) hh'
      have R1 : Hid (∃ cs'' : Array Value, (wr.setCell ⟨b, k, none⟩ (.int .u8 66)).heap[b]? = some (.cells cs'' 5 (0, 0)) ∧ cs''.size = s.size + 2) := ⟨_, h1, by simp [hcs']⟩
      have R2 : Hid (w.grownBy (wr.setCell ⟨b, k, none⟩ (.int .u8 66)) (some b)) := by
        obtain ⟨g1, g2, g3, g4, g5⟩ := HGR.out
        exact ⟨g1, g2, g3, by simpa [World.setCell] using g4, fun j hj hne => (heap_setCell_other wr ⟨b, k, none⟩ j _ (fun e => hne (by rw [e]))).trans (g5 j hj hne)⟩
      have R3 : Hid ((wr.setCell ⟨b, k, none⟩ (.int .u8 66)).heap.size = w.heap.size) := by show _ = _; rw [← HZZ.out]; simp [World.setCell]
      clear h1 hh' hcs' c0 c1 hcv
      go_wp2
      go_roundw
      case rel => exact ⟨k + 1, by omega, by go_num, R1.out, R2.out, R3.out⟩
      case measure => simp [intOf]; omega
    · clear hh' hcs' c0 c1 hcv
      go_wp2
      go_ret
      exact ⟨rfl, HGR.out, HZZ.out⟩
end Go.Proofs.YtepehjalpkfniaaDoor
