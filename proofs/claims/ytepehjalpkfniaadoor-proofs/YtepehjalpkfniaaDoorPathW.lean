/-
  OWN. sums' Path; plain's Root, Sum and Path: walked. No project text.
-/
import Derived.Test.YtepehjalpkfniaaDoorWay
import Derived.Test.YtepehjalpkfniaaDoorTold
namespace Go.Proofs.YtepehjalpkfniaaDoor
open Go.RowKit

/-- What the packages' variables hold. -/
def Gl (w : World) : Prop := ErrT w ∧ NoS w ∧ NoL w
theorem Gl.below {w w' : World} {n : Nat} (h : Gl w) (hb : Below n w w') (hn : w.heap.size ≤ n) : Gl w' :=
  ⟨h.1.below hb (Nat.lt_of_lt_of_le h.1.lt hn), h.2.1.below hb (Nat.lt_of_lt_of_le h.2.1.lt hn), h.2.2.below hb (Nat.lt_of_lt_of_le h.2.2.lt hn)⟩
/-- A text out of bytes. -/
def str (l : List UInt8) : Value := .string ⟨l.toArray⟩
/-- No error; the error of a wrong argument. -/
def fineE : Value := .agg #[.int .i64 0, .string ⟨#[]⟩, .bool true]
def argE : Value := .agg #[.int .i64 9, .string ⟨#[]⟩, .bool true]

set_option maxHeartbeats 1000000 in
theorem proot_any (ls : List (List UInt8)) (v : Value) (w : World) (hl : Lvs w v ls) (hg : Gl w) (hlen : ls.length ≤ 8796093022208) :
    Calls Tryd.prog 9 #[v] w fun e w' => e = .returned (str (bs (rt (ls.map leafL)))) ∧ Below w.heap.size w w' := by
  have HR := hide (root_any ls v w hl hg.2.1 hg.2.2 hlen)
  generalize rt (ls.map leafL) = x at *
  have HT := hide (fun W => text_any x W)
  clear hl hg hlen
  unfold str
  go_enter Tryd.func9, Tryd.ntmps9
  go_wp2_with fail
  refine HR.out.mono ?_
  rintro e w1 ⟨rfl, hb1⟩
  go_wp2_with fail
  refine (HT.out _).mono ?_
  rintro e w2 ⟨rfl, hb2⟩
  have HB : Hid (Below w.heap.size w w2) := hb1.trans (hb2.mono hb1.size)
  clear hb1 hb2
  go_wp2
  go_ret
  exact ⟨rfl, HB.out⟩

set_option maxHeartbeats 1000000 in
theorem psum_any (l : List UInt8) (v : Value) (w : World) (hl : Byts w v l) :
    Calls Tryd.prog 25 #[v] w fun e w' => e = .returned (str (bs (sumL l))) ∧ Below w.heap.size w w' := by
  have HR := hide (sum_any v l w hl)
  generalize sumL l = x at *
  have HT := hide (fun W => text_any x W)
  clear hl
  unfold str
  go_enter Tryd.func25, Tryd.ntmps25
  go_wp2_with fail
  refine HR.out.mono ?_
  rintro e w1 ⟨rfl, hb1⟩
  go_wp2_with fail
  refine (HT.out _).mono ?_
  rintro e w2 ⟨rfl, hb2⟩
  have HB : Hid (Below w.heap.size w w2) := hb1.trans (hb2.mono hb1.size)
  clear hb1 hb2
  go_wp2
  go_ret
  exact ⟨rfl, HB.out⟩

set_option maxHeartbeats 1000000 in
theorem spath_bad (a : Option Addr) (n cap : Nat) (i : Int) (w : World) (h : i < 0 ∨ (n : Int) ≤ i) :
    Calls Tryd.prog 31 #[.slice a n cap, .int .i64 i] w fun e w' => e = .returned (.tuple #[.slice none 0 0, .iface 22 (.int .i64 9)]) ∧ w' = w := by
  rcases h with h | h
  · go_enter Tryd.func31, Tryd.ntmps31
    go_wp2
    go_ret2
    exact ⟨rfl, rfl⟩
  · have h0 : ¬ i < 0 := by omega
    go_enter Tryd.func31, Tryd.ntmps31
    go_wp2
    go_ret2
    exact ⟨rfl, rfl⟩
set_option maxHeartbeats 1000000 in
theorem spath_ok (a : Option Addr) (n cap i : Nat) (ls : List (List UInt8)) (w : World) (hl : Lvs w (.slice a n cap) ls) (hn : ls.length = n) (hi : i < n) (hg : Gl w) (hlen : n ≤ 8796093022208) :
    Calls Tryd.prog 31 #[.slice a n cap, .int .i64 i] w fun e w' => ∃ v', e = .returned (.tuple #[v', .nilIface]) ∧ Own w' w.heap.size v' (path (ls.map leafL) i) ∧ Below w.heap.size w w' := by
  have HW := hide (way_any n i ls (.slice a n cap) w (by omega) hl (by omega) (by omega) hg.2.1 hg.2.2)
  generalize path (ls.map leafL) i = p at *
  clear hl hn hg
  go_enter Tryd.func31, Tryd.ntmps31
  go_wp2_with fail
  refine HW.out.mono ?_
  rintro e w1 ⟨v1, rfl, hown, hb⟩
  have HO := hide hown
  have HB := hide hb
  clear hown hb
  go_wp2
  go_ret2
  exact ⟨_, rfl, HO.out, HB.out⟩

theorem str_app (a b : List UInt8) : (⟨a.toArray⟩ : ByteArray) ++ ⟨b.toArray⟩ = ⟨(a ++ b).toArray⟩ := by
  apply ByteArray.ext
  rw [ByteArray.data_append]
  simp
theorem flat_len (p : List H4) (k : Nat) : ((p.take k).flatMap bs).length ≤ 4 * k := by
  induction k generalizing p with
  | zero => simp
  | succ k ih =>
    cases p with
    | nil => simp
    | cons x p =>
      rw [List.take_succ_cons, List.flatMap_cons, List.length_append]
      have := ih p
      have hb : (bs x).length = 4 := rfl
      omega
theorem slot3_mk (w : World) (t : TypeId) (a b c : Value) : (w.alloc (.cells #[a, b, c] t)).cell? ⟨w.heap.size, 0, none⟩ = some a ∧ (w.alloc (.cells #[a, b, c] t)).cell? ⟨w.heap.size, 1, none⟩ = some b ∧ (w.alloc (.cells #[a, b, c] t)).cell? ⟨w.heap.size, 2, none⟩ = some c ∧ ∀ o, (w.alloc (.cells #[a, b, c] t)).frozen? ⟨w.heap.size, o, none⟩ = false := by
  refine ⟨?_, ?_, ?_, fun o => ?_⟩ <;> simp
def Slot3 (w : World) (r : Nat) (a b c : Value) : Prop := w.cell? ⟨r, 0, none⟩ = some a ∧ w.cell? ⟨r, 1, none⟩ = some b ∧ w.cell? ⟨r, 2, none⟩ = some c ∧ ∀ o, w.frozen? ⟨r, o, none⟩ = false
theorem Slot3.below {w w' : World} {r n : Nat} {a b c : Value} (h : Slot3 w r a b c) (hb : Below n w w') (hr : r < n) : Slot3 w' r a b c :=
  ⟨(hb.cell (p := ⟨r, 0, none⟩) hr).trans h.1, (hb.cell (p := ⟨r, 1, none⟩) hr).trans h.2.1, (hb.cell (p := ⟨r, 2, none⟩) hr).trans h.2.2.1, fun o => (hb.frozen (p := ⟨r, o, none⟩) hr).trans (h.2.2.2 o)⟩

set_option maxHeartbeats 1000000 in
theorem ppath_bad (a : Option Addr) (n cap : Nat) (i : Int) (w : World) (hg : Gl w) (h : i < 0 ∨ (n : Int) ≤ i) :
    Calls Tryd.prog 10 #[.slice a n cap, .int .i64 i] w fun e w' => e = .returned (.tuple #[str [], argE]) ∧ Below w.heap.size w w' := by
  have HP := hide (fun W => spath_bad a n cap i W h)
  have HG := hide hg
  clear hg h
  have hS : Hid (Slot3 _ _ _ _ _) := slot3_mk w 24 (.int .i64 0) (.string ⟨#[]⟩) (.bool false)
  unfold str argE
  go_enter Tryd.func10, Tryd.ntmps10
  go_wp2_with fail
  refine (HP.out _).mono ?_
  rintro e w1 ⟨rfl, rfl⟩
  go_wp2
  refine wp_loop_rounds 1 ?_
  rw [rounds_succ]
  go_wp2_with fail
  refine (told_kind 9 _ ?hg).mono ?_
  case hg => exact HG.out.1.alloc _
  rintro e w2 ⟨rfl, hb2⟩
  have hz : w.heap.size < w2.heap.size := by have := hb2.size; simp at this; omega
  obtain ⟨c0, c1, c2, cf⟩ := hS.out.below hb2 (by simp)
  have HB : Hid (Below w.heap.size w w2) := ((Below.refl _ _).alloc (Nat.le_refl _) _).trans (hb2.mono (by simp))
  clear hb2
  go_wp2
  refine bodyPost_ret (v := .tuple #[.string ⟨#[]⟩, .agg #[.int .i64 9, .string ⟨#[]⟩, .bool true]]) (by simp [results, Tryd.results10, go_sem, c0, c1, c2]) rfl ⟨rfl, ?_⟩
  exact Below.setCell (Below.setCell (Below.setCell HB.out (Nat.le_refl _) _) (Nat.le_refl _) _) (Nat.le_refl _) _

set_option maxHeartbeats 2000000 in
theorem ppath_ok (a : Option Addr) (n cap i : Nat) (ls : List (List UInt8)) (w : World) (hl : Lvs w (.slice a n cap) ls) (hn : ls.length = n) (hi : i < n) (hg : Gl w) (hlen : n ≤ 8796093022208) :
    Calls Tryd.prog 10 #[.slice a n cap, .int .i64 i] w fun e w' => e = .returned (.tuple #[str ((path (ls.map leafL) i).flatMap bs), fineE]) ∧ Below w.heap.size w w' := by
  have hB : Below w.heap.size w (w.alloc (.cells #[.int .i64 0, .string ⟨#[]⟩, .bool false] 24)) := (Below.refl _ _).alloc (Nat.le_refl _) _
  have HP := hide (spath_ok a n cap i ls _ (hl.below hB (Nat.le_refl _)) hn hi (hg.below hB (Nat.le_refl _)) hlen)
  have hpl : (path (ls.map leafL) i).length ≤ 8796093022208 := by
    rw [path_length, List.length_map, hn]; have := deep_le i n; omega
  generalize path (ls.map leafL) i = p at *
  have hS : Hid (Slot3 _ _ _ _ _) := slot3_mk w 24 (.int .i64 0) (.string ⟨#[]⟩) (.bool false)
  have HB0 := hide hB
  clear hl hn hg hlen hB
  obtain ⟨sx, hsx⟩ : ∃ s, p.flatMap bs = s := ⟨_, rfl⟩
  rw [hsx]
  have HSX := hide hsx
  clear hsx
  unfold str fineE
  go_enter Tryd.func10, Tryd.ntmps10
  go_wp2_with fail
  refine HP.out.mono ?_
  rintro e w1 ⟨v1, rfl, hown, hb1⟩
  obtain ⟨pa, pc, hv1⟩ := hown.some
  rw [hv1] at hown ⊢
  obtain ⟨m, hm⟩ : ∃ m, p.length = m := ⟨_, rfl⟩
  have HM := hide hm
  have HO := hide hown
  have HB1 : Hid (Below w.heap.size w w1) := HB0.out.trans (hb1.mono (by simp))
  have hz1 : w.heap.size < w1.heap.size := by have := hb1.size; simp at this; omega
  have S1 := hide (hS.out.below hb1 (by simp))
  rw [hm] at hpl ⊢
  clear hown hb1 hv1 hm
  go_wp2
  go_loopw [8, 19] (fun s j wr => ∃ k : Nat, k ≤ m ∧ j = .int .i64 k ∧ s = .string ⟨((p.take k).flatMap bs).toArray⟩ ∧ Below w1.heap.size w1 wr)
    (fun _ j _ => m - (intOf j).toNat)
  case atStart => exact ⟨0, Nat.zero_le _, rfl, rfl, Below.refl _ _⟩
  case round =>
    obtain ⟨k, hk, rfl, rfl, hbk⟩ := hrel
    have hzk := hbk.size
    by_cases hlt : k < m
    · obtain ⟨⟨x0, x1, x2, x3⟩, hx⟩ : ∃ x, p[k]? = some x := ⟨_, List.getElem?_eq_getElem (by rw [HM.out]; exact hlt)⟩
      have hoo := HO.out.below hbk (Nat.le_refl _)
      obtain ⟨g, cap', ev, hgb, hgl, _⟩ := hoo.shape (by rw [HM.out]; omega)
      simp only [Value.slice.injEq] at ev
      obtain ⟨rfl, _, rfl⟩ := ev
      obtain ⟨c0, c1, c2, c3⟩ := Own.at4 hoo k _ hx
      have hnext : ((p.take (k + 1)).flatMap bs) = (p.take k).flatMap bs ++ [x0, x1, x2, x3] := by
        have hl' : k < p.length := by rw [HM.out]; exact hlt
        rw [List.take_succ_eq_append_getElem hl', List.flatMap_append, (List.getElem?_eq_some_iff.1 hx).2]
        rfl
      have hl0 : ((p.take k).flatMap bs).length ≤ 4 * k := flat_len p k
      have HX := hide hnext
      generalize (p.take k).flatMap bs = s at *
      have HT := hide (fun W => text_any (x0, x1, x2, x3) W)
      have HBK := hide hbk
      simp only [B] at c0 c1 c2 c3
      simp only [hv, B, bs] at HT
      clear hx hoo hnext hbk
      go_wp2_with fail
      refine (HT.out _).mono ?_
      rintro e w2 ⟨rfl, hb2⟩
      have HB2 : Hid (Below w1.heap.size w1 w2) := (HBK.out.alloc hzk _).trans (hb2.mono (by simp; omega))
      clear hb2
      go_wp2
      go_roundw
      case rel =>
        refine ⟨k + 1, by omega, by go_num, ?_, HB2.out⟩
        rw [HX.out]
        exact congrArg Value.string (str_app s [x0, x1, x2, x3])
      case measure => simp [intOf]; omega
    · have hall : p.take k = p := List.take_of_length_le (by rw [HM.out]; omega)
      rw [hall, HSX.out]
      have S2 := S1.out.below hbk (by omega)
      have HBB : Hid (Below w.heap.size w wr) := HB1.out.trans (hbk.mono (by omega))
      clear hall hbk HO HM HSX
      go_wp2_with fail
      refine (told_nil _).mono ?_
      rintro e w2 ⟨rfl, hb2⟩
      have hz2 : w.heap.size < w2.heap.size := by have := hb2.size; omega
      obtain ⟨c0, c1, c2, cf⟩ := S2.below hb2 (by omega)
      have HB : Hid (Below w.heap.size w w2) := HBB.out.trans (hb2.mono (by omega))
      clear hb2 S2 S1 HBB
      go_wp2
      refine bodyPost_ret (v := .tuple #[.string ⟨sx.toArray⟩, .agg #[.int .i64 0, .string ⟨#[]⟩, .bool true]]) (by simp [results, Tryd.results10, go_sem, c0, c1, c2]) rfl ⟨rfl, ?_⟩
      exact Below.setCell (Below.setCell (Below.setCell HB.out (Nat.le_refl _) _) (Nat.le_refl _) _) (Nat.le_refl _) _
end Go.Proofs.YtepehjalpkfniaaDoor
