/-
  OWN. sums' Climb; plain's Climb: walked. No project text.
-/
import Derived.Test.YtepehjalpkfniaaDoorPathW
namespace Go.Proofs.YtepehjalpkfniaaDoor
open Go.RowKit

def zeroH : Value := .agg #[.int .u8 0, .int .u8 0, .int .u8 0, .int .u8 0]

set_option maxHeartbeats 1000000 in
theorem sclimb_bad (v : Value) (i n : Int) (a : Option Addr) (m cap : Nat) (w : World) (h : n < 1 ∨ 4096 < n ∨ i < 0 ∨ n ≤ i) :
    Calls Tryd.prog 36 #[v, .int .i64 i, .int .i64 n, .slice a m cap] w fun e w' => e = .returned (.tuple #[zeroH, .iface 22 (.int .i64 9)]) ∧ Below w.heap.size w w' := by
  unfold zeroH
  by_cases h1 : n < 1
  · clear h
    go_enter Tryd.func36, Tryd.ntmps36
    go_wp2
    exact bodyPost_ret (v := .tuple #[.agg #[.int .u8 0, .int .u8 0, .int .u8 0, .int .u8 0], .iface 22 (.int .i64 9)]) (by simp [results, Tryd.results36, go_sem]) rfl ⟨rfl, (Below.refl _ _).alloc (Nat.le_refl _) _⟩
  · by_cases h2 : 4096 < n
    · clear h
      go_enter Tryd.func36, Tryd.ntmps36
      go_wp2
      exact bodyPost_ret (v := .tuple #[.agg #[.int .u8 0, .int .u8 0, .int .u8 0, .int .u8 0], .iface 22 (.int .i64 9)]) (by simp [results, Tryd.results36, go_sem]) rfl ⟨rfl, (Below.refl _ _).alloc (Nat.le_refl _) _⟩
    · by_cases h3 : i < 0
      · clear h
        go_enter Tryd.func36, Tryd.ntmps36
        go_wp2
        exact bodyPost_ret (v := .tuple #[.agg #[.int .u8 0, .int .u8 0, .int .u8 0, .int .u8 0], .iface 22 (.int .i64 9)]) (by simp [results, Tryd.results36, go_sem]) rfl ⟨rfl, (Below.refl _ _).alloc (Nat.le_refl _) _⟩
      · have h4 : n ≤ i := by omega
        clear h
        go_enter Tryd.func36, Tryd.ntmps36
        go_wp2
        exact bodyPost_ret (v := .tuple #[.agg #[.int .u8 0, .int .u8 0, .int .u8 0, .int .u8 0], .iface 22 (.int .i64 9)]) (by simp [results, Tryd.results36, go_sem]) rfl ⟨rfl, (Below.refl _ _).alloc (Nat.le_refl _) _⟩

set_option maxHeartbeats 1000000 in
theorem sclimb_short (v : Value) (i n : Nat) (a : Option Addr) (m cap : Nat) (w : World) (hi : i < n) (hn : n ≤ 4096) (hm : m ≠ deep i n) :
    Calls Tryd.prog 36 #[v, .int .i64 i, .int .i64 n, .slice a m cap] w fun e w' => e = .returned (.tuple #[zeroH, .iface 22 (.int .i64 9)]) ∧ Below w.heap.size w w' := by
  have HH := hide (fun W => height_any i n W hi (by omega))
  generalize deep i n = d at *
  have hmd : ((m : Int) != (d : Int)) = true := by rw [bne_iff_ne]; omega
  unfold zeroH
  go_enter Tryd.func36, Tryd.ntmps36
  go_wp2_with fail
  refine (HH.out _).mono ?_
  rintro e w1 ⟨rfl, rfl⟩
  go_wp2
  exact bodyPost_ret (v := .tuple #[.agg #[.int .u8 0, .int .u8 0, .int .u8 0, .int .u8 0], .iface 22 (.int .i64 9)]) (by simp [results, Tryd.results36, go_sem]) rfl ⟨rfl, (Below.refl _ _).alloc (Nat.le_refl _) _⟩

set_option maxHeartbeats 1000000 in
theorem sclimb_ok (v : Value) (l : List UInt8) (i n : Nat) (a : Option Addr) (m cap : Nat) (p : List H4) (w : World) (hl : Byts w v l) (hp : Hsl w (.slice a m cap) p) (hpm : p.length = m) (hi : i < n) (hn : n ≤ 4096) (hm : m = deep i n) :
    Calls Tryd.prog 36 #[v, .int .i64 i, .int .i64 n, .slice a m cap] w fun e w' => e = .returned (.tuple #[hv (climbL (leafL l) i n p), .nilIface]) ∧ Below w.heap.size w w' := by
  have HH := hide (fun W => height_any i n W hi (by omega))
  have hmn : m ≤ 4096 := by have := deep_le i n; omega
  have HC := hide (fun W h1 h2 => climb_any v l n i n (.slice a m cap) p W (Nat.le_refl _) h1 h2 hi (by omega) (by omega) (by omega))
  obtain ⟨⟨x0, x1, x2, x3⟩, hx⟩ : ∃ x, climbL (leafL l) i n p = x := ⟨_, rfl⟩
  rw [hx] at HC ⊢
  clear hx
  rw [← hm] at HH
  have HL := hide hl
  have HP := hide hp
  have hS := hide (slot4_new w 62)
  clear hl hp hm hpm
  have hmd : ((m : Int) != (m : Int)) = false := by simp
  simp only [hv, B] at *
  go_enter Tryd.func36, Tryd.ntmps36
  go_wp2_with fail
  refine (HH.out _).mono ?_
  rintro e w1 ⟨rfl, rfl⟩
  go_wp2_with fail
  refine (HC.out _ ?h1 ?h2).mono ?_
  case h1 => exact HL.out.below ((Below.refl _ _).alloc (Nat.le_refl _) _) (Nat.le_refl _)
  case h2 => exact HP.out.below ((Below.refl _ _).alloc (Nat.le_refl _) _) (Nat.le_refl _)
  rintro e w2 ⟨rfl, hb2⟩
  have hz : w.heap.size < w2.heap.size := by have := hb2.size; simp at this; omega
  obtain ⟨c0, c1, c2, c3, f0⟩ := hS.out.below hb2 (by simp)
  have HB : Hid (Below w.heap.size w w2) := ((Below.refl _ _).alloc (Nat.le_refl _) _).trans (hb2.mono (by simp))
  clear hb2 HL HP HC HH hS
  go_wp2
  refine bodyPost_ret (v := .tuple #[.agg #[.int .u8 x0.toNat, .int .u8 x1.toNat, .int .u8 x2.toNat, .int .u8 x3.toNat], .nilIface]) (by simp [results, Tryd.results36, go_sem, c0, c1, c2, c3]) rfl ⟨rfl, ?_⟩
  exact Below.setCell (Below.setCell (Below.setCell (Below.setCell HB.out (Nat.le_refl _) _) (Nat.le_refl _) _) (Nat.le_refl _) _) (Nat.le_refl _) _

/-- The sums of a text: four bytes each; what is left over is none. -/
def chunks : List UInt8 → List H4
  | a :: b :: c :: d :: l => (a, b, c, d) :: chunks l
  | _ => []
theorem chunks_short (l : List UInt8) (h : l.length < 4) : chunks l = [] := by
  match l, h with
  | [], _ => rfl
  | [_], _ => rfl
  | [_, _], _ => rfl
  | [_, _, _], _ => rfl
theorem chunks_len (l : List UInt8) : (chunks l).length = l.length / 4 := by
  induction hn : l.length using Nat.strongRecOn generalizing l with
  | ind n ih =>
    by_cases h : l.length < 4
    · rw [chunks_short l h]
      simp only [List.length_nil]
      omega
    · match l, hn, h with
      | a :: b :: c :: d :: l, hn, _ =>
        simp only [List.length_cons] at hn
        simp only [chunks, List.length_cons]
        rw [ih l.length (by omega) l rfl]
        omega
      | [], _, h => simp at h
      | [_], _, h => simp at h
      | [_, _], _, h => simp at h
      | [_, _, _], _, h => simp at h
theorem drop4 (l : List UInt8) (h : 4 ≤ l.length) : ∃ a b c d r, l = a :: b :: c :: d :: r := by
  match l, h with
  | a :: b :: c :: d :: r, _ => exact ⟨a, b, c, d, r, rfl⟩

theorem extract4 (s : ByteArray) : (s.extract 4 s.size).data.toList = s.data.toList.drop 4 := by
  have hsz : s.size = s.data.toList.length := by rw [Array.length_toList]; rfl
  rw [Lib.extract_data, List.take_of_length_le]
  rw [List.length_drop, hsz]
  exact Nat.le_refl _
set_option maxRecDepth 100000 in
set_option maxHeartbeats 2000000 in
/-- plain's Climb of whatever numbers, sums' Climb given behind the loop. -/
theorem pclimb_of (v : Value) (l : List UInt8) (i n : Int) (s : ByteArray) (sl : List UInt8) (x : H4) (err : Value) (ev : Value) (w : World) (hg : Gl w) (hl : Byts w v l) (hs : s.data.toList = sl) (hsz : sl.length ≤ 140737488355328)
    (hC : ∀ (a : Option Addr) (cap : Nat) (W : World), Byts W v l → Hsl W (.slice a (chunks sl).length cap) (chunks sl) → Calls Tryd.prog 36 #[v, .int .i64 i, .int .i64 n, .slice a (chunks sl).length cap] W fun e w' => e = .returned (.tuple #[hv x, err]) ∧ Below W.heap.size W w')
    (hT : ∀ W, ErrT W → Calls Tryd.prog 28 #[err] W fun e w' => e = .returned ev ∧ Below W.heap.size W w')
    (hev : ∃ k : Int, ev = .agg #[.int .i64 k, .string ⟨#[]⟩, .bool true]) :
    Calls Tryd.prog 16 #[v, .int .i64 i, .int .i64 n, .string s] w fun e w' => e = .returned (.tuple #[str (bs x), ev]) ∧ Below w.heap.size w w' := by
  obtain ⟨k, rfl⟩ := hev
  have HC := hide hC
  have HT := hide hT
  have HG := hide hg
  have HL := hide hl
  have hS : Hid (Slot3 _ _ _ _ _) := slot3_mk w 24 (.int .i64 0) (.string ⟨#[]⟩) (.bool false)
  obtain ⟨i0, hi0, hz0, hz1, hz2⟩ := info_parts info55
  have HX := hide (fun W => text_any x W)
  obtain ⟨x0, x1, x2, x3⟩ := x
  simp only [hv, B] at *
  have HSL := hide hs
  clear hC hT hg hl hs
  have hs0 : (s.size : Nat) = sl.length := by
    have := congrArg List.length HSL.out
    rw [Array.length_toList] at this
    exact this
  have HS0 := hide hs0
  clear hs0
  unfold str
  go_enter Tryd.func16, Tryd.ntmps16
  go_wp2
  go_loopw [3, 10] (fun q f wr => ∃ (s' : ByteArray) (rest : List UInt8) (done : List H4), q = .string s' ∧ Hid (s'.data.toList = rest) ∧ Hid (chunks sl = done ++ chunks rest) ∧ rest.length ≤ 140737488355328 ∧ ∃ fa fc, f = .slice fa done.length fc ∧ Own wr (w.heap.size + 1) (.slice fa done.length fc) done ∧ Below (w.heap.size + 1) (w.alloc (.cells #[.int .i64 0, .string ⟨#[]⟩, .bool false] 24)) wr)
    (fun q _ _ => match q with | .string b => b.size | _ => 0)
  case atStart => exact ⟨s, sl, [], rfl, HSL.out, rfl, hsz, none, 0, rfl, World.ownsRow_nil _ _ _ _, Below.refl _ _⟩
  case round =>
    obtain ⟨s', rest, done, rfl, hsr, hch, hrl, fa, fc, rfl, hown, hbel⟩ := hrel
    have hss : s'.size = rest.length := by
      have := congrArg List.length hsr.out
      rw [Array.length_toList] at this
      exact this
    have hsz1 : w.heap.size + 1 ≤ wr.heap.size := by have := hbel.size; simpa using this
    have hb0 : Below w.heap.size w wr := ((Below.refl _ _).alloc (Nat.le_refl _) _).trans (hbel.mono (by omega))
    by_cases h4 : 4 ≤ s'.size
    · obtain ⟨a, b, c, d, r, hr⟩ := drop4 rest (by omega)
      have HH := hide (fun W => hash_text s' r a b c d W (by rw [hsr.out, hr]))
      have hnx : (s'.extract 4 s'.size).data.toList = r := by
        rw [extract4 s', hsr.out, hr]; rfl
      have hch2 : chunks sl = (done ++ [(a, b, c, d)]) ++ chunks r := by rw [hch.out, hr]; simp [chunks]
      have hrr : r.length ≤ 140737488355328 := by rw [hr] at hrl; simp only [List.length_cons] at hrl; omega
      have hsb : s'.size ≤ 140737488355328 := by omega
      have hdl : done.length ≤ 140737488355328 / 4 := by
        have h1 := congrArg List.length hch2
        rw [List.length_append, List.length_append, chunks_len] at h1
        simp only [List.length_cons, List.length_nil] at h1
        omega
      have hdl' : done.length + 1 ≤ 35184372088832 := by
        have h1 := congrArg List.length hch2
        rw [List.length_append, List.length_append, chunks_len] at h1
        simp only [List.length_cons, List.length_nil] at h1
        omega
      have HNX := hide hnx
      have HC2 := hide hch2
      have HO := hide hown
      have HB := hide hbel
      have HDL := hide hdl'
      have H4 : (4 : Int) ≤ (s'.size : Int) := by omega
      clear hnx hch2 hown hbel hdl hdl' hr hch hsr hss hb0
      simp only [hv, B] at HH
      go_wp2_with fail
      refine (HH.out _).mono ?_
      rintro e w1 ⟨rfl, hb1⟩
      have hz1' := hb1.size
      have HO1 : Hid (w1.ownsRow (w.heap.size + 1) 62 4 (.slice fa done.length fc) done.length (cellsH done)) := HO.out.below hb1 (Nat.le_refl _)
      have HB1 := hide hb1
      have HLT : Hid (∀ j, (Value.slice fa done.length fc).ownBlock = some j → w.heap.size + 1 ≤ j) := fun j hj => (HO.out.lt j hj).1
      clear hb1 HH
      go_wp2_with (at_builtin; refine wpList_append_own _ rfl _ _ 64 rfl (w.heap.size + 1) 62 i0 (.agg #[.int .u8 0, .int .u8 0, .int .u8 0, .int .u8 0]) 4 4 Tryd.underlying64 hi0 hz0 hz1 hz2 rfl (by decide) _ _ _ rfl (HO1.out.alloc _) ⟨w1.heap.size, 0, none⟩ 1 1 [.int .u8 a.toNat, .int .u8 b.toNat, .int .u8 c.toNat, .int .u8 d.toNat] rfl rfl ?c1 ?c2 ?c3 ?c4 ?c5 ?_)
      case c1 => exact news4 w1 62 _ _ _ _
      case c2 => exact one4 a b c d
      case c3 => have := HDL.out; unfold maxLen; omega
      case c4 => have := HDL.out; omega
      case c5 => simp; omega
      intro v' w2 hown' hgrow _
      have G1 : Own w2 (w.heap.size + 1) v' (done ++ [(a, b, c, d)]) := by
        unfold Own
        rw [cellsH_append, List.length_append]
        exact hown'
      have G2 : Below (w.heap.size + 1) (w.alloc (.cells #[.int .i64 0, .string ⟨#[]⟩, .bool false] 24)) w2 := ((HB.out.trans (HB1.out.mono hsz1)).alloc (by omega) _).grown hgrow (by simp; omega) HLT.out
      obtain ⟨fa2, fc2, hv2⟩ := G1.some
      rw [hv2] at G1 ⊢
      have H1 := hide G1
      have H2 := hide G2
      clear G1 G2 hown' hgrow hv2 HO1 HB1 HLT HO HB
      go_wp2
      go_roundw
      case rel => exact ⟨_, r, done ++ [(a, b, c, d)], rfl, HNX.out, HC2.out, hrr, fa2, fc2, rfl, H1.out, H2.out⟩
      case measure => simp; omega
    · have hr0 : chunks rest = [] := chunks_short rest (by omega)
      have hch2 : chunks sl = done := by rw [hch.out, hr0, List.append_nil]
      have hsb : s'.size ≤ 140737488355328 := by omega
      have H4 : (s'.size : Int) < 4 := by omega
      rw [hch2] at HC
      have HO := hide hown
      have HB := hide hb0
      have HBB := hide hbel
      clear hch2 hr0 hown hbel hb0 hch hsr hss
      go_wp2_with fail
      refine (HC.out _ _ _ ?h1 ?h2).mono ?_
      case h1 => exact HL.out.below HB.out (Nat.le_refl _)
      case h2 => exact HO.out.hsl
      rintro e w1 ⟨rfl, hb1⟩
      have hz1' := hb1.size
      have HB1 := hide hb1
      have S1 := hide ((hS.out.below HBB.out (by simp)).below hb1 (by omega))
      have C1 : Hid (Below w.heap.size w w1) := HB.out.trans (hb1.mono (by omega))
      clear hb1
      go_wp2_with fail
      refine (HX.out _).mono ?_
      rintro e w2 ⟨rfl, hb2⟩
      have hz2' := hb2.size
      simp only [World.size_alloc] at hz2'
      have C2 : Hid (Below w.heap.size w w2) := (C1.out.alloc (by omega) _).trans (hb2.mono (by simp; omega))
      have S2 := hide ((S1.out.below ((Below.refl _ _).alloc (Nat.le_refl _) _) (by omega)).below hb2 (by simp; omega))
      clear hb2
      go_wp2_with fail
      refine (HT.out _ ?h3).mono ?_
      case h3 => exact (HG.out.below C2.out (Nat.le_refl _)).1
      rintro e w3 ⟨rfl, hb3⟩
      have hz3' := hb3.size
      obtain ⟨c0, c1, c2, cf⟩ := S2.out.below hb3 (by omega)
      have C3 : Hid (Below w.heap.size w w3) := C2.out.trans (hb3.mono (by omega))
      clear hb3 S1 S2 C1 C2 HB1 HO HB HBB HC HT
      go_wp2
      refine bodyPost_ret (v := .tuple #[.string ⟨#[x0, x1, x2, x3]⟩, .agg #[.int .i64 k, .string ⟨#[]⟩, .bool true]]) (by simp [results, Tryd.results16, go_sem, c0, c1, c2]; rfl) rfl ⟨rfl, ?_⟩
      exact Below.setCell (Below.setCell (Below.setCell C3.out (Nat.le_refl _) _) (Nat.le_refl _) _) (Nat.le_refl _) _
end Go.Proofs.YtepehjalpkfniaaDoor
