/-
  OWN. Numbers as bytes (numbers: Read), walked; plain mathematics of such bytes. No project text.
-/
import Derived.Test.YtepehjalpkfniaaDoorChain
import Derived.Test.YtepehjalpkfniaaDoorSmall
namespace Go.Proofs.YtepehjalpkfniaaDoor
open Go.RowKit

theorem take_byte (s : ByteArray) (k : Nat) (h : k < s.size) : s.data.toList.take (k + 1) = s.data.toList.take k ++ [s[k]] := by
  rw [List.take_succ_eq_append_getElem (by simpa using h)]; rfl

theorem or_byte (q c : Nat) (hq : q < 72057594037927936) (hc : c < 256) : bits BinOp.or IntKind.u64 ((q : Int) * 256) (c : Int) = 256 * (q : Int) + (c : Int) := by
  have e1 : (BitVec.ofInt 64 ((q : Int) * 256)).toNat = q * 256 := by
    rw [BitVec.toNat_ofInt]; omega
  have e2 : (BitVec.ofInt 64 (c : Int)).toNat = c := by
    rw [BitVec.toNat_ofInt]; omega
  have e3 : (BitVec.ofInt 64 ((q : Int) * 256) ||| BitVec.ofInt 64 (c : Int)).toNat = q * 256 + c := by
    rw [BitVec.toNat_or, e1, e2]
    have := Nat.shiftLeft_add_eq_or_of_lt (b := c) (i := 8) (by omega) q
    rw [Nat.shiftLeft_eq] at this
    exact this.symm
  show IntKind.u64.wrap ((BitVec.ofInt 64 ((q : Int) * 256) ||| BitVec.ofInt 64 (c : Int)).toNat : Int) = _
  rw [e3]
  simp [IntKind.wrap, IntKind.bits, IntKind.signed]
  omega

set_option maxHeartbeats 1000000 in
theorem nread_any (s : ByteArray) (l : List UInt8) (w : World) (hs : s.data.toList = l) (hm : s.size ≤ 8) :
    Calls Tryd.prog 79 #[.string s] w fun e w' => e = .returned (.int .u64 (numL l : Int)) ∧ w = w' := by
  subst hs
  obtain ⟨hN, hhN⟩ : ∃ hN, numL s.data.toList = hN := ⟨_, rfl⟩
  rw [hhN]
  have HN := hide hhN
  clear hhN
  go_enter Tryd.func79, Tryd.ntmps79
  go_wp2
  go_loop [3, 7] (fun v i => ∃ k : Nat, k ≤ s.size ∧ i = .int .i64 k ∧ v = .int .u64 (numL (s.data.toList.take k) : Int)) (fun _ i => s.size - (intOf i).toNat)
  case atStart => exact ⟨0, Nat.zero_le _, rfl, rfl⟩
  case round =>
    obtain ⟨k, hk, rfl, rfl⟩ := hrel
    by_cases hlt : k < s.size
    · have hb : numL (s.data.toList.take k) < 72057594037927936 := by
        have := numL_lt (s.data.toList.take k)
        exact Nat.lt_of_lt_of_le this (Nat.le_trans (Nat.pow_le_pow_right (by decide) (show (s.data.toList.take k).length ≤ 7 by rw [List.length_take]; omega)) (by decide))
      have HS : Hid (numL (s.data.toList.take (k + 1)) = 256 * numL (s.data.toList.take k) + s[k].toNat) := by
        show _ = _
        rw [take_byte s k hlt, numL_snoc]
      have hcr := B_range s[k]
      generalize numL (s.data.toList.take k) = q at *
      go_wp2
      go_round
      case rel => exact ⟨k + 1, by omega, by go_num, by rw [HS.out, or_byte _ _ hb (by omega)]; rfl⟩
      case measure => simp [intOf]; omega
    · have hall : s.data.toList.take k = s.data.toList := List.take_of_length_le (by rw [Array.length_toList]; show s.size ≤ k; omega)
      rw [hall, HN.out]
      clear hall HN
      go_wp2
      go_ret
      exact ⟨rfl, rfl⟩

/-- A number in so many bytes, the highest first. -/
def be : Nat → Nat → List UInt8
  | 0, _ => []
  | k + 1, n => UInt8.ofNat (n / 256 ^ k) :: be k n
theorem be_len (k n : Nat) : (be k n).length = k := by
  induction k with
  | zero => rfl
  | succ k ih => simp [be, ih]
/-- Bytes in memory of one's own. -/
def OwnB (w : World) (base : Nat) (v : Value) (l : List UInt8) : Prop := w.ownsRow base 5 1 v l.length (l.map B)
theorem info_u8 : (Tryd.prog.info? 5).map (fun i => (i.zero, i.size, i.bytes)) = some (some (.int .u8 0), 1, 1) := by kernel_rfl

theorem OwnB.below {w w' : World} {base n : Nat} {v : Value} {l : List UInt8} (h : OwnB w base v l) (hb : Below n w w') (hn : w.heap.size ≤ n) : OwnB w' base v l := by
  refine h.kept (row := none) ⟨hb.os, hb.tape, hb.output, hb.size, fun k hk _ => hb.block k (by omega)⟩ ?_
  by_cases e : v.ownBlock = none
  · exact .inl e
  · exact .inr e
theorem OwnB.alloc {w : World} {base : Nat} {v : Value} {l : List UInt8} (h : OwnB w base v l) (o : Obj) : OwnB (w.alloc o) base v l := h.below ((Below.refl _ _).alloc (Nat.le_refl _) _) (Nat.le_refl _)
theorem OwnB.some {w : World} {base : Nat} {v : Value} {l : List UInt8} (h : OwnB w base v l) : ∃ a cap, v = .slice a l.length cap := by
  rcases h.2 with ⟨e, e2⟩ | ⟨g, cap, cur, e, _⟩
  · exact ⟨none, 0, by rw [e]; rw [e2]⟩
  · exact ⟨_, cap, e⟩

set_option maxRecDepth 100000 in
set_option maxHeartbeats 2000000 in
theorem nappend_any (v : Value) (l : List UInt8) (n k base : Nat) (w : World) (hk : k ≤ 8) (hown : OwnB w base v l) (hl : l.length ≤ 1000) (hb : base ≤ w.heap.size) :
    Calls Tryd.prog 76 #[v, .int .u64 (n : Int), .int .i64 (k : Int)] w fun e w' => ∃ v', e = .returned v' ∧ OwnB w' base v' (l ++ be k n) ∧ Below base w w' := by
  obtain ⟨i0, hi0, hz0, hz1, hz2⟩ := info_parts info_u8
  have HO := hide hown
  clear hown
  go_enter Tryd.func76, Tryd.ntmps76
  go_wp2
  go_loopw [0, 7] (fun v i wr => ∃ (j : Nat) (D : List UInt8), j ≤ k ∧ i = .int .i64 (8 * ((j : Int) - 1)) ∧ Hid (l ++ be k n = D ++ be j n) ∧ D.length + j = l.length + k ∧ OwnB wr base v D ∧ Below base w wr) (fun _ i _ => (intOf i + 8).toNat)
  case atStart => exact ⟨k, l, Nat.le_refl _, rfl, rfl, rfl, HO.out, Below.refl _ _⟩
  case round =>
    obtain ⟨j, D, hj, rfl, hd, hdl, hown, hbel⟩ := hrel
    have hbw : base ≤ wr.heap.size := Nat.le_trans hb hbel.size
    obtain ⟨fa, fc, rfl⟩ := hown.some
    have HO1 := hide hown
    have HB1 := hide hbel
    clear hown hbel HO
    by_cases h0 : 0 < j
    · obtain ⟨m, rfl⟩ : ∃ m, j = m + 1 := ⟨j - 1, by omega⟩
      rw [show (8 * (((m + 1 : Nat) : Int) - 1)) = 8 * (m : Int) by omega]
      have hm8 : m < 8 := by omega
      have HX : Hid ((n : Int) / 2 ^ (8 * m) % 256 = ((UInt8.ofNat (n / 256 ^ m)).toNat : Int)) := by
        show _ = _
        rw [UInt8.toNat_ofNat', show (2 : Int) ^ (8 * m) = ((256 ^ m : Nat) : Int) by rw [Int.pow_mul]; simp]
        norm_cast
      have HLT : Hid (∀ j, (Value.slice fa D.length fc).ownBlock = some j → base ≤ j) := fun j hj => (HO1.out.lt j hj).1
      have HD2 : Hid (l ++ be k n = (D ++ [UInt8.ofNat (n / 256 ^ m)]) ++ be m n) := by
        show _ = _
        rw [hd.out]; simp [be]
      generalize UInt8.ofNat (n / 256 ^ m) = c at *
      clear hd
      go_wp2_with (at_builtin; refine wpList_append_own _ rfl _ _ 37 rfl base 5 i0 (.int .u8 0) 1 1 Tryd.underlying37 hi0 hz0 hz1 hz2 rfl (by decide) _ _ _ rfl (HO1.out.alloc _) ⟨wr.heap.size, 0, none⟩ 1 1 [B c] rfl rfl ?c1 ?c2 ?c3 ?c4 ?c5 ?_)
      case c1 =>
        intro j u hj
        match j, hj with
        | 0, hj => simp at hj; subst hj; simp [Addr.add, HX.out, B]
      case c2 => intro u hu; simp at hu; subst hu; rfl
      case c3 => unfold maxLen; omega
      case c4 => omega
      case c5 => simp; omega
      intro v' w2 hown' hgrow _
      have G1 : OwnB w2 base v' (D ++ [c]) := by
        unfold OwnB
        rw [List.map_append, List.length_append]
        exact hown'
      have G2 : Below base w w2 := (HB1.out.alloc (by omega) _).grown hgrow (by simp; omega) HLT.out
      have H1 := hide G1
      have H2 := hide G2
      clear G1 G2 hown' hgrow HO1 HB1 HLT
      go_wp2
      go_roundw
      case rel => exact ⟨m, D ++ [c], by omega, by go_num, HD2.out, by simp; omega, H1.out, H2.out⟩
      case measure => simp [intOf]; omega
    · obtain rfl : j = 0 := by omega
      have HE : Hid (OwnB wr base (.slice fa D.length fc) (l ++ be k n)) := by
        have e := hd.out
        rw [show be 0 n = [] from rfl, List.append_nil] at e
        rw [e]
        exact HO1.out
      clear hd HO1
      go_wp2
      go_ret
      exact ⟨_, rfl, HE.out, HB1.out⟩
end Go.Proofs.YtepehjalpkfniaaDoor
