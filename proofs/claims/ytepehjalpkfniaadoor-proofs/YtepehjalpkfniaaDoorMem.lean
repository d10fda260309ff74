/-
  OWN. How bytes, leaves and sums lie in memory; sums' small functions walked: add, hash, Sum, leafSum, nodeSum, split. No project text.
-/
import Derived.Test.YtepehjalpkfniaaDoorMath
import Derived.Test.YtepehjalpkfniaaDoorProg
import Derived.WalkKit
import Derived.WalkSpells
import Derived.WalkLawsBesides
import Derived.BigQuiet
import Derived.Deep.QuietTactic
namespace Go.Proofs.YtepehjalpkfniaaDoor
open Go.RowKit

def B (c : UInt8) : Value := .int .u8 (c.toNat : Int)
def hv (x : H4) : Value := .agg #[B x.1, B x.2.1, B x.2.2.1, B x.2.2.2]

/-- The slice v holds the bytes l. -/
def Byts (w : World) (v : Value) (l : List UInt8) : Prop :=
  ∃ a cap, v = .slice a l.length cap ∧ l.length ≤ 140737488355328 ∧ ∀ i, i < l.length → ∃ b off, a = some ⟨b, off, none⟩ ∧ b < w.heap.size ∧ w.cell? ⟨b, off + i, none⟩ = some (B (l.getD i 0))
theorem Byts.below {w w' : World} {v : Value} {l : List UInt8} {n : Nat} (h : Byts w v l) (hb : Below n w w') (hn : w.heap.size ≤ n) : Byts w' v l := by
  obtain ⟨a, cap, e, hl, hc⟩ := h
  refine ⟨a, cap, e, hl, fun i hi => ?_⟩
  obtain ⟨b, off, ea, hlt, hcell⟩ := hc i hi
  exact ⟨b, off, ea, Nat.lt_of_lt_of_le hlt hb.size, (hb.cell (p := ⟨b, off + i, none⟩) (Nat.lt_of_lt_of_le hlt hn)).trans hcell⟩
theorem Byts.nil (w : World) : Byts w (.slice none 0 0) [] := ⟨none, 0, rfl, by simp, fun i hi => by simp at hi⟩

theorem hide {p : Prop} (h : p) : Hid p := h
theorem B_range (c : UInt8) : (0 : Int) ≤ (c.toNat : Int) ∧ (c.toNat : Int) ≤ 255 := by have := c.toNat_lt; omega
theorem take_snoc (l : List UInt8) (k : Nat) (h : k < l.length) : l.take (k + 1) = l.take k ++ [l.getD k 0] := by
  rw [List.take_succ_eq_append_getElem h]; simp [h]
theorem addB_int (s : Nat) (c : UInt8) : ((addB s c : Nat) : Int) = (33 * (s : Int) + (c.toNat : Int) + 1) % 4294967291 := by unfold addB; omega
theorem hv_hsh (h : Nat) (hh : h < 4294967291) : hv (hsh h) = .agg #[.int .u8 ((h : Int) / 16777216), .int .u8 ((h : Int) / 65536 % 256), .int .u8 ((h : Int) / 256 % 256), .int .u8 ((h : Int) % 256)] := by
  have e1 : ((UInt8.ofNat (h / 16777216)).toNat : Int) = (h : Int) / 16777216 := by rw [UInt8.toNat_ofNat']; omega
  have e2 : ((UInt8.ofNat (h / 65536)).toNat : Int) = (h : Int) / 65536 % 256 := by rw [UInt8.toNat_ofNat']; omega
  have e3 : ((UInt8.ofNat (h / 256)).toNat : Int) = (h : Int) / 256 % 256 := by rw [UInt8.toNat_ofNat']; omega
  have e4 : ((UInt8.ofNat h).toNat : Int) = (h : Int) % 256 := by rw [UInt8.toNat_ofNat']; omega
  simp only [hv, hsh, B, e1, e2, e3, e4]
theorem ret_int {k : IntKind} {a b : Int} (h : a = b) : Ending.returned (.int k a) = .returned (.int k b) := by rw [h]

set_option maxHeartbeats 1000000 in
theorem add_any (h : Nat) (v : Value) (l : List UInt8) (w : World) (hh : h < 4294967291) (hl : Byts w v l) :
    Calls Tryd.prog 55 #[.int .u64 (h : Int), v] w fun e w' => e = .returned (.int .u64 (addN h l : Int)) ∧ w' = w := by
  obtain ⟨a, cap, rfl, hlen, hc⟩ := hl
  cases l with
  | nil =>
    simp only [List.length_nil] at *
    clear hc
    go_enter Tryd.func55, Tryd.ntmps55
    go_wp2
    refine wp_loop_rounds 1 ?_
    rw [rounds_succ]
    go_wp2
    go_ret
    exact ⟨rfl, rfl⟩
  | cons c0 l0 =>
    obtain ⟨l, hl⟩ : ∃ l, l = c0 :: l0 := ⟨_, rfl⟩
    rw [← hl] at hc hlen ⊢
    have hpos : 0 < l.length := by rw [hl]; simp
    clear hl
    obtain ⟨b, off, rfl, _, _⟩ := hc 0 hpos
    have hcell : ∀ i, i < l.length → w.cell? ⟨b, off + i, none⟩ = some (B (l.getD i 0)) := fun i hi => by
      obtain ⟨b', off', e, _, hx⟩ := hc i hi
      simp only [Option.some.injEq, Addr.mk.injEq] at e
      obtain ⟨rfl, rfl, _⟩ := e
      exact hx
    clear hc
    generalize hn : l.length = n at *
    have HN := (show Hid (l.length = n) from hn)
    clear hn
    go_enter Tryd.func55, Tryd.ntmps55
    go_wp2
    go_loop [0, 9] (fun s i => ∃ k : Nat, k ≤ n ∧ i = .int .i64 k ∧ s = .int .u64 (addN h (l.take k) : Int)) (fun _ i => n - (intOf i).toNat)
    case atStart => exact ⟨0, Nat.zero_le _, rfl, rfl⟩
    case round =>
      obtain ⟨k, hk, rfl, rfl⟩ := hrel
      have hs0 := addN_lt h (l.take k) hh
      by_cases hlt : k < n
      · have hkl : k < l.length := by rw [HN.out]; exact hlt
        have hx := hcell k hlt
        have HS : Hid (addN h (l.take (k + 1)) = addB (addN h (l.take k)) (l.getD k 0)) := by
          show _ = _
          rw [take_snoc l k hkl, addN_snoc]
        generalize l.getD k 0 = c at hx HS
        have hcr := B_range c
        unfold B at hx
        generalize addN h (l.take k) = s at *
        clear hcell
        go_wp2
        go_round
        case rel => exact ⟨k + 1, by omega, by go_num, by rw [HS.out, addB_int]⟩
        case measure => simp [intOf]; omega
      · go_wp2
        go_ret
        exact ⟨ret_int (by rw [List.take_of_length_le (by rw [HN.out]; omega)]), rfl⟩

set_option maxHeartbeats 1000000 in
theorem hash_any (h : Nat) (w : World) (hh : h < 4294967291) :
    Calls Tryd.prog 54 #[.int .u64 (h : Int)] w fun e w' => e = .returned (hv (hsh h)) ∧ Below w.heap.size w w' := by
  go_enter Tryd.func54, Tryd.ntmps54
  go_wp2
  refine bodyPost_ret (v := .agg #[.int .u8 ((h : Int) / 16777216), .int .u8 ((h : Int) / 65536 % 256), .int .u8 ((h : Int) / 256 % 256), .int .u8 ((h : Int) % 256)]) (by simp [results, Tryd.results54, go_sem]) rfl ⟨?_, (Below.refl _ _).alloc (Nat.le_refl _) _⟩
  rw [hv_hsh h hh]

set_option maxHeartbeats 1000000 in
theorem split_any (n : Nat) (w : World) (h2 : 2 ≤ n) (hn : n ≤ 140737488355328) :
    Calls Tryd.prog 60 #[.int .i64 (n : Int)] w fun e w' => e = .returned (.int .i64 (half n : Int)) ∧ w' = w := by
  go_enter Tryd.func60, Tryd.ntmps60
  go_wp2
  go_loop [3] (fun i => ∃ k f : Nat, i = .int .i64 k ∧ 1 ≤ k ∧ k < n ∧ n ≤ k + f ∧ half n = halfF f n k) (fun i => n - (intOf i).toNat)
  case atStart => exact ⟨1, n, rfl, by omega, by omega, by omega, rfl⟩
  case round =>
    obtain ⟨k, f, rfl, hk1, hk2, hf, hfin⟩ := hrel
    have HF : Hid (half n = halfF f n k) := hfin
    clear hfin
    by_cases hlt : 2 * k < n
    · go_wp2
      go_round
      case rel => exact ⟨2 * k, f - 1, by go_num, by omega, hlt, by omega, by rw [HF.out]; conv => lhs; rw [show f = f - 1 + 1 by omega]; simp only [halfF]; rw [if_pos hlt]⟩
      case measure => simp [intOf]; omega
    · have hfin : half n = k := by
        rw [HF.out]
        cases f with
        | zero => rfl
        | succ f => simp only [halfF]; rw [if_neg hlt]
      clear HF
      have HE : Hid (half n = k) := hfin
      clear hfin
      go_wp2
      go_ret
      exact ⟨ret_int (by rw [HE.out]), rfl⟩

/-- One byte in a block of its own. -/
theorem Byts.one (w : World) (c : UInt8) (v : Value) (n : Nat) (t : TypeId) (hv : v = B c) (hn : n = w.heap.size) : Byts (w.alloc (.cells #[v] t)) (.slice (some ⟨n, 0, none⟩) 1 1) [c] := by
  subst hv hn
  exact ⟨_, 1, rfl, by simp, fun i hi => ⟨w.heap.size, 0, rfl, by simp, by
    have : i = 0 := by simp at hi; omega
    subst this
    simp⟩⟩
/-- A sum in a block of its own. -/
theorem Byts.sum {w : World} (x : H4) (b cap : Nat) (h0 : w.cell? ⟨b, 0, none⟩ = some (B x.1)) (h1 : w.cell? ⟨b, 1, none⟩ = some (B x.2.1)) (h2 : w.cell? ⟨b, 2, none⟩ = some (B x.2.2.1)) (h3 : w.cell? ⟨b, 3, none⟩ = some (B x.2.2.2)) :
    Byts w (.slice (some ⟨b, 0, none⟩) 4 cap) (bs x) := by
  have hlt : b < w.heap.size := by
    rcases Nat.lt_or_ge b w.heap.size with h' | h'
    · exact h'
    · simp [World.cell?, Array.getElem?_eq_none h'] at h0
  refine ⟨_, cap, rfl, by simp [bs], fun i hi => ⟨b, 0, rfl, hlt, ?_⟩⟩
  simp [bs] at hi
  match i, hi with
  | 0, _ => simpa [bs] using h0
  | 1, _ => simpa [bs] using h1
  | 2, _ => simpa [bs] using h2
  | 3, _ => simpa [bs] using h3

/-- Four cells of bytes at the head of a block, not frozen. -/
def Slot4 (w : World) (r : Nat) (a b c d : Value) : Prop :=
  w.cell? ⟨r, 0, none⟩ = some a ∧ w.cell? ⟨r, 1, none⟩ = some b ∧ w.cell? ⟨r, 2, none⟩ = some c ∧ w.cell? ⟨r, 3, none⟩ = some d ∧ ∀ o, w.frozen? ⟨r, o, none⟩ = false
theorem Slot4.below {w w' : World} {r n : Nat} {a b c d : Value} (h : Slot4 w r a b c d) (hb : Below n w w') (hr : r < n) : Slot4 w' r a b c d := by
  obtain ⟨h0, h1, h2, h3, hf⟩ := h
  exact ⟨(hb.cell (p := ⟨r, 0, none⟩) hr).trans h0, (hb.cell (p := ⟨r, 1, none⟩) hr).trans h1, (hb.cell (p := ⟨r, 2, none⟩) hr).trans h2, (hb.cell (p := ⟨r, 3, none⟩) hr).trans h3, fun o => (hb.frozen (p := ⟨r, o, none⟩) hr).trans (hf o)⟩
theorem Slot4.lt {w : World} {r : Nat} {a b c d : Value} (h : Slot4 w r a b c d) : r < w.heap.size := by
  rcases Nat.lt_or_ge r w.heap.size with h' | h'
  · exact h'
  · have := h.1; simp [World.cell?, Array.getElem?_eq_none h'] at this
theorem Slot4.alloc {w : World} {r : Nat} {a b c d : Value} (h : Slot4 w r a b c d) (o : Obj) : Slot4 (w.alloc o) r a b c d :=
  h.below ((Below.refl _ _).alloc (Nat.le_refl _) _) h.lt
theorem slot4_mk (w : World) (t : TypeId) (a b c d : Value) : Slot4 (w.alloc (.cells #[a, b, c, d] t)) w.heap.size a b c d := by
  refine ⟨?_, ?_, ?_, ?_, fun o => ?_⟩ <;> simp
theorem slot4_new (w : World) (t : TypeId) : Slot4 (w.alloc (.cells #[.int .u8 0, .int .u8 0, .int .u8 0, .int .u8 0] t)) w.heap.size (.int .u8 0) (.int .u8 0) (.int .u8 0) (.int .u8 0) := slot4_mk _ _ _ _ _ _
theorem Slot4.byts {w : World} {r : Nat} {x : H4} (h : Slot4 w r (B x.1) (B x.2.1) (B x.2.2.1) (B x.2.2.2)) (cap : Nat) : Byts w (.slice (some ⟨r, 0, none⟩) 4 cap) (bs x) :=
  Byts.sum x r cap h.1 h.2.1 h.2.2.1 h.2.2.2.1

set_option maxHeartbeats 1000000 in
theorem sum_any (v : Value) (l : List UInt8) (w : World) (hl : Byts w v l) :
    Calls Tryd.prog 42 #[v] w fun e w' => e = .returned (hv (sumL l)) ∧ Below w.heap.size w w' := by
  have h5 : addN 5381 l < 4294967291 := addN_lt _ _ (by decide)
  obtain ⟨⟨x0, x1, x2, x3⟩, hx⟩ : ∃ x, sumL l = x := ⟨_, rfl⟩
  rw [hx]
  have HX : Hid (hsh (addN 5381 l) = (x0, x1, x2, x3)) := hx
  clear hx
  go_enter Tryd.func42, Tryd.ntmps42
  go_wp2_with fail
  refine (add_any 5381 v l _ (by decide) (hl.below ((Below.refl _ _).alloc (Nat.le_refl _) _) (Nat.le_refl _))).mono ?_
  rintro e w1 ⟨rfl, rfl⟩
  go_wp2_with fail
  refine (hash_any _ _ h5).mono ?_
  rintro e w1 ⟨rfl, hb1⟩
  rw [HX.out]
  have hz : w.heap.size < w1.heap.size := by have := hb1.size; simp at this; omega
  obtain ⟨c0, c1, c2, c3, f0⟩ := (slot4_new w 62).below hb1 (by simp)
  have HC : Hid (Below w.heap.size w w1) := ((Below.refl _ _).alloc (Nat.le_refl _) _).trans (hb1.mono (by simp))
  clear hb1 hl h5 HX
  simp only [hv, B]
  go_wp2
  refine bodyPost_ret (v := .agg #[.int .u8 x0.toNat, .int .u8 x1.toNat, .int .u8 x2.toNat, .int .u8 x3.toNat]) (by simp [results, Tryd.results42, go_sem, c0, c1, c2, c3]) rfl ⟨rfl, ?_⟩
  exact Below.setCell (Below.setCell (Below.setCell (Below.setCell HC.out (Nat.le_refl _) _) (Nat.le_refl _) _) (Nat.le_refl _) _) (Nat.le_refl _) _

set_option maxHeartbeats 1000000 in
theorem leafSum_any (v : Value) (l : List UInt8) (w : World) (hl : Byts w v l) :
    Calls Tryd.prog 46 #[v] w fun e w' => e = .returned (hv (leafL l)) ∧ Below w.heap.size w w' := by
  have h5 : addN 5381 [0] < 4294967291 := addN_lt _ _ (by decide)
  have h6 : addN (addN 5381 [0]) l < 4294967291 := addN_lt _ _ h5
  obtain ⟨⟨x0, x1, x2, x3⟩, hx⟩ : ∃ x, leafL l = x := ⟨_, rfl⟩
  rw [hx]
  have HX : Hid (hsh (addN (addN 5381 [0]) l) = (x0, x1, x2, x3)) := hx
  clear hx
  go_enter Tryd.func46, Tryd.ntmps46
  go_wp2_with fail
  refine (add_any 5381 _ [0] _ (by decide) ?hb).mono ?_
  case hb => exact Byts.one (w.alloc _) 0 _ _ _ rfl (by simp)
  rintro e w1 ⟨rfl, rfl⟩
  go_wp2_with fail
  refine (add_any _ v l _ h5 ?hb2).mono ?_
  case hb2 => exact hl.below (((Below.refl _ _).alloc (Nat.le_refl _) _).alloc (by simp) _) (Nat.le_refl _)
  rintro e w1 ⟨rfl, rfl⟩
  go_wp2_with fail
  refine (hash_any _ _ h6).mono ?_
  rintro e w1 ⟨rfl, hb1⟩
  rw [HX.out]
  have hz : w.heap.size < w1.heap.size := by have := hb1.size; simp at this; omega
  obtain ⟨c0, c1, c2, c3, f0⟩ := ((slot4_new w 62).alloc _).below hb1 (by simp <;> omega)
  have HC : Hid (Below w.heap.size w w1) := (((Below.refl _ _).alloc (Nat.le_refl _) _).alloc (by simp) _).trans (hb1.mono (by simp; omega))
  clear hb1 hl h5 h6 HX
  simp only [hv, B]
  go_wp2
  refine bodyPost_ret (v := .agg #[.int .u8 x0.toNat, .int .u8 x1.toNat, .int .u8 x2.toNat, .int .u8 x3.toNat]) (by simp [results, Tryd.results46, go_sem, c0, c1, c2, c3]) rfl ⟨rfl, ?_⟩
  exact Below.setCell (Below.setCell (Below.setCell (Below.setCell HC.out (Nat.le_refl _) _) (Nat.le_refl _) _) (Nat.le_refl _) _) (Nat.le_refl _) _

set_option maxHeartbeats 1000000 in
theorem nodeSum_any (x y : H4) (w : World) :
    Calls Tryd.prog 59 #[hv x, hv y] w fun e w' => e = .returned (hv (nodeL x y)) ∧ Below w.heap.size w w' := by
  have h5 : addN 5381 [1] < 4294967291 := addN_lt _ _ (by decide)
  have h6 : addN (addN 5381 [1]) (bs x) < 4294967291 := addN_lt _ _ h5
  have h7 : addN (addN (addN 5381 [1]) (bs x)) (bs y) < 4294967291 := addN_lt _ _ h6
  obtain ⟨⟨z0, z1, z2, z3⟩, hz⟩ : ∃ z, nodeL x y = z := ⟨_, rfl⟩
  rw [hz]
  have HX : Hid (hsh (addN (addN (addN 5381 [1]) (bs x)) (bs y)) = (z0, z1, z2, z3)) := hz
  clear hz
  obtain ⟨x0, x1, x2, x3⟩ := x
  obtain ⟨y0, y1, y2, y3⟩ := y
  have S1 := ((((slot4_mk w 62 (B x0) (B x1) (B x2) (B x3)).alloc (.cells #[B y0, B y1, B y2, B y3] 62)).alloc (.cells #[.int .u8 0, .int .u8 0, .int .u8 0, .int .u8 0] 62)).alloc (.cells #[.int .u8 1] 5))
  have S2 := (((slot4_mk (w.alloc (.cells #[B x0, B x1, B x2, B x3] 62)) 62 (B y0) (B y1) (B y2) (B y3)).alloc (.cells #[.int .u8 0, .int .u8 0, .int .u8 0, .int .u8 0] 62)).alloc (.cells #[.int .u8 1] 5))
  have S3 := ((slot4_new ((w.alloc (.cells #[B x0, B x1, B x2, B x3] 62)).alloc (.cells #[B y0, B y1, B y2, B y3] 62)) 62).alloc (.cells #[.int .u8 1] 5))
  rw [World.size_alloc] at S2
  rw [World.size_alloc, World.size_alloc] at S3
  have HB : Hid (Below w.heap.size w ((((w.alloc (.cells #[B x0, B x1, B x2, B x3] 62)).alloc (.cells #[B y0, B y1, B y2, B y3] 62)).alloc (.cells #[.int .u8 0, .int .u8 0, .int .u8 0, .int .u8 0] 62)).alloc (.cells #[.int .u8 1] 5))) :=
    ((((Below.refl _ _).alloc (Nat.le_refl _) _).alloc (by simp) _).alloc (by simp; omega) _).alloc (by simp; omega) _
  have bx := S1.byts (x := (x0, x1, x2, x3)) 4
  have byy := S2.byts (x := (y0, y1, y2, y3)) 4
  simp only [hv, B] at *
  go_enter Tryd.func59, Tryd.ntmps59
  go_wp2_with fail
  refine (add_any 5381 _ [1] _ (by decide) ?hb).mono ?_
  case hb => exact Byts.one _ 1 _ _ _ rfl (by simp)
  rintro e w1 ⟨rfl, rfl⟩
  go_wp2_with fail
  refine (add_any _ _ (bs (x0, x1, x2, x3)) _ h5 ?hb2).mono ?_
  case hb2 => exact bx
  rintro e w1 ⟨rfl, rfl⟩
  go_wp2_with fail
  refine (add_any _ _ (bs (y0, y1, y2, y3)) _ h6 ?hb3).mono ?_
  case hb3 => exact byy
  rintro e w1 ⟨rfl, rfl⟩
  go_wp2_with fail
  refine (hash_any _ _ h7).mono ?_
  rintro e w1 ⟨rfl, hb1⟩
  rw [HX.out]
  have hz : w.heap.size + 1 + 1 < w1.heap.size := by have := hb1.size; simp at this; omega
  obtain ⟨c0, c1, c2, c3, f0⟩ := S3.below hb1 (by simp <;> omega)
  have HC : Hid (Below w.heap.size w w1) := HB.out.trans (hb1.mono (by simp; omega))
  clear hb1 h5 h6 h7 HX HB S1 S2 S3 bx byy
  simp only [hv, B]
  go_wp2
  refine bodyPost_ret (v := .agg #[.int .u8 z0.toNat, .int .u8 z1.toNat, .int .u8 z2.toNat, .int .u8 z3.toNat]) (by simp [results, Tryd.results59, go_sem, c0, c1, c2, c3]) rfl ⟨rfl, ?_⟩
  exact Below.setCell (Below.setCell (Below.setCell (Below.setCell HC.out (by simp; omega) _) (by simp; omega) _) (by simp; omega) _) (by simp; omega) _
end Go.Proofs.YtepehjalpkfniaaDoor
