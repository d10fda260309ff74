/-
  OWN. api.Told and plain's told, walked out of the contracts on errors.As and errors.Is. No project text.
-/
import Derived.Test.YtepehjalpkfniaaDoorAs
import Derived.BigQuiet
import Derived.Deep.QuietTactic
namespace Go.Proofs.YtepehjalpkfniaaDoor
open Go.RowKit

theorem below_drewN {B : Nat} {a w : World} (h : Below B a w) (n : Nat) : Below B a (w.drewN n) := h.trans ⟨rfl, rfl, rfl, Nat.le_refl _, fun _ _ => rfl⟩
theorem bcell {W w1 : World} (hb : Below W.heap.size W w1) : (∀ b o, b < W.heap.size → w1.cell? ⟨b, o, none⟩ = W.cell? ⟨b, o, none⟩) ∧ (∀ b o, b < W.heap.size → w1.frozen? ⟨b, o, none⟩ = W.frozen? ⟨b, o, none⟩) :=
  ⟨fun b o h => hb.cell (p := ⟨b, o, none⟩) h, fun b o h => hb.frozen (p := ⟨b, o, none⟩) h⟩

set_option maxHeartbeats 1000000 in
theorem apiTold_nil (w : World) :
    Calls Tryd.prog 43 #[.nilIface] w fun e w' => e = .returned (.tuple #[.int .i64 0, .string ⟨#[]⟩]) ∧ Below w.heap.size w w' := by
  go_enter Tryd.func43, Tryd.ntmps43
  go_wp2_with (go_at_call 56; refine (as_nil _ _).mono ?_; rintro e w' ⟨rfl, rfl⟩)
  go_ret2
  exact ⟨rfl, ((Below.refl _ _).alloc (Nat.le_refl _) _).alloc (by simp) _⟩

set_option maxHeartbeats 1000000 in
theorem apiTold_kind (k : Int) (w : World) (hg : ErrT w) :
    Calls Tryd.prog 43 #[.iface 22 (.int .i64 k)] w fun e w' => e = .returned (.tuple #[.int .i64 k, .string ⟨#[]⟩]) ∧ Below w.heap.size w w' := by
  go_enter Tryd.func43, Tryd.ntmps43
  go_wp2_with fail
  refine (as_miss k _ _ (hg.alloc _)).mono ?_
  rintro e w' ⟨rfl, rfl⟩
  go_wp2_with fail
  refine (as_hit22 k _ (.int .i64 0) _ ?hg ?hc ?hf).mono ?_
  case hg => exact ((((hg.alloc _).alloc _).alloc _).alloc _).alloc _
  case hc => rw [World.cell?_alloc_at _ _ _ _ (by simp)]; rfl
  case hf => rw [World.frozen?_alloc_at _ _ _ _ (by simp)]
  rintro e w' ⟨rfl, rfl⟩
  go_wp2
  go_ret2
  refine ⟨rfl, ?_⟩
  repeat (first | exact Below.refl _ _ | refine Below.setCell ?_ (by simp) _ | refine Below.alloc ?_ (by simp <;> omega) _)

set_option maxHeartbeats 1000000 in
theorem apiTold_table (pb po : Nat) (s : ByteArray) (k : Int) (w : World) (hg : ErrT w) (h0 : w.cell? ⟨pb, po, none⟩ = some (.string s)) (h1 : w.cell? ⟨pb, po + 1, none⟩ = some (.int .i64 k)) :
    Calls Tryd.prog 43 #[.iface 56 (.pointer (some ⟨pb, po, none⟩))] w fun e w' => e = .returned (.tuple #[.int .i64 k, .string s]) ∧ Below w.heap.size w w' := by
  have hp : pb < w.heap.size := cell_lt h0
  go_enter Tryd.func43, Tryd.ntmps43
  go_wp2_with fail
  refine (as_hit49 _ _ (.pointer none) _ (hg.alloc _) (by simp) (by simp)).mono ?_
  rintro e w2 ⟨rfl, hw2⟩
  have hb : Below w.heap.size w w2 := by
    rw [hw2]
    repeat (first | exact Below.refl _ _ | refine Below.setCell ?_ (by simp) _ | refine Below.alloc ?_ (by simp <;> omega) _)
  have t0 : w2.cell? ⟨w.heap.size, 0, none⟩ = some (.pointer (some ⟨pb, po, none⟩)) := by
    rw [hw2]
    refine World.cell?_setCell_same _ _ _ (u := .pointer none) ?_
    rw [World.cell?_alloc_past _ _ _ (by simp <;> omega), World.cell?_alloc_past _ _ _ (by simp <;> omega), World.cell?_alloc_past _ _ _ (by simp <;> omega), World.cell?_alloc_past _ _ _ (by simp <;> omega), World.cell?_alloc_at _ _ _ _ rfl]
    rfl
  have c0 : w2.cell? ⟨pb, po, none⟩ = some (.string s) := (hb.cell (p := ⟨pb, po, none⟩) hp).trans h0
  have c1 : w2.cell? ⟨pb, po + 1, none⟩ = some (.int .i64 k) := (hb.cell (p := ⟨pb, po + 1, none⟩) hp).trans h1
  clear hw2 h0 h1
  go_wp2
  go_quiet (fail)
  go_wp2
  go_ret2
  refine ⟨rfl, ?_⟩
  exact below_drewN hb _

/-- told, of whatever error of which Told and errors.Is say the same. -/
theorem told_of (err : Value) (k : Int) (s : ByteArray) (w : World)
    (h32 : Hid (∀ W, Below w.heap.size w W → Calls Tryd.prog 43 #[err] W fun e w' => e = .returned (.tuple #[.int .i64 k, .string s]) ∧ Below W.heap.size W w'))
    (h33 : Hid (∀ (m : Int) W, 1 ≤ m → Below w.heap.size w W → Calls Tryd.prog 44 #[err, .iface 22 (.int .i64 m)] W fun e w' => e = .returned (.bool (m == k)) ∧ w' = W)) :
    Calls Tryd.prog 28 #[err] w fun e w' => e = .returned (.agg #[.int .i64 k, .string s, .bool true]) ∧ Below w.heap.size w w' := by
  go_enter Tryd.func28, Tryd.ntmps28
  go_wp2_with fail
  refine (h32.out _ ?hb).mono ?_
  case hb => exact (Below.refl _ _).alloc (Nat.le_refl _) _
  rintro e w1 ⟨rfl, hb1⟩
  obtain ⟨hc, hf⟩ := bcell hb1
  have hz : w.heap.size < w1.heap.size := by have := hb1.size; simp at this; omega
  have c0 : w1.cell? ⟨w.heap.size, 0, none⟩ = some (.int .i64 0) := by rw [hc _ _ (by simp)]; simp
  have c1 : w1.cell? ⟨w.heap.size, 1, none⟩ = some (.string ⟨#[]⟩) := by rw [hc _ _ (by simp)]; simp
  have c2 : w1.cell? ⟨w.heap.size, 2, none⟩ = some (.bool false) := by rw [hc _ _ (by simp)]; simp
  have f0 : w1.frozen? ⟨w.heap.size, 0, none⟩ = false := by rw [hf _ _ (by simp)]; simp
  have f1 : w1.frozen? ⟨w.heap.size, 1, none⟩ = false := by rw [hf _ _ (by simp)]; simp
  have f2 : w1.frozen? ⟨w.heap.size, 2, none⟩ = false := by rw [hf _ _ (by simp)]; simp
  clear hc hf
  have HC : Hid (Below w.heap.size w w1) := ((Below.refl _ _).alloc (Nat.le_refl _) _).trans (hb1.mono (by simp))
  have HB : Hid (Below w.heap.size w (w1.alloc (.cells #[.int .i64 k, .string s, .bool true] 24))) := Below.alloc HC.out (by omega) _
  go_wp2
  go_loop [6] (fun i => ∃ m : Int, 1 ≤ m ∧ m ≤ 22 ∧ i = .int .i64 m) (fun i => (22 - intOf i).toNat)
  case atStart => exact ⟨1, by omega, by omega, rfl⟩
  case round =>
    obtain ⟨m, hm1, hm2, rfl⟩ := hrel
    by_cases hle : m ≤ 21
    · have hne : ((m == k) != (m == k)) = false := by simp
      go_wp2_with fail
      refine (h33.out m _ ?h1 ?hb).mono ?_
      case h1 => omega
      case hb => exact HB.out
      rintro e w' ⟨rfl, rfl⟩
      go_wp2
      go_round
      case rel => exact ⟨m + 1, by omega, by omega, rfl⟩
      case measure => simp [intOf]; omega
    · go_wp2
      refine bodyPost_ret (v := .agg #[.int .i64 k, .string s, .bool true]) (by simp [results, Tryd.results28, go_sem, hz, c0, c1, c2]) rfl ⟨rfl, ?_⟩
      exact Below.alloc (Below.setCell (Below.setCell (Below.setCell HC.out (Nat.le_refl _) _) (Nat.le_refl _) _) (Nat.le_refl _) _) (by simp [World.setCell]; omega) _

theorem told_nil (w : World) :
    Calls Tryd.prog 28 #[.nilIface] w fun e w' => e = .returned (.agg #[.int .i64 0, .string ⟨#[]⟩, .bool true]) ∧ Below w.heap.size w w' :=
  told_of .nilIface 0 ⟨#[]⟩ w (fun W _ => apiTold_nil W) (fun m W hm _ => by
    have h : (m == 0) = false := beq_eq_false_iff_ne.2 (by omega)
    rw [h]; exact is_nil m W)
theorem told_kind (k : Int) (w : World) (hg : ErrT w) :
    Calls Tryd.prog 28 #[.iface 22 (.int .i64 k)] w fun e w' => e = .returned (.agg #[.int .i64 k, .string ⟨#[]⟩, .bool true]) ∧ Below w.heap.size w w' :=
  told_of _ k ⟨#[]⟩ w (fun W hb => apiTold_kind k W (hg.below hb hg.lt)) (fun m W _ _ => by
    have e : (m == k) = (k == m) := by rw [Bool.eq_iff_iff]; simp only [beq_iff_eq]; exact eq_comm
    rw [e]; exact is_kind k m W)
theorem told_table (pb po : Nat) (s : ByteArray) (k : Int) (w : World) (hg : ErrT w) (h0 : w.cell? ⟨pb, po, none⟩ = some (.string s)) (h1 : w.cell? ⟨pb, po + 1, none⟩ = some (.int .i64 k)) :
    Calls Tryd.prog 28 #[.iface 56 (.pointer (some ⟨pb, po, none⟩))] w fun e w' => e = .returned (.agg #[.int .i64 k, .string s, .bool true]) ∧ Below w.heap.size w w' :=
  told_of _ k s w (fun W hb => apiTold_table pb po s k W (hg.below hb hg.lt) ((hb.cell (p := ⟨pb, po, none⟩) (cell_lt h0)).trans h0) ((hb.cell (p := ⟨pb, po + 1, none⟩) (cell_lt h1)).trans h1)) (fun m W _ hb => by
    have e : (m == k) = (k == m) := by rw [Bool.eq_iff_iff]; simp only [beq_iff_eq]; exact eq_comm
    rw [e]; exact is_table pb po k m W ((hb.cell (p := ⟨pb, po + 1, none⟩) (cell_lt h1)).trans h1))
end Go.Proofs.YtepehjalpkfniaaDoor
