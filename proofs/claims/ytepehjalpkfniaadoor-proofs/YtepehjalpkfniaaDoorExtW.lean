/-
  OWN. A chain that leads from one digest to another (chain: Leads), whatever the digests; daybook's Extends: walked. No project text.
-/
import Derived.Test.YtepehjalpkfniaaDoorLeadW
import Derived.Test.YtepehjalpkfniaaDoorPlainE
namespace Go.Proofs.YtepehjalpkfniaaDoor
open Go.RowKit

set_option maxRecDepth 100000 in
set_option maxHeartbeats 2000000 in
theorem leads_neg (b : Int) (h : H4) (m : Int) (g : H4) (v : Value) (w : World) (hb : b < 0) :
    Calls Tryd.prog 51 #[dgv b h, dgv m g, v] w fun e w' => e = .returned (.bool false) ∧ Below w.heap.size w w' := by
  obtain ⟨h0, h1, h2, h3⟩ := h
  obtain ⟨g0, g1, g2, g3⟩ := g
  simp only [dgv, B]
  go_enter Tryd.func51, Tryd.ntmps51
  go_wp2
  go_ret
  exact ⟨rfl, ((Below.refl _ _).alloc (Nat.le_refl _) _).alloc (by simp) _⟩
set_option maxRecDepth 100000 in
set_option maxHeartbeats 2000000 in
theorem leads_zero (h : H4) (m : Int) (g : H4) (v : Value) (w : World) (hh : h ≠ zero4) :
    Calls Tryd.prog 51 #[dgv 0 h, dgv m g, v] w fun e w' => e = .returned (.bool false) ∧ Below w.heap.size w w' := by
  obtain ⟨h0, h1, h2, h3⟩ := h
  obtain ⟨g0, g1, g2, g3⟩ := g
  have e0 : ∀ W, (Op.equalIn 10000 62 (.agg #[.int .u8 h0.toNat, .int .u8 h1.toNat, .int .u8 h2.toNat, .int .u8 h3.toNat]) (.agg #[.int .u8 0, .int .u8 0, .int .u8 0, .int .u8 0])).run Tryd.prog W = .ok false W := fun W => by
    have e := eqH (h0, h1, h2, h3) zero4 W
    rw [decide_eq_false hh] at e
    exact e
  clear hh
  simp only [dgv, B]
  go_enter Tryd.func51, Tryd.ntmps51
  go_wp2
  go_ret
  exact ⟨rfl, ((Below.refl _ _).alloc (Nat.le_refl _) _).alloc (by simp) _⟩
theorem leads_any (b : Int) (h : H4) (m : Int) (g : H4) (l : List UInt8) (blk off cap : Nat) (w : World) (hb : b ≤ 9223372036854775807) (hl : l.length ≤ 140737488351232) (hlc : l.length ≤ cap) (hc : cap ≤ 140737488355328) (hi : InB w blk off l) :
    Calls Tryd.prog 51 #[dgv b h, dgv m g, .slice (some ⟨blk, off, none⟩) l.length cap] w fun e w' => e = .returned (.bool (extB b h m g l)) ∧ Below w.heap.size w w' := by
  by_cases h0 : b < 0
  · rw [extB_neg b h m g l h0]
    exact leads_neg b h m g _ w h0
  · obtain ⟨n, rfl⟩ : ∃ n : Nat, b = (n : Int) := ⟨b.toNat, by omega⟩
    by_cases hz : n = 0 → h = zero4
    · rw [extB_T n h m g l hz]
      exact leads_go n h m g l blk off cap w (by omega) hz hl hlc hc hi
    · have hn : n = 0 := Classical.byContradiction fun e => hz (fun e' => absurd e' e)
      have hh : h ≠ zero4 := fun e => hz (fun _ => e)
      subst hn
      show Calls Tryd.prog 51 #[dgv 0 h, dgv m g, .slice (some ⟨blk, off, none⟩) l.length cap] w fun e w' => e = .returned (.bool (extB 0 h m g l)) ∧ Below w.heap.size w w'
      rw [extB_zero h m g l hh]
      exact leads_zero h m g _ w hh
theorem LentAt.inB {w : World} {u : Value} {l : List UInt8} {b : Nat} (h : LentAt w u l b) : InB w b 0 l := by
  obtain ⟨cs, _, hh, _, _, hc, _⟩ := h
  refine ⟨(Array.getElem?_eq_some_iff.1 hh).1, fun i hi => ?_⟩
  rw [Nat.zero_add, cell_of_row w b i cs _ (0, 0) hh]
  exact hc i hi
theorem LentAt.shape {w : World} {u : Value} {l : List UInt8} {b : Nat} (h : LentAt w u l b) : u = .slice (some ⟨b, 0, none⟩) l.length (l.length + 2) ∧ l.length ≤ 140737488351232 := by
  obtain ⟨cs, e, _, _, hl, _⟩ := h
  exact ⟨e, hl⟩

set_option maxRecDepth 100000 in
set_option maxHeartbeats 2000000 in
theorem ext_at : ExtAt := by
  intro b m h g v l blk w wb wm hg hl
  obtain ⟨rfl, hlen⟩ := hl.shape
  have hi := hl.inB
  have HL := hide (fun W (h2 : InB W blk 0 l) => leads_any b h m g l blk 0 (l.length + 2) W wb.2 hlen (by omega) (by omega) h2)
  have HI := hide hi
  have hblk := hi.1
  clear hi hl hg wm
  generalize extB b h m g l = ok at *
  obtain ⟨h0, h1, h2, h3⟩ := h
  obtain ⟨g0, g1, g2, g3⟩ := g
  simp only [dg, dgv, B] at *
  go_enter Tryd.func37, Tryd.ntmps37
  go_wp2_with fail
  refine (HL.out _ ?h1).mono ?_
  case h1 => exact HI.out.below (((Below.refl _ _).alloc (Nat.le_refl _) _).alloc (by simp) _) hblk
  rintro e w1 ⟨rfl, hb1⟩
  have B1 : Hid (Below w.heap.size w w1) := (((Below.refl _ _).alloc (Nat.le_refl _) _).alloc (by simp) _).trans (hb1.mono (by simp; omega))
  clear hb1 HL
  cases ok
  · go_wp2
    go_ret
    exact ⟨rfl, B1.out⟩
  · go_wp2
    go_ret
    exact ⟨rfl, B1.out⟩
end Go.Proofs.YtepehjalpkfniaaDoor
