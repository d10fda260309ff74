/-
  OWN. A copy of bytes (bytes: Clone), walked. No project text.
-/
import Derived.Test.YtepehjalpkfniaaDoorHead
import Derived.Test.YtepehjalpkfniaaDoorPartsH
namespace Go.Proofs.YtepehjalpkfniaaDoor
open Go.RowKit

theorem clone_row (w : World) : (w.alloc (.cells #[] 5)).ownsRow w.heap.size 5 1 (.slice (some ⟨w.heap.size, 0, none⟩) 0 0) 0 [] := by
  refine ⟨rfl, .inr ⟨w.heap.size, 0, #[], rfl, Nat.le_refl _, ?_, Nat.le_refl _, Nat.zero_le _, rfl, rfl⟩⟩
  show (w.heap.push _)[w.heap.size]? = _
  simp

set_option maxRecDepth 100000 in
set_option maxHeartbeats 2000000 in
theorem clone_any (l : List UInt8) (blk off cap : Nat) (w : World) (hl : l.length ≤ 1048576) (hi : InB w blk off l) :
    Calls Tryd.prog 66 #[.slice (some ⟨blk, off, none⟩) l.length cap] w fun e w' => ∃ u, e = .returned u ∧ OwnB w' w.heap.size u l ∧ Below w.heap.size w w' := by
  obtain ⟨i0, hi0, hz0, hz1, hz2⟩ := info_parts info_u8
  have HA : Hid (InB (w.alloc (.cells #[] 5)) blk off l) := hi.below ((Below.refl _ _).alloc (Nat.le_refl _) _) hi.1
  have HO := hide (clone_row w)
  have hnil := fun W => Lib.run_eql_slice_nil (P := Tryd.prog) W 37 5 (some ⟨blk, off, none⟩) l.length cap 0 0 Tryd.underlying37
  clear hi
  go_enter Tryd.func66, Tryd.ntmps66
  go_wp2_with (at_builtin; refine wpList_append_own _ rfl _ _ 37 rfl w.heap.size 5 i0 (.int .u8 0) 1 1 Tryd.underlying37 hi0 hz0 hz1 hz2 rfl (by decide) _ _ _ rfl HO.out ⟨blk, off, none⟩ l.length cap (l.map B) rfl ?c0 HA.out.src (oneB l) ?c3 ?c4 ?c5 ?_)
  case c0 => simp
  case c3 => unfold maxLen; omega
  case c4 => omega
  case c5 => simp
  intro v' w2 hown hgrow _
  have G1 : Hid (OwnB w2 w.heap.size v' l) := by
    show OwnB _ _ _ _
    unfold OwnB
    exact hown
  have G2 : Hid (Below w.heap.size w w2) := ((Below.refl _ _).alloc (Nat.le_refl _) _).grown hgrow (by simp) (fun j hj => by
    have h : some w.heap.size = some j := hj
    cases h
    exact Nat.le_refl _)
  clear hown hgrow HA HO
  go_wp2
  go_ret
  exact ⟨_, rfl, G1.out, G2.out⟩
end Go.Proofs.YtepehjalpkfniaaDoor
