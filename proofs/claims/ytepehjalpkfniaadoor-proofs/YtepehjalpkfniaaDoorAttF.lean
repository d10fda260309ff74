/-
  OWN. daybook's Attested, walked; the claim. No project text.
-/
import Derived.Test.YtepehjalpkfniaaDoorAttW
import Derived.Test.YtepehjalpkfniaaDoorProofsF
namespace Go.Proofs.YtepehjalpkfniaaDoor
open Go.RowKit

theorem OwnB.newB {w : World} {base : Nat} {v : Value} {l : List UInt8} (h : OwnB w base v l) : NewB base w v l := by
  rcases h.2 with ⟨e, e2⟩ | ⟨g, cap, cur, e, hb, hg, hc, _⟩
  · have e0 : l = [] := List.length_eq_zero_iff.1 e2
    subst e0
    exact ⟨none, 0, e, fun i hi => by simp at hi⟩
  · refine ⟨_, cap, e, fun i hi => ⟨g, 0, rfl, hb, (Array.getElem?_eq_some_iff.1 hg).1, ?_⟩⟩
    rw [e] at h
    rw [Nat.zero_add]
    refine (World.ownsRow.cellAt h i (by omega)).trans ?_
    rw [List.getElem?_map, List.getElem?_eq_getElem hi]
    simp [hi]
theorem Shown.shows {n : Nat} {w : World} {u : Value} {o : Option (List UInt8)} (h : Shown n w u o) : Shows n w u o := by
  cases o with
  | none => exact h
  | some t => exact OwnB.newB h

set_option maxRecDepth 100000 in
set_option maxHeartbeats 2000000 in
theorem att_at : AttAt := by
  intro m g v l blk w wm hg hl
  obtain ⟨rfl, hlen⟩ := hl.shape
  have hi := hl.inB
  have HL := hide (fun W (h2 : InB W blk 0 l) => catt_any l blk 0 (l.length + 2) m g W hlen (by omega) (by omega) h2)
  rw [att_same] at HL
  have HI := hide hi
  have hblk := hi.1
  clear hi hl hg wm
  generalize attL l m g = o at *
  obtain ⟨g0, g1, g2, g3⟩ := g
  simp only [dg, dgv, B] at *
  go_enter Tryd.func38, Tryd.ntmps38
  go_wp2_with fail
  refine (HL.out _ ?h1).mono ?_
  case h1 => exact HI.out.below ((Below.refl _ _).alloc (Nat.le_refl _) _) hblk
  rintro e w1 ⟨u, rfl, hs, hb1⟩
  have B1 : Hid (Below w.heap.size w w1) := ((Below.refl _ _).alloc (Nat.le_refl _) _).trans (hb1.mono (by simp))
  clear hb1 HL
  cases o with
  | none =>
    clear hs
    simp only [Option.isSome_none]
    go_wp2
    exact bodyPost_ret (v := .tuple #[.slice none 0 0, .iface 22 (.int .i64 19)]) (by simp [results, Tryd.results38, go_sem]) rfl ⟨_, rfl, rfl, B1.out⟩
  | some t =>
    have HS : Hid (Shows w.heap.size w1 u (some t)) := (Shown.shows hs).mono (by simp)
    clear hs
    simp only [Option.isSome_some]
    go_wp2
    exact bodyPost_ret (v := .tuple #[u, .nilIface]) (by simp [results, Tryd.results38, go_sem]) rfl ⟨_, rfl, HS.out, B1.out⟩

theorem proofs_card : Rows.ProofsCardSaid := proofs_card_of ext_at att_at
end Go.Proofs.YtepehjalpkfniaaDoor
