/-
  OWN. plain's Attested, by the contract of the call behind it: walked. No project text.
-/
import Derived.Test.YtepehjalpkfniaaDoorRefA
import Derived.Test.YtepehjalpkfniaaDoorPlainE
namespace Go.Proofs.YtepehjalpkfniaaDoor
open Go.RowKit

/-- Bytes in memory that is new since the mark n. -/
def NewB (n : Nat) (w : World) (u : Value) (t : List UInt8) : Prop :=
  ∃ a cap, u = .slice a t.length cap ∧ ∀ i, i < t.length → ∃ b off, a = some ⟨b, off, none⟩ ∧ n ≤ b ∧ b < w.heap.size ∧ w.cell? ⟨b, off + i, none⟩ = some (B (t.getD i 0))
theorem NewB.below {n k : Nat} {w w' : World} {u : Value} {t : List UInt8} (h : NewB n w u t) (hb : Below k w w') (hk : w.heap.size ≤ k) : NewB n w' u t := by
  obtain ⟨a, cap, e, hc⟩ := h
  refine ⟨a, cap, e, fun i hi => ?_⟩
  obtain ⟨b, off, ea, hn, hlt, hcell⟩ := hc i hi
  exact ⟨b, off, ea, hn, Nat.lt_of_lt_of_le hlt hb.size, (hb.cell (p := ⟨b, off + i, none⟩) (Nat.lt_of_lt_of_le hlt hk)).trans hcell⟩
theorem NewB.mono {n k : Nat} {w : World} {u : Value} {t : List UInt8} (h : NewB n w u t) (hk : k ≤ n) : NewB k w u t := by
  obtain ⟨a, cap, e, hc⟩ := h
  refine ⟨a, cap, e, fun i hi => ?_⟩
  obtain ⟨b, off, ea, hn, hlt, hcell⟩ := hc i hi
  exact ⟨b, off, ea, Nat.le_trans hk hn, hlt, hcell⟩
/-- What Attested hands out beside its error. -/
def Shows (n : Nat) (w : World) (u : Value) : Option (List UInt8) → Prop
  | none => u = .slice none 0 0
  | some t => NewB n w u t
theorem Shows.below {n k : Nat} {w w' : World} {u : Value} {o : Option (List UInt8)} (h : Shows n w u o) (hb : Below k w w') (hk : w.heap.size ≤ k) : Shows n w' u o := by
  cases o with
  | none => exact h
  | some t => exact NewB.below h hb hk
theorem Shows.mono {n k : Nat} {w : World} {u : Value} {o : Option (List UInt8)} (h : Shows n w u o) (hk : k ≤ n) : Shows k w u o := by
  cases o with
  | none => exact h
  | some t => exact NewB.mono h hk
theorem Shows.slice {n : Nat} {w : World} {u : Value} {o : Option (List UInt8)} (h : Shows n w u o) : ∃ a l c, u = .slice a l c := by
  cases o with
  | none => exact ⟨_, _, _, h⟩
  | some t => obtain ⟨a, c, e, _⟩ := h; exact ⟨a, _, c, e⟩
theorem Shows.setCell {n : Nat} {w : World} {u : Value} {o : Option (List UInt8)} (h : Shows n w u o) (p : Addr) (x : Value) (hp : p.block < n) : Shows n (w.setCell p x) u o := by
  cases o with
  | none => exact h
  | some t =>
    obtain ⟨a, cap, e, hc⟩ := h
    refine ⟨a, cap, e, fun i hi => ?_⟩
    obtain ⟨c, off, ea, hn, hlt, hcell⟩ := hc i hi
    exact ⟨c, off, ea, hn, by simpa [World.setCell] using hlt, (World.cell?_of_block (Below.heap_setCell w p x c (by omega))).trans hcell⟩
/-- What is asked of the program's Attested: in whatever world the evidence is lent. -/
def AttAt : Prop := ∀ (m : Int) (g : H4) (v : Value) (l : List UInt8) (blk : Nat) (W : World), (-9223372036854775808 ≤ m ∧ m ≤ 9223372036854775807) → ErrT W → LentAt W v l blk →
  Calls Tryd.prog 38 #[v, dg m g] W fun e w' => ∃ u, e = .returned (.tuple #[u, noE (attL l m g).isSome]) ∧ Shows W.heap.size w' u (attL l m g) ∧ Below W.heap.size W w'

set_option maxHeartbeats 1000000 in
theorem pattested_of (hA : AttAt) (m : Int) (g : H4) (v : Value) (l : List UInt8) (blk : Nat) (w : World) (wm : -9223372036854775808 ≤ m ∧ m ≤ 9223372036854775807) (hg : ErrT w) (hl : LentAt w v l blk) (hbk : blk < w.heap.size) :
    Calls Tryd.prog 22 #[v, .int .i64 m, str (bs g)] w fun e w' => ∃ u, e = .returned (.tuple #[u, toldE (attL l m g).isSome]) ∧ Shows w.heap.size w' u (attL l m g) ∧ Below w.heap.size w w' := by
  have HE := hide (fun W h1 h2 => hA m g v l blk W wm h1 h2)
  have HGL := hide hg
  have HLN := hide hl
  obtain ⟨g0, g1, g2, g3⟩ := g
  have HG := hide (fun W => hash_text ⟨(bs (g0, g1, g2, g3)).toArray⟩ [] g0 g1 g2 g3 W rfl)
  unfold str
  generalize attL l m (g0, g1, g2, g3) = o at *
  generalize hok : o.isSome = ok at *
  generalize (⟨(bs (g0, g1, g2, g3)).toArray⟩ : ByteArray) = SG at *
  simp only [hv, B, dg] at HG HE
  clear hg hl hA hok
  go_enter Tryd.func22, Tryd.ntmps22
  go_wp2_with fail
  refine (HG.out _).mono ?_
  rintro e w2 ⟨rfl, hb2⟩
  have B0 : Hid (Below w.heap.size w (w.alloc (.cells #[.int .i64 0, .string ⟨#[]⟩, .bool false] 24))) := (Below.refl _ _).alloc (Nat.le_refl _) _
  have B2 : Hid (Below w.heap.size w w2) := B0.out.trans (hb2.mono (by simp))
  have S0 : Slot3 _ _ _ _ _ := slot3_mk w 24 (.int .i64 0) (.string ⟨#[]⟩) (.bool false)
  have S2 := hide (S0.below hb2 (by simp))
  have z2 : w.heap.size < w2.heap.size := by have := hb2.size; simp at this; omega
  clear hb2 S0
  go_wp2_with fail
  refine (HE.out _ ?h1 ?h2).mono ?_
  case h1 => exact errT_below HGL.out B2.out (Nat.le_refl _)
  case h2 => exact HLN.out.keep (B2.out.block _ hbk)
  rintro e w3 ⟨u, rfl, hsh, hb3⟩
  have SH3 := hide hsh
  have B3 : Hid (Below w.heap.size w w3) := B2.out.trans (hb3.mono (by omega))
  have S3 := hide (S2.out.below hb3 z2)
  have z3 : w2.heap.size ≤ w3.heap.size := hb3.size
  clear hb3 S2 hsh
  have HT : Hid (Calls Tryd.prog 28 #[noE ok] w3 fun e w' => e = .returned (toldE ok) ∧ Below w3.heap.size w3 w') := by
    cases ok
    · exact told_kind 19 w3 (errT_below HGL.out B3.out (Nat.le_refl _))
    · exact told_nil w3
  obtain ⟨ua, ul, uc, hu⟩ := SH3.out.slice
  subst hu
  go_wp2_with fail
  refine HT.out.mono ?_
  rintro e w4 ⟨rfl, hb4⟩
  obtain ⟨c0, c1, c2, cf⟩ := S3.out.below hb4 (by omega)
  have B4 : Hid (Below w.heap.size w w4) := B3.out.trans (hb4.mono (by omega))
  have SH4 : Hid (Shows w2.heap.size w4 (.slice ua ul uc) o) := SH3.out.below hb4 (Nat.le_refl _)
  clear hb4 S3 HT HE HG
  obtain ⟨kk, hkk⟩ : ∃ kk : Int, toldE ok = .agg #[.int .i64 kk, .string ⟨#[]⟩, .bool true] := by cases ok; exact ⟨19, rfl⟩; exact ⟨0, rfl⟩
  rw [hkk]
  have HK := hide hkk
  clear hkk
  go_wp2
  refine bodyPost_ret (v := .tuple #[.slice ua ul uc, .agg #[.int .i64 kk, .string ⟨#[]⟩, .bool true]]) (by simp [results, Tryd.results22, go_sem, c0, c1, c2]) rfl ⟨_, by rw [HK.out], ?_, ?_⟩
  · exact (((SH4.out.setCell ⟨w.heap.size, 0, none⟩ _ z2).setCell ⟨w.heap.size, 1, none⟩ _ z2).setCell ⟨w.heap.size, 2, none⟩ _ z2).mono (Nat.le_of_lt z2)
  · exact Below.setCell (Below.setCell (Below.setCell B4.out (Nat.le_refl _) _) (Nat.le_refl _) _) (Nat.le_refl _) _
end Go.Proofs.YtepehjalpkfniaaDoor
