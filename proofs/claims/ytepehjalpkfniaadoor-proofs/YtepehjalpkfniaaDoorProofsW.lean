/-
  OWN. The statement Proofs, walked, by the contracts of the program's Extends and Attested. No project text.
-/
import Derived.Test.YtepehjalpkfniaaDoorPlainA
namespace Go.Proofs.YtepehjalpkfniaaDoor
open Go.RowKit

/-- A block of its own stays as it was where another one alone was written. -/
theorem Slot3.grown {w w' : World} {r b : Nat} {x y z : Value} (h : Slot3 w r x y z) (hg : w.grownBy w' (some b)) (hr : r < w.heap.size) (hne : r ≠ b) : Slot3 w' r x y z := by
  have hblk := hg.block r hr (by simp only [ne_eq, Option.some.injEq]; omega)
  obtain ⟨a0, a1, a2, af⟩ := h
  exact ⟨(World.cell?_of_block hblk).trans a0, (World.cell?_of_block hblk).trans a1, (World.cell?_of_block hblk).trans a2, fun o => (World.frozen?_of_block hblk).trans (af o)⟩
theorem Shows.grown {n b : Nat} {w w' : World} {u : Value} {o : Option (List UInt8)} (h : Shows n w u o) (hg : w.grownBy w' (some b)) (hz : w'.heap.size = w.heap.size) (hb : b < n) : Shows n w' u o := by
  cases o with
  | none => exact h
  | some t =>
    obtain ⟨a, cap, e, hc⟩ := h
    refine ⟨a, cap, e, fun i hi => ?_⟩
    obtain ⟨c, off, ea, hn, hlt, hcell⟩ := hc i hi
    have hblk := hg.block c hlt (by simp only [ne_eq, Option.some.injEq]; omega)
    exact ⟨c, off, ea, hn, by omega, (World.cell?_of_block hblk).trans hcell⟩

theorem add_any' (b off j : Nat) : (⟨b, off, none⟩ : Addr).add j = ⟨b, off + j, none⟩ := by unfold Addr.add; split <;> simp_all
/-- New bytes made a text. -/
theorem conv_new {n : Nat} {w : World} {a : Option Addr} {k c : Nat} {t : List UInt8} (h : NewB n w (.slice a k c) t) : (convert 37 9 (.slice a k c)).run Tryd.prog w = .ok (.string ⟨t.toArray⟩) w := by
  obtain ⟨a', c', e, hc⟩ := h
  simp only [Value.slice.injEq] at e
  obtain ⟨rfl, rfl, rfl⟩ := e
  by_cases h0 : t.length = 0
  · obtain rfl := List.length_eq_zero_iff.1 h0
    cases a with
    | none =>
      show (convert 37 9 (.slice none 0 c)).run Tryd.prog w = _
      rw [run_convert_bytes_string w 37 9 5 none 0 c Tryd.underlying37 Tryd.underlying5 Tryd.underlying9]
      simp [Conv.bytesToString]
      rfl
    | some a => exact run_convert_bytes_back (P := Tryd.prog) w 37 9 5 a c [] Tryd.underlying37 Tryd.underlying5 Tryd.underlying9 (fun j hj => by simp at hj)
  · obtain ⟨b, off, rfl, _⟩ := hc 0 (by omega)
    refine run_convert_bytes_back (P := Tryd.prog) w 37 9 5 ⟨b, off, none⟩ c t Tryd.underlying37 Tryd.underlying5 Tryd.underlying9 (fun j hj => ?_)
    obtain ⟨b', off', e, _, _, hcell⟩ := hc j hj
    simp only [Option.some.injEq, Addr.mk.injEq] at e
    obtain ⟨rfl, rfl, _⟩ := e
    rw [add_any', hcell, List.getD_eq_getElem?_getD, List.getElem?_eq_getElem hj]
    rfl

set_option maxRecDepth 100000 in
set_option maxHeartbeats 4000000 in
theorem proofs_of (hE : ExtAt) (hA : AttAt) (b m : Int) (hs es ps : ByteArray) (w : World) (wb : -9223372036854775808 ≤ b ∧ b ≤ 9223372036854775807) (wm : -9223372036854775808 ≤ m ∧ m ≤ 9223372036854775807) (hg : ErrT w) (s1 : hs.size ≤ 140737488351232) (s2 : es.size ≤ 140737488351232) (s3 : ps.size ≤ 140737488351232) :
    Calls Tryd.prog 5 #[.int .i64 b, .string hs, .int .i64 m, .string es, .string ps] w fun e w' => e = .returned (.bool true) ∧ Below w.heap.size w w' := by
  have HG := hide hg
  have HF1 := hide (fun W => four_any hs W (by omega))
  have HF2 := hide (fun W => four_any es W (by omega))
  obtain ⟨h, hh⟩ : ∃ h, fourL hs.data.toList = h := ⟨_, rfl⟩
  obtain ⟨g, hgg⟩ : ∃ g, fourL es.data.toList = g := ⟨_, rfl⟩
  rw [hh] at HF1
  rw [hgg] at HF2
  clear hh hgg hg
  have HLT := hide (lent_any ps ps.data.toList w rfl s3)
  have HPE := hide (fun v blk W h1 h2 h3 => pextends_of hE b m h g v ps.data.toList blk W wb wm h1 h2 h3)
  have HPA := hide (fun v blk W h1 h2 h3 => pattested_of hA m g v ps.data.toList blk W wm h1 h2 h3)
  have HRE := hide (fun W => refExtends_any b m h g ps W (by omega) wm)
  have HRA := hide (fun W => refAttested_any ps m g W (by omega) wm)
  clear hE hA
  unfold str at HF1 HF2 HPE HPA HRE HRA
  generalize extB b h m g ps.data.toList = ok at *
  generalize (⟨(bs h).toArray⟩ : ByteArray) = SH at *
  generalize (⟨(bs g).toArray⟩ : ByteArray) = SG at *
  generalize attL ps.data.toList m g = o at *
  go_enter Tryd.func5, Tryd.ntmps5
  go_wp2_with fail
  refine (HF1.out _).mono ?_
  rintro e w' ⟨rfl, rfl⟩
  go_wp2_with fail
  refine (HF2.out _).mono ?_
  rintro e w' ⟨rfl, rfl⟩
  go_wp2_with fail
  refine HLT.out.mono ?_
  rintro e w1 ⟨u, rfl, hla, hb1⟩
  obtain ⟨cs, hue, hlr⟩ := id hla
  have hz1 : w.heap.size < w1.heap.size := (Array.getElem?_eq_some_iff.1 hlr.1).1
  have hsl : ps.data.toList.length = ps.size := by rw [Array.length_toList]; rfl
  rw [hsl] at hue
  rw [hue] at hla ⊢
  have HLU := hide hla
  have B1 := hide hb1
  clear hla hlr hue hsl hb1 HLT
  obtain ⟨kk, hkk⟩ : ∃ kk : Int, toldE ok = .agg #[.int .i64 kk, .string ⟨#[]⟩, .bool true] ∧ kk = bif ok then 0 else 19 := by cases ok; exact ⟨19, rfl, rfl⟩; exact ⟨0, rfl, rfl⟩
  obtain ⟨jj, hjj⟩ : ∃ jj : Int, toldE o.isSome = .agg #[.int .i64 jj, .string ⟨#[]⟩, .bool true] ∧ jj = bif o.isSome then 0 else 19 := by cases o; exact ⟨19, rfl, rfl⟩; exact ⟨0, rfl, rfl⟩
  rw [hkk.1] at HPE
  rw [hjj.1] at HPA
  have HKK := hide hkk.2
  have HJJ := hide hjj.2
  clear hkk hjj
  go_wp2_with fail
  refine (HPE.out _ w.heap.size _ ?g1 ?g2 ?g3).mono ?_
  case g1 => exact errT_below HG.out B1.out (Nat.le_refl _)
  case g2 => exact HLU.out
  case g3 => exact hz1
  rintro e w2 ⟨rfl, hb2⟩
  have z2 := hb2.size
  have B2 := hide hb2
  clear hb2 HPE
  have hA2 : Below w1.heap.size w1 (w2.alloc (.cells #[.int .i64 kk, .string ⟨#[]⟩, .bool true] 24)) := B2.out.alloc z2 _
  have HA2 := hide hA2
  have BW2 : Hid (Below w.heap.size w (w2.alloc (.cells #[.int .i64 kk, .string ⟨#[]⟩, .bool true] 24))) := B1.out.trans (hA2.mono (Nat.le_of_lt hz1))
  have E2 : Hid (Slot3 _ _ _ _ _) := slot3_mk w2 24 (.int .i64 kk) (.string ⟨#[]⟩) (.bool true)
  clear hA2 B2
  go_wp2_with fail
  refine (HPA.out _ w.heap.size _ ?g4 ?g5 ?g6).mono ?_
  case g4 => exact errT_below HG.out BW2.out (Nat.le_refl _)
  case g5 => exact HLU.out.keep (HA2.out.block _ hz1)
  case g6 => simp; omega
  rintro e w3 ⟨u2, rfl, hsh, hb3⟩
  have z3 := hb3.size
  simp only [World.size_alloc] at z3
  obtain ⟨ua, ul, uc, hu2⟩ := hsh.slice
  subst hu2
  have SH3 := hide hsh
  have BW3 : Hid (Below w.heap.size w w3) := BW2.out.trans (hb3.mono (by simp; omega))
  have LU3 : Hid (LentAt w3 _ _ _) := (HLU.out.keep (HA2.out.block _ hz1)).keep (hb3.block _ (by simp; omega))
  have E3 := hide (E2.out.below hb3 (by simp))
  clear hsh hb3 HPA E2 HA2 BW2
  have hA3 : Below w3.heap.size w3 (w3.alloc (.cells #[.int .i64 jj, .string ⟨#[]⟩, .bool true] 24)) := (Below.refl _ _).alloc (Nat.le_refl _) _
  have F3 : Hid (Slot3 _ _ _ _ _) := slot3_mk w3 24 (.int .i64 jj) (.string ⟨#[]⟩) (.bool true)
  have E3' := hide (E3.out.below hA3 (by omega))
  have SH3' := hide (SH3.out.below hA3 (Nat.le_refl _))
  have BW3' : Hid (Below w.heap.size w (w3.alloc (.cells #[.int .i64 jj, .string ⟨#[]⟩, .bool true] 24))) := BW3.out.trans (hA3.mono (by omega))
  have HST := hide (stays_any ps ps.data.toList _ w.heap.size _ rfl (LU3.out.keep (hA3.block _ (by omega))))
  clear hA3 E3 SH3 BW3 LU3
  go_wp2_with fail
  refine HST.out.mono ?_
  rintro e w4 ⟨rfl, hg4, hz4⟩
  simp only [World.size_alloc] at hz4
  have E4 := hide (E3'.out.grown hg4 (by simp; omega) (by omega))
  have F4 := hide (F3.out.grown hg4 (by simp) (by omega))
  have SH4 := hide (SH3'.out.grown hg4 (by rw [hz4]; simp) (by simp; omega))
  have BW4 : Hid (Below w.heap.size w w4) := BW3'.out.trans (Below.of_grown hg4 (Nat.le_refl _) (by simp; omega))
  clear hg4 E3' F3 SH3' BW3' HST
  go_wp2_with fail
  refine (HRE.out _).mono ?_
  rintro e w5 ⟨rfl, hb5⟩
  have z5 := hb5.size
  have E5 := hide (E4.out.below hb5 (by omega))
  have F5 := hide (F4.out.below hb5 (by omega))
  have SH5 := hide (SH4.out.below hb5 (Nat.le_refl _))
  have BW5 : Hid (Below w.heap.size w w5) := BW4.out.trans (hb5.mono (by omega))
  clear hb5 E4 F4 SH4 BW4 HRE
  cases ok with
  | false =>
    obtain rfl : kk = 19 := HKK.out
    obtain ⟨a0, a1, a2, af⟩ := E5.out
    go_wp2_with fail
    refine (bare_any 19 _).mono ?_
    rintro e w6 ⟨rfl, hb6⟩
    have z6 := hb6.size
    have F6 := hide (F5.out.below hb6 (by omega))
    have SH6 := hide (SH5.out.below hb6 (Nat.le_refl _))
    have BW6 : Hid (Below w.heap.size w w6) := BW5.out.trans (hb6.mono (by omega))
    clear hb6 F5 SH5 BW5 a0 a1 a2 af E5
    go_wp2_with fail
    refine (HRA.out _).mono ?_
    rintro e w7 ⟨t, rfl, ht, hb7⟩
    have HT := hide ht
    have z7 := hb7.size
    have SH7 := hide (SH6.out.below hb7 (Nat.le_refl _))
    obtain ⟨f0, f1, f2, ff⟩ := F6.out.below hb7 (by omega)
    have BW7 : Hid (Below w.heap.size w w7) := BW6.out.trans (hb7.mono (by omega))
    clear hb7 ht F6 SH6 BW6 HRA
    cases o with
    | none =>
      obtain rfl : jj = 19 := HJJ.out
      have hu : Value.slice ua ul uc = .slice none 0 0 := SH7.out
      simp only [Value.slice.injEq] at hu
      obtain ⟨rfl, rfl, rfl⟩ := hu
      have hnil := fun W => run_eql_nil_slice (P := Tryd.prog) W 37 5 none 0 0 0 0 Tryd.underlying37
      go_wp2_with fail
      refine (bare_any 19 _).mono ?_
      rintro e w8 ⟨rfl, hb8⟩
      have BW8 : Hid (Below w.heap.size w w8) := BW7.out.trans (hb8.mono (by omega))
      clear hb8 f0 f1 f2 ff
      go_wp2
      go_ret
      exact ⟨rfl, BW8.out⟩
    | some t0 =>
      obtain rfl : jj = 0 := HJJ.out
      obtain rfl : t = t0 := HT.out t0 rfl
      go_wp2_with fail
      refine (bare_any 0 _).mono ?_
      rintro e w8 ⟨rfl, hb8⟩
      have BW8 : Hid (Below w.heap.size w w8) := BW7.out.trans (hb8.mono (by omega))
      have hcv := conv_new (SH7.out.below hb8 (Nat.le_refl _))
      have hbe := bytes_beq_yes (⟨t.toArray⟩ : ByteArray) _ rfl
      clear hb8 f0 f1 f2 ff
      generalize (⟨t.toArray⟩ : ByteArray) = ST at *
      go_wp2
      go_ret
      exact ⟨rfl, BW8.out⟩
  | true =>
    obtain rfl : kk = 0 := HKK.out
    obtain ⟨a0, a1, a2, af⟩ := E5.out
    go_wp2_with fail
    refine (bare_any 0 _).mono ?_
    rintro e w6 ⟨rfl, hb6⟩
    have z6 := hb6.size
    have F6 := hide (F5.out.below hb6 (by omega))
    have SH6 := hide (SH5.out.below hb6 (Nat.le_refl _))
    have BW6 : Hid (Below w.heap.size w w6) := BW5.out.trans (hb6.mono (by omega))
    clear hb6 F5 SH5 BW5 a0 a1 a2 af E5
    go_wp2_with fail
    refine (HRA.out _).mono ?_
    rintro e w7 ⟨t, rfl, ht, hb7⟩
    have HT := hide ht
    have z7 := hb7.size
    have SH7 := hide (SH6.out.below hb7 (Nat.le_refl _))
    obtain ⟨f0, f1, f2, ff⟩ := F6.out.below hb7 (by omega)
    have BW7 : Hid (Below w.heap.size w w7) := BW6.out.trans (hb7.mono (by omega))
    clear hb7 ht F6 SH6 BW6 HRA
    cases o with
    | none =>
      obtain rfl : jj = 19 := HJJ.out
      have hu : Value.slice ua ul uc = .slice none 0 0 := SH7.out
      simp only [Value.slice.injEq] at hu
      obtain ⟨rfl, rfl, rfl⟩ := hu
      have hnil := fun W => run_eql_nil_slice (P := Tryd.prog) W 37 5 none 0 0 0 0 Tryd.underlying37
      go_wp2_with fail
      refine (bare_any 19 _).mono ?_
      rintro e w8 ⟨rfl, hb8⟩
      have BW8 : Hid (Below w.heap.size w w8) := BW7.out.trans (hb8.mono (by omega))
      clear hb8 f0 f1 f2 ff
      go_wp2
      go_ret
      exact ⟨rfl, BW8.out⟩
    | some t0 =>
      obtain rfl : jj = 0 := HJJ.out
      obtain rfl : t = t0 := HT.out t0 rfl
      go_wp2_with fail
      refine (bare_any 0 _).mono ?_
      rintro e w8 ⟨rfl, hb8⟩
      have BW8 : Hid (Below w.heap.size w w8) := BW7.out.trans (hb8.mono (by omega))
      have hcv := conv_new (SH7.out.below hb8 (Nat.le_refl _))
      have hbe := bytes_beq_yes (⟨t.toArray⟩ : ByteArray) _ rfl
      clear hb8 f0 f1 f2 ff
      generalize (⟨t.toArray⟩ : ByteArray) = ST at *
      go_wp2
      go_ret
      exact ⟨rfl, BW8.out⟩
end Go.Proofs.YtepehjalpkfniaaDoor
