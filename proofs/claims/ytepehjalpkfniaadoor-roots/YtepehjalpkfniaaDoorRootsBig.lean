/-
  OWN. The statement Roots, walked: a place behind the leaves. No project text.
-/
import Derived.Test.YtepehjalpkfniaaDoorLaw
namespace Go.Proofs.YtepehjalpkfniaaDoor
open Go.RowKit

set_option maxRecDepth 100000 in
set_option maxHeartbeats 6000000 in
theorem roots_big (ta : Option Addr) (n tc : Nat) (L : List (List UInt8)) (at0 : Int) (s : ByteArray) (pl m : Int) (q : ByteArray) (w : World) (hg : Gl w) (ht : TxS w (.slice ta n tc) L) (hL : L.length = n) (hn : n ≤ 8796093022208)
    (hsm : ∀ i, i < n → (L.getD i []).length ≤ 140737488351232) (hs : s.size ≤ 140737488351232) (hq : q.size ≤ 140737488351232) (hat : (n : Int) ≤ at0) :
    Calls Tryd.prog 4 #[.slice ta n tc, .int .i64 at0, .string s, .int .i64 pl, .int .i64 m, .string q] w fun e w' => e = .returned (.bool true) ∧ Below w.heap.size w w' := by
  have HG := hide hg
  have HT := hide ht
  have HLA := hide (lentAll_any ta n tc L w ht hL hn hsm)
  have HLN := hide hL
  obtain ⟨R, hR⟩ : ∃ R, rt (L.map leafL) = R := ⟨_, rfl⟩
  have HRR := hide hR
  obtain ⟨R0, R1, R2, R3⟩ := R
  have eR : (⟨(bs (R0, R1, R2, R3)).toArray⟩ : ByteArray) = ⟨#[R0, R1, R2, R3]⟩ := rfl
  clear hg ht hsm hR hL
  go_enter Tryd.func4, Tryd.ntmps4
  go_wp2_with fail
  refine HLA.out.mono ?_
  rintro e w1 ⟨v, rfl, hle, hb1⟩
  obtain ⟨va, vc, hv⟩ := hle.shape
  rw [hv] at hle ⊢
  have HLE := hide hle
  have B1 := hide hb1
  have z1 := hb1.size
  have HLV : Hid (Lvs w1 (.slice va n vc) L) := by have := hle; rw [← HLN.out] at this; have := this.lvs; rw [HLN.out] at this; exact this
  have G1 := hide (HG.out.below hb1 (Nat.le_refl _))
  clear hle hb1 hv HLA
  have HRT := hide (proot_any L (.slice va n vc) w1 HLV.out G1.out (by rw [HLN.out]; exact hn))
  rw [HRR.out] at HRT
  unfold str at HRT
  rw [eR] at HRT
  go_wp2_with fail
  refine HRT.out.mono ?_
  rintro e w2 ⟨rfl, hb2⟩
  have B2 := hide hb2
  have z2 := hb2.size
  clear hb2 HRT
  have HPT := hide (ppath_bad va n vc at0 w2 (G1.out.below B2.out (Nat.le_refl _)) (.inr hat))
  unfold str argE at HPT

  go_wp2_with fail
  refine HPT.out.mono ?_
  rintro e w3 ⟨rfl, hb3⟩
  have z3 := hb3.size
  have B3 : Hid (Below w1.heap.size w1 w3) := B2.out.trans (hb3.mono z2)
  clear hb3 HPT
  have hA3 : Below w1.heap.size w1 (w3.alloc (.cells #[.int .i64 9, .string ⟨#[]⟩, .bool true] 24)) := B3.out.alloc (by omega) _
  have HLE3 := hide (HLE.out.below hA3 (Nat.le_refl _) (Nat.le_refl _))
  have BW3 : Hid (Below w.heap.size w (w3.alloc (.cells #[.int .i64 9, .string ⟨#[]⟩, .bool true] 24))) := B1.out.trans (hA3.mono z1)
  have HST := hide (stayAll_any va vc ta n tc w.heap.size L w _ w1.heap.size HLE3.out (by simp; omega) HT.out HLN.out hn rfl BW3.out)
  have S3 : Hid (Slot3 _ _ _ _ _) := slot3_mk w3 24 (.int .i64 9) (.string ⟨#[]⟩) (.bool true)
  clear hA3 HLE3
  go_wp2_with fail
  refine HST.out.mono ?_
  rintro e w4 ⟨rfl, hb4, hz4, hk4⟩
  have z4 : w3.heap.size < w4.heap.size := by rw [hz4]; simp
  have BW4 : Hid (Below w.heap.size w w4) := BW3.out.trans hb4
  have S4 : Hid (Slot3 w4 w3.heap.size (.int .i64 9) (.string ⟨#[]⟩) (.bool true)) := by
    have hblk := hk4 w3.heap.size (by omega)
    obtain ⟨a0, a1, a2, af⟩ := S3.out
    exact ⟨(World.cell?_of_block hblk).trans a0, (World.cell?_of_block hblk).trans a1, (World.cell?_of_block hblk).trans a2, fun o => (World.frozen?_of_block hblk).trans (af o)⟩
  clear hb4 hz4 hk4 S3 HST
  have HRF := hide (refRoot_any n L (.slice ta n tc) w4 (by rw [HLN.out]; exact Nat.le_refl _) (HT.out.below BW4.out (Nat.le_refl _)) (by rw [HLN.out]; exact hn))
  rw [HRR.out] at HRF
  unfold str at HRF
  rw [eR] at HRF
  clear eR
  go_wp2_with fail
  refine HRF.out.mono ?_
  rintro e w5 ⟨rfl, hb5⟩
  have z5 := hb5.size
  have BW5 : Hid (Below w.heap.size w w5) := BW4.out.trans (hb5.mono (by omega))
  obtain ⟨a0, a1, a2, af⟩ := S4.out.below hb5 z4
  clear hb5 S4 HRF
  have HBR := hide (fun W => bare_any 9 W)
  go_wp2_with fail
  refine (HBR.out _).mono ?_
  rintro e w6 ⟨rfl, hb6⟩
  have z6 := hb6.size
  have BW6 : Hid (Below w.heap.size w w6) := BW5.out.trans (hb6.mono (by omega))
  clear hb6 a0 a1 a2 af
  have BW7X := BW6
  have HLT := hide (lent_any s s.data.toList w6 rfl hs)
  go_wp2_with fail
  refine HLT.out.mono ?_
  rintro e w8 ⟨u, rfl, hla, hb8⟩
  obtain ⟨cs, hue, hlr⟩ := id hla
  have hz8 : w6.heap.size < w8.heap.size := (Array.getElem?_eq_some_iff.1 hlr.1).1
  have hsl : s.data.toList.length = s.size := by rw [Array.length_toList]; rfl
  rw [hsl] at hue
  rw [hue] at hla ⊢
  have HLU := hide hla
  have HBY := hide hla.byts
  have BW8 : Hid (Below w.heap.size w w8) := BW7X.out.trans (hb8.mono (by omega))
  have G8 := hide (HG.out.below BW8.out (Nat.le_refl _))
  clear hla hb8 hlr hue hsl HLT
  by_cases c1 : m < 1
  ·
    have HCB := hide (pclimb_bad _ s.data.toList pl m q w8 G8.out HBY.out hq (.inl c1))
    unfold str argE at HCB
    go_wp2_with fail
    refine HCB.out.mono ?_
    rintro e w9 ⟨rfl, hb9⟩
    have z9 := hb9.size
    have hA9 : Below w8.heap.size w8 (w9.alloc (.cells #[.int .i64 9, .string ⟨#[]⟩, .bool true] 24)) := hb9.alloc (by omega) _
    have HSY := hide (stays_any s s.data.toList _ _ _ rfl (HLU.out.keep (hA9.block _ hz8)))
    have BW9 : Hid (Below w.heap.size w (w9.alloc (.cells #[.int .i64 9, .string ⟨#[]⟩, .bool true] 24))) := BW8.out.trans (hA9.mono (by omega))
    have S9 : Hid (Slot3 _ _ _ _ _) := slot3_mk w9 24 (.int .i64 9) (.string ⟨#[]⟩) (.bool true)
    clear hA9 hb9 HCB
    go_wp2_with fail
    refine HSY.out.mono ?_
    rintro e w10 ⟨rfl, hg10, hz10⟩
    have z10 : w9.heap.size < w10.heap.size := by rw [hz10]; simp
    have S10 : Hid (Slot3 w10 w9.heap.size (.int .i64 9) (.string ⟨#[]⟩) (.bool true)) := by
      have hblk := hg10.block w9.heap.size (by simp) (by simp only [ne_eq, Option.some.injEq]; omega)
      obtain ⟨a0, a1, a2, af⟩ := S9.out
      exact ⟨(World.cell?_of_block hblk).trans a0, (World.cell?_of_block hblk).trans a1, (World.cell?_of_block hblk).trans a2, fun o => (World.frozen?_of_block hblk).trans (af o)⟩
    have BW10 : Hid (Below w.heap.size w w10) := BW9.out.trans (Below.of_grown hg10 (by have := BW7X.out.size; omega) (by simp; omega))
    clear hg10 hz10 HSY S9
    obtain ⟨b0, b1, b2, bf⟩ := S10.out
    have HB9 := hide (fun W => bare_any 9 W)
    go_wp2_with fail
    refine (HB9.out _).mono ?_
    rintro e w11 ⟨rfl, hb11⟩
    have BW11 : Hid (Below w.heap.size w w11) := BW10.out.trans (hb11.mono (by omega))
    clear hb11 b0 b1 b2 bf S10
    go_wp2
    go_ret
    exact ⟨rfl, BW11.out⟩
  by_cases c2 : 4096 < m
  ·
    have HCB := hide (pclimb_bad _ s.data.toList pl m q w8 G8.out HBY.out hq (.inr (.inl c2)))
    unfold str argE at HCB
    go_wp2_with fail
    refine HCB.out.mono ?_
    rintro e w9 ⟨rfl, hb9⟩
    have z9 := hb9.size
    have hA9 : Below w8.heap.size w8 (w9.alloc (.cells #[.int .i64 9, .string ⟨#[]⟩, .bool true] 24)) := hb9.alloc (by omega) _
    have HSY := hide (stays_any s s.data.toList _ _ _ rfl (HLU.out.keep (hA9.block _ hz8)))
    have BW9 : Hid (Below w.heap.size w (w9.alloc (.cells #[.int .i64 9, .string ⟨#[]⟩, .bool true] 24))) := BW8.out.trans (hA9.mono (by omega))
    have S9 : Hid (Slot3 _ _ _ _ _) := slot3_mk w9 24 (.int .i64 9) (.string ⟨#[]⟩) (.bool true)
    clear hA9 hb9 HCB
    go_wp2_with fail
    refine HSY.out.mono ?_
    rintro e w10 ⟨rfl, hg10, hz10⟩
    have z10 : w9.heap.size < w10.heap.size := by rw [hz10]; simp
    have S10 : Hid (Slot3 w10 w9.heap.size (.int .i64 9) (.string ⟨#[]⟩) (.bool true)) := by
      have hblk := hg10.block w9.heap.size (by simp) (by simp only [ne_eq, Option.some.injEq]; omega)
      obtain ⟨a0, a1, a2, af⟩ := S9.out
      exact ⟨(World.cell?_of_block hblk).trans a0, (World.cell?_of_block hblk).trans a1, (World.cell?_of_block hblk).trans a2, fun o => (World.frozen?_of_block hblk).trans (af o)⟩
    have BW10 : Hid (Below w.heap.size w w10) := BW9.out.trans (Below.of_grown hg10 (by have := BW7X.out.size; omega) (by simp; omega))
    clear hg10 hz10 HSY S9
    obtain ⟨b0, b1, b2, bf⟩ := S10.out
    have HB9 := hide (fun W => bare_any 9 W)
    go_wp2_with fail
    refine (HB9.out _).mono ?_
    rintro e w11 ⟨rfl, hb11⟩
    have BW11 : Hid (Below w.heap.size w w11) := BW10.out.trans (hb11.mono (by omega))
    clear hb11 b0 b1 b2 bf S10
    go_wp2
    go_ret
    exact ⟨rfl, BW11.out⟩
  by_cases c3 : pl < 0
  ·
    have HCB := hide (pclimb_bad _ s.data.toList pl m q w8 G8.out HBY.out hq (.inr (.inr (.inl c3))))
    unfold str argE at HCB
    go_wp2_with fail
    refine HCB.out.mono ?_
    rintro e w9 ⟨rfl, hb9⟩
    have z9 := hb9.size
    have hA9 : Below w8.heap.size w8 (w9.alloc (.cells #[.int .i64 9, .string ⟨#[]⟩, .bool true] 24)) := hb9.alloc (by omega) _
    have HSY := hide (stays_any s s.data.toList _ _ _ rfl (HLU.out.keep (hA9.block _ hz8)))
    have BW9 : Hid (Below w.heap.size w (w9.alloc (.cells #[.int .i64 9, .string ⟨#[]⟩, .bool true] 24))) := BW8.out.trans (hA9.mono (by omega))
    have S9 : Hid (Slot3 _ _ _ _ _) := slot3_mk w9 24 (.int .i64 9) (.string ⟨#[]⟩) (.bool true)
    clear hA9 hb9 HCB
    go_wp2_with fail
    refine HSY.out.mono ?_
    rintro e w10 ⟨rfl, hg10, hz10⟩
    have z10 : w9.heap.size < w10.heap.size := by rw [hz10]; simp
    have S10 : Hid (Slot3 w10 w9.heap.size (.int .i64 9) (.string ⟨#[]⟩) (.bool true)) := by
      have hblk := hg10.block w9.heap.size (by simp) (by simp only [ne_eq, Option.some.injEq]; omega)
      obtain ⟨a0, a1, a2, af⟩ := S9.out
      exact ⟨(World.cell?_of_block hblk).trans a0, (World.cell?_of_block hblk).trans a1, (World.cell?_of_block hblk).trans a2, fun o => (World.frozen?_of_block hblk).trans (af o)⟩
    have BW10 : Hid (Below w.heap.size w w10) := BW9.out.trans (Below.of_grown hg10 (by have := BW7X.out.size; omega) (by simp; omega))
    clear hg10 hz10 HSY S9
    obtain ⟨b0, b1, b2, bf⟩ := S10.out
    have HB9 := hide (fun W => bare_any 9 W)
    go_wp2_with fail
    refine (HB9.out _).mono ?_
    rintro e w11 ⟨rfl, hb11⟩
    have BW11 : Hid (Below w.heap.size w w11) := BW10.out.trans (hb11.mono (by omega))
    clear hb11 b0 b1 b2 bf S10
    go_wp2
    go_ret
    exact ⟨rfl, BW11.out⟩
  by_cases c4 : m ≤ pl
  ·
    have HCB := hide (pclimb_bad _ s.data.toList pl m q w8 G8.out HBY.out hq (.inr (.inr (.inr c4))))
    unfold str argE at HCB
    go_wp2_with fail
    refine HCB.out.mono ?_
    rintro e w9 ⟨rfl, hb9⟩
    have z9 := hb9.size
    have hA9 : Below w8.heap.size w8 (w9.alloc (.cells #[.int .i64 9, .string ⟨#[]⟩, .bool true] 24)) := hb9.alloc (by omega) _
    have HSY := hide (stays_any s s.data.toList _ _ _ rfl (HLU.out.keep (hA9.block _ hz8)))
    have BW9 : Hid (Below w.heap.size w (w9.alloc (.cells #[.int .i64 9, .string ⟨#[]⟩, .bool true] 24))) := BW8.out.trans (hA9.mono (by omega))
    have S9 : Hid (Slot3 _ _ _ _ _) := slot3_mk w9 24 (.int .i64 9) (.string ⟨#[]⟩) (.bool true)
    clear hA9 hb9 HCB
    go_wp2_with fail
    refine HSY.out.mono ?_
    rintro e w10 ⟨rfl, hg10, hz10⟩
    have z10 : w9.heap.size < w10.heap.size := by rw [hz10]; simp
    have S10 : Hid (Slot3 w10 w9.heap.size (.int .i64 9) (.string ⟨#[]⟩) (.bool true)) := by
      have hblk := hg10.block w9.heap.size (by simp) (by simp only [ne_eq, Option.some.injEq]; omega)
      obtain ⟨a0, a1, a2, af⟩ := S9.out
      exact ⟨(World.cell?_of_block hblk).trans a0, (World.cell?_of_block hblk).trans a1, (World.cell?_of_block hblk).trans a2, fun o => (World.frozen?_of_block hblk).trans (af o)⟩
    have BW10 : Hid (Below w.heap.size w w10) := BW9.out.trans (Below.of_grown hg10 (by have := BW7X.out.size; omega) (by simp; omega))
    clear hg10 hz10 HSY S9
    obtain ⟨b0, b1, b2, bf⟩ := S10.out
    have HB9 := hide (fun W => bare_any 9 W)
    go_wp2_with fail
    refine (HB9.out _).mono ?_
    rintro e w11 ⟨rfl, hb11⟩
    have BW11 : Hid (Below w.heap.size w w11) := BW10.out.trans (hb11.mono (by omega))
    clear hb11 b0 b1 b2 bf S10
    go_wp2
    go_ret
    exact ⟨rfl, BW11.out⟩
  obtain ⟨pn, rfl⟩ := Int.eq_ofNat_of_zero_le (show 0 ≤ pl by omega)
  obtain ⟨mn, rfl⟩ := Int.eq_ofNat_of_zero_le (show 0 ≤ m by omega)
  have hpm : pn < mn := by omega
  have hm4 : mn ≤ 4096 := by omega
  have HDP := hide (fun W => refDeep_any pn mn W hpm (by omega))
  obtain ⟨k4, hk4'⟩ : ∃ k, q.size / 4 = k := ⟨_, rfl⟩
  have hqk : (q.size : Int) / 4 = (k4 : Int) := by omega
  have hk4b : k4 * 4 ≤ q.size := by omega
  by_cases c5 : k4 = deep pn mn
  ·
    have HCB := hide (pclimb_okq _ s.data.toList pn mn q w8 G8.out HBY.out hq hpm hm4 (by omega))
    have HRC := hide (fun W => refClimb_any s (by omega) mn pn mn (chunks q.data.toList) W (Nat.le_refl _) hpm (by omega) (by rw [chunks_len, Array.length_toList]; show q.size / 4 = _; omega) (by rw [chunks_len, Array.length_toList]; show q.size / 4 ≤ _; have hdl := deep_le pn mn; omega))
    have hxq := extract_chunks q k4 hk4'.symm
    rw [← hxq] at HRC
    have HXQ := hide hxq
    have HK4 := hide hk4'
    rw [← c5] at HDP
    have hkk : ((k4 : Int) != (k4 : Int)) = false := by simp
    generalize climbL (leafL s.data.toList) pn mn (chunks q.data.toList) = X at *
    obtain ⟨X0, X1, X2, X3⟩ := X
    have eX : (⟨(bs (X0, X1, X2, X3)).toArray⟩ : ByteArray) = ⟨#[X0, X1, X2, X3]⟩ := rfl
    unfold str fineE at HCB
    unfold str at HRC
    rw [eX] at HCB HRC
    clear eX hxq hk4' c5
    go_wp2_with fail
    refine HCB.out.mono ?_
    rintro e w9 ⟨rfl, hb9⟩
    have z9 := hb9.size
    have hA9 : Below w8.heap.size w8 (w9.alloc (.cells #[.int .i64 0, .string ⟨#[]⟩, .bool true] 24)) := hb9.alloc (by omega) _
    have HSY := hide (stays_any s s.data.toList _ _ _ rfl (HLU.out.keep (hA9.block _ hz8)))
    have BW9 : Hid (Below w.heap.size w (w9.alloc (.cells #[.int .i64 0, .string ⟨#[]⟩, .bool true] 24))) := BW8.out.trans (hA9.mono (by omega))
    have S9 : Hid (Slot3 _ _ _ _ _) := slot3_mk w9 24 (.int .i64 0) (.string ⟨#[]⟩) (.bool true)
    clear hA9 hb9 HCB
    go_wp2_with fail
    refine HSY.out.mono ?_
    rintro e w10 ⟨rfl, hg10, hz10⟩
    have z10 : w9.heap.size < w10.heap.size := by rw [hz10]; simp
    have S10 : Hid (Slot3 w10 w9.heap.size (.int .i64 0) (.string ⟨#[]⟩) (.bool true)) := by
      have hblk := hg10.block w9.heap.size (by simp) (by simp only [ne_eq, Option.some.injEq]; omega)
      obtain ⟨a0, a1, a2, af⟩ := S9.out
      exact ⟨(World.cell?_of_block hblk).trans a0, (World.cell?_of_block hblk).trans a1, (World.cell?_of_block hblk).trans a2, fun o => (World.frozen?_of_block hblk).trans (af o)⟩
    have BW10 : Hid (Below w.heap.size w w10) := BW9.out.trans (Below.of_grown hg10 (by have := BW7X.out.size; omega) (by simp; omega))
    clear hg10 hz10 HSY S9
    obtain ⟨b0, b1, b2, bf⟩ := S10.out
    have HB9 := hide (fun W => bare_any 0 W)
    go_wp2_with fail
    refine (HDP.out _).mono ?_
    rintro e w11 ⟨rfl, rfl⟩
    go_wp2_with fail
    refine (HB9.out _).mono ?_
    rintro e w12 ⟨rfl, hb12⟩
    have BW12 : Hid (Below w.heap.size w w12) := BW10.out.trans (hb12.mono (by omega))
    have z12 := hb12.size
    clear hb12 b0 b1 b2 bf S10
    go_wp2_with fail
    refine (HRC.out _).mono ?_
    rintro e w13 ⟨rfl, hb13⟩
    have BW13 : Hid (Below w.heap.size w w13) := BW12.out.trans (hb13.mono (by omega))
    clear hb13
    go_wp2
    go_ret
    exact ⟨rfl, BW13.out⟩
  ·
    have HCB := hide (pclimb_short _ s.data.toList pn mn q w8 G8.out HBY.out hq hpm hm4 (by omega))
    unfold str argE at HCB
    have HK4 := hide hk4'
    generalize deep pn mn = dd at *
    have hkk : ((k4 : Int) != (dd : Int)) = true := by rw [bne_iff_ne]; omega
    clear hk4' c5
    go_wp2_with fail
    refine HCB.out.mono ?_
    rintro e w9 ⟨rfl, hb9⟩
    have z9 := hb9.size
    have hA9 : Below w8.heap.size w8 (w9.alloc (.cells #[.int .i64 9, .string ⟨#[]⟩, .bool true] 24)) := hb9.alloc (by omega) _
    have HSY := hide (stays_any s s.data.toList _ _ _ rfl (HLU.out.keep (hA9.block _ hz8)))
    have BW9 : Hid (Below w.heap.size w (w9.alloc (.cells #[.int .i64 9, .string ⟨#[]⟩, .bool true] 24))) := BW8.out.trans (hA9.mono (by omega))
    have S9 : Hid (Slot3 _ _ _ _ _) := slot3_mk w9 24 (.int .i64 9) (.string ⟨#[]⟩) (.bool true)
    clear hA9 hb9 HCB
    go_wp2_with fail
    refine HSY.out.mono ?_
    rintro e w10 ⟨rfl, hg10, hz10⟩
    have z10 : w9.heap.size < w10.heap.size := by rw [hz10]; simp
    have S10 : Hid (Slot3 w10 w9.heap.size (.int .i64 9) (.string ⟨#[]⟩) (.bool true)) := by
      have hblk := hg10.block w9.heap.size (by simp) (by simp only [ne_eq, Option.some.injEq]; omega)
      obtain ⟨a0, a1, a2, af⟩ := S9.out
      exact ⟨(World.cell?_of_block hblk).trans a0, (World.cell?_of_block hblk).trans a1, (World.cell?_of_block hblk).trans a2, fun o => (World.frozen?_of_block hblk).trans (af o)⟩
    have BW10 : Hid (Below w.heap.size w w10) := BW9.out.trans (Below.of_grown hg10 (by have := BW7X.out.size; omega) (by simp; omega))
    clear hg10 hz10 HSY S9
    go_wp2_with fail
    refine (HDP.out _).mono ?_
    rintro e w10' ⟨rfl, rfl⟩
    obtain ⟨b0, b1, b2, bf⟩ := S10.out
    have HB9 := hide (fun W => bare_any 9 W)
    go_wp2_with fail
    refine (HB9.out _).mono ?_
    rintro e w11 ⟨rfl, hb11⟩
    have BW11 : Hid (Below w.heap.size w w11) := BW10.out.trans (hb11.mono (by omega))
    clear hb11 b0 b1 b2 bf S10
    go_wp2
    go_ret
    exact ⟨rfl, BW11.out⟩

end Go.Proofs.YtepehjalpkfniaaDoor
