/-
  OWN. The statements' own helpers lentAll and stayAll: walked. No project text.
-/
import Derived.Test.YtepehjalpkfniaaDoorLent
import Derived.Deep.DeepAppendWide
namespace Go.Proofs.YtepehjalpkfniaaDoor
open Go.RowKit

/-- The first k of the texts L, lent: a row of slices, each to a row of bytes of its own, the later the higher. -/
def Lents (w : World) (base top : Nat) (v : Value) (L : List (List UInt8)) (k : Nat) : Prop :=
  ∃ (us : List Value) (bl : Nat → Nat), w.ownsRow base 37 1 v k us ∧ (∀ i, i < k → ∃ u, us[i]? = some u ∧ LentAt w u (L.getD i []) (bl i) ∧ base ≤ bl i ∧ bl i < top) ∧ (∀ i j, i < j → j < k → bl i < bl j)
theorem Lents.nil (w : World) (base top : Nat) (L : List (List UInt8)) : Lents w base top (.slice none 0 0) L 0 := ⟨[], fun _ => 0, World.ownsRow_nil _ _ _ _, fun i hi => by omega, fun i j _ hj => by omega⟩
theorem Lents.shape {w : World} {base top k : Nat} {v : Value} {L : List (List UInt8)} (h : Lents w base top v L k) : ∃ a cap, v = .slice a k cap := by
  obtain ⟨us, bl, ho, _⟩ := h
  rcases ho.2 with ⟨e, e2⟩ | ⟨g, cap, cur, e, _⟩
  · exact ⟨none, 0, by rw [e, e2]⟩
  · exact ⟨_, cap, e⟩
theorem Lents.lvs {w : World} {base top : Nat} {v : Value} {L : List (List UInt8)} (h : Lents w base top v L L.length) : Lvs w v L := by
  obtain ⟨us, bl, ho, hu, _⟩ := h
  by_cases hp : 0 < L.length
  · rcases ho.2 with ⟨_, e⟩ | ⟨g, cap, cur, e, hb, hg, hc, hm, _⟩
    · omega
    · refine ⟨_, cap, e, hc, hm, fun i hi => ?_⟩
      obtain ⟨u, hu1, hu2, _⟩ := hu i hi
      subst e
      refine ⟨g, 0, u, rfl, (Array.getElem?_eq_some_iff.1 hg).1, ?_, hu2.byts⟩
      rw [Nat.zero_add, ho.cellAt i (by omega)]
      exact hu1
  · have e0 : L = [] := List.length_eq_zero_iff.1 (by omega)
    subst e0
    rcases ho.2 with ⟨e, _⟩ | ⟨g, cap, cur, e, hb, hg, hc, hm, _⟩
    · exact ⟨none, 0, e, Nat.le_refl _, Nat.zero_le _, fun i hi => by simp at hi⟩
    · exact ⟨_, cap, e, hc, hm, fun i hi => by simp at hi⟩
theorem LentAt.grown {w w' : World} {u v : Value} {l : List UInt8} {b base n : Nat} {xs : List Value} (h : LentAt w u l b) (ho : w.ownsRow base 37 1 v n xs) (hg : w.grownBy w' v.ownBlock) : LentAt w' u l b := by
  refine h.keep ?_
  obtain ⟨cs, e, hh, _⟩ := h
  have hlt := (Array.getElem?_eq_some_iff.1 hh).1
  refine hg.block b hlt ?_
  intro eb
  rcases ho.2 with ⟨rfl, _⟩ | ⟨g, cap', cur, rfl, _, hgg, _⟩
  · simp [Value.ownBlock] at eb
  · simp only [Value.ownBlock, Option.some.injEq] at eb
    rw [eb, hgg] at hh
    simp at hh
theorem Lents.snoc {w w1 : World} {base k bk : Nat} {v v' u : Value} {L : List (List UInt8)} {us : List Value} {bl : Nat → Nat} (ho : w.ownsRow base 37 1 v k us)
    (hu : ∀ i, i < k → ∃ u, us[i]? = some u ∧ LentAt w u (L.getD i []) (bl i) ∧ base ≤ bl i ∧ bl i < bk) (hm : ∀ i j, i < j → j < k → bl i < bl j) (hb : LentAt w u (L.getD k []) bk) (hbk : base ≤ bk) (hbw : bk < w1.heap.size)
    (hown : w1.ownsRow base 37 1 v' (k + 1) (us ++ [u])) (hg : w.grownBy w1 v.ownBlock) : Lents w1 base w1.heap.size v' L (k + 1) := by
  have hul : us.length = k := by have := ho.1; omega
  refine ⟨us ++ [u], fun i => if i < k then bl i else bk, hown, fun i hi => ?_, fun i j hij hj => ?_⟩
  · by_cases h : i < k
    · obtain ⟨x, hx, hxb, h1, h2⟩ := hu i h
      simp only [if_pos h]
      exact ⟨x, by rw [List.getElem?_append_left (by omega)]; exact hx, hxb.grown ho hg, h1, by omega⟩
    · obtain rfl : i = k := by omega
      simp only [Nat.lt_irrefl, if_false]
      exact ⟨u, by rw [List.getElem?_append_right (by omega), hul]; simp, hb.grown ho hg, hbk, by omega⟩
  · by_cases h : j < k
    · simp only [if_pos h, if_pos (show i < k by omega)]
      exact hm i j hij h
    · simp only [if_neg h, if_pos (show i < k by omega)]
      obtain ⟨_, _, _, _, h2⟩ := hu i (by omega)
      exact h2

set_option maxRecDepth 100000 in
set_option maxHeartbeats 1000000 in
theorem lentAll_any (a : Option Addr) (n cap : Nat) (L : List (List UInt8)) (w : World) (ht : TxS w (.slice a n cap) L) (hL : L.length = n) (hn : n ≤ 8796093022208) (hsm : ∀ i, i < n → (L.getD i []).length ≤ 140737488351232) :
    Calls Tryd.prog 8 #[.slice a n cap] w fun e w' => ∃ v, e = .returned v ∧ Lents w' w.heap.size w'.heap.size v L n ∧ Below w.heap.size w w' := by
  have HT := hide ht
  have HLN := hide hL
  have HSM := hide hsm
  clear ht hL hsm
  obtain ⟨i0, hi0, hz0, hz1', hz2'⟩ := info_parts info37
  go_enter Tryd.func8, Tryd.ntmps8
  go_wp2
  go_loopw [3, 4] (fun f j wr => ∃ k : Nat, k ≤ n ∧ j = .int .i64 k ∧ ∃ fa fc, f = .slice fa k fc ∧ Lents wr w.heap.size wr.heap.size (.slice fa k fc) L k ∧ Below w.heap.size w wr) (fun _ j _ => n - (intOf j).toNat)
  case atStart => exact ⟨0, Nat.zero_le _, rfl, none, 0, rfl, Lents.nil _ _ _ _, Below.refl _ _⟩
  case round =>
    obtain ⟨k, hk, rfl, fa, fc, rfl, hrows, hbel⟩ := hrel
    by_cases hlt : k < n
    · obtain ⟨a', cap', e, hlc, hc⟩ := HT.out
      simp only [Value.slice.injEq] at e
      obtain ⟨rfl, hnl', rfl⟩ := e
      clear hnl'
      obtain ⟨b, off, sk, ea, hbw, hcell, hsl, _⟩ := hc k (by rw [HLN.out]; exact hlt)
      subst ea
      have hck := (hbel.cell (p := ⟨b, off + k, none⟩) hbw).trans hcell
      have hszk : sk.size ≤ 140737488351232 := by
        have h1 := HSM.out k hlt
        rw [← hsl, Array.length_toList] at h1
        exact h1
      have HLE := hide (fun W => lent_any sk (L.getD k []) W hsl hszk)
      obtain ⟨us, bl, ho, hu, hmono⟩ := hrows
      have hzw := hbel.size
      have HBE := hide hbel
      have HO := hide ho
      have HU := hide hu
      have HM := hide hmono
      clear ho hu hmono hbel hcell hsl hc
      go_wp2_with fail
      refine (HLE.out _).mono ?_
      rintro e w1 ⟨u, rfl, hla, hb1⟩
      obtain ⟨cs, hue, hlrest⟩ := id hla
      have HLA := hide hla
      have hz1 : wr.heap.size < w1.heap.size := (Array.getElem?_eq_some_iff.1 hlrest.1).1
      have HB1 := hide hb1
      have hul : (L.getD k []).length ≤ 140737488351232 := HSM.out k hlt
      rw [hue] at HLA ⊢
      generalize (L.getD k []).length = m at *
      have HO1 : Hid ((w1.alloc (.cells #[.slice (some ⟨wr.heap.size, 0, none⟩) m (m + 2)] 37)).ownsRow w.heap.size 37 1 (.slice fa k fc) k us) := (ownsRow_below HO.out hb1 (Nat.le_refl _)).alloc _
      have hA : Below w1.heap.size w1 (w1.alloc (.cells #[.slice (some ⟨wr.heap.size, 0, none⟩) m (m + 2)] 37)) := (Below.refl _ _).alloc (Nat.le_refl _) _
      have HU1 : Hid (∀ i, i < k → ∃ u, us[i]? = some u ∧ LentAt (w1.alloc (.cells #[.slice (some ⟨wr.heap.size, 0, none⟩) m (m + 2)] 37)) u (L.getD i []) (bl i) ∧ w.heap.size ≤ bl i ∧ bl i < wr.heap.size) := fun i hi => by
        obtain ⟨u, h1, h2, h3, h4⟩ := HU.out i hi
        exact ⟨u, h1, (h2.keep (hb1.block _ h4)).keep (hA.block _ (by omega)), h3, h4⟩
      have HLA1 := hide (HLA.out.keep (hA.block _ hz1))
      have HBB : Hid (Below w.heap.size w (w1.alloc (.cells #[.slice (some ⟨wr.heap.size, 0, none⟩) m (m + 2)] 37))) := (HBE.out.trans (hb1.mono hzw)).alloc (by omega) _
      have HLT : Hid (∀ j, (Value.slice fa k fc).ownBlock = some j → w.heap.size ≤ j) := fun j hj => (HO.out.lt j hj).1
      clear hla hb1 hlrest hue HLA hA HLE
      go_wp2_with (at_builtin; refine wpList_append_own_wide _ rfl _ _ 28 rfl w.heap.size 37 i0 (.slice none 0 0) 1 24 Tryd.underlying28 hi0 hz0 hz1' hz2' rfl (by decide) _ _ _ rfl HO1.out ⟨w1.heap.size, 0, none⟩ 1 1 [.slice (some ⟨wr.heap.size, 0, none⟩) m (m + 2)] rfl rfl ?c1 ?c2 ?c3 ?c4 ?c5 ?_)
      case c1 => exact news1 w1 _ _
      case c2 => intro u hu; simp at hu; subst hu; rfl
      case c3 => unfold maxLen; omega
      case c4 => omega
      case c5 => simp; omega
      intro v' w2 hown' hgrow _
      have G1 : Lents w2 w.heap.size w2.heap.size v' L (k + 1) := Lents.snoc HO1.out HU1.out HM.out HLA1.out hzw (by have := hgrow.size; simp at this; omega) hown' hgrow
      have G2 : Below w.heap.size w w2 := HBB.out.grown hgrow (by simp; omega) HLT.out
      obtain ⟨fa2, fc2, hv2⟩ := G1.shape
      rw [hv2] at G1 ⊢
      have H1 := hide G1
      have H2 := hide G2
      clear G1 G2 hown' hgrow hv2 HO HU HBB HBE HLT HO1 HU1 HLA1 HM HB1
      go_wp2
      go_roundw
      case rel => exact ⟨k + 1, by omega, by go_num, fa2, fc2, rfl, H1.out, H2.out⟩
      case measure => simp [intOf]; omega
    · have hkn : n = k := by omega
      subst hkn
      have H1 := hide hrows
      have H2 := hide hbel
      clear hrows hbel
      go_wp2
      go_ret
      exact ⟨_, rfl, H1.out, H2.out⟩

theorem TxS.at {w : World} {a : Option Addr} {n cap : Nat} {L : List (List UInt8)} (h : TxS w (.slice a n cap) L) (i : Nat) (hi : i < L.length) :
    ∃ b off s, a = some ⟨b, off, none⟩ ∧ b < w.heap.size ∧ w.cell? ⟨b, off + i, none⟩ = some (.string s) ∧ s.data.toList = L.getD i [] ∧ s.size ≤ 140737488351232 := by
  obtain ⟨a', cap', e, hl, hc⟩ := h
  simp only [Value.slice.injEq] at e
  obtain ⟨rfl, rfl, rfl⟩ := e
  exact hc i hi
theorem Below.of_grown {w w' : World} {b base : Nat} (h : w.grownBy w' (some b)) (hb : base ≤ b) (hz : base ≤ w.heap.size) : Below base w w' :=
  Below.grown (Below.refl _ _) h hz (fun k hk => by cases hk; exact hb)

set_option maxRecDepth 100000 in
set_option maxHeartbeats 2000000 in
theorem stayAll_any (va : Option Addr) (vc : Nat) (ta : Option Addr) (n tc base : Nat) (L : List (List UInt8)) (w0 w : World) (top : Nat) (hv : Lents w base top (.slice va n vc) L n) (htop : top ≤ w.heap.size) (ht : TxS w0 (.slice ta n tc) L) (hL : L.length = n) (hn : n ≤ 8796093022208)
    (hbase : w0.heap.size = base) (hb : Below base w0 w) :
    Calls Tryd.prog 11 #[.slice va n vc, .slice ta n tc] w fun e w' => e = .returned (.bool true) ∧ Below base w w' ∧ w'.heap.size = w.heap.size ∧ (∀ k, top ≤ k → w'.heap[k]? = w.heap[k]?) := by
  obtain ⟨us, bl, ho, hu, hmono⟩ := hv
  have HO := hide ho
  have HU := hide hu
  have HM := hide hmono
  have HT := hide ht
  have HLN := hide hL
  have HB0 := hide hb
  have hzb : base ≤ w.heap.size := by have := hb.size; omega
  have HBS := hide hbase
  clear ho hu hmono ht hL hb hbase
  have hnn : ((n : Int) == (n : Int)) = true := by simp
  go_enter Tryd.func11, Tryd.ntmps11
  go_wp2
  go_loopw [5, 6] (fun ok j wr => ok = .bool true ∧ ∃ k : Nat, k ≤ n ∧ j = .int .i64 k ∧ Below base w wr ∧ wr.heap.size = w.heap.size ∧ Hid (∀ k, top ≤ k → wr.heap[k]? = w.heap[k]?) ∧ wr.ownsRow base 37 1 (.slice va n vc) n us ∧
      (∀ i, k ≤ i → i < n → ∃ u, us[i]? = some u ∧ LentAt wr u (L.getD i []) (bl i) ∧ base ≤ bl i ∧ bl i < top)) (fun _ j _ => n - (intOf j).toNat)
  case atStart => exact ⟨rfl, 0, Nat.zero_le _, rfl, Below.refl _ _, rfl, fun _ _ => rfl, HO.out, fun i _ hi => HU.out i hi⟩
  case round =>
    obtain ⟨rfl, k, hk, rfl, hbel, hsz, HTP, hor, hur⟩ := hrel
    have HBE := hide hbel
    have HSZ := hide hsz
    have HOR := hide hor
    have HUR := hide hur
    clear hbel hsz hor hur
    by_cases hlt : k < n
    · obtain ⟨u, hus, hla, hlb, hlw⟩ := HUR.out k (Nat.le_refl _) hlt
      obtain ⟨g, vcap, cur, eg, hgb, hgg, _⟩ : ∃ g vcap cur, (Value.slice va n vc) = .slice (some ⟨g, 0, none⟩) n vcap ∧ base ≤ g ∧ wr.heap[g]? = some (.cells cur 37 (0, 0)) ∧ True := by
        rcases HOR.out.2 with ⟨_, e⟩ | ⟨g, cap, cur, e, h1, h2, _⟩
        · omega
        · exact ⟨g, cap, cur, e, h1, h2, trivial⟩
      simp only [Value.slice.injEq] at eg
      obtain ⟨rfl, _, rfl⟩ := eg
      have hcu : wr.cell? ⟨g, k, none⟩ = some u := by rw [HOR.out.cellAt k (by omega)]; exact hus
      obtain ⟨b, off, sk, ea, hbw, hcell, hsl, _⟩ := HT.out.at k (by rw [HLN.out]; exact hlt)
      subst ea
      have hcs : wr.cell? ⟨b, off + k, none⟩ = some (.string sk) := by
        have h1 := (HB0.out.trans HBE.out).cell (p := ⟨b, off + k, none⟩) (by rw [← HBS.out]; exact hbw)
        exact h1.trans hcell
      have hgbl : g ≠ bl k := by
        intro e
        obtain ⟨cs, _, hh, _⟩ := hla
        rw [← e, hgg] at hh
        simp at hh
      have HST := hide (fun W (hW : W.heap[bl k]? = wr.heap[bl k]?) => stays_any sk (L.getD k []) u (bl k) W hsl (hla.keep hW))
      have hk0 : (0 : Int) ≤ (k : Int) := by omega
      have hk1 : (k : Int) < (n : Int) := by omega
      have HGB := hide hgbl
      have HLB := hide hlb
      have HLW := hide hlw
      clear hla hus hgg hcell hsl hbw hgbl hlb hlw hgb
      go_wp2_with fail
      go_region_with (go_at_call 17; go_must (refine (HST.out _ ?_).mono ?_; rfl; rintro e w1 ⟨rfl, hg1, hz1⟩; have HG1 : Hid (wr.grownBy w1 (some (bl k))) := ⟨hg1.os, hg1.tape, hg1.output, hg1.size, hg1.block⟩; have HZ1 : Hid (w1.heap.size = wr.heap.size) := hz1; clear hg1 hz1))
      all_goals
        have R1 : Below base w w1 := HBE.out.trans (Below.of_grown HG1.out HLB.out (by rw [HSZ.out]; exact hzb))
        have R2 : w1.heap.size = w.heap.size := by rw [HZ1.out, HSZ.out]
        have R3 : w1.ownsRow base 37 1 (.slice (some ⟨g, 0, none⟩) n vc) n us := HOR.out.kept HG1.out (.inr (by simp only [Value.ownBlock, ne_eq, Option.some.injEq]; exact HGB.out))
        have R4 : ∀ i, k + 1 ≤ i → i < n → ∃ u, us[i]? = some u ∧ LentAt w1 u (L.getD i []) (bl i) ∧ base ≤ bl i ∧ bl i < top := fun i h1 h2 => by
          obtain ⟨u', a1, a2, a3, a4⟩ := HUR.out i (by omega) h2
          have hne := HM.out k i (by omega) h2
          exact ⟨u', a1, a2.keep (HG1.out.block _ (by rw [HSZ.out]; omega) (by simp only [ne_eq, Option.some.injEq]; omega)), a3, a4⟩
        have R5 : ∀ j, top ≤ j → w1.heap[j]? = w.heap[j]? := fun j hj => by
          have hlw := HLW.out
          rcases Nat.lt_or_ge j wr.heap.size with hjw | hjw
          · exact (HG1.out.block j hjw (by simp only [ne_eq, Option.some.injEq]; omega)).trans (HTP.out j hj)
          · rw [Array.getElem?_eq_none (by rw [HZ1.out]; exact hjw), Array.getElem?_eq_none (by rw [← HSZ.out]; exact hjw)]
        have H5 := hide R5
        have H1 := hide R1
        have H2 := hide R2
        have H3 := hide R3
        have H4 := hide R4
        clear R1 R2 R3 R4 R5
        go_wp2
        go_roundw
        case rel => exact ⟨rfl, k + 1, by omega, by go_num, H1.out, H2.out, H5, H3.out, H4.out⟩
        case measure => simp [intOf]; omega
    · go_wp2
      go_ret
      exact ⟨rfl, HBE.out, HSZ.out, HTP.out⟩
theorem Lents.below {w w' : World} {base top n k : Nat} {v : Value} {L : List (List UInt8)} (h : Lents w base top v L k) (hb : Below n w w') (hn : w.heap.size ≤ n) (ht : top ≤ n) : Lents w' base top v L k := by
  obtain ⟨us, bl, ho, hu, hm⟩ := h
  refine ⟨us, bl, ownsRow_below ho hb hn, fun i hi => ?_, hm⟩
  obtain ⟨u, h1, h2, h3, h4⟩ := hu i hi
  exact ⟨u, h1, h2.keep (hb.block _ (by omega)), h3, h4⟩
end Go.Proofs.YtepehjalpkfniaaDoor
