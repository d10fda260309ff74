/-
  OWN. The document's answers on trees (daybookref): Root, Path, walked. No project text.
-/
import Derived.Test.YtepehjalpkfniaaDoorRef
namespace Go.Proofs.YtepehjalpkfniaaDoor
open Go.RowKit

/-- The slice v holds the texts L. -/
def TxS (w : World) (v : Value) (L : List (List UInt8)) : Prop :=
  ∃ a cap, v = .slice a L.length cap ∧ L.length ≤ cap ∧ ∀ i, i < L.length → ∃ b off s, a = some ⟨b, off, none⟩ ∧ b < w.heap.size ∧ w.cell? ⟨b, off + i, none⟩ = some (.string s) ∧ s.data.toList = L.getD i [] ∧ s.size ≤ 140737488351232
theorem TxS.below {w w' : World} {v : Value} {L : List (List UInt8)} {n : Nat} (h : TxS w v L) (hb : Below n w w') (hn : w.heap.size ≤ n) : TxS w' v L := by
  obtain ⟨a, cap, e, hl, hc⟩ := h
  refine ⟨a, cap, e, hl, fun i hi => ?_⟩
  obtain ⟨b, off, s, ea, hlt, hcell, h1, h2⟩ := hc i hi
  exact ⟨b, off, s, ea, Nat.lt_of_lt_of_le hlt hb.size, (hb.cell (p := ⟨b, off + i, none⟩) (Nat.lt_of_lt_of_le hlt hn)).trans hcell, h1, h2⟩
theorem TxS.take {w : World} {a : Option Addr} {n cap : Nat} {L : List (List UInt8)} (h : TxS w (.slice a n cap) L) (k : Nat) (hk : k ≤ L.length) : TxS w (.slice a k cap) (L.take k) := by
  obtain ⟨a', cap', e, hl, hc⟩ := h
  simp only [Value.slice.injEq] at e
  obtain ⟨rfl, rfl, rfl⟩ := e
  refine ⟨a, cap, by rw [List.length_take, Nat.min_eq_left hk], by rw [List.length_take]; omega, fun i hi => ?_⟩
  rw [List.length_take] at hi
  obtain ⟨b, off, s, ea, hlt, hcell, h1, h2⟩ := hc i (by omega)
  refine ⟨b, off, s, ea, hlt, hcell, ?_, h2⟩
  rw [List.getD_eq_getElem?_getD, List.getElem?_take, if_pos (by omega), ← List.getD_eq_getElem?_getD]
  exact h1
theorem TxS.drop {w : World} {b off n cap : Nat} {L : List (List UInt8)} (h : TxS w (.slice (some ⟨b, off, none⟩) n cap) L) (k : Nat) : TxS w (.slice (some ⟨b, off + k, none⟩) (n - k) (cap - k)) (L.drop k) := by
  obtain ⟨a', cap', e, hl, hc⟩ := h
  simp only [Value.slice.injEq] at e
  obtain ⟨rfl, rfl, rfl⟩ := e
  refine ⟨_, cap - k, by rw [List.length_drop], by rw [List.length_drop]; omega, fun i hi => ?_⟩
  rw [List.length_drop] at hi
  obtain ⟨b', off', s, ea, hlt, hcell, h1, h2⟩ := hc (k + i) (by omega)
  simp only [Option.some.injEq, Addr.mk.injEq] at ea
  obtain ⟨rfl, rfl, _⟩ := ea
  refine ⟨b, off + k, s, rfl, hlt, ?_, ?_, h2⟩
  · rw [Nat.add_assoc]; exact hcell
  · rw [List.getD_eq_getElem?_getD, List.getElem?_drop, ← List.getD_eq_getElem?_getD]
    exact h1

set_option maxHeartbeats 1000000 in
theorem refRoot_none (a : Option Addr) (cap : Nat) (w : World) :
    Calls Tryd.prog 12 #[.slice a 0 cap] w fun e w' => e = .returned (str (bs (sumL []))) ∧ Below w.heap.size w w' := by
  have HS := hide (refSum_any ⟨#[]⟩ [] w rfl (by show 0 ≤ _; omega))
  unfold str at *
  go_enter Tryd.func12, Tryd.ntmps12
  go_wp2_with fail
  refine HS.out.mono ?_
  rintro e w1 ⟨rfl, hb1⟩
  have HB := hide hb1
  clear hb1
  go_wp2
  go_ret
  exact ⟨rfl, HB.out⟩
set_option maxHeartbeats 1000000 in
theorem refRoot_one (b off cap : Nat) (s : ByteArray) (w : World) (hc : w.cell? ⟨b, off, none⟩ = some (.string s)) (hs : s.size ≤ 140737488351232) :
    Calls Tryd.prog 12 #[.slice (some ⟨b, off, none⟩) 1 cap] w fun e w' => e = .returned (str (bs (leafL s.data.toList))) ∧ Below w.heap.size w w' := by
  have HS := hide (refSum_any ((⟨#[0]⟩ : ByteArray) ++ s) (0 :: s.data.toList) w (app0 s) (by rw [app0_size]; omega))
  rw [sumL_leaf] at HS
  generalize leafL s.data.toList = x at *
  unfold str at *
  go_enter Tryd.func12, Tryd.ntmps12
  go_wp2_with fail
  refine HS.out.mono ?_
  rintro e w1 ⟨rfl, hb1⟩
  have HB := hide hb1
  clear hb1
  go_wp2
  go_ret
  exact ⟨rfl, HB.out⟩

theorem app1 (a b : List UInt8) : ((⟨#[1]⟩ : ByteArray) ++ ⟨a.toArray⟩ ++ ⟨b.toArray⟩).data.toList = 1 :: (a ++ b) := by rw [ByteArray.data_append, ByteArray.data_append]; simp
theorem app1_size (a b : List UInt8) : ((⟨#[1]⟩ : ByteArray) ++ ⟨a.toArray⟩ ++ ⟨b.toArray⟩).size = a.length + b.length + 1 := by rw [ByteArray.size_append, ByteArray.size_append]; show 1 + a.toArray.size + b.toArray.size = _; simp; omega
theorem size_str (a : List UInt8) : (⟨a.toArray⟩ : ByteArray).size = a.length := by show a.toArray.size = _; simp

set_option maxRecDepth 100000 in
set_option maxHeartbeats 2000000 in
theorem refRoot_many (b off n cap : Nat) (L : List (List UInt8)) (x y : H4) (w : World) (hl : TxS w (.slice (some ⟨b, off, none⟩) n cap) L) (hL : L.length = n) (hn : 2 ≤ n) (hm : n ≤ 8796093022208) (hcap : n ≤ cap)
    (IH1 : ∀ (v : Value) (W : World), TxS W v (L.take (half n)) → Calls Tryd.prog 12 #[v] W fun e w' => e = .returned (str (bs x)) ∧ Below W.heap.size W w')
    (IH2 : ∀ (v : Value) (W : World), TxS W v (L.drop (half n)) → Calls Tryd.prog 12 #[v] W fun e w' => e = .returned (str (bs y)) ∧ Below W.heap.size W w') :
    Calls Tryd.prog 12 #[.slice (some ⟨b, off, none⟩) n cap] w fun e w' => e = .returned (str (bs (nodeL x y))) ∧ Below w.heap.size w w' := by
  have hh := half_lt n hn
  have hp := half_pos n hn
  have hsp := hide (fun W => refHalf_any n W hn (by omega))
  have HT := hide (hl.take (half n) (by omega))
  have HD := hide (hl.drop (half n))
  have hs1 : ((⟨#[1]⟩ : ByteArray) ++ ⟨(bs x).toArray⟩ ++ ⟨(bs y).toArray⟩).size ≤ 140737488355328 := by rw [app1_size]; have h1 : (bs x).length = 4 := rfl; have h2 : (bs y).length = 4 := rfl; omega
  have HS := hide (fun W => refSum_any ((⟨#[1]⟩ : ByteArray) ++ ⟨(bs x).toArray⟩ ++ ⟨(bs y).toArray⟩) (1 :: (bs x ++ bs y)) W (app1 _ _) hs1)
  rw [sumL_node] at HS
  generalize nodeL x y = z at *
  generalize half n = q at *
  have HI1 := hide IH1
  have HI2 := hide IH2
  clear IH1 IH2 hl hL hs1
  have hq0 : (0 : Int) ≤ (q : Int) := by omega
  have hq1 : (q : Int) ≤ (n : Int) := by omega
  have hq2 : (q : Int) ≤ (cap : Int) := by omega
  have hcq : ¬ cap = q := by omega
  have hn1 : ((n : Int) == 1) = false := beq_eq_false_iff_ne.2 (by omega)
  have hn0 : ((n : Int) == 0) = false := beq_eq_false_iff_ne.2 (by omega)
  have lx : (⟨(bs x).toArray⟩ : ByteArray).size = 4 := size_str _
  have ly : (⟨(bs y).toArray⟩ : ByteArray).size = 4 := size_str _
  unfold str at *
  go_enter Tryd.func12, Tryd.ntmps12
  go_wp2_with fail
  refine (hsp.out _).mono ?_
  rintro e w' ⟨rfl, rfl⟩
  go_wp2_with fail
  refine (HI1.out _ _ HT.out).mono ?_
  rintro e w1 ⟨rfl, hb1⟩
  have HD1 := hide (HD.out.below hb1 (Nat.le_refl _))
  have z1 := hb1.size
  have HB1 := hide hb1
  clear hb1
  go_wp2_with fail
  refine (HI2.out _ _ HD1.out).mono ?_
  rintro e w2 ⟨rfl, hb2⟩
  have z2 := hb2.size
  have HB2 : Hid (Below w'.heap.size w' w2) := HB1.out.trans (hb2.mono z1)
  clear hb2
  go_wp2_with fail
  refine (HS.out _).mono ?_
  rintro e w3 ⟨rfl, hb3⟩
  have HB3 : Hid (Below w'.heap.size w' w3) := HB2.out.trans (hb3.mono (by omega))
  clear hb3
  go_wp2
  go_ret
  exact ⟨rfl, HB3.out⟩

theorem refRoot_any : ∀ (N : Nat) (L : List (List UInt8)) (v : Value) (w : World), L.length ≤ N → TxS w v L → L.length ≤ 8796093022208 →
    Calls Tryd.prog 12 #[v] w fun e w' => e = .returned (str (bs (rt (L.map leafL)))) ∧ Below w.heap.size w w' := by
  intro N
  induction N with
  | zero =>
    intro L v w hN hl _
    obtain rfl : L = [] := List.length_eq_zero_iff.1 (by omega)
    obtain ⟨a, cap, e, _⟩ := hl
    rw [e]
    exact refRoot_none a cap w
  | succ N ih =>
    intro L v w hN hl hm
    obtain ⟨n, hn⟩ : ∃ n, L.length = n := ⟨_, rfl⟩
    have hml : (L.map leafL).length = n := by rw [List.length_map, hn]
    obtain ⟨a, cap, e, hlc, hc⟩ := id hl
    by_cases h0 : n = 0
    · obtain rfl : L = [] := List.length_eq_zero_iff.1 (by omega)
      rw [e]
      exact refRoot_none a cap w
    · obtain ⟨b, off, s, ea, hbw, hcell, hsl, hsz⟩ := hc 0 (by omega)
      subst ea
      by_cases h1 : n = 1
      · obtain ⟨x, rfl⟩ : ∃ x, L = [x] := List.length_eq_one_iff.1 (by omega)
        rw [e]
        have hx : s.data.toList = x := by simpa using hsl
        have := refRoot_one b off cap s w (by simpa using hcell) hsz
        rw [hx] at this
        exact this
      · have hh := half_lt n (by omega)
        have hp0 := half_pos n (by omega)
        rw [rt_split _ (by omega), hml, e, hn, ← List.map_take, ← List.map_drop]
        rw [e, hn] at hl
        refine refRoot_many b off n cap L _ _ w hl hn (by omega) (by omega) (by omega) ?_ ?_
        · intro v' W hW
          exact ih (L.take (half n)) v' W (by rw [List.length_take]; omega) hW (by rw [List.length_take]; omega)
        · intro v' W hW
          exact ih (L.drop (half n)) v' W (by rw [List.length_drop]; omega) hW (by rw [List.length_drop]; omega)
end Go.Proofs.YtepehjalpkfniaaDoor
