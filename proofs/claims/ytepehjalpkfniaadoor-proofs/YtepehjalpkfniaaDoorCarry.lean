/-
  OWN. sums' carry, walked. No project text.
-/
import Derived.Test.YtepehjalpkfniaaDoorRoot
namespace Go.Proofs.YtepehjalpkfniaaDoor
open Go.RowKit

def cellsH (hs : List H4) : List Value := hs.flatMap fun x => [B x.1, B x.2.1, B x.2.2.1, B x.2.2.2]
theorem cellsH_cons (x : H4) (hs : List H4) : cellsH (x :: hs) = B x.1 :: B x.2.1 :: B x.2.2.1 :: B x.2.2.2 :: cellsH hs := rfl
theorem cellsH_append (a b : List H4) : cellsH (a ++ b) = cellsH a ++ cellsH b := by simp [cellsH]
theorem cellsH_length (hs : List H4) : (cellsH hs).length = hs.length * 4 := by
  induction hs with
  | nil => rfl
  | cons x hs ih => rw [cellsH_cons]; simp only [List.length_cons, ih]; omega
theorem cellsH_get (hs : List H4) (k : Nat) (x : H4) (h : hs[k]? = some x) :
    (cellsH hs)[k * 4]? = some (B x.1) ∧ (cellsH hs)[k * 4 + 1]? = some (B x.2.1) ∧ (cellsH hs)[k * 4 + 2]? = some (B x.2.2.1) ∧ (cellsH hs)[k * 4 + 3]? = some (B x.2.2.2) := by
  induction hs generalizing k with
  | nil => simp at h
  | cons y hs ih =>
    rw [cellsH_cons]
    cases k with
    | zero => simp at h; subst h; simp
    | succ k =>
      have := ih k (by simpa using h)
      rw [show (k + 1) * 4 = k * 4 + 4 by omega, show k * 4 + 4 + 1 = k * 4 + 1 + 4 by omega, show k * 4 + 4 + 2 = k * 4 + 2 + 4 by omega, show k * 4 + 4 + 3 = k * 4 + 3 + 4 by omega]
      simpa using this
theorem cellsH_set (hs : List H4) (k : Nat) (x : H4) :
    ((((cellsH hs).set (k * 4) (B x.1)).set (k * 4 + 1) (B x.2.1)).set (k * 4 + 2) (B x.2.2.1)).set (k * 4 + 3) (B x.2.2.2) = cellsH (hs.set k x) := by
  induction hs generalizing k with
  | nil => simp [cellsH]
  | cons y hs ih =>
    cases k with
    | zero => simp [cellsH_cons]
    | succ k =>
      rw [show (k + 1) * 4 = k * 4 + 4 by omega, show k * 4 + 4 + 1 = k * 4 + 1 + 4 by omega, show k * 4 + 4 + 2 = k * 4 + 2 + 4 by omega, show k * 4 + 4 + 3 = k * 4 + 3 + 4 by omega]
      rw [cellsH_cons]
      simp only [List.set_cons_succ]
      rw [cellsH_cons, ih]

/-- The slice v is the call's own and holds the sums hs. -/
def Own (w : World) (base : Nat) (v : Value) (hs : List H4) : Prop := w.ownsRow base 62 4 v hs.length (cellsH hs)
theorem Own.shape {w : World} {base : Nat} {v : Value} {hs : List H4} (h : Own w base v hs) (hp : 0 < hs.length) :
    ∃ g cap, v = .slice (some ⟨g, 0, none⟩) hs.length cap ∧ base ≤ g ∧ g < w.heap.size ∧ hs.length ≤ cap := by
  rcases h.2 with ⟨_, e⟩ | ⟨g, cap, cur, e, hb, hg, hc, _⟩
  · omega
  · exact ⟨g, cap, e, hb, (Array.getElem?_eq_some_iff.1 hg).1, hc⟩
theorem Own.at4 {w : World} {base g cap : Nat} {hs : List H4} (h : Own w base (.slice (some ⟨g, 0, none⟩) hs.length cap) hs) (k : Nat) (x : H4) (hk : hs[k]? = some x) :
    w.cell? ⟨g, k * 4, none⟩ = some (B x.1) ∧ w.cell? ⟨g, k * 4 + 1, none⟩ = some (B x.2.1) ∧ w.cell? ⟨g, k * 4 + 2, none⟩ = some (B x.2.2.1) ∧ w.cell? ⟨g, k * 4 + 3, none⟩ = some (B x.2.2.2) := by
  have hlt : k < hs.length := (List.getElem?_eq_some_iff.1 hk).1
  obtain ⟨a, b, c, d⟩ := cellsH_get hs k x hk
  exact ⟨(h.cellAt _ (by omega)).trans a, (h.cellAt _ (by omega)).trans b, (h.cellAt _ (by omega)).trans c, (h.cellAt _ (by omega)).trans d⟩
theorem Own.set4 {w : World} {base g cap : Nat} {hs : List H4} (h : Own w base (.slice (some ⟨g, 0, none⟩) hs.length cap) hs) (k : Nat) (x : H4) :
    Own ((((w.setCell ⟨g, k * 4, none⟩ (B x.1)).setCell ⟨g, k * 4 + 1, none⟩ (B x.2.1)).setCell ⟨g, k * 4 + 2, none⟩ (B x.2.2.1)).setCell ⟨g, k * 4 + 3, none⟩ (B x.2.2.2)) base (.slice (some ⟨g, 0, none⟩) hs.length cap) (hs.set k x) := by
  have := (((((World.ownsRow.stored h (k * 4) (B x.1)).1.stored (k * 4 + 1) (B x.2.1)).1.stored (k * 4 + 2) (B x.2.2.1)).1.stored (k * 4 + 3) (B x.2.2.2)).1)
  rw [cellsH_set] at this
  unfold Own
  rw [List.length_set]
  exact this
theorem Own.below {w w' : World} {base n : Nat} {v : Value} {hs : List H4} (h : Own w base v hs) (hb : Below n w w') (hn : w.heap.size ≤ n) : Own w' base v hs := by
  refine h.kept (row := none) ⟨hb.os, hb.tape, hb.output, hb.size, fun k hk _ => hb.block k (by omega)⟩ ?_
  by_cases e : v.ownBlock = none
  · exact .inl e
  · exact .inr e

theorem Own.alloc {w : World} {base : Nat} {v : Value} {hs : List H4} (h : Own w base v hs) (o : Obj) : Own (w.alloc o) base v hs := h.below ((Below.refl _ _).alloc (Nat.le_refl _) _) (Nat.le_refl _)
theorem Own.other {w : World} {base : Nat} {v : Value} {hs : List H4} (h : Own w base v hs) (p : Addr) (u : Value) (hp : v.ownBlock ≠ some p.block) : Own (w.setCell p u) base v hs := by
  refine h.kept (row := some p.block) ⟨rfl, rfl, rfl, by simp [World.setCell], fun k _ hk => Below.heap_setCell _ _ _ _ (fun e => hk (by rw [e]))⟩ ?_
  exact .inr hp
theorem Slot4.other {w : World} {r : Nat} {a b c d : Value} (h : Slot4 w r a b c d) (p : Addr) (u : Value) (hp : r ≠ p.block) : Slot4 (w.setCell p u) r a b c d := by
  obtain ⟨h0, h1, h2, h3, hf⟩ := h
  have q : ∀ o, (w.setCell p u).cell? ⟨r, o, none⟩ = w.cell? ⟨r, o, none⟩ := fun o => World.cell?_of_block (w := w) (Below.heap_setCell _ _ _ _ (fun e => hp (by simpa using e)))
  exact ⟨(q 0).trans h0, (q 1).trans h1, (q 2).trans h2, (q 3).trans h3, fun o => by rw [World.frozen?_setCell]; exact hf o⟩
theorem Slot4.set {w : World} {r : Nat} {a b c d : Value} (h : Slot4 w r a b c d) (a' b' c' d' : Value) :
    Slot4 ((((w.setCell ⟨r, 0, none⟩ a').setCell ⟨r, 1, none⟩ b').setCell ⟨r, 2, none⟩ c').setCell ⟨r, 3, none⟩ d') r a' b' c' d' := by
  obtain ⟨h0, h1, h2, h3, hf⟩ := h
  refine ⟨?_, ?_, ?_, ?_, fun o => by simp only [World.frozen?_setCell]; exact hf o⟩
  · rw [World.cell?_setCell_other _ _ _ _ (by simp), World.cell?_setCell_other _ _ _ _ (by simp), World.cell?_setCell_other _ _ _ _ (by simp)]
    exact World.cell?_setCell_same _ _ _ h0
  · rw [World.cell?_setCell_other _ _ _ _ (by simp), World.cell?_setCell_other _ _ _ _ (by simp)]
    refine World.cell?_setCell_same _ _ _ (u := b) ?_
    rw [World.cell?_setCell_other _ _ _ _ (by simp)]; exact h1
  · rw [World.cell?_setCell_other _ _ _ _ (by simp)]
    refine World.cell?_setCell_same _ _ _ (u := c) ?_
    rw [World.cell?_setCell_other _ _ _ _ (by simp), World.cell?_setCell_other _ _ _ _ (by simp)]; exact h2
  · refine World.cell?_setCell_same _ _ _ (u := d) ?_
    rw [World.cell?_setCell_other _ _ _ _ (by simp), World.cell?_setCell_other _ _ _ _ (by simp), World.cell?_setCell_other _ _ _ _ (by simp)]; exact h3
theorem set_at (k : Nat) (hs : List H4) (x y : H4) (h : hs[k]? = some x) : (List.replicate k noS ++ hs.drop k).set k y = List.replicate k noS ++ y :: hs.drop (k + 1) := by
  have hlt : k < hs.length := (List.getElem?_eq_some_iff.1 h).1
  have e : hs.drop k = x :: hs.drop (k + 1) := by
    rw [List.drop_eq_getElem_cons hlt]
    congr 1
    exact (List.getElem?_eq_some_iff.1 h).2
  rw [e, List.set_append_right _ _ (by simp)]
  simp
theorem mid_at (k : Nat) (hs : List H4) (x : H4) (h : hs[k]? = some x) : (List.replicate k noS ++ hs.drop k)[k]? = some x := by
  rw [List.getElem?_append_right (by simp)]
  simp [h]
theorem mid_len (k : Nat) (hs : List H4) (h : k ≤ hs.length) : (List.replicate k noS ++ hs.drop k).length = hs.length := by simp; omega
theorem drop_at (k : Nat) (hs : List H4) (x : H4) (h : hs[k]? = some x) : hs.drop k = x :: hs.drop (k + 1) := by
  have hlt : k < hs.length := (List.getElem?_eq_some_iff.1 h).1
  rw [List.drop_eq_getElem_cons hlt]
  congr 1
  exact (List.getElem?_eq_some_iff.1 h).2

theorem news4 (w : World) (t : TypeId) (a b c d : Value) : ∀ (j : Nat) (u : Value), [a, b, c, d][j]? = some u → (w.alloc (.cells #[a, b, c, d] t)).cell? ((⟨w.heap.size, 0, none⟩ : Addr).add j) = some u := by
  intro j u hj
  match j, hj with
  | 0, hj => simp at hj; subst hj; simp [Addr.add]
  | 1, hj => simp at hj; subst hj; simp [Addr.add]
  | 2, hj => simp at hj; subst hj; simp [Addr.add]
  | 3, hj => simp at hj; subst hj; simp [Addr.add]
  | j + 4, hj => simp at hj
theorem info55 : (Tryd.prog.info? 62).map (fun i => (i.zero, i.size, i.bytes)) = some (some (.agg #[.int .u8 0, .int .u8 0, .int .u8 0, .int .u8 0]), 4, 4) := by kernel_rfl

set_option maxHeartbeats 2000000 in
theorem carry_any (hs : List H4) (r : H4) (v : Value) (base : Nat) (w : World) (hg : NoS w) (ho : Own w base v hs) (hb0 : 0 < base) (hbs : base ≤ w.heap.size) (hl : hs.length ≤ 8796093022208) :
    Calls Tryd.prog 45 #[v, hv r] w fun e w' => ∃ v', e = .returned v' ∧ Own w' base v' (carryL hs r) ∧ Below base w w' := by
  obtain ⟨n, hn⟩ : ∃ n, hs.length = n := ⟨_, rfl⟩
  obtain ⟨a, cap, rfl⟩ : ∃ a cap, v = .slice a n cap := by
    rcases ho.2 with ⟨e, e2⟩ | ⟨g, cap, cur, e, _⟩
    · exact ⟨none, 0, by rw [e, ← hn, e2]⟩
    · exact ⟨_, cap, by rw [e, hn]⟩
  have hsh : 0 < n → ∃ g, a = some ⟨g, 0, none⟩ ∧ base ≤ g ∧ g < w.heap.size := fun hp => by
    obtain ⟨g, cap', e, h1, h2, _⟩ := ho.shape (by omega)
    simp only [Value.slice.injEq] at e
    exact ⟨g, e.1, h1, h2⟩
  obtain ⟨r0, r1, r2, r3⟩ := r
  obtain ⟨z, hz⟩ : ∃ z, carryL hs (r0, r1, r2, r3) = z := ⟨_, rfl⟩
  rw [hz]
  have HZ : Hid (carryL hs (r0, r1, r2, r3) = z) := hz
  have HN : Hid (hs.length = n) := hn
  rw [hn] at hl
  clear hz hn
  have HS := hide (hsh)
  clear hsh
  have Oat : Own (w.alloc (.cells #[B r0, B r1, B r2, B r3] 62)) base (.slice a n cap) hs := ho.alloc _
  have Sat := slot4_mk w 62 (B r0) (B r1) (B r2) (B r3)
  simp only [hv]
  go_enter Tryd.func45, Tryd.ntmps45
  go_wp2
  go_loopw [9] (fun i wr => ∃ k : Nat, k ≤ n ∧ i = .int .i64 k ∧ ∃ rk : H4, z = List.replicate k noS ++ carryL (hs.drop k) rk ∧ Own wr base (.slice a n cap) (List.replicate k noS ++ hs.drop k) ∧ Slot4 wr w.heap.size (B rk.1) (B rk.2.1) (B rk.2.2.1) (B rk.2.2.2) ∧ Below base w wr ∧ w.heap.size < wr.heap.size)
    (fun i _ => n - (intOf i).toNat)
  case atStart => exact ⟨0, Nat.zero_le _, rfl, (r0, r1, r2, r3), HZ.out.symm, Oat, Sat, (Below.refl _ _).alloc hbs _, by simp⟩
  case round =>
    obtain ⟨k, hk, rfl, ⟨k0, k1, k2, k3⟩, hzk, hok, hsk, hbk, hszk⟩ := hrel
    have HZK : Hid (z = List.replicate k noS ++ carryL (hs.drop k) (k0, k1, k2, k3)) := hzk
    clear hzk HZ Oat Sat
    obtain ⟨s0, s1, s2, s3, sf⟩ := (id hsk)
    have HSK := hide (hsk)
    clear hsk
    by_cases hlt : k < n
    · obtain ⟨g, rfl, hgb, hgw⟩ := HS.out (by omega)
      obtain ⟨⟨x0, x1, x2, x3⟩, hx⟩ : ∃ x, hs[k]? = some x := ⟨_, List.getElem?_eq_getElem (by rw [HN.out]; exact hlt)⟩
      have hlen : (List.replicate k noS ++ hs.drop k).length = n := by rw [mid_len _ _ (by rw [HN.out]; omega), HN.out]
      have hokL : Own wr base (.slice (some ⟨g, 0, none⟩) (List.replicate k noS ++ hs.drop k).length cap) (List.replicate k noS ++ hs.drop k) := by rw [hlen]; exact hok
      obtain ⟨c0, c1, c2, c3⟩ := Own.at4 hokL k _ (mid_at k hs _ hx)
      have hgl : g < wr.heap.size := by omega
      have hgr : NoS wr := NoS.below hg hbk hb0
      obtain ⟨n0, n1, n2, n3⟩ := hgr.cells
      have hfz : ∀ o, wr.frozen? ⟨g, o, none⟩ = false := fun o => World.ownsRow.frozenAt hokL o
      have hw0 : 0 < wr.heap.size := by omega
      have hne : w.heap.size ≠ g := by omega
      by_cases hxn : (x0, x1, x2, x3) = noS
      · have e1 : ∀ w, (Op.equalIn 10000 62 (hv (x0, x1, x2, x3)) (.agg #[.int .u8 255, .int .u8 255, .int .u8 255, .int .u8 255])).run Tryd.prog w = .ok (decide ((x0, x1, x2, x3) = noS)) w := eqH (x0, x1, x2, x3) noS
        rw [decide_eq_true hxn] at e1
        have F1 := (hokL.set4 k (k0, k1, k2, k3)).alloc (.cells #[B x0, B x1, B x2, B x3] 62)
        rw [hlen, set_at k hs _ _ hx] at F1
        have hzz : z = List.replicate k noS ++ (k0, k1, k2, k3) :: hs.drop (k + 1) := by rw [HZK.out, drop_at k hs _ hx, hxn, carryL_no]
        rw [← hzz] at F1
        have FF := hide (F1)
        have HB : Hid (Below base w ((((((wr.setCell ⟨g, k * 4, none⟩ (B k0)).setCell ⟨g, k * 4 + 1, none⟩ (B k1)).setCell ⟨g, k * 4 + 2, none⟩ (B k2)).setCell ⟨g, k * 4 + 3, none⟩ (B k3)).alloc (.cells #[B x0, B x1, B x2, B x3] 62)))) :=
          ((((hbk.setCell hgb _).setCell hgb _).setCell hgb _).setCell hgb _).alloc (by simp [World.setCell]; omega) _
        clear F1 hzz hokL hok hx hxn hlen HZK HSK hgr hg ho HN hbk
        simp only [hv, B] at *
        go_wp2
        go_ret
        exact ⟨_, rfl, FF.out, HB.out⟩
      · have HNS := hide (nodeSum_any (x0, x1, x2, x3) (k0, k1, k2, k3))
        have e1 : ∀ w, (Op.equalIn 10000 62 (hv (x0, x1, x2, x3)) (.agg #[.int .u8 255, .int .u8 255, .int .u8 255, .int .u8 255])).run Tryd.prog w = .ok (decide ((x0, x1, x2, x3) = noS)) w := eqH (x0, x1, x2, x3) noS
        rw [decide_eq_false hxn] at e1
        have F1 := (hokL.set4 k noS).alloc (.cells #[B x0, B x1, B x2, B x3] 62)
        rw [hlen, set_at k hs _ _ hx, ← rep_mid] at F1
        have FF := hide (F1)
        obtain ⟨y, hy⟩ : ∃ y, nodeL (x0, x1, x2, x3) (k0, k1, k2, k3) = y := ⟨_, rfl⟩
        have hzz : z = List.replicate (k + 1) noS ++ carryL (hs.drop (k + 1)) y := by rw [HZK.out, drop_at k hs _ hx, carryL_yes _ _ _ hxn, hy, rep_mid]
        have HZZ := hide (hzz)
        rw [hy] at HNS
        have HB : Hid (Below base w ((((((wr.setCell ⟨g, k * 4, none⟩ (B 255)).setCell ⟨g, k * 4 + 1, none⟩ (B 255)).setCell ⟨g, k * 4 + 2, none⟩ (B 255)).setCell ⟨g, k * 4 + 3, none⟩ (B 255)).alloc (.cells #[B x0, B x1, B x2, B x3] 62)))) :=
          ((((hbk.setCell hgb _).setCell hgb _).setCell hgb _).setCell hgb _).alloc (by simp [World.setCell]; omega) _
        have SS : Hid (Slot4 ((((((wr.setCell ⟨g, k * 4, none⟩ (B 255)).setCell ⟨g, k * 4 + 1, none⟩ (B 255)).setCell ⟨g, k * 4 + 2, none⟩ (B 255)).setCell ⟨g, k * 4 + 3, none⟩ (B 255)).alloc (.cells #[B x0, B x1, B x2, B x3] 62))) w.heap.size (B k0) (B k1) (B k2) (B k3)) :=
          ((((HSK.out.other _ _ hne).other _ _ hne).other _ _ hne).other _ _ hne).alloc _
        clear F1 hzz hokL hok hx hxn hlen HZK HSK hgr hg ho hy
        obtain ⟨y0, y1, y2, y3⟩ := y
        simp only [hv, B] at HNS e1 c0 c1 c2 c3 s0 s1 s2 s3
        simp only [B]
        go_wp2_with fail
        refine (HNS.out _).mono ?_
        rintro e w2 ⟨rfl, hb2⟩
        have hz2 : wr.heap.size < w2.heap.size := by have := hb2.size; simp [World.setCell] at this; omega
        have SS2 : Slot4 w2 w.heap.size (.int .u8 k0.toNat) (.int .u8 k1.toNat) (.int .u8 k2.toNat) (.int .u8 k3.toNat) := SS.out.below hb2 (by simp [World.setCell]; omega)
        have O2 : Own w2 base (.slice (some ⟨g, 0, none⟩) n cap) (List.replicate (k + 1) noS ++ hs.drop (k + 1)) := FF.out.below hb2 (Nat.le_refl _)
        have B2 : Below base w w2 := HB.out.trans (hb2.mono (by simp [World.setCell]; omega))
        obtain ⟨q0, q1, q2, q3, qf⟩ := (id SS2)
        have hoth : (Value.slice (some ⟨g, 0, none⟩) n cap).ownBlock ≠ some w.heap.size := by simp [Value.ownBlock]; omega
        have R1 : Hid (Own ((((w2.setCell ⟨w.heap.size, 0, none⟩ (.int .u8 y0.toNat)).setCell ⟨w.heap.size, 1, none⟩ (.int .u8 y1.toNat)).setCell ⟨w.heap.size, 2, none⟩ (.int .u8 y2.toNat)).setCell ⟨w.heap.size, 3, none⟩ (.int .u8 y3.toNat)) base (.slice (some ⟨g, 0, none⟩) n cap) (List.replicate (k + 1) noS ++ hs.drop (k + 1))) :=
          (((O2.other _ _ hoth).other _ _ hoth).other _ _ hoth).other _ _ hoth
        have R2 : Hid (Slot4 ((((w2.setCell ⟨w.heap.size, 0, none⟩ (.int .u8 y0.toNat)).setCell ⟨w.heap.size, 1, none⟩ (.int .u8 y1.toNat)).setCell ⟨w.heap.size, 2, none⟩ (.int .u8 y2.toNat)).setCell ⟨w.heap.size, 3, none⟩ (.int .u8 y3.toNat)) w.heap.size (B y0) (B y1) (B y2) (B y3)) := SS2.set _ _ _ _
        have R3 : Hid (Below base w ((((w2.setCell ⟨w.heap.size, 0, none⟩ (.int .u8 y0.toNat)).setCell ⟨w.heap.size, 1, none⟩ (.int .u8 y1.toNat)).setCell ⟨w.heap.size, 2, none⟩ (.int .u8 y2.toNat)).setCell ⟨w.heap.size, 3, none⟩ (.int .u8 y3.toNat))) :=
          (((B2.setCell hbs _).setCell hbs _).setCell hbs _).setCell hbs _
        clear hb2 SS2 O2 B2 HNS SS FF HB hoth e1 c0 c1 c2 c3 s0 s1 s2 s3 sf n0 n1 n2 n3 hfz
        go_wp2
        go_roundw
        case rel => exact ⟨k + 1, by omega, by go_num, (y0, y1, y2, y3), HZZ.out, R1.out, R2.out, R3.out, by simp [World.setCell]; omega⟩
        case measure => simp [intOf]; omega
    · have hkn : k = n := by omega
      obtain ⟨i0, hi, hz0, hz1, hz2⟩ := info_parts info55
      have hzz : z = List.replicate k noS ++ [(k0, k1, k2, k3)] := by
        rw [HZK.out, List.drop_of_length_le (by rw [HN.out]; omega)]; rfl
      have hok2 : wr.ownsRow base 62 4 (.slice a n cap) n (cellsH (List.replicate k noS)) := by
        have := hok
        rw [List.drop_of_length_le (by rw [HN.out]; omega), List.append_nil] at this
        unfold Own at this
        rw [List.length_replicate, hkn] at this
        rw [hkn]
        exact this
      have HOK := hide (hok2)
      have HZZ := hide (hzz)
      have HKN := hide (hkn)
      have HBK := hide (hbk)
      have HL : Hid (∀ j, (Value.slice a n cap).ownBlock = some j → base ≤ j) := fun j hj => (hok2.lt j hj).1
      have hbw : base ≤ wr.heap.size := by omega
      clear hok2 hzz hkn hok hbk HZK HS HSK hg ho
      simp only [B] at s0 s1 s2 s3
      go_wp2_with (at_builtin; refine wpList_append_own _ rfl _ _ 64 rfl base 62 i0 (.agg #[.int .u8 0, .int .u8 0, .int .u8 0, .int .u8 0]) 4 4 Tryd.underlying64 hi hz0 hz1 hz2 rfl (by decide) _ _ _ rfl (HOK.out.alloc _) ⟨wr.heap.size, 0, none⟩ 1 1 [.int .u8 k0.toNat, .int .u8 k1.toNat, .int .u8 k2.toNat, .int .u8 k3.toNat] rfl rfl ?c1 ?c2 ?c3 ?c4 ?c5 ?_)
      case c1 => exact news4 wr 62 _ _ _ _
      case c2 =>
        intro u hu
        simp only [List.mem_cons, List.not_mem_nil, or_false] at hu
        rcases hu with rfl | rfl | rfl | rfl <;> rfl
      case c3 => unfold maxLen; omega
      case c4 => omega
      case c5 => simp; omega
      intro v' w1 hown' hgrow _
      have G1 : Own w1 base v' z := by
        unfold Own
        rw [HZZ.out, cellsH_append]
        simp only [List.length_append, List.length_replicate, List.length_cons, List.length_nil]
        rw [HKN.out]
        rw [HKN.out] at hown'
        exact hown'
      have G2 : Below base w w1 := (HBK.out.alloc hbw _).grown hgrow (by simp; omega) HL.out
      have G1H := hide G1
      have G2H := hide G2
      clear G1 G2 hown' hgrow
      go_wp2
      go_ret
      exact ⟨_, rfl, G1H.out, G2H.out⟩
end Go.Proofs.YtepehjalpkfniaaDoor
