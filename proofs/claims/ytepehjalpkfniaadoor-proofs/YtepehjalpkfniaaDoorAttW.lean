/-
  OWN. What evidence shows (chain: Attested), walked. No project text.
-/
import Derived.Test.YtepehjalpkfniaaDoorEvM
import Derived.Test.YtepehjalpkfniaaDoorEvR
import Derived.Test.YtepehjalpkfniaaDoorClone
import Derived.Test.YtepehjalpkfniaaDoorExtW
namespace Go.Proofs.YtepehjalpkfniaaDoor
open Go.RowKit

theorem pev_n (l : List UInt8) : (pev l).n < 4294967296 := numL_take_lt 4 _
theorem pev_nth (l : List UInt8) : (pev l).nth < 256 := numL_take_lt 1 _
theorem pev_many (l : List UInt8) : (pev l).many < 256 := numL_take_lt 1 _
theorem pev_tn (l : List UInt8) : (pev l).tn < 18446744073709551616 := numL_take_lt 8 _
theorem pev_op (l : List UInt8) : (pev l).op.length < 65536 := by
  have h : ∀ (t s : List UInt8), (s.take (numL (t.take 2))).length < 65536 := fun t s => by
    rw [List.length_take]
    have : numL (t.take 2) < 65536 := numL_take_lt 2 t
    omega
  exact h _ _
theorem pev_behind (l : List UInt8) : (pev l).behind.length ≤ l.length := by
  simp only [pev, nx, List.length_take, List.length_drop]
  omega
theorem pev_pl (l : List UInt8) : (pev l).p.length < 256 := by
  have h : ∀ (t s : List UInt8), (padL s (numL (t.take 1))).length < 256 := fun t s => by
    rw [padL_len]
    exact numL_take_lt 1 t
  exact h _ _
theorem pev_ql (l : List UInt8) : (pev l).q.length < 256 := by
  have h : ∀ (t s : List UInt8), (padL s (numL (t.take 1))).length < 256 := fun t s => by
    rw [padL_len]
    exact numL_take_lt 1 t
  exact h _ _
theorem wrap_back (t : Nat) (h : t < 18446744073709551616) : IntKind.u64.wrap (wrap64 (t : Int)) = (t : Int) := by
  simp [IntKind.wrap, IntKind.bits, IntKind.signed, wrap64]
  omega
/-- What comes back beside the bool. -/
def Shown (n : Nat) (w : World) (u : Value) : Option (List UInt8) → Prop
  | none => u = .slice none 0 0
  | some t => OwnB w n u t

theorem ok_parts (v : PEv) (h : v.ok = true) : v.short = false ∧ 1 ≤ v.n ∧ v.nth < v.many ∧ v.many ≤ 16 := by
  simp only [PEv.ok, Bool.and_eq_true, decide_eq_true_iff, Bool.not_eq_true'] at h
  exact ⟨h.1.1.1.1, h.1.1.1.2, h.1.1.2, h.1.2⟩
theorem attP_no (v : PEv) (m : Int) (g : H4) (h : v.ok = false) : attP v m g = none := if_neg (fun e => by rw [h] at e; exact absurd e.1 (by simp))
theorem attP_p (v : PEv) (m : Int) (g : H4) (h : v.p.length ≠ deep v.nth v.many) : attP v m g = none := if_neg (fun e => h e.2.1)
theorem attP_q (v : PEv) (m : Int) (g : H4) (h : v.q.length ≠ deep ((v.n - 1) % 3) 3) : attP v m g = none := if_neg (fun e => h e.2.2.1)

theorem keep15 {n : Nat} {W W' : World} (hb : Below n W W') {qh qd qe : Nat} (h1 : qh < n) (h2 : qd < n) (h3 : qe < n) {a0 a1 a2 a3 a4 a5 a6 a7 a8 d0 d1 d2 d3 d4 b : Value} (h : W.cell? ⟨qh, 0, none⟩ = some (a0) ∧ W.cell? ⟨qh, 1, none⟩ = some (a1) ∧ W.cell? ⟨qh, 2, none⟩ = some (a2) ∧ W.cell? ⟨qh, 3, none⟩ = some (a3) ∧ W.cell? ⟨qh, 4, none⟩ = some (a4) ∧ W.cell? ⟨qh, 5, none⟩ = some (a5) ∧ W.cell? ⟨qh, 6, none⟩ = some (a6) ∧ W.cell? ⟨qh, 7, none⟩ = some (a7) ∧ W.cell? ⟨qh, 8, none⟩ = some (a8) ∧ W.cell? ⟨qd, 0, none⟩ = some (d0) ∧ W.cell? ⟨qd, 1, none⟩ = some (d1) ∧ W.cell? ⟨qd, 2, none⟩ = some (d2) ∧ W.cell? ⟨qd, 3, none⟩ = some (d3) ∧ W.cell? ⟨qd, 4, none⟩ = some (d4) ∧ W.cell? ⟨qe, 11, none⟩ = some (b)) : W'.cell? ⟨qh, 0, none⟩ = some (a0) ∧ W'.cell? ⟨qh, 1, none⟩ = some (a1) ∧ W'.cell? ⟨qh, 2, none⟩ = some (a2) ∧ W'.cell? ⟨qh, 3, none⟩ = some (a3) ∧ W'.cell? ⟨qh, 4, none⟩ = some (a4) ∧ W'.cell? ⟨qh, 5, none⟩ = some (a5) ∧ W'.cell? ⟨qh, 6, none⟩ = some (a6) ∧ W'.cell? ⟨qh, 7, none⟩ = some (a7) ∧ W'.cell? ⟨qh, 8, none⟩ = some (a8) ∧ W'.cell? ⟨qd, 0, none⟩ = some (d0) ∧ W'.cell? ⟨qd, 1, none⟩ = some (d1) ∧ W'.cell? ⟨qd, 2, none⟩ = some (d2) ∧ W'.cell? ⟨qd, 3, none⟩ = some (d3) ∧ W'.cell? ⟨qd, 4, none⟩ = some (d4) ∧ W'.cell? ⟨qe, 11, none⟩ = some (b) := by
  have c1 := fun o => hb.cell (p := ⟨qh, o, none⟩) h1
  have c2 := fun o => hb.cell (p := ⟨qd, o, none⟩) h2
  have c3 := fun o => hb.cell (p := ⟨qe, o, none⟩) h3
  simp only [c1, c2, c3]
  exact h
theorem wrap_i64 (x : Int) (h0 : -9223372036854775808 ≤ x) (h1 : x ≤ 9223372036854775807) : IntKind.i64.wrap x = x := by
  simp [IntKind.wrap, IntKind.bits, IntKind.signed]
  omega
theorem closed_any (k : Nat) (w : World) (hk : k ≤ 4294967296) : Calls Tryd.prog 65 #[.int .i64 (k : Int)] w fun e w' => e = .returned (.int .i64 ((k : Int) / 3)) ∧ w = w' := by
  go_enter Tryd.func65, Tryd.ntmps65
  go_wp2
  go_ret
  have h : wrap64 ((k : Int) / 3) = (k : Int) / 3 := by unfold wrap64; omega
  exact ⟨by rw [← h]; rfl, rfl⟩

set_option maxRecDepth 100000 in
set_option maxHeartbeats 8000000 in
theorem catt_any (l : List UInt8) (blk off cap : Nat) (m : Int) (g : H4) (w : World) (hl : l.length ≤ 140737488351232) (hlc : l.length ≤ cap) (hc : cap ≤ 140737488355328) (hi : InB w blk off l) :
    Calls Tryd.prog 52 #[.slice (some ⟨blk, off, none⟩) l.length cap, dgv m g] w fun e w' => ∃ u, e = .returned (.tuple #[u, .bool (attP (pev l) m g).isSome]) ∧ Shown w.heap.size w' u (attP (pev l) m g) ∧ Below w.heap.size w w' := by
  have hblk := hi.1
  have HR := hide (fun W h => readEvidence_any l blk off cap W hl hlc hc h)
  have HI := hide hi
  have b1 := pev_n l
  have b2 := pev_nth l
  have b3 := pev_many l
  have b4 := pev_tn l
  have b5 := pev_op l
  have b6 := pev_behind l
  have b7 := pev_pl l
  have b8 := pev_ql l
  have HOK := hide (ok_parts (pev l))
  have AN := hide (attP_no (pev l) m g)
  have AP := hide (attP_p (pev l) m g)
  have AQ := hide (attP_q (pev l) m g)
  have AD : Hid (attP (pev l) m g = if (pev l).ok = true ∧ (pev l).p.length = deep (pev l).nth (pev l).many ∧ (pev l).q.length = deep (((pev l).n - 1) % 3) 3 ∧ extB ((pev l).block : Int) (sumL (hdL (pev l).block (pev l).ahead (pev l).root)) m g (pev l).behind = true then some (pev l).op else none) := rfl
  have hbl : (pev l).behind.length ≤ 140737488351232 := by omega
  clear hi hl hlc hc b6
  generalize pev l = V at *
  obtain ⟨n, nth, many, tn, op, P, Q, ⟨x0, x1, x2, x3⟩, behind, short⟩ := V
  generalize hO : PEv.ok ⟨n, nth, many, tn, op, P, Q, (x0, x1, x2, x3), behind, short⟩ = ok at *
  generalize hR : attP ⟨n, nth, many, tn, op, P, Q, (x0, x1, x2, x3), behind, short⟩ m g = R at *
  simp only at b1 b2 b3 b4 b5 b7 b8 hbl
  clear hO hR
  obtain ⟨g0, g1, g2, g3⟩ := g
  have D0 := hide (dig_mk w 74 m (g0, g1, g2, g3))
  simp only [dgv, B]
  go_enter Tryd.func52, Tryd.ntmps52
  go_wp2_with fail
  refine (HR.out _ ?h1).mono ?_
  case h1 => exact HI.out.below ((Below.refl _ _).alloc (Nat.le_refl _) _) hblk
  rintro e w1 ⟨ev, rfl, hev, hb1⟩
  obtain ⟨oOp, oBe, vP, vQ, rfl, iO, iB, oP, oQ⟩ := hev
  obtain ⟨aP, kP, rfl⟩ := oP.slice
  obtain ⟨aQ, kQ, rfl⟩ := oQ.slice
  simp only [World.size_alloc] at hb1 oP oQ
  have B1 : Hid (Below w.heap.size w w1) := ((Below.refl _ _).alloc (Nat.le_refl _) _).trans (hb1.mono (by omega))
  have D1 := hide (D0.out.below hb1 (by omega))
  have z1 : w.heap.size + 1 ≤ w1.heap.size := by have := hb1.size; simp at this; omega
  simp only at iO iB oP oQ
  obtain ⟨tv, htv⟩ : ∃ tv, wrap64 (tn : Int) = tv := ⟨_, rfl⟩
  have HTV : Hid (IntKind.u64.wrap tv = (tn : Int)) := by show _ = _; rw [← htv]; exact wrap_back tn b4
  simp only [htv]
  clear htv
  have hA := (Below.refl _ w1).alloc (Nat.le_refl _) (.cells #[.int .i64 (n : Int), .int .i64 (nth : Int), .int .i64 (many : Int), .int .i64 tv, .slice (some ⟨blk, oOp, none⟩) op.length op.length, .slice aP P.length kP, .slice aQ Q.length kQ, .int .u8 x0.toNat, .int .u8 x1.toNat, .int .u8 x2.toNat, .int .u8 x3.toNat, .slice (some ⟨blk, oBe, none⟩) behind.length behind.length] 113)
  have hE := cells_mk w1 113 [.int .i64 (n : Int), .int .i64 (nth : Int), .int .i64 (many : Int), .int .i64 tv, .slice (some ⟨blk, oOp, none⟩) op.length op.length, .slice aP P.length kP, .slice aQ Q.length kQ, .int .u8 x0.toNat, .int .u8 x1.toNat, .int .u8 x2.toNat, .int .u8 x3.toNat, .slice (some ⟨blk, oBe, none⟩) behind.length behind.length]
  simp only [List.toArray] at hE
  obtain ⟨w2, hw2⟩ : ∃ w2, w1.alloc (.cells #[.int .i64 (n : Int), .int .i64 (nth : Int), .int .i64 (many : Int), .int .i64 tv, .slice (some ⟨blk, oOp, none⟩) op.length op.length, .slice aP P.length kP, .slice aQ Q.length kQ, .int .u8 x0.toNat, .int .u8 x1.toNat, .int .u8 x2.toNat, .int .u8 x3.toNat, .slice (some ⟨blk, oBe, none⟩) behind.length behind.length] 113) = w2 := ⟨_, rfl⟩
  rw [hw2] at hA hE
  have z2 : w2.heap.size = w1.heap.size + 1 := by rw [← hw2]; simp
  have B2 := hide (B1.out.trans (hA.mono (by omega)))
  have D2 := hide (D1.out.below hA (by omega))
  have E2 := hide hE
  have IO2 := hide (iO.below hA (by omega))
  have IB2 := hide (iB.below hA (by omega))
  have OP2 := hide (oP.below hA (Nat.le_refl _))
  have OQ2 := hide (oQ.below hA (Nat.le_refl _))
  have HW2 := hide hw2
  clear hb1 hA hE hw2 iO iB oP oQ B1 D1 D0 HR HI
  have FN : Hid (∀ W, R = none → Below w.heap.size w W → ∃ u, Ending.returned (.tuple #[.slice none 0 0, .bool false]) = .returned (.tuple #[u, .bool R.isSome]) ∧ Shown w.heap.size W u R ∧ Below w.heap.size w W) := fun W hN hB => by
    subst hN
    exact ⟨_, rfl, rfl, hB⟩
  cases ok
  · have HN := hide (AN.out rfl)
    clear AN AP AQ AD HOK
    simp only [B]
    go_wp2
    rw [HW2.out]
    exact bodyPost_ret (v := .tuple #[.slice none 0 0, .bool false]) (by simp [results, Tryd.results52, go_sem]) rfl (FN.out _ HN.out B2.out)
  · obtain ⟨_, hn1, hnm, hm16⟩ := (show short = false ∧ 1 ≤ n ∧ nth < many ∧ many ≤ 16 from HOK.out rfl)
    obtain ⟨k, rfl⟩ : ∃ k, n = k + 1 := ⟨n - 1, by omega⟩
    simp only [Nat.add_sub_cancel] at AQ AD
    have hcast : ((k + 1 : Nat) : Int) = (k : Int) + 1 := by omega
    rw [hcast] at HW2 E2
    simp only [hcast, B]
    clear hcast AN HOK
    have hdl := deep_le nth many
    by_cases hp : P.length = deep nth many
    · have C1 := hide (fun W h1 h2 => sclimb_ok (.slice (some ⟨blk, oOp, none⟩) op.length op.length) op nth many aP P.length kP P W h1 h2 rfl hnm (by omega) hp)
      have AD1 : Hid (Q.length = deep (k % 3) 3 → R = if extB ((k / 3 + 1 : Nat) : Int) (sumL (hdL (k / 3 + 1) (x0, x1, x2, x3) (climbL (leafL (enL (k + 1) tn many (climbL (leafL op) nth many P))) (k % 3) 3 Q))) m (g0, g1, g2, g3) behind = true then some op else none) := fun hq => by
        rw [AD.out]
        refine ite_iff ?_ _ _
        constructor
        · rintro ⟨_, _, _, h⟩
          exact h
        · intro h
          exact ⟨trivial, hp, hq, h⟩
      clear AD AP hp
      obtain ⟨⟨o0, o1, o2, o3⟩, ho⟩ : ∃ x, climbL (leafL op) nth many P = x := ⟨_, rfl⟩
      rw [ho] at C1 AD1
      simp only [hv, B] at C1
      clear ho
      go_wp2_with fail
      rw [HW2.out]
      refine (C1.out _ ?cb1 ?ch1).mono ?_
      case cb1 => exact IO2.out.byts (by omega)
      case ch1 => exact OP2.out.hsl
      rintro e w3 ⟨rfl, hb3⟩
      have z3 : w2.heap.size ≤ w3.heap.size := hb3.size
      have hA := (Below.refl _ w3).alloc (Nat.le_refl _) (.cells #[.int .u8 o0.toNat, .int .u8 o1.toNat, .int .u8 o2.toNat, .int .u8 o3.toNat] 62)
      have hS := slot4_mk w3 62 (.int .u8 o0.toNat) (.int .u8 o1.toNat) (.int .u8 o2.toNat) (.int .u8 o3.toNat)
      obtain ⟨w4, hw4⟩ : ∃ w4, w3.alloc (.cells #[.int .u8 o0.toNat, .int .u8 o1.toNat, .int .u8 o2.toNat, .int .u8 o3.toNat] 62) = w4 := ⟨_, rfl⟩
      have z4 : w4.heap.size = w3.heap.size + 1 := by rw [← hw4]; simp
      rw [hw4] at hA hS
      have B4 := hide ((B2.out.trans (hb3.mono (by omega))).trans (hA.mono (by omega)))
      have D4 := hide ((D2.out.below hb3 (by omega)).below hA (by omega))
      have E3 := E2.out.below hb3 (by omega)
      have q0 := E3.1 0 _ rfl
      have q2 := E3.1 2 _ rfl
      have q3 := E3.1 3 _ rfl
      have E4 := hide (E3.below hA (by omega))
      have IO4 := hide ((IO2.out.below hb3 (by omega)).below hA (by omega))
      have IB4 := hide ((IB2.out.below hb3 (by omega)).below hA (by omega))
      have OQ4 := hide ((OQ2.out.below hb3 (Nat.le_refl _)).below hA (by omega))
      have hlt3 : w1.heap.size < w3.heap.size := by omega
      have HW4 := hide hw4
      have EN := hide (fun W => entry_any (k + 1) tn many tv (o0, o1, o2, o3) W (by omega) (by omega) HTV.out)
      rw [show ((k + 1 : Nat) : Int) = (k : Int) + 1 by omega] at EN
      have htl : (enL (k + 1) tn many (o0, o1, o2, o3)).length = 17 := by simp [enL, be_len, bs]
      generalize enL (k + 1) tn many (o0, o1, o2, o3) = M at *
      simp only [hv, B] at EN
      clear hb3 hA hS hw4 E3 B2 D2 E2 IO2 IB2 OP2 OQ2 C1 HW2 HTV
      go_wp2_with fail
      rw [HW4.out]
      refine (EN.out _).mono ?_
      rintro e w5 ⟨vM, rfl, hown5, hb5⟩
      obtain ⟨aM, kM, rfl⟩ := hown5.some
      have z5 : w4.heap.size ≤ w5.heap.size := hb5.size
      have B5 := hide (B4.out.trans (hb5.mono (by omega)))
      have D5 := hide (D4.out.below hb5 (by omega))
      have E5 := E4.out.below hb5 (by omega)
      have r0 := E5.1 0 _ rfl
      have r6 := E5.1 6 _ rfl
      have HE5 := hide E5
      have IO5 := hide (IO4.out.below hb5 (by omega))
      have IB5 := hide (IB4.out.below hb5 (by omega))
      have OQ5 := hide (OQ4.out.below hb5 (Nat.le_refl _))
      have M5 := hide (hown5.byts (by rw [htl]; omega))
      rw [htl] at M5 ⊢
      clear hown5 hb5 E5 B4 D4 E4 IO4 IB4 OQ4 EN q0 q2 q3 hlt3 HW4 htl
      by_cases hq : Q.length = deep (k % 3) 3
      · have C2 := hide (fun W h1 h2 => sclimb_ok (.slice aM 17 kM) M (k % 3) 3 aQ Q.length kQ Q W h1 h2 rfl (by omega) (by omega) hq)
        rw [show ((k % 3 : Nat) : Int) = (k : Int) % 3 by omega] at C2
        have AD2 := hide (AD1.out hq)
        obtain ⟨⟨y0, y1, y2, y3⟩, hy⟩ : ∃ x, climbL (leafL M) (k % 3) 3 Q = x := ⟨_, rfl⟩
        rw [hy] at C2 AD2
        simp only [hv, B] at C2
        clear hy hq AD1 AQ
        go_wp2_with fail
        refine (C2.out _ ?cb2 ?ch2).mono ?_
        case cb2 => exact M5.out
        case ch2 => exact OQ5.out.hsl
        rintro e w6 ⟨rfl, hb6⟩
        have z6 : w5.heap.size ≤ w6.heap.size := hb6.size
        have hA := (Below.refl _ w6).alloc (Nat.le_refl _) (.cells #[.int .u8 y0.toNat, .int .u8 y1.toNat, .int .u8 y2.toNat, .int .u8 y3.toNat] 62)
        have hS := slot4_mk w6 62 (.int .u8 y0.toNat) (.int .u8 y1.toNat) (.int .u8 y2.toNat) (.int .u8 y3.toNat)
        obtain ⟨w7, hw7⟩ : ∃ w7, w6.alloc (.cells #[.int .u8 y0.toNat, .int .u8 y1.toNat, .int .u8 y2.toNat, .int .u8 y3.toNat] 62) = w7 := ⟨_, rfl⟩
        have z7 : w6.heap.size + 1 ≤ w7.heap.size := by rw [← hw7]; simp
        rw [hw7] at hA hS
        have B7 := hide ((B5.out.trans (hb6.mono (by omega))).trans (hA.mono (by omega)))
        have D7 := hide ((D5.out.below hb6 (by omega)).below hA (by omega))
        have E7 := (HE5.out.below hb6 (by omega)).below hA (by omega)
        have HE7 := hide E7
        have IO7 := hide ((IO5.out.below hb6 (by omega)).below hA (by omega))
        have IB7 := hide ((IB5.out.below hb6 (by omega)).below hA (by omega))
        have e0 := E7.1 0 _ rfl
        have e7 := E7.1 7 _ rfl
        have e8 := E7.1 8 _ rfl
        have e9 := E7.1 9 _ rfl
        have e10 := E7.1 10 _ rfl
        obtain ⟨t0, t1, t2, t3, _⟩ := hS
        have CL := hide (fun W => closed_any k W (by omega))
        have hwk := wrap_i64 (k : Int) (by omega) (by omega)
        have hwb := wrap_i64 ((k : Int) / 3 + 1) (by omega) (by omega)
        have HW7 := hide hw7
        clear hb6 hA hw7 E7 B5 D5 HE5 IO5 IB5 OQ5 M5 C2 r0 r6
        go_wp2_with fail
        rw [HW7.out]
        clear HW7
        go_region_held3 (fun W => W.cell? ⟨w1.heap.size, 0, none⟩ = some (.int .i64 ((k : Int) + 1)) ∧ W.cell? ⟨w1.heap.size, 7, none⟩ = some (.int .u8 x0.toNat) ∧ W.cell? ⟨w1.heap.size, 8, none⟩ = some (.int .u8 x1.toNat) ∧ W.cell? ⟨w1.heap.size, 9, none⟩ = some (.int .u8 x2.toNat) ∧ W.cell? ⟨w1.heap.size, 10, none⟩ = some (.int .u8 x3.toNat) ∧ W.cell? ⟨w6.heap.size, 0, none⟩ = some (.int .u8 y0.toNat) ∧ W.cell? ⟨w6.heap.size, 1, none⟩ = some (.int .u8 y1.toNat) ∧ W.cell? ⟨w6.heap.size, 2, none⟩ = some (.int .u8 y2.toNat) ∧ W.cell? ⟨w6.heap.size, 3, none⟩ = some (.int .u8 y3.toNat)) (go_keep) ((first | (go_at_call 65; refine (CL.out _).mono ?_; rintro e w8 ⟨rfl, rfl⟩)))
        all_goals
          obtain ⟨w8, hw8⟩ : ∃ w8, (w7.alloc (.cells #[.int .i64 ((k : Int) / 3 + 1), .int .u8 x0.toNat, .int .u8 x1.toNat, .int .u8 x2.toNat, .int .u8 x3.toNat, .int .u8 y0.toNat, .int .u8 y1.toNat, .int .u8 y2.toNat, .int .u8 y3.toNat] 108)).drew = w8 := ⟨_, rfl⟩
          have hA : Below w7.heap.size w7 w8 := by rw [← hw8]; exact ((Below.refl _ w7).alloc (Nat.le_refl _) _).drew
          have hS : Slot9 w8 w7.heap.size (.int .i64 ((k : Int) / 3 + 1)) (.int .u8 x0.toNat) (.int .u8 x1.toNat) (.int .u8 x2.toNat) (.int .u8 x3.toNat) (.int .u8 y0.toNat) (.int .u8 y1.toNat) (.int .u8 y2.toNat) (.int .u8 y3.toNat) := by rw [← hw8]; exact slot9_mk w7 108 (.int .i64 ((k : Int) / 3 + 1)) (.int .u8 x0.toNat) (.int .u8 x1.toNat) (.int .u8 x2.toNat) (.int .u8 x3.toNat) (.int .u8 y0.toNat) (.int .u8 y1.toNat) (.int .u8 y2.toNat) (.int .u8 y3.toNat)
          have z8 : w7.heap.size + 1 ≤ w8.heap.size := by rw [← hw8]; simp
          rw [hw8]
          have B8 := hide (B7.out.trans (hA.mono (by omega)))
          have IO8 := hide (IO7.out.below hA (by omega))
          have IB8 := hide (IB7.out.below hA (by omega))
          have HE8 := hide (HE7.out.below hA (by omega))
          have K8 : w8.cell? ⟨w7.heap.size, 0, none⟩ = some (.int .i64 ((k : Int) / 3 + 1)) ∧ w8.cell? ⟨w7.heap.size, 1, none⟩ = some (.int .u8 x0.toNat) ∧ w8.cell? ⟨w7.heap.size, 2, none⟩ = some (.int .u8 x1.toNat) ∧ w8.cell? ⟨w7.heap.size, 3, none⟩ = some (.int .u8 x2.toNat) ∧ w8.cell? ⟨w7.heap.size, 4, none⟩ = some (.int .u8 x3.toNat) ∧ w8.cell? ⟨w7.heap.size, 5, none⟩ = some (.int .u8 y0.toNat) ∧ w8.cell? ⟨w7.heap.size, 6, none⟩ = some (.int .u8 y1.toNat) ∧ w8.cell? ⟨w7.heap.size, 7, none⟩ = some (.int .u8 y2.toNat) ∧ w8.cell? ⟨w7.heap.size, 8, none⟩ = some (.int .u8 y3.toNat) ∧ w8.cell? ⟨w.heap.size, 0, none⟩ = some (.int .i64 m) ∧ w8.cell? ⟨w.heap.size, 1, none⟩ = some (.int .u8 g0.toNat) ∧ w8.cell? ⟨w.heap.size, 2, none⟩ = some (.int .u8 g1.toNat) ∧ w8.cell? ⟨w.heap.size, 3, none⟩ = some (.int .u8 g2.toNat) ∧ w8.cell? ⟨w.heap.size, 4, none⟩ = some (.int .u8 g3.toNat) ∧ w8.cell? ⟨w1.heap.size, 11, none⟩ = some (.slice (some ⟨blk, oBe, none⟩) behind.length behind.length) := by
            obtain ⟨s0, s1, s2, s3, s4, s5, s6, s7, s8, _⟩ := hS
            obtain ⟨u0, u1, u2, u3, u4, _⟩ := D7.out.below hA (by omega)
            exact ⟨s0, s1, s2, s3, s4, s5, s6, s7, s8, u0, u1, u2, u3, u4, HE8.out.1 11 _ rfl⟩
          have HH := hide (fun W => hhash_any (k / 3 + 1) (x0, x1, x2, x3) (y0, y1, y2, y3) W (by omega))
          rw [show ((k / 3 + 1 : Nat) : Int) = (k : Int) / 3 + 1 by omega] at HH AD2
          obtain ⟨⟨f0, f1, f2, f3⟩, hf⟩ : ∃ x, sumL (hdL (k / 3 + 1) (x0, x1, x2, x3) (y0, y1, y2, y3)) = x := ⟨_, rfl⟩
          rw [hf] at HH AD2
          have LE := hide (fun W h => leads_any ((k : Int) / 3 + 1) (f0, f1, f2, f3) m (g0, g1, g2, g3) behind blk oBe behind.length W (by omega) hbl (Nat.le_refl _) (by omega) h)
          obtain ⟨X, hX⟩ : ∃ X, extB ((k : Int) / 3 + 1) (f0, f1, f2, f3) m (g0, g1, g2, g3) behind = X := ⟨_, rfl⟩
          rw [hX] at LE AD2
          simp only [hdr, hv, dgv, B] at HH LE
          clear hf hX hw8 hA hS B7 D7 HE7 IO7 IB7 e0 e7 e8 e9 e10 t0 t1 t2 t3 hwk hwb
          go_wp2_with fail
          go_region_held3 (fun W => W.cell? ⟨w7.heap.size, 0, none⟩ = some (.int .i64 ((k : Int) / 3 + 1)) ∧ W.cell? ⟨w7.heap.size, 1, none⟩ = some (.int .u8 x0.toNat) ∧ W.cell? ⟨w7.heap.size, 2, none⟩ = some (.int .u8 x1.toNat) ∧ W.cell? ⟨w7.heap.size, 3, none⟩ = some (.int .u8 x2.toNat) ∧ W.cell? ⟨w7.heap.size, 4, none⟩ = some (.int .u8 x3.toNat) ∧ W.cell? ⟨w7.heap.size, 5, none⟩ = some (.int .u8 y0.toNat) ∧ W.cell? ⟨w7.heap.size, 6, none⟩ = some (.int .u8 y1.toNat) ∧ W.cell? ⟨w7.heap.size, 7, none⟩ = some (.int .u8 y2.toNat) ∧ W.cell? ⟨w7.heap.size, 8, none⟩ = some (.int .u8 y3.toNat) ∧ W.cell? ⟨w.heap.size, 0, none⟩ = some (.int .i64 m) ∧ W.cell? ⟨w.heap.size, 1, none⟩ = some (.int .u8 g0.toNat) ∧ W.cell? ⟨w.heap.size, 2, none⟩ = some (.int .u8 g1.toNat) ∧ W.cell? ⟨w.heap.size, 3, none⟩ = some (.int .u8 g2.toNat) ∧ W.cell? ⟨w.heap.size, 4, none⟩ = some (.int .u8 g3.toNat) ∧ W.cell? ⟨w1.heap.size, 11, none⟩ = some (.slice (some ⟨blk, oBe, none⟩) behind.length behind.length)) (first | exact K8 | exact K9 | exact K10) ((first
            | (go_at_call 62; refine (HH.out _).mono ?_; rintro e w9 ⟨rfl, hb9⟩; have hb9' : Below w8.heap.size w8 w9 := Below.of_drew hb9; have K9 := keep15 hb9' (by omega) (by omega) (by omega) K8; have B9 := hide (B8.out.trans (hb9'.mono (by omega))); have IO9 := hide (IO8.out.below hb9' (by omega)); have IB9 := hide (IB8.out.below hb9' (by omega)); have HE9 := hide (HE8.out.below hb9' (by omega)); have z9 : w8.heap.size ≤ w9.heap.size := hb9'.size; clear hb9 hb9')
            | (go_at_call 51; refine (LE.out _ IB9.out).mono ?_; rintro e w10 ⟨rfl, hb10⟩; have K10 := keep15 hb10 (by omega) (by omega) (by omega) K9; have B10 := hide (B9.out.trans (hb10.mono (by omega))); have IO10 := hide (IO9.out.below hb10 (by omega)); have HE10 := hide (HE9.out.below hb10 (by omega)); have z10 : w9.heap.size ≤ w10.heap.size := hb10.size; clear hb10)))
          have q4 := HE10.out.1 4 _ rfl
          clear K8 K9 K10 HE8 HE9 HE10 IB8 IB9 IO8 IO9 B8 B9 LE HH
          cases X
          · have HN : Hid (R = none) := by show _ = _; rw [AD2.out]; rfl
            go_wp2
            exact bodyPost_ret (v := .tuple #[.slice none 0 0, .bool false]) (by simp [results, Tryd.results52, go_sem]) rfl (FN.out _ HN.out B10.out)
          · have HN : Hid (R = some op) := by show _ = _; rw [AD2.out]; rfl
            have CN := hide (fun W h => clone_any op blk oOp op.length W (by omega) h)
            go_wp2_with fail
            refine (CN.out _ IO10.out).mono ?_
            rintro e w11 ⟨u, rfl, hu, hb11⟩
            have FU : Hid (∃ u', Ending.returned (.tuple #[u, .bool true]) = .returned (.tuple #[u', .bool R.isSome]) ∧ Shown w.heap.size w11 u' R ∧ Below w.heap.size w w11) := by
              refine ⟨u, by rw [HN.out]; rfl, ?_, B10.out.trans (hb11.mono (by omega))⟩
              rw [HN.out]
              exact hu.mono (by omega)
            clear hu hb11 q4
            go_wp2
            exact bodyPost_ret (v := .tuple #[u, .bool true]) (by simp [results, Tryd.results52, go_sem]) rfl FU.out
      · have HN := hide (AQ.out hq)
        have C2 := hide (fun W => sclimb_short (.slice aM 17 kM) (k % 3) 3 aQ Q.length kQ W (by omega) (by omega) hq)
        rw [show ((k % 3 : Nat) : Int) = (k : Int) % 3 by omega] at C2
        unfold zeroH at C2
        go_wp2_with fail
        refine (C2.out _).mono ?_
        rintro e w6 ⟨rfl, hb6⟩
        have B6 : Hid (Below w.heap.size w w6) := B5.out.trans (hb6.mono (by omega))
        have z6 : w5.heap.size ≤ w6.heap.size := hb6.size
        clear hb6
        go_wp2
        exact bodyPost_ret (v := .tuple #[.slice none 0 0, .bool false]) (by simp [results, Tryd.results52, go_sem]) rfl (FN.out _ HN.out (B6.out.alloc (by omega) _))
    · have HN := hide (AP.out hp)
      have C1 := hide (fun W => sclimb_short (.slice (some ⟨blk, oOp, none⟩) op.length op.length) nth many aP P.length kP W hnm (by omega) hp)
      clear AP AQ AD
      unfold zeroH at C1
      go_wp2_with fail
      rw [HW2.out]
      refine (C1.out _).mono ?_
      rintro e w3 ⟨rfl, hb3⟩
      have B3 : Hid (Below w.heap.size w w3) := B2.out.trans (hb3.mono (by omega))
      have z3 : w2.heap.size ≤ w3.heap.size := hb3.size
      clear hb3
      go_wp2
      exact bodyPost_ret (v := .tuple #[.slice none 0 0, .bool false]) (by simp [results, Tryd.results52, go_sem]) rfl (FN.out _ HN.out (B3.out.alloc (by omega) _))
end Go.Proofs.YtepehjalpkfniaaDoor
