/-
  OWN. The document's Attested (daybookref), walked. No project text.
-/
import Derived.Test.YtepehjalpkfniaaDoorRefE
import Derived.Test.YtepehjalpkfniaaDoorLaw
import Derived.Deep.Cut
import Derived.Deep.DeepCutAuto
namespace Go.Proofs.YtepehjalpkfniaaDoor
open Go.RowKit

/-- What was read: a step of the reading, in whatever world the text lies. -/
def NumAt (r k : Nat) (c d : List UInt8 × Bool) (v : Nat) : Prop :=
  ∀ W, CurL W r c → Calls Tryd.prog 40 #[.pointer (some ⟨r, 0, none⟩), .int .i64 (k : Int)] W fun e w' => e = .returned (.int .i64 (v : Int)) ∧ CurL w' r d ∧ Below r W w'
def TakeAt (r n : Nat) (c d : List UInt8 × Bool) (t : List UInt8) : Prop :=
  ∀ W, CurL W r c → Calls Tryd.prog 41 #[.pointer (some ⟨r, 0, none⟩), .int .i64 (n : Int)] W fun e w' => e = .returned (.string ⟨t.toArray⟩) ∧ CurL w' r d ∧ Below r W w'

theorem num_at (r k : Nat) (c : List UInt8 × Bool) (hk : k ≤ 4) : NumAt r k c (tkL k c).2 (numL (tkL k c).1) := fun W h => num_any r k c W h hk
theorem take_at (r n : Nat) (c : List UInt8 × Bool) (hn : n ≤ 1048576) : TakeAt r n c (tkL n c).2 (tkL n c).1 := fun W h => take_any r n c W h hn
theorem num_lt (k : Nat) (c : List UInt8 × Bool) : numL (tkL k c).1 < 256 ^ k := by have := numL_lt (tkL k c).1; rw [tkL_len] at this; exact this

theorem wrap_u8 (x : Int) (h0 : 0 ≤ x) (h1 : x < 256) : IntKind.u8.wrap x = x := by
  simp [IntKind.wrap, IntKind.bits, IntKind.signed]
  omega
theorem conv_byte (W : World) (b : Nat) (c : UInt8) (hc : W.cell? ⟨b, 0, none⟩ = some (.int .u8 (c.toNat : Int))) : (convert 37 9 (.slice (some ⟨b, 0, none⟩) 1 1)).run Tryd.prog W = .ok (.string ⟨#[c]⟩) W :=
  run_convert_bytes_back (P := Tryd.prog) W 37 9 5 ⟨b, 0, none⟩ 1 [c] Tryd.underlying37 Tryd.underlying5 Tryd.underlying9 (by
    intro j hj
    match j, hj with
    | 0, _ => simpa [Addr.add] using hc)
theorem new_byte (W : World) (v : Value) (t : TypeId) : (W.alloc (.cells #[v] t)).cell? ⟨W.heap.size, 0, none⟩ = some v := by simp
theorem ite_iff {α : Type} {p q : Prop} [Decidable p] [Decidable q] (h : p ↔ q) (x y : α) : (if p then x else y) = if q then x else y := by
  by_cases hp : p
  · rw [if_pos hp, if_pos (h.1 hp)]
  · rw [if_neg hp, if_neg (fun hq => hp (h.2 hq))]
theorem four_bs (l : List UInt8) (h : l.length = 4) : ∃ x : H4, l = bs x := by
  match l, h with
  | [a, b, c, d], _ => exact ⟨(a, b, c, d), rfl⟩

def attL (s : List UInt8) (m : Int) (g : H4) : Option (List UInt8) :=
  if (evL s).form deep = true ∧ ((evL s).block = 1 → (evL s).last = [0, 0, 0, 0]) ∧
    extB ((evL s).block : Int) (sumL (lead (evL s).block (evL s).last ++ bs (climbL (leafL (bs (hsh (evL s).n) ++ (evL s).time ++ [UInt8.ofNat (evL s).ops] ++ bs (climbL (leafL (evL s).text) (evL s).op (evL s).ops (chunks (evL s).p)))) (((evL s).n - 1) % 3) 3 (chunks (evL s).q)))) m g (evL s).rest = true
  then some (evL s).text else none

set_option maxRecDepth 100000 in
set_option maxHeartbeats 8000000 in
theorem refAttested_any (s : ByteArray) (m : Int) (g : H4) (w : World) (hm : s.size ≤ 140737488355328) (wm : -9223372036854775808 ≤ m ∧ m ≤ 9223372036854775807) :
    Calls Tryd.prog 24 #[.string s, .int .i64 m, str (bs g)] w fun e w' => ∃ t : List UInt8, e = .returned (.tuple #[str t, .bool (attL s.data.toList m g).isSome]) ∧ (∀ x, attL s.data.toList m g = some x → t = x) ∧ Below w.heap.size w w' := by
  obtain ⟨l, hl⟩ : ∃ l, s.data.toList = l := ⟨_, rfl⟩
  have HCU : Hid (CurL (w.alloc (.cells #[.string s, .bool false] 81)) w.heap.size (l, false)) := ⟨s, hl, by refine ⟨?_, ?_, fun o => ?_⟩ <;> simp⟩
  rw [hl]
  obtain ⟨q1, e1⟩ : ∃ q, tkL 4 (l, false) = q := ⟨_, rfl⟩
  obtain ⟨q2, e2⟩ : ∃ q, tkL 1 q1.2 = q := ⟨_, rfl⟩
  obtain ⟨q3, e3⟩ : ∃ q, tkL 1 q2.2 = q := ⟨_, rfl⟩
  obtain ⟨q4, e4⟩ : ∃ q, tkL 8 q3.2 = q := ⟨_, rfl⟩
  obtain ⟨q5, e5⟩ : ∃ q, tkL 2 q4.2 = q := ⟨_, rfl⟩
  obtain ⟨q6, e6⟩ : ∃ q, tkL (numL q5.1) q5.2 = q := ⟨_, rfl⟩
  obtain ⟨q7, e7⟩ : ∃ q, tkL 1 q6.2 = q := ⟨_, rfl⟩
  obtain ⟨q8, e8⟩ : ∃ q, tkL (4 * numL q7.1) q7.2 = q := ⟨_, rfl⟩
  obtain ⟨q9, e9⟩ : ∃ q, tkL 1 q8.2 = q := ⟨_, rfl⟩
  obtain ⟨q10, e10⟩ : ∃ q, tkL (4 * numL q9.1) q9.2 = q := ⟨_, rfl⟩
  obtain ⟨q11, e11⟩ : ∃ q, tkL 4 q10.2 = q := ⟨_, rfl⟩
  have hev : evL l = ⟨numL q1.1, numL q2.1, numL q3.1, q4.1, q6.1, q8.1, q10.1, q11.1, q11.2.1, q11.2.2⟩ := by
    subst e1 e2 e3 e4 e5 e6 e7 e8 e9 e10 e11; rfl
  have HEV := hide hev
  have b1 := num_lt 4 (l, false)
  have b2 := num_lt 1 q1.2
  have b3 := num_lt 1 q2.2
  have b5 := num_lt 2 q4.2
  have b7 := num_lt 1 q6.2
  have b9 := num_lt 1 q8.2
  have N1 := hide (num_at w.heap.size 4 (l, false) (by omega))
  have N2 := hide (num_at w.heap.size 1 q1.2 (by omega))
  have N3 := hide (num_at w.heap.size 1 q2.2 (by omega))
  have N4 := hide (take_at w.heap.size 8 q3.2 (by omega))
  have N5 := hide (num_at w.heap.size 2 q4.2 (by omega))
  have N7 := hide (num_at w.heap.size 1 q6.2 (by omega))
  have N9 := hide (num_at w.heap.size 1 q8.2 (by omega))
  have N11 := hide (take_at w.heap.size 4 q10.2 (by omega))
  rw [e1] at b1 N1
  rw [e2] at b2 N2
  rw [e3] at b3 N3
  rw [e4] at N4
  rw [e5] at b5 N5
  rw [e7] at b7 N7
  rw [e9] at b9 N9
  rw [e11] at N11
  have N6 := hide (take_at w.heap.size (numL q5.1) q5.2 (by omega))
  have N8 := hide (take_at w.heap.size (4 * numL q7.1) q7.2 (by omega))
  have N10 := hide (take_at w.heap.size (4 * numL q9.1) q9.2 (by omega))
  rw [e6] at N6
  rw [e8] at N8
  rw [e10] at N10
  have p4 : Hid (q4.1.length = 8) := by show _ = _; rw [← e4, tkL_len]
  have p11 : Hid (q11.1.length = 4) := by show _ = _; rw [← e11, tkL_len]
  have p6 : q6.1.length = numL q5.1 := by rw [← e6, tkL_len]
  have p8 : q8.1.length = 4 * numL q7.1 := by rw [← e8, tkL_len]
  have p10 : q10.1.length = 4 * numL q9.1 := by rw [← e10, tkL_len]
  have prest : Hid (q11.2.1.length ≤ s.size) := by
    show _ ≤ _
    have h1 := tkL_rest 4 (l, false)
    have h2 := tkL_rest 1 q1.2
    have h3 := tkL_rest 1 q2.2
    have h4 := tkL_rest 8 q3.2
    have h5 := tkL_rest 2 q4.2
    have h6 := tkL_rest (numL q5.1) q5.2
    have h7 := tkL_rest 1 q6.2
    have h8 := tkL_rest (4 * numL q7.1) q7.2
    have h9 := tkL_rest 1 q8.2
    have h10 := tkL_rest (4 * numL q9.1) q9.2
    have h11 := tkL_rest 4 q10.2
    have h0 : l.length = s.size := by rw [← hl, Array.length_toList]; rfl
    rw [e1] at h1
    rw [e2] at h2
    rw [e3] at h3
    rw [e4] at h4
    rw [e5] at h5
    rw [e6] at h6
    rw [e7] at h7
    rw [e8] at h8
    rw [e9] at h9
    rw [e10] at h10
    rw [e11] at h11
    simp only at h1
    omega
  clear e1 e2 e3 e4 e5 e6 e7 e8 e9 e10 e11 hev hl
  obtain ⟨q1a, c1⟩ := q1
  obtain ⟨q2a, c2⟩ := q2
  obtain ⟨q3a, c3⟩ := q3
  obtain ⟨time, c4⟩ := q4
  obtain ⟨q5a, c5⟩ := q5
  obtain ⟨text, c6⟩ := q6
  obtain ⟨q7a, c7⟩ := q7
  obtain ⟨p, c8⟩ := q8
  obtain ⟨q9a, c9⟩ := q9
  obtain ⟨q, c10⟩ := q10
  obtain ⟨last, c11⟩ := q11
  simp only at *
  generalize numL q1a = n at *
  generalize numL q2a = op at *
  generalize numL q3a = ops at *
  generalize numL q5a = tl at *
  generalize numL q7a = pl at *
  generalize numL q9a = ql at *
  unfold str
  go_enter Tryd.func24, Tryd.ntmps24
  have BW0 : Hid (Below w.heap.size w (w.alloc (.cells #[.string s, .bool false] 81))) := (Below.refl _ _).alloc (Nat.le_refl _) _
  go_wp2_with fail
  refine (N1.out _ HCU.out).mono ?_
  rintro e w1 ⟨rfl, hc, hb⟩
  have C1 := hide hc
  have BW1 : Hid (Below w.heap.size w w1) := BW0.out.trans hb
  clear hc hb HCU BW0 N1
  go_wp2_with fail
  refine (N2.out _ C1.out).mono ?_
  rintro e w2 ⟨rfl, hc, hb⟩
  have C2 := hide hc
  have BW2 : Hid (Below w.heap.size w w2) := BW1.out.trans hb
  clear hc hb C1 BW1 N2
  go_wp2_with fail
  refine (N3.out _ C2.out).mono ?_
  rintro e w3 ⟨rfl, hc, hb⟩
  have C3 := hide hc
  have BW3 : Hid (Below w.heap.size w w3) := BW2.out.trans hb
  clear hc hb C2 BW2 N3
  go_wp2_with fail
  refine (N4.out _ C3.out).mono ?_
  rintro e w4 ⟨rfl, hc, hb⟩
  have C4 := hide hc
  have BW4 : Hid (Below w.heap.size w w4) := BW3.out.trans hb
  clear hc hb C3 BW3 N4
  go_wp2_with fail
  refine (N5.out _ C4.out).mono ?_
  rintro e w5 ⟨rfl, hc, hb⟩
  have C5 := hide hc
  have BW5 : Hid (Below w.heap.size w w5) := BW4.out.trans hb
  clear hc hb C4 BW4 N5
  go_wp2_with fail
  refine (N6.out _ C5.out).mono ?_
  rintro e w6 ⟨rfl, hc, hb⟩
  have C6 := hide hc
  have BW6 : Hid (Below w.heap.size w w6) := BW5.out.trans hb
  clear hc hb C5 BW5 N6
  go_wp2_with fail
  refine (N7.out _ C6.out).mono ?_
  rintro e w7 ⟨rfl, hc, hb⟩
  have C7 := hide hc
  have BW7 : Hid (Below w.heap.size w w7) := BW6.out.trans hb
  clear hc hb C6 BW6 N7
  go_wp2_with fail
  refine (N8.out _ C7.out).mono ?_
  rintro e w8 ⟨rfl, hc, hb⟩
  have C8 := hide hc
  have BW8 : Hid (Below w.heap.size w w8) := BW7.out.trans hb
  clear hc hb C7 BW7 N8
  go_wp2_with fail
  refine (N9.out _ C8.out).mono ?_
  rintro e w9 ⟨rfl, hc, hb⟩
  have C9 := hide hc
  have BW9 : Hid (Below w.heap.size w w9) := BW8.out.trans hb
  clear hc hb C8 BW8 N9
  go_wp2_with fail
  refine (N10.out _ C9.out).mono ?_
  rintro e w10 ⟨rfl, hc, hb⟩
  have C10 := hide hc
  have BW10 : Hid (Below w.heap.size w w10) := BW9.out.trans hb
  clear hc hb C9 BW9 N10
  go_wp2_with fail
  refine (N11.out _ C10.out).mono ?_
  rintro e w11 ⟨rfl, hc, hb⟩
  have C11 := hide hc
  have BW11 : Hid (Below w.heap.size w w11) := BW10.out.trans hb
  clear hc hb C10 BW10 N11
  obtain ⟨rest, bad⟩ := c11
  obtain ⟨s', hs', k0, k1, _⟩ := C11.out
  simp only at hs' k1 HEV prest
  have HS' := hide hs'
  clear hs'
  have HNO : Hid (¬ (bad = false ∧ 1 ≤ n ∧ op < ops ∧ ops ≤ 16 ∧ p.length = 4 * deep op ops ∧ q.length = 4 * deep ((n - 1) % 3) 3) → attL l m g = none) := by
    intro hno
    unfold attL
    rw [HEV.out, if_neg]
    rintro ⟨h, _⟩
    exact hno (of_decide_eq_true h)
  by_cases hbad : bad = true
  · have HN : Hid (attL l m g = none) := HNO.out (by rintro ⟨h, _⟩; rw [hbad] at h; cases h)
    subst hbad
    go_wp2
    go_ret2
    exact ⟨[], (by rw [HN.out]; rfl), (fun x hx => by rw [HN.out] at hx; cases hx), BW11.out⟩
  have hbf : bad = false := by cases bad <;> simp_all
  subst hbf
  clear hbad
  by_cases hn1 : (n : Int) < 1
  · have HN : Hid (attL l m g = none) := HNO.out (by rintro ⟨_, h, _⟩; omega)
    go_wp2
    go_ret2
    exact ⟨[], (by rw [HN.out]; rfl), (fun x hx => by rw [HN.out] at hx; cases hx), BW11.out⟩
  by_cases hn2 : (ops : Int) ≤ (op : Int)
  · have HN : Hid (attL l m g = none) := HNO.out (by rintro ⟨_, _, h, _⟩; omega)
    go_wp2
    go_ret2
    exact ⟨[], (by rw [HN.out]; rfl), (fun x hx => by rw [HN.out] at hx; cases hx), BW11.out⟩
  have hf2 : decide ((ops : Int) ≤ (op : Int)) = false := decide_eq_false hn2
  have hf1 : decide ((n : Int) < 1) = false := decide_eq_false hn1
  have hf2n : decide (ops ≤ op) = false := decide_eq_false (by omega)
  have hf2' : op < ops := by omega
  have hf1' : 1 ≤ n := by omega
  clear hn2 hn1
  by_cases hn3 : (16 : Int) < (ops : Int)
  · have HN : Hid (attL l m g = none) := HNO.out (by rintro ⟨_, _, _, h, _⟩; omega)
    go_wp2
    go_ret2
    exact ⟨[], (by rw [HN.out]; rfl), (fun x hx => by rw [HN.out] at hx; cases hx), BW11.out⟩
  have hf3 : decide ((16 : Int) < (ops : Int)) = false := decide_eq_false hn3
  have hf3' : ops ≤ 16 := by omega
  clear hn3
  clear hf1
  obtain ⟨k, rfl⟩ : ∃ k, n = k + 1 := ⟨n - 1, by omega⟩
  have hf1 : decide ((k : Int) + 1 < 1) = false := decide_eq_false (by omega)
  rw [Nat.add_sub_cancel] at HNO
  have HD1 := hide (fun W => refDeep_any op ops W (by omega) (by omega))
  have HD2 := hide (fun W => refDeep_any (k % 3) 3 W (by omega) (by omega))
  rw [show ((k % 3 : Nat) : Int) = (k : Int) % 3 by omega] at HD2
  have hx1 := deep_le op ops
  have hx2 := deep_le (k % 3) 3
  generalize hg1 : deep op ops = d1 at *
  generalize hg2 : deep (k % 3) 3 = d2 at *
  have HG1 := hide hg1
  have HG2 := hide hg2
  have P6 := hide p6
  have P8 := hide p8
  have P10 := hide p10
  obtain ⟨lp, hlp⟩ : ∃ lp, p.length = lp := ⟨_, rfl⟩
  obtain ⟨lq, hlq⟩ : ∃ lq, q.length = lq := ⟨_, rfl⟩
  have hsp : (⟨p.toArray⟩ : ByteArray).size = lp := by rw [size_str, hlp]
  have hsq : (⟨q.toArray⟩ : ByteArray).size = lq := by rw [size_str, hlq]
  have hlp' : lp ≤ 1020 := by omega
  have hlq' : lq ≤ 1020 := by omega
  have HLP := hide hlp
  have HLQ := hide hlq
  clear hg1 hg2 p6 p8 p10 hlp hlq
  by_cases hn4 : lp = 4 * d1
  · have he4 : ((lp : Int) != 4 * (d1 : Int)) = false := by rw [bne_eq_false_iff_eq]; omega
    by_cases hn5 : lq = 4 * d2
    · have he5 : ((lq : Int) != 4 * (d2 : Int)) = false := by rw [bne_eq_false_iff_eq]; omega
      obtain ⟨x, hx⟩ : ∃ x : H4, last = bs x := four_bs last p11.out
      subst hx
      have hpc : (chunks p).flatMap bs = p := by rw [chunks_take, HLP.out, hn4]; exact List.take_of_length_le (by rw [HLP.out]; omega)
      have hqc : (chunks q).flatMap bs = q := by rw [chunks_take, HLQ.out, hn5]; exact List.take_of_length_le (by rw [HLQ.out]; omega)
      have hpl : (chunks p).length = deep op ops := by rw [chunks_len, HLP.out, hn4, HG1.out]; omega
      have hql : (chunks q).length = deep (k % 3) 3 := by rw [chunks_len, HLQ.out, hn5, HG2.out]; omega
      obtain ⟨x1, hx1'⟩ : ∃ x1, climbL (leafL text) op ops (chunks p) = x1 := ⟨_, rfl⟩
      have HC1 := hide (fun W => refClimb_any ⟨text.toArray⟩ (by rw [size_str, P6.out]; omega) ops op ops (chunks p) W (Nat.le_refl _) (by omega) (by omega) hpl (by rw [hpl, HG1.out]; omega))
      rw [hpc, show (⟨text.toArray⟩ : ByteArray).data.toList = text from rfl, hx1'] at HC1
      have HXX := hide hx1'
      have HE : ((⟨(bs (hsh (k + 1))).toArray⟩ : ByteArray) ++ ⟨time.toArray⟩ ++ ⟨#[UInt8.ofNat ops]⟩ ++ ⟨(bs x1).toArray⟩) = ⟨(bs (hsh (k + 1)) ++ time ++ [UInt8.ofNat ops] ++ bs x1).toArray⟩ := by
        rw [show (⟨#[UInt8.ofNat ops]⟩ : ByteArray) = ⟨[UInt8.ofNat ops].toArray⟩ from rfl, str_app, str_app, str_app]
      obtain ⟨E, hE⟩ : ∃ E, bs (hsh (k + 1)) ++ time ++ [UInt8.ofNat ops] ++ bs x1 = E := ⟨_, rfl⟩
      rw [hE] at HE
      have hEl : E.length = 17 := by rw [← hE]; simp [bs, p4.out]
      obtain ⟨x2, hx2'⟩ : ∃ x2, climbL (leafL E) (k % 3) 3 (chunks q) = x2 := ⟨_, rfl⟩
      have HC2 := hide (fun W => refClimb_any ⟨E.toArray⟩ (by rw [size_str, hEl]; omega) 3 (k % 3) 3 (chunks q) W (Nat.le_refl _) (by omega) (by omega) hql (by rw [hql, HG2.out]; omega))
      rw [hqc, show (⟨E.toArray⟩ : ByteArray).data.toList = E from rfl, hx2', show ((k % 3 : Nat) : Int) = (k : Int) % 3 by omega] at HC2
      obtain ⟨B, hB⟩ : ∃ B, k / 3 + 1 = B := ⟨_, rfl⟩
      have HATT : Hid (attL l m g = if (B = 1 → bs x = [0, 0, 0, 0]) ∧ extB (B : Int) (sumL (lead B (bs x) ++ bs x2)) m g rest = true then some text else none) := by
        show _ = _
        have hform : (Ev.form ⟨k + 1, op, ops, time, text, p, q, bs x, rest, false⟩ deep) = true := decide_eq_true ⟨rfl, hf1', hf2', hf3', by show p.length = _; rw [HLP.out, hn4, HG1.out], by show q.length = 4 * deep ((k + 1 - 1) % 3) 3; rw [Nat.add_sub_cancel, HLQ.out, hn5, HG2.out]⟩
        subst hB
        subst hx2'
        subst hE
        subst hx1'
        unfold attL
        rw [HEV.out]
        exact ite_iff ⟨fun h => h.2, fun h => ⟨hform, h⟩⟩ _ _
      clear hx1' hE hx2' hpc hqc hpl hql HXX
      have hB2 : (k : Int) / 3 + 1 = (B : Int) := by omega
      have hB3 : 1 ≤ B ∧ B ≤ 1431655766 := by omega
      have HB3 := hide hB3
      have HEE := hide HE
      have HEL := hide hEl
      clear hB hB3 hn4 hn5 HE hEl
      by_cases hz : B = 1 ∧ bs x ≠ [0, 0, 0, 0]
      · have HN : Hid (attL l m g = none) := by
          show _ = _
          rw [HATT.out, if_neg]
          rintro ⟨h, _⟩
          exact hz.2 (h hz.1)
        have ez1 : ((B : Int) == 1) = true := beq_iff_eq.2 (by omega)
        have ez2 : (bs x == [0, 0, 0, 0]) = false := beq_eq_false_iff_ne.2 hz.2
        clear hz
        go_wp2_with fail
        refine (HD1.out _).mono ?_
        rintro e w' ⟨rfl, rfl⟩
        go_wp2_with fail
        refine (HD2.out _).mono ?_
        rintro e w' ⟨rfl, rfl⟩
        go_wp2
        go_ret2
        exact ⟨[], (by rw [HN.out]; rfl), (fun x hx => by rw [HN.out] at hx; cases hx), BW11.out⟩
      · have hcase : (((B : Int) == 1) = true ∧ (bs x == [0, 0, 0, 0]) = true) ∨ ((B : Int) == 1) = false := by
          by_cases e : B = 1
          · refine .inl ⟨beq_iff_eq.2 (by omega), ?_⟩
            have : bs x = [0, 0, 0, 0] := Classical.byContradiction (fun y => hz ⟨e, y⟩)
            exact beq_iff_eq.2 this
          · exact .inr (beq_eq_false_iff_ne.2 (by omega))
        have HAT : Hid (attL l m g = if extB (B : Int) (sumL (lead B (bs x) ++ bs x2)) m g rest = true then some text else none) := by
          show _ = _
          rw [HATT.out]
          exact ite_iff ⟨fun h => h.2, fun h => ⟨fun e => Classical.byContradiction (fun y => hz ⟨e, y⟩), h⟩⟩ _ _
        have HBY1 := hide (fun W => refBytes_any (k + 1) W (by omega))
        rw [show ((k + 1 : Nat) : Int) = (k : Int) + 1 by omega] at HBY1
        have HBY2 := hide (fun W => refBytes_any B W (by have := HB3.out; omega))
        have hwN : IntKind.u64.wrap ((k : Int) + 1) = (k : Int) + 1 := wrap_u64 _ (by omega) (by omega)
        have hwB : IntKind.u64.wrap (B : Int) = (B : Int) := wrap_u64 _ (by omega) (by have := HB3.out; omega)
        have hw8 : IntKind.u8.wrap (ops : Int) = (ops : Int) := wrap_u8 _ (by omega) (by omega)
        have hcv : ∀ (W : World) (b : Nat), W.cell? ⟨b, 0, none⟩ = some (.int .u8 (ops : Int)) → (convert 37 9 (.slice (some ⟨b, 0, none⟩) 1 1)).run Tryd.prog W = .ok (.string ⟨#[UInt8.ofNat ops]⟩) W := fun W b hc => conv_byte W b (UInt8.ofNat ops) (by rw [hc, show ((UInt8.ofNat ops).toNat : Int) = (ops : Int) by rw [UInt8.toNat_ofNat']; omega])
        have s1 : (⟨(bs (hsh (k + 1))).toArray⟩ : ByteArray).size = 4 := size_str _
        have s2 : (⟨time.toArray⟩ : ByteArray).size = 8 := by rw [size_str, p4.out]
        have s3 : (⟨#[UInt8.ofNat ops]⟩ : ByteArray).size = 1 := rfl
        have s4 : (⟨(bs x1).toArray⟩ : ByteArray).size = 4 := size_str _
        have s5 : (⟨(bs (hsh B)).toArray⟩ : ByteArray).size = 4 := size_str _
        have s6 : (⟨(bs x).toArray⟩ : ByteArray).size = 4 := size_str _
        have s7 : (⟨(bs x2).toArray⟩ : ByteArray).size = 4 := size_str _
        have s0 : (⟨#[66]⟩ : ByteArray).size = 1 := rfl
        have HHH : Hid (((⟨#[66]⟩ : ByteArray) ++ ⟨(bs (hsh B)).toArray⟩ ++ ⟨(bs x).toArray⟩ ++ ⟨(bs x2).toArray⟩) = ⟨(lead B (bs x) ++ bs x2).toArray⟩) := by
          show _ = _
          rw [show (⟨#[66]⟩ : ByteArray) = ⟨[66].toArray⟩ from rfl, str_app, str_app, str_app]; rfl
        have HSM := hide (fun W => refSum_any ⟨(lead B (bs x) ++ bs x2).toArray⟩ (lead B (bs x) ++ bs x2) W rfl (by rw [size_str]; simp [lead, bs]))
        have HEX := hide (fun W => refExtends_any (B : Int) m (sumL (lead B (bs x) ++ bs x2)) g s' W (by rw [show s'.size = s'.data.toList.length from (Array.length_toList).symm, HS'.out]; have := prest.out; omega) wm)
        rw [HS'.out] at HEX
        have HEE' := HEE.out
        have HHH' := HHH.out
        unfold str at HC1 HC2 HBY1 HBY2 HSM HEX
        generalize extB (B : Int) (sumL (lead B (bs x) ++ bs x2)) m g rest = ok at *
        generalize (⟨(bs (sumL (lead B (bs x) ++ bs x2))).toArray⟩ : ByteArray) = SS at *
        generalize (⟨(lead B (bs x) ++ bs x2).toArray⟩ : ByteArray) = SH at *
        generalize (⟨E.toArray⟩ : ByteArray) = SE at *
        generalize (⟨(bs (hsh (k + 1))).toArray⟩ : ByteArray) = SN at *
        generalize (⟨(bs (hsh B)).toArray⟩ : ByteArray) = SB at *
        generalize (⟨#[UInt8.ofNat ops]⟩ : ByteArray) = SO at *
        generalize (⟨(bs x1).toArray⟩ : ByteArray) = SC at *
        generalize (⟨(bs x2).toArray⟩ : ByteArray) = SD at *
        have a1 : (SN ++ ⟨time.toArray⟩).size = 12 := by rw [ByteArray.size_append, s1, s2]
        have a2 : (SN ++ ⟨time.toArray⟩ ++ SO).size = 13 := by rw [ByteArray.size_append, a1, s3]
        have a3 : ((⟨#[66]⟩ : ByteArray) ++ SB).size = 5 := by rw [ByteArray.size_append, s0, s5]
        have a4 : ((⟨#[66]⟩ : ByteArray) ++ SB ++ ⟨(bs x).toArray⟩).size = 9 := by rw [ByteArray.size_append, a3, s6]
        have ad1 := fun W => run_string_add_sum (P := Tryd.prog) W SN ⟨time.toArray⟩ (by omega)
        have ad2 := fun W => run_string_add_sum (P := Tryd.prog) W (SN ++ ⟨time.toArray⟩) SO (by omega)
        have ad3 := fun W => run_string_add_sum (P := Tryd.prog) W (SN ++ ⟨time.toArray⟩ ++ SO) SC (by omega)
        have ad4 := fun W => run_string_add_sum (P := Tryd.prog) W ⟨#[66]⟩ SB (by omega)
        have ad5 := fun W => run_string_add_sum (P := Tryd.prog) W ((⟨#[66]⟩ : ByteArray) ++ SB) ⟨(bs x).toArray⟩ (by omega)
        have ad6 := fun W => run_string_add_sum (P := Tryd.prog) W ((⟨#[66]⟩ : ByteArray) ++ SB ++ ⟨(bs x).toArray⟩) SD (by omega)
        clear hz HEE HHH s0 s1 s2 s3 s4 s5 s6 s7 a1 a2 a3 a4
        rcases hcase with ⟨ez1, ez2⟩ | ez1
        · go_wp2_with fail
          refine (HD1.out _).mono ?_
          rintro e w' ⟨rfl, rfl⟩
          go_wp2_with fail
          refine (HD2.out _).mono ?_
          rintro e w' ⟨rfl, rfl⟩
          go_wp2_with fail
          go_cut [18] (fun v W => v = .string SE ∧ Hid (Below w'.heap.size w' W))
          case first =>
            go_region_with (first
              | (go_at_call 39; (refine (HBY1.out _).mono ?_; rintro e v1 ⟨rfl, hb1⟩; have D1 : Hid (Below w'.heap.size w' v1) := (by first | exact Below.of_drew hb1 | exact (((Below.refl _ w').drew.alloc (Nat.le_refl _) _).trans (hb1.mono (by simp)))); try have q1 : v1.cell? ⟨w'.heap.size, 0, none⟩ = some (.int .u8 (ops : Int)) := cell_later hb1 (new_byte _ _ _)))
              | (go_at_call 19; (refine (HC1.out _).mono ?_; rintro e v2 ⟨rfl, hb2⟩; have D2 : Hid (Below w'.heap.size w' v2) := (by first | exact D1.out.trans (hb2.mono D1.out.size) | exact (D1.out.alloc D1.out.size _).trans (hb2.mono (by have := D1.out.size; simp; omega))); (try have q2 : v2.cell? ⟨w'.heap.size, 0, none⟩ = some (.int .u8 (ops : Int)) := cell_later hb2 q1); (try have q3 : v2.cell? ⟨v1.heap.size, 0, none⟩ = some (.int .u8 (ops : Int)) := cell_later hb2 (new_byte _ _ _)))))
            all_goals (go_wp2_with fail; go_meet; exact ⟨rfl, (by first | exact D2.out | exact D2.out.alloc D2.out.size _)⟩)
          case rest =>
          obtain ⟨rfl, hbc⟩ := hcut
          have K0 := hide k0
          have kc := cell_later hbc.out k0
          clear k0 k1 hcv ad1 ad2 ad3 hwN hw8 HBY1 HC1
          go_wp2_with fail
          refine (HBY2.out _).mono ?_
          rintro e v3 ⟨rfl, hb3⟩
          have D3 : Hid (Below w'.heap.size w' v3) := hbc.out.trans (hb3.mono hbc.out.size)
          clear hb3 HBY2
          go_wp2_with fail
          refine (HC2.out _).mono ?_
          rintro e v4 ⟨rfl, hb4⟩
          have D4 : Hid (Below w'.heap.size w' v4) := D3.out.trans (hb4.mono D3.out.size)
          clear hb4
          have kd := cell_later D4.out K0.out
          clear kc HC2
          go_wp2_with fail
          go_region_held3 (fun W => W.cell? ⟨w.heap.size, 0, none⟩ = some (.string s')) (first | exact kf | exact ke | exact kd) ((first
            | (go_at_call 32; refine (HSM.out _).mono ?_; rintro e v5 ⟨rfl, hb5⟩; have D5 : Hid (Below w'.heap.size w' v5) := D4.out.trans ((Below.of_drew hb5).mono D4.out.size); have ke := cell_later D5.out K0.out; clear hb5)
            | (go_at_call 23; refine (HEX.out _).mono ?_; rintro e v6 ⟨rfl, hb6⟩; have D6 : Hid (Below w'.heap.size w' v6) := D5.out.trans (hb6.mono D5.out.size); have kf := cell_later D6.out K0.out; clear hb6)))
          go_wp2
          go_ret2
          refine ⟨text, ?_, fun y hy => ?_, BW11.out.trans (D6.out.mono BW11.out.size)⟩
          · rw [HAT.out]; cases ok <;> rfl
          · rw [HAT.out] at hy; cases ok <;> simp at hy; exact hy
        · go_wp2_with fail
          refine (HD1.out _).mono ?_
          rintro e w' ⟨rfl, rfl⟩
          go_wp2_with fail
          refine (HD2.out _).mono ?_
          rintro e w' ⟨rfl, rfl⟩
          go_wp2_with fail
          go_cut [18] (fun v W => v = .string SE ∧ Hid (Below w'.heap.size w' W))
          case first =>
            go_region_with (first
              | (go_at_call 39; (refine (HBY1.out _).mono ?_; rintro e v1 ⟨rfl, hb1⟩; have D1 : Hid (Below w'.heap.size w' v1) := (by first | exact Below.of_drew hb1 | exact (((Below.refl _ w').drew.alloc (Nat.le_refl _) _).trans (hb1.mono (by simp)))); try have q1 : v1.cell? ⟨w'.heap.size, 0, none⟩ = some (.int .u8 (ops : Int)) := cell_later hb1 (new_byte _ _ _)))
              | (go_at_call 19; (refine (HC1.out _).mono ?_; rintro e v2 ⟨rfl, hb2⟩; have D2 : Hid (Below w'.heap.size w' v2) := (by first | exact D1.out.trans (hb2.mono D1.out.size) | exact (D1.out.alloc D1.out.size _).trans (hb2.mono (by have := D1.out.size; simp; omega))); (try have q2 : v2.cell? ⟨w'.heap.size, 0, none⟩ = some (.int .u8 (ops : Int)) := cell_later hb2 q1); (try have q3 : v2.cell? ⟨v1.heap.size, 0, none⟩ = some (.int .u8 (ops : Int)) := cell_later hb2 (new_byte _ _ _)))))
            all_goals (go_wp2_with fail; go_meet; exact ⟨rfl, (by first | exact D2.out | exact D2.out.alloc D2.out.size _)⟩)
          case rest =>
          obtain ⟨rfl, hbc⟩ := hcut
          have K0 := hide k0
          have kc := cell_later hbc.out k0
          clear k0 k1 hcv ad1 ad2 ad3 hwN hw8 HBY1 HC1
          go_wp2_with fail
          refine (HBY2.out _).mono ?_
          rintro e v3 ⟨rfl, hb3⟩
          have D3 : Hid (Below w'.heap.size w' v3) := hbc.out.trans (hb3.mono hbc.out.size)
          clear hb3 HBY2
          go_wp2_with fail
          refine (HC2.out _).mono ?_
          rintro e v4 ⟨rfl, hb4⟩
          have D4 : Hid (Below w'.heap.size w' v4) := D3.out.trans (hb4.mono D3.out.size)
          clear hb4
          have kd := cell_later D4.out K0.out
          clear kc HC2
          go_wp2_with fail
          go_region_held3 (fun W => W.cell? ⟨w.heap.size, 0, none⟩ = some (.string s')) (first | exact kf | exact ke | exact kd) ((first
            | (go_at_call 32; refine (HSM.out _).mono ?_; rintro e v5 ⟨rfl, hb5⟩; have D5 : Hid (Below w'.heap.size w' v5) := D4.out.trans ((Below.of_drew hb5).mono D4.out.size); have ke := cell_later D5.out K0.out; clear hb5)
            | (go_at_call 23; refine (HEX.out _).mono ?_; rintro e v6 ⟨rfl, hb6⟩; have D6 : Hid (Below w'.heap.size w' v6) := D5.out.trans (hb6.mono D5.out.size); have kf := cell_later D6.out K0.out; clear hb6)))
          go_wp2
          go_ret2
          refine ⟨text, ?_, fun y hy => ?_, BW11.out.trans (D6.out.mono BW11.out.size)⟩
          · rw [HAT.out]; cases ok <;> rfl
          · rw [HAT.out] at hy; cases ok <;> simp at hy; exact hy
    · have HN : Hid (attL l m g = none) := HNO.out (by rintro ⟨_, _, _, _, _, h⟩; rw [HLQ.out] at h; omega)
      have he5 : ((lq : Int) != 4 * (d2 : Int)) = true := by rw [bne_iff_ne]; omega
      have H4 := hide hn4
      clear hn4 hn5
      go_wp2_with fail
      refine (HD1.out _).mono ?_
      rintro e w' ⟨rfl, rfl⟩
      go_wp2_with fail
      refine (HD2.out _).mono ?_
      rintro e w' ⟨rfl, rfl⟩
      go_wp2
      go_ret2
      exact ⟨[], (by rw [HN.out]; rfl), (fun x hx => by rw [HN.out] at hx; cases hx), BW11.out⟩
  · have HN : Hid (attL l m g = none) := HNO.out (by rintro ⟨_, _, _, _, h, _⟩; rw [HLP.out] at h; omega)
    have he4 : ((lp : Int) != 4 * (d1 : Int)) = true := by rw [bne_iff_ne]; omega
    clear hn4
    go_wp2_with fail
    refine (HD1.out _).mono ?_
    rintro e w' ⟨rfl, rfl⟩
    go_wp2
    go_ret2
    exact ⟨[], (by rw [HN.out]; rfl), (fun x hx => by rw [HN.out] at hx; cases hx), BW11.out⟩
end Go.Proofs.YtepehjalpkfniaaDoor
