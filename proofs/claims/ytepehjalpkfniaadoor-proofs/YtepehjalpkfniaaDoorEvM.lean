/-
  OWN. Plain mathematics: evidence as the program reads it and as the document does. No project text.
-/
import Derived.Test.YtepehjalpkfniaaDoorCells
import Derived.Test.YtepehjalpkfniaaDoorLeadM
import Derived.Test.YtepehjalpkfniaaDoorEntry
import Derived.Test.YtepehjalpkfniaaDoorRefA
namespace Go.Proofs.YtepehjalpkfniaaDoor
open Go.RowKit

theorem nx_ok (n : Nat) (c : List UInt8 × Bool) (h : (nx n c).2 = false) : c.2 = false ∧ n ≤ c.1.length ∧ tkL n c = (c.1.take n, nx n c) := by
  simp only [nx, Bool.or_eq_false_iff, decide_eq_false_iff_not] at h
  have hn : n ≤ c.1.length := by omega
  refine ⟨h.1, hn, ?_⟩
  have hd : decide (c.1.length < n) = false := decide_eq_false (by omega)
  unfold tkL
  rw [if_pos hn]
  simp only [nx, hd, Bool.or_false]
theorem tk_ok (n : Nat) (c : List UInt8 × Bool) (h : (tkL n c).2.2 = false) : c.2 = false ∧ n ≤ c.1.length ∧ tkL n c = (c.1.take n, nx n c) := by
  by_cases hn : n ≤ c.1.length
  · have hd : decide (c.1.length < n) = false := decide_eq_false (by omega)
    have e : tkL n c = (c.1.take n, nx n c) := by unfold tkL; rw [if_pos hn]; simp only [nx, hd, Bool.or_false]
    rw [e] at h
    refine ⟨?_, hn, e⟩
    simp only [nx, Bool.or_eq_false_iff] at h
    exact h.1
  · unfold tkL at h
    rw [if_neg hn] at h
    simp at h

/-- All there: what was read is what stands there. -/
structure Same (l : List UInt8) (v : PEv) (u : Ev) : Prop where
  short : v.short = false
  bad : u.bad = false
  n : v.n = u.n
  nth : v.nth = u.op
  many : v.many = u.ops
  time : be 8 v.tn = u.time
  text : v.op = u.text
  p : v.p = chunks u.p
  pl : u.p.length = 4 * v.p.length
  q : v.q = chunks u.q
  ql : u.q.length = 4 * v.q.length
  last : bs v.ahead = u.last
  rest : v.behind = u.rest
  lt : u.n < 4294967296

theorem be_num8 (l : List UInt8) (h : l.length = 8) : be 8 (numL l) = l := by
  match l, h with
  | [a, b, c, d, e, f, g, i], _ =>
    have h1 := a.toNat_lt
    have h2 := b.toNat_lt
    have h3 := c.toNat_lt
    have h4 := d.toNat_lt
    have h5 := e.toNat_lt
    have h6 := f.toNat_lt
    have h7 := g.toNat_lt
    have h8 := i.toNat_lt
    simp only [numL, List.foldl_cons, List.foldl_nil, be, List.cons.injEq, and_true]
    refine ⟨?_, ?_, ?_, ?_, ?_, ?_, ?_, ?_⟩ <;> (apply UInt8.toNat_inj.1; rw [UInt8.toNat_ofNat']; omega)
theorem bs_pad (l : List UInt8) (h : l.length = 4) : bs (pad4 l) = l := by
  match l, h with
  | [a, b, c, d], _ => rfl

set_option maxHeartbeats 2000000 in
theorem same_of (l : List UInt8) (h : (pev l).short = false ∨ (evL l).bad = false) : Same l (pev l) (evL l) := by
  obtain ⟨c1, e1⟩ : ∃ x, nx 4 (l, false) = x := ⟨_, rfl⟩
  obtain ⟨c2, e2⟩ : ∃ x, nx 1 c1 = x := ⟨_, rfl⟩
  obtain ⟨c3, e3⟩ : ∃ x, nx 1 c2 = x := ⟨_, rfl⟩
  obtain ⟨c4, e4⟩ : ∃ x, nx 8 c3 = x := ⟨_, rfl⟩
  obtain ⟨c5, e5⟩ : ∃ x, nx 2 c4 = x := ⟨_, rfl⟩
  obtain ⟨c6, e6⟩ : ∃ x, nx (numL (c4.1.take 2)) c5 = x := ⟨_, rfl⟩
  obtain ⟨d6, f6⟩ : ∃ x, nx 1 c6 = x := ⟨_, rfl⟩
  obtain ⟨c7, e7⟩ : ∃ x, nx (4 * numL (c6.1.take 1)) d6 = x := ⟨_, rfl⟩
  obtain ⟨d7, f7⟩ : ∃ x, nx 1 c7 = x := ⟨_, rfl⟩
  obtain ⟨c8, e8⟩ : ∃ x, nx (4 * numL (c7.1.take 1)) d7 = x := ⟨_, rfl⟩
  obtain ⟨c9, e9⟩ : ∃ x, nx 4 c8 = x := ⟨_, rfl⟩
  have hpev : pev l = ⟨numL (l.take 4), numL (c1.1.take 1), numL (c2.1.take 1), numL (c3.1.take 8), c5.1.take (numL (c4.1.take 2)), padL d6.1 (numL (c6.1.take 1)), padL d7.1 (numL (c7.1.take 1)), pad4 (c8.1.take 4), c9.1, c9.2⟩ := by
    subst e1 e2 e3 e4 e5 e6 f6 e7 f7 e8 e9
    simp only [pev, List.take_length]
    congr 1
    simp only [nx, Nat.lt_irrefl, decide_false, Bool.or_false]
  have key : (tkL 4 (l, false) = (l.take 4, c1) ∧ 4 ≤ l.length) ∧ (tkL 1 c1 = (c1.1.take 1, c2) ∧ 1 ≤ c1.1.length) ∧ (tkL 1 c2 = (c2.1.take 1, c3) ∧ 1 ≤ c2.1.length) ∧ (tkL 8 c3 = (c3.1.take 8, c4) ∧ 8 ≤ c3.1.length) ∧ (tkL 2 c4 = (c4.1.take 2, c5) ∧ 2 ≤ c4.1.length) ∧ (tkL (numL (c4.1.take 2)) c5 = (c5.1.take (numL (c4.1.take 2)), c6) ∧ numL (c4.1.take 2) ≤ c5.1.length) ∧ (tkL 1 c6 = (c6.1.take 1, d6) ∧ 1 ≤ c6.1.length) ∧ (tkL (4 * numL (c6.1.take 1)) d6 = (d6.1.take (4 * numL (c6.1.take 1)), c7) ∧ 4 * numL (c6.1.take 1) ≤ d6.1.length) ∧ (tkL 1 c7 = (c7.1.take 1, d7) ∧ 1 ≤ c7.1.length) ∧ (tkL (4 * numL (c7.1.take 1)) d7 = (d7.1.take (4 * numL (c7.1.take 1)), c8) ∧ 4 * numL (c7.1.take 1) ≤ d7.1.length) ∧ (tkL 4 c8 = (c8.1.take 4, c9) ∧ 4 ≤ c8.1.length) ∧ c9.2 = false := by
    rcases h with h | h
    · rw [hpev] at h
      have h9 : c9.2 = false := h
      have k9 := nx_ok 4 c8 (by rw [e9]; exact h9)
      have k8 := nx_ok (4 * numL (c7.1.take 1)) d7 (by rw [e8]; exact k9.1)
      have j7 := nx_ok 1 c7 (by rw [f7]; exact k8.1)
      have k7 := nx_ok (4 * numL (c6.1.take 1)) d6 (by rw [e7]; exact j7.1)
      have j6 := nx_ok 1 c6 (by rw [f6]; exact k7.1)
      have k6 := nx_ok (numL (c4.1.take 2)) c5 (by rw [e6]; exact j6.1)
      have k5 := nx_ok 2 c4 (by rw [e5]; exact k6.1)
      have k4 := nx_ok 8 c3 (by rw [e4]; exact k5.1)
      have k3 := nx_ok 1 c2 (by rw [e3]; exact k4.1)
      have k2 := nx_ok 1 c1 (by rw [e2]; exact k3.1)
      have k1 := nx_ok 4 (l, false) (by rw [e1]; exact k2.1)
      rw [e1] at k1
      rw [e2] at k2
      rw [e3] at k3
      rw [e4] at k4
      rw [e5] at k5
      rw [e6] at k6
      rw [f6] at j6
      rw [e7] at k7
      rw [f7] at j7
      rw [e8] at k8
      rw [e9] at k9
      exact ⟨⟨k1.2.2, k1.2.1⟩, ⟨k2.2.2, k2.2.1⟩, ⟨k3.2.2, k3.2.1⟩, ⟨k4.2.2, k4.2.1⟩, ⟨k5.2.2, k5.2.1⟩, ⟨k6.2.2, k6.2.1⟩, ⟨j6.2.2, j6.2.1⟩, ⟨k7.2.2, k7.2.1⟩, ⟨j7.2.2, j7.2.1⟩, ⟨k8.2.2, k8.2.1⟩, ⟨k9.2.2, k9.2.1⟩, h9⟩
    · obtain ⟨r1, g1⟩ : ∃ x, tkL 4 (l, false) = x := ⟨_, rfl⟩
      obtain ⟨r2, g2⟩ : ∃ x, tkL 1 r1.2 = x := ⟨_, rfl⟩
      obtain ⟨r3, g3⟩ : ∃ x, tkL 1 r2.2 = x := ⟨_, rfl⟩
      obtain ⟨r4, g4⟩ : ∃ x, tkL 8 r3.2 = x := ⟨_, rfl⟩
      obtain ⟨r5, g5⟩ : ∃ x, tkL 2 r4.2 = x := ⟨_, rfl⟩
      obtain ⟨r6, g6⟩ : ∃ x, tkL (numL r5.1) r5.2 = x := ⟨_, rfl⟩
      obtain ⟨r7, g7⟩ : ∃ x, tkL 1 r6.2 = x := ⟨_, rfl⟩
      obtain ⟨r8, g8⟩ : ∃ x, tkL (4 * numL r7.1) r7.2 = x := ⟨_, rfl⟩
      obtain ⟨r9, g9⟩ : ∃ x, tkL 1 r8.2 = x := ⟨_, rfl⟩
      obtain ⟨r10, g10⟩ : ∃ x, tkL (4 * numL r9.1) r9.2 = x := ⟨_, rfl⟩
      obtain ⟨r11, g11⟩ : ∃ x, tkL 4 r10.2 = x := ⟨_, rfl⟩
      have h11 : r11.2.2 = false := by
        simp only [evL, g1, g2, g3, g4, g5, g6, g7, g8, g9, g10, g11] at h
        exact h
      have k11 := tk_ok 4 r10.2 (by rw [g11]; exact h11)
      have k10 := tk_ok (4 * numL r9.1) r9.2 (by rw [g10]; exact k11.1)
      have k9 := tk_ok 1 r8.2 (by rw [g9]; exact k10.1)
      have k8 := tk_ok (4 * numL r7.1) r7.2 (by rw [g8]; exact k9.1)
      have k7 := tk_ok 1 r6.2 (by rw [g7]; exact k8.1)
      have k6 := tk_ok (numL r5.1) r5.2 (by rw [g6]; exact k7.1)
      have k5 := tk_ok 2 r4.2 (by rw [g5]; exact k6.1)
      have k4 := tk_ok 8 r3.2 (by rw [g4]; exact k5.1)
      have k3 := tk_ok 1 r2.2 (by rw [g3]; exact k4.1)
      have k2 := tk_ok 1 r1.2 (by rw [g2]; exact k3.1)
      have k1 := tk_ok 4 (l, false) (by rw [g1]; exact k2.1)
      have t1 := k1.2.2
      rw [e1] at t1
      obtain rfl : r1 = (l.take 4, c1) := by rw [← g1]; exact t1
      have t2 := k2.2.2
      simp only at t2
      rw [e2] at t2
      obtain rfl : r2 = (c1.1.take 1, c2) := by rw [← g2]; exact t2
      have t3 := k3.2.2
      simp only at t3
      rw [e3] at t3
      obtain rfl : r3 = (c2.1.take 1, c3) := by rw [← g3]; exact t3
      have t4 := k4.2.2
      simp only at t4
      rw [e4] at t4
      obtain rfl : r4 = (c3.1.take 8, c4) := by rw [← g4]; exact t4
      have t5 := k5.2.2
      simp only at t5
      rw [e5] at t5
      obtain rfl : r5 = (c4.1.take 2, c5) := by rw [← g5]; exact t5
      have t6 := k6.2.2
      simp only at t6
      rw [e6] at t6
      obtain rfl : r6 = (c5.1.take (numL (c4.1.take 2)), c6) := by rw [← g6]; exact t6
      have t7 := k7.2.2
      simp only at t7
      rw [f6] at t7
      obtain rfl : r7 = (c6.1.take 1, d6) := by rw [← g7]; exact t7
      have t8 := k8.2.2
      simp only at t8
      rw [e7] at t8
      obtain rfl : r8 = (d6.1.take (4 * numL (c6.1.take 1)), c7) := by rw [← g8]; exact t8
      have t9 := k9.2.2
      simp only at t9
      rw [f7] at t9
      obtain rfl : r9 = (c7.1.take 1, d7) := by rw [← g9]; exact t9
      have t10 := k10.2.2
      simp only at t10
      rw [e8] at t10
      obtain rfl : r10 = (d7.1.take (4 * numL (c7.1.take 1)), c8) := by rw [← g10]; exact t10
      have t11 := k11.2.2
      simp only at t11
      rw [e9] at t11
      obtain rfl : r11 = (c8.1.take 4, c9) := by rw [← g11]; exact t11
      exact ⟨⟨t1, k1.2.1⟩, ⟨t2, k2.2.1⟩, ⟨t3, k3.2.1⟩, ⟨t4, k4.2.1⟩, ⟨t5, k5.2.1⟩, ⟨t6, k6.2.1⟩, ⟨t7, k7.2.1⟩, ⟨t8, k8.2.1⟩, ⟨t9, k9.2.1⟩, ⟨t10, k10.2.1⟩, ⟨t11, k11.2.1⟩, h11⟩
  obtain ⟨⟨t1, l1⟩, ⟨t2, l2⟩, ⟨t3, l3⟩, ⟨t4, l4⟩, ⟨t5, l5⟩, ⟨t6, l6⟩, ⟨t7, l7⟩, ⟨t8, l8⟩, ⟨t9, l9⟩, ⟨t10, l10⟩, ⟨t11, l11⟩, h9⟩ := key
  have hev : evL l = ⟨numL (l.take 4), numL (c1.1.take 1), numL (c2.1.take 1), c3.1.take 8, c5.1.take (numL (c4.1.take 2)), d6.1.take (4 * numL (c6.1.take 1)), d7.1.take (4 * numL (c7.1.take 1)), c8.1.take 4, c9.1, c9.2⟩ := by
    simp only [evL, t1, t2, t3, t4, t5, t6, t7, t8, t9, t10, t11]
  rw [hpev, hev]
  exact {
    short := h9
    bad := h9
    n := rfl
    nth := rfl
    many := rfl
    time := be_num8 _ (by rw [List.length_take]; omega)
    text := rfl
    p := padL_chunks _ _ l8
    pl := by simp only [padL_len, List.length_take]; omega
    q := padL_chunks _ _ l10
    ql := by simp only [padL_len, List.length_take]; omega
    last := bs_pad _ (by rw [List.length_take]; omega)
    rest := rfl
    lt := numL_take_lt 4 l }

/-- What the program shows of evidence. -/
def PEv.root (v : PEv) : H4 := climbL (leafL (enL v.n v.tn v.many (climbL (leafL v.op) v.nth v.many v.p))) ((v.n - 1) % 3) 3 v.q
def PEv.block (v : PEv) : Nat := (v.n - 1) / 3 + 1
def attP (v : PEv) (m : Int) (g : H4) : Option (List UInt8) :=
  if v.ok = true ∧ v.p.length = deep v.nth v.many ∧ v.q.length = deep ((v.n - 1) % 3) 3 ∧ extB (v.block : Int) (sumL (hdL v.block v.ahead v.root)) m g v.behind = true then some v.op else none

theorem zero_bs (x : H4) : bs x = [0, 0, 0, 0] ↔ x = zero4 := by
  constructor
  · intro h; exact bs_inj _ _ h
  · intro h; rw [h]; rfl
theorem att_same (l : List UInt8) (m : Int) (g : H4) : attP (pev l) m g = attL l m g := by
  by_cases h : (pev l).short = false ∨ (evL l).bad = false
  · have S := same_of l h
    generalize pev l = v at *
    generalize hu : evL l = u at *
    unfold attP attL
    rw [hu]
    obtain ⟨n, nth, many, tn, op, p, q, ahead, behind, short⟩ := v
    obtain ⟨un, uop, uops, utime, utext, up, uq, ulast, urest, ubad⟩ := u
    obtain ⟨s1, s2, s3, s4, s5, s6, s7, s8, s9, s10, s11, s12, s13, s14⟩ := S
    simp only at s1 s2 s3 s4 s5 s6 s7 s8 s9 s10 s11 s12 s13 s14
    subst s1 s2 s3 s4 s5 s6 s7 s12 s13
    have hlead : hdL ((n - 1) / 3 + 1) ahead (climbL (leafL (enL n tn many (climbL (leafL op) nth many p))) ((n - 1) % 3) 3 q) = lead ((n - 1) / 3 + 1) (bs ahead) ++ bs (climbL (leafL (bs (hsh n) ++ be 8 tn ++ [UInt8.ofNat many] ++ bs (climbL (leafL op) nth many (chunks up)))) ((n - 1) % 3) 3 (chunks uq)) := by
      rw [← s8, ← s10]
      simp only [hdL, lead, enL, be4]
      simp
    refine ite_iff ?_ _ _
    simp only [PEv.block, PEv.root, Ev.block]
    rw [hlead]
    generalize extB _ _ m g behind = X
    simp only [PEv.ok, Ev.form, Bool.not_false, Bool.true_and, Bool.and_eq_true, decide_eq_true_iff, Bool.or_eq_true, Bool.not_eq_true', decide_eq_false_iff_not, true_and, zero_bs]
    constructor
    · rintro ⟨⟨⟨⟨a1, a2⟩, a3⟩, a4⟩, b1, b2, c⟩
      refine ⟨⟨a1, a2, a3, by omega, by omega⟩, fun e => ?_, c⟩
      rcases a4 with a4 | a4
      · omega
      · exact a4
    · rintro ⟨⟨a1, a2, a3, b1, b2⟩, a4, c⟩
      refine ⟨⟨⟨⟨a1, a2⟩, a3⟩, ?_⟩, by omega, by omega, c⟩
      by_cases e : n ≤ 3
      · exact .inr (a4 (by omega))
      · exact .inl e
  · have h1 : (pev l).short = true := by
      cases e : (pev l).short with
      | false => exact absurd (.inl e) h
      | true => rfl
    have h2 : (evL l).bad = true := by
      cases e : (evL l).bad with
      | false => exact absurd (.inr e) h
      | true => rfl
    have n1 : attP (pev l) m g = none := by
      unfold attP
      refine if_neg (fun e => ?_)
      have := e.1
      simp [PEv.ok, h1] at this
    have n2 : attL l m g = none := by
      unfold attL
      refine if_neg (fun e => ?_)
      have := e.1
      simp [Ev.form, h2] at this
    rw [n1, n2]
end Go.Proofs.YtepehjalpkfniaaDoor
