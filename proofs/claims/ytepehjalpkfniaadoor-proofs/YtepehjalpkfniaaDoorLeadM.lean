/-
  OWN. Plain mathematics: chains of headers, header by header. No project text.
-/
import Derived.Test.YtepehjalpkfniaaDoorHead
import Derived.Test.YtepehjalpkfniaaDoorPartsH
namespace Go.Proofs.YtepehjalpkfniaaDoor
open Go.RowKit

/-- Does what is left of a chain lead on to the digest? -/
def extT (b : Nat) (h : H4) (m : Int) (g : H4) (l : List UInt8) : Bool :=
  decide (l.length % 13 = 0 ∧ ((l.length / 13 : Nat) : Int) = m - (b : Int) ∧ chainL (l.length / 13) (b + 1) h l = some g)

theorem extB_T (b : Nat) (h : H4) (m : Int) (g : H4) (l : List UInt8) (hz : b = 0 → h = zero4) : extB (b : Int) h m g l = extT b h m g l := by
  unfold extB extT
  apply decide_eq_decide.2
  constructor
  · rintro ⟨_, _, _, h4, h5, h6⟩
    exact ⟨h4, h5, h6⟩
  · rintro ⟨h4, h5, h6⟩
    exact ⟨by omega, by omega, fun e => hz (by omega), h4, h5, h6⟩
theorem extB_neg (b : Int) (h : H4) (m : Int) (g : H4) (l : List UInt8) (hb : b < 0) : extB b h m g l = false := by
  unfold extB
  exact decide_eq_false (fun e => by omega)
theorem extB_zero (h : H4) (m : Int) (g : H4) (l : List UInt8) (hh : h ≠ zero4) : extB 0 h m g l = false := by
  unfold extB
  exact decide_eq_false (fun e => hh (e.2.2.1 rfl))
theorem extT_nil (b : Nat) (h : H4) (m : Int) (g : H4) : extT b h m g [] = decide ((b : Int) = m ∧ h = g) := by
  unfold extT
  apply decide_eq_decide.2
  simp only [List.length_nil, chainL, Option.some.injEq, Nat.zero_mod, Nat.zero_div, true_and]
  constructor
  · rintro ⟨h1, h2⟩; exact ⟨by omega, h2⟩
  · rintro ⟨h1, h2⟩; exact ⟨by omega, h2⟩
theorem extT_ok (b : Nat) (h : H4) (m : Int) (g : H4) (l : List UInt8) (hl : 13 ≤ l.length) (h1 : b + 1 ≤ 4294967295) (h2 : l.take 9 = lead (b + 1) (bs h)) :
    extT b h m g l = extT (b + 1) (sumL (l.take 13)) m g (l.drop 13) := by
  unfold extT
  apply decide_eq_decide.2
  rw [List.length_drop, show l.length / 13 = (l.length - 13) / 13 + 1 by omega, chainL_succ _ _ _ _ h1 h2]
  constructor
  · rintro ⟨a, b, c⟩; exact ⟨by omega, by omega, c⟩
  · rintro ⟨a, b, c⟩; exact ⟨by omega, by omega, c⟩
theorem extT_no (b : Nat) (h : H4) (m : Int) (g : H4) (l : List UInt8) (h0 : 0 < l.length) (hn : l.length < 13 ∨ ¬ (b + 1 ≤ 4294967295 ∧ l.take 9 = lead (b + 1) (bs h))) : extT b h m g l = false := by
  unfold extT
  refine decide_eq_false (fun e => ?_)
  obtain ⟨h1, h2, h3⟩ := e
  rcases hn with hn | hn
  · omega
  · obtain ⟨k, hk⟩ : ∃ k, l.length / 13 = k + 1 := ⟨l.length / 13 - 1, by omega⟩
    rw [hk, chainL_no _ _ _ _ hn] at h3
    cases h3

theorem nx4_short (l : List UInt8) (sh : Bool) : (nx 4 (nx 4 (nx 4 (nx 1 (l, sh))))).2 = (sh || decide (l.length < 13)) := by
  simp only [nx, List.length_drop]
  by_cases h : l.length < 13
  · have : decide (l.length < 13) = true := decide_eq_true h
    rw [this]
    have h2 : l.length < 1 ∨ l.length - 1 < 4 ∨ l.length - 1 - 4 < 4 ∨ l.length - 1 - 4 - 4 < 4 := by omega
    rcases h2 with h2 | h2 | h2 | h2 <;> simp [h2]
  · have e1 : decide (l.length < 1) = false := decide_eq_false (by omega)
    have e2 : decide (l.length - 1 < 4) = false := decide_eq_false (by omega)
    have e3 : decide (l.length - 1 - 4 < 4) = false := decide_eq_false (by omega)
    have e4 : decide (l.length - 1 - 4 - 4 < 4) = false := decide_eq_false (by omega)
    have e5 : decide (l.length < 13) = false := decide_eq_false h
    rw [e1, e2, e3, e4, e5]
    simp
theorem nx4_rest (l : List UInt8) (sh : Bool) : (nx 4 (nx 4 (nx 4 (nx 1 (l, sh))))).1 = l.drop 13 := by
  simp only [nx, List.drop_drop]
theorem nx4_all (l : List UInt8) (h : 13 ≤ l.length) : nx 4 (nx 4 (nx 4 (nx 1 (l, false)))) = (l.drop 13, false) := by
  apply Prod.ext
  · exact nx4_rest l false
  · rw [nx4_short]; simp; omega

theorem hsh_num (a b c d : UInt8) : hsh (numL [a, b, c, d]) = (a, b, c, d) := by
  have h1 := a.toNat_lt
  have h2 := b.toNat_lt
  have h3 := c.toNat_lt
  have h4 := d.toNat_lt
  simp only [numL, List.foldl_cons, List.foldl_nil, hsh, Prod.mk.injEq]
  refine ⟨?_, ?_, ?_, ?_⟩ <;> (apply UInt8.toNat_inj.1; rw [UInt8.toNat_ofNat']; omega)
theorem num_hsh (n : Nat) (h : n < 4294967296) : numL (bs (hsh n)) = n := by
  simp only [numL, bs, hsh, List.foldl_cons, List.foldl_nil, UInt8.toNat_ofNat']
  omega
theorem num4_lt (a b c d : UInt8) : numL [a, b, c, d] < 4294967296 := by
  have h := numL_lt [a, b, c, d]
  rw [show [a, b, c, d].length = 4 from rfl, show (256 : Nat) ^ 4 = 4294967296 by decide] at h
  exact h
theorem thirteen (l : List UInt8) (h : 13 ≤ l.length) : ∃ a0 a1 a2 a3 a4 a5 a6 a7 a8 a9 a10 a11 a12 r, l = a0 :: a1 :: a2 :: a3 :: a4 :: a5 :: a6 :: a7 :: a8 :: a9 :: a10 :: a11 :: a12 :: r := by
  match l, h with
  | a0 :: a1 :: a2 :: a3 :: a4 :: a5 :: a6 :: a7 :: a8 :: a9 :: a10 :: a11 :: a12 :: r, _ => exact ⟨a0, a1, a2, a3, a4, a5, a6, a7, a8, a9, a10, a11, a12, r, rfl⟩

/-- What a header is read as: its number, the hash ahead, the root. -/
theorem header_read (l : List UInt8) (h : 13 ≤ l.length) : ∃ (n : Nat) (x y : H4), n < 4294967296 ∧ numL ((nx 1 (l, false)).1.take 4) = n ∧ pad4 ((nx 4 (nx 1 (l, false))).1.take 4) = x ∧ pad4 ((nx 4 (nx 4 (nx 1 (l, false)))).1.take 4) = y ∧
    (numL (l.take 1) = 66 → hdL n x y = l.take 13) ∧ (∀ (b : Nat) (hh : H4), (b + 1 ≤ 4294967295 ∧ l.take 9 = lead (b + 1) (bs hh)) ↔ (numL (l.take 1) = 66 ∧ n = b + 1 ∧ x = hh)) := by
  obtain ⟨a0, a1, a2, a3, a4, a5, a6, a7, a8, a9, a10, a11, a12, r, rfl⟩ := thirteen l h
  have e0 : numL [a0] = a0.toNat := by simp [numL]
  have hm : numL [a0] = 66 ↔ a0 = 66 := by
    rw [e0]
    constructor
    · intro e; apply UInt8.toNat_inj.1; rw [e]; rfl
    · intro e; rw [e]; rfl
  refine ⟨numL [a1, a2, a3, a4], (a5, a6, a7, a8), (a9, a10, a11, a12), num4_lt _ _ _ _, rfl, rfl, rfl, ?_, ?_⟩
  · intro e
    have e' : a0 = 66 := hm.1 e
    rw [e']
    simp only [hdL, be4, hsh_num, bs]
    rfl
  · intro b hh
    have hb := num_hsh (b + 1)
    constructor
    · rintro ⟨h1, h2⟩
      obtain ⟨g0, g1, g2, g3⟩ := hh
      have hb' := hb (by omega)
      simp only [lead, bs, List.take_succ_cons, List.take_zero, List.cons_append, List.nil_append, List.cons.injEq, and_true] at h2
      obtain ⟨rfl, rfl, rfl, rfl, rfl, rfl, rfl, rfl, rfl⟩ := h2
      exact ⟨by rfl, hb', rfl⟩
    · rintro ⟨h1, h2, rfl⟩
      have e' : a0 = 66 := hm.1 h1
      have hlt : numL [a1, a2, a3, a4] < 4294967296 := num4_lt _ _ _ _
      refine ⟨by omega, ?_⟩
      rw [← h2, e']
      simp only [lead, hsh_num, bs]
      rfl
end Go.Proofs.YtepehjalpkfniaaDoor
