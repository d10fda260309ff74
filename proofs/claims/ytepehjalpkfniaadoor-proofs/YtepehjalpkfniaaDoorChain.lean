/-
  OWN. Plain mathematics on chains of headers and on evidence: no program is named here.
-/
import Derived.Test.YtepehjalpkfniaaDoorMath
namespace Go.Proofs.YtepehjalpkfniaaDoor

/-- The first nine bytes of a header: a mark, the block's number, the hash of the block ahead. -/
def lead (b : Nat) (h : List UInt8) : List UInt8 := 66 :: (bs (hsh b) ++ h)
/-- So many headers, from a block's number on: the hash to which they lead. -/
def chainL : Nat → Nat → H4 → List UInt8 → Option H4
  | 0, _, h, _ => some h
  | k + 1, b, h, l => if b ≤ 4294967295 ∧ l.take 9 = lead b (bs h) then chainL k (b + 1) (sumL (l.take 13)) (l.drop 13) else none
def zero4 : H4 := (0, 0, 0, 0)
def extB (b : Int) (h : H4) (m : Int) (g : H4) (l : List UInt8) : Bool :=
  decide (0 ≤ b ∧ b ≤ m ∧ (b = 0 → h = zero4) ∧ l.length % 13 = 0 ∧ ((l.length / 13 : Nat) : Int) = m - b ∧ chainL (l.length / 13) (b.toNat + 1) h l = some g)

/-- So many bytes of a text that is taken apart (what is left of it; was there too little?): noughts, if there are too few. -/
def tkL (n : Nat) (c : List UInt8 × Bool) : List UInt8 × (List UInt8 × Bool) :=
  if n ≤ c.1.length then (c.1.take n, (c.1.drop n, c.2)) else (List.replicate n 0, (c.1, true))
def numL (l : List UInt8) : Nat := l.foldl (fun v c => 256 * v + c.toNat) 0

/-- Evidence, taken apart. -/
structure Ev where
  n : Nat
  op : Nat
  ops : Nat
  time : List UInt8
  text : List UInt8
  p : List UInt8
  q : List UInt8
  last : List UInt8
  rest : List UInt8
  bad : Bool
def evL (s : List UInt8) : Ev :=
  let r1 := tkL 4 (s, false)
  let r2 := tkL 1 r1.2
  let r3 := tkL 1 r2.2
  let r4 := tkL 8 r3.2
  let r5 := tkL 2 r4.2
  let r6 := tkL (numL r5.1) r5.2
  let r7 := tkL 1 r6.2
  let r8 := tkL (4 * numL r7.1) r7.2
  let r9 := tkL 1 r8.2
  let r10 := tkL (4 * numL r9.1) r9.2
  let r11 := tkL 4 r10.2
  ⟨numL r1.1, numL r2.1, numL r3.1, r4.1, r6.1, r8.1, r10.1, r11.1, r11.2.1, r11.2.2⟩
def Ev.form (v : Ev) (deep : Nat → Nat → Nat) : Bool :=
  decide (v.bad = false ∧ 1 ≤ v.n ∧ v.op < v.ops ∧ v.ops ≤ 16 ∧ v.p.length = 4 * deep v.op v.ops ∧ v.q.length = 4 * deep ((v.n - 1) % 3) 3)
def Ev.block (v : Ev) : Nat := (v.n - 1) / 3 + 1

theorem chainL_succ (k b : Nat) (h : H4) (l : List UInt8) (h1 : b ≤ 4294967295) (h2 : l.take 9 = lead b (bs h)) : chainL (k + 1) b h l = chainL k (b + 1) (sumL (l.take 13)) (l.drop 13) := by
  simp only [chainL]; rw [if_pos ⟨h1, h2⟩]
theorem chainL_no (k b : Nat) (h : H4) (l : List UInt8) (hn : ¬ (b ≤ 4294967295 ∧ l.take 9 = lead b (bs h))) : chainL (k + 1) b h l = none := by
  simp only [chainL]; rw [if_neg hn]

theorem foldl256 (l : List UInt8) (v : Nat) : l.foldl (fun v c => 256 * v + c.toNat) v < (v + 1) * 256 ^ l.length := by
  induction l generalizing v with
  | nil => simp
  | cons c l ih =>
    have h := ih (256 * v + c.toNat)
    have hc := c.toNat_lt
    simp only [List.foldl_cons, List.length_cons]
    refine Nat.lt_of_lt_of_le h ?_
    rw [Nat.pow_succ, Nat.mul_comm (256 ^ l.length) 256, ← Nat.mul_assoc]
    exact Nat.mul_le_mul_right _ (by omega)
theorem numL_lt (l : List UInt8) : numL l < 256 ^ l.length := by have := foldl256 l 0; simpa [numL] using this
theorem numL_snoc (l : List UInt8) (c : UInt8) : numL (l ++ [c]) = 256 * numL l + c.toNat := by unfold numL; rw [List.foldl_append]; rfl
theorem tkL_len (n : Nat) (c : List UInt8 × Bool) : (tkL n c).1.length = n := by
  unfold tkL
  split
  · rename_i h; simp only [List.length_take]; omega
  · simp
theorem tkL_rest (n : Nat) (c : List UInt8 × Bool) : (tkL n c).2.1.length ≤ c.1.length := by
  unfold tkL
  split
  · simp only [List.length_drop]; omega
  · simp
end Go.Proofs.YtepehjalpkfniaaDoor
