/-
  OWN. Plain mathematics on sums and their trees: no program is named here.
-/
import GoSem.ClaimJoined
namespace Go.Proofs.YtepehjalpkfniaaDoor

/-- A sum: four bytes. -/
abbrev H4 := UInt8 × UInt8 × UInt8 × UInt8
def bs (x : H4) : List UInt8 := [x.1, x.2.1, x.2.2.1, x.2.2.2]
def addB (h : Nat) (c : UInt8) : Nat := (33 * h + c.toNat + 1) % 4294967291
def addN (h : Nat) (l : List UInt8) : Nat := l.foldl addB h
def hsh (h : Nat) : H4 := (UInt8.ofNat (h / 16777216), UInt8.ofNat (h / 65536), UInt8.ofNat (h / 256), UInt8.ofNat h)
def sumL (l : List UInt8) : H4 := hsh (addN 5381 l)
def leafL (l : List UInt8) : H4 := hsh (addN (addN 5381 [0]) l)
def nodeL (x y : H4) : H4 := hsh (addN (addN (addN 5381 [1]) (bs x)) (bs y))
def noS : H4 := (255, 255, 255, 255)

theorem addB_lt (h : Nat) (c : UInt8) : addB h c < 4294967291 := Nat.mod_lt _ (by decide)
theorem addN_lt (h : Nat) (l : List UInt8) (hh : h < 4294967291) : addN h l < 4294967291 := by
  induction l generalizing h with
  | nil => exact hh
  | cons c l ih => exact ih _ (addB_lt h c)
theorem addN_append (h : Nat) (l m : List UInt8) : addN h (l ++ m) = addN (addN h l) m := List.foldl_append
theorem addN_snoc (h : Nat) (l : List UInt8) (c : UInt8) : addN h (l ++ [c]) = addB (addN h l) c := by rw [addN_append]; rfl
theorem sumL_leaf (l : List UInt8) : sumL (0 :: l) = leafL l := rfl
theorem sumL_node (x y : H4) : sumL (1 :: (bs x ++ bs y)) = nodeL x y := by
  unfold sumL nodeL
  rw [show (1 :: (bs x ++ bs y)) = [1] ++ (bs x ++ bs y) from rfl, addN_append, addN_append]

theorem hsh_ne (h : Nat) (hh : h < 4294967291) : hsh h ≠ noS := by
  intro e
  simp only [hsh, noS, Prod.mk.injEq] at e
  obtain ⟨e1, e2, e3, e4⟩ := e
  have f1 := congrArg UInt8.toNat e1
  have f2 := congrArg UInt8.toNat e2
  have f3 := congrArg UInt8.toNat e3
  have f4 := congrArg UInt8.toNat e4
  simp only [UInt8.toNat_ofNat'] at f1 f2 f3 f4
  have g : (255 : UInt8).toNat = 255 := rfl
  rw [g] at f1 f2 f3 f4
  omega
theorem leafL_ne (l : List UInt8) : leafL l ≠ noS := hsh_ne _ (addN_lt _ _ (addN_lt _ _ (by decide)))
theorem nodeL_ne (x y : H4) : nodeL x y ≠ noS := hsh_ne _ (addN_lt _ _ (addN_lt _ _ (addN_lt _ _ (by decide))))
theorem sumL_ne (l : List UInt8) : sumL l ≠ noS := hsh_ne _ (addN_lt _ _ (by decide))

/-! the counter of full trees -/
def carryL : List H4 → H4 → List H4
  | [], r => [r]
  | x :: xs, r => if x = noS then r :: xs else noS :: carryL xs (nodeL x r)
def joinL (l r : H4) : H4 := if l = noS then r else if r = noS then l else nodeL l r
def fullL (ls : List H4) : List H4 := ls.foldl carryL []
def topL (full : List H4) : H4 := full.foldl (fun root left => joinL left root) noS
def rootL (ls : List H4) : H4 := if topL (fullL ls) = noS then sumL [] else topL (fullL ls)

/-- The greatest power of two below n (n is 2 or more): doubled so long as twice it is below. -/
def halfF : Nat → Nat → Nat → Nat
  | 0, _, k => k
  | f + 1, n, k => if 2 * k < n then halfF f n (2 * k) else k
def half (n : Nat) : Nat := halfF n n 1
/-- The root by its words, under a fuel. -/
def rtF : Nat → List H4 → H4
  | 0, _ => sumL []
  | _ + 1, [] => sumL []
  | _ + 1, [x] => x
  | f + 1, x :: y :: l => nodeL (rtF f ((x :: y :: l).take (half (l.length + 2)))) (rtF f ((x :: y :: l).drop (half (l.length + 2))))
def rt (ls : List H4) : H4 := rtF ls.length ls

theorem halfF_spec (f n k : Nat) (hk : k < n) (hf : n ≤ k * 2 ^ (f + 1)) (h0 : ∃ j, k = 2 ^ j) :
    ∃ j, halfF f n k = 2 ^ j ∧ 2 ^ j < n ∧ n ≤ 2 * 2 ^ j := by
  induction f generalizing k with
  | zero => obtain ⟨j, rfl⟩ := h0; exact ⟨j, rfl, hk, by simpa [Nat.mul_comm] using hf⟩
  | succ f ih =>
    unfold halfF
    split
    · rename_i h
      obtain ⟨j, rfl⟩ := h0
      refine ih (2 * 2 ^ j) h ?_ ⟨j + 1, by rw [Nat.pow_succ]; omega⟩
      rw [Nat.pow_succ] at hf
      calc n ≤ 2 ^ j * (2 ^ (f + 1) * 2) := hf
        _ = 2 * 2 ^ j * 2 ^ (f + 1) := by rw [Nat.mul_comm (2 ^ (f + 1)) 2, ← Nat.mul_assoc, Nat.mul_comm (2 ^ j) 2]
    · rename_i h
      obtain ⟨j, rfl⟩ := h0
      exact ⟨j, rfl, hk, by omega⟩
theorem half_spec (n : Nat) (hn : 2 ≤ n) : ∃ j, half n = 2 ^ j ∧ 2 ^ j < n ∧ n ≤ 2 * 2 ^ j := by
  refine halfF_spec n n 1 (by omega) ?_ ⟨0, rfl⟩
  have : n < 2 ^ n := Nat.lt_two_pow_self
  rw [Nat.pow_succ]; omega
theorem half_lt (n : Nat) (hn : 2 ≤ n) : half n < n := by obtain ⟨j, e, h, _⟩ := half_spec n hn; omega
theorem half_pos (n : Nat) (hn : 2 ≤ n) : 0 < half n := by obtain ⟨j, e, _, _⟩ := half_spec n hn; rw [e]; exact Nat.two_pow_pos j
theorem half_of (n j : Nat) (h1 : 2 ^ j < n) (h2 : n ≤ 2 * 2 ^ j) : half n = 2 ^ j := by
  have hp := Nat.two_pow_pos j
  obtain ⟨i, e, a, b⟩ := half_spec n (by omega)
  rw [e]
  congr 1
  rcases Nat.lt_trichotomy i j with h | h | h
  · have : 2 ^ (i + 1) ≤ 2 ^ j := Nat.pow_le_pow_right (by decide) h
    rw [Nat.pow_succ] at this; omega
  · exact h
  · have : 2 ^ (j + 1) ≤ 2 ^ i := Nat.pow_le_pow_right (by decide) h
    rw [Nat.pow_succ] at this; omega

theorem rtF_more (f g : Nat) (ls : List H4) (hf : ls.length ≤ f) (hg : ls.length ≤ g) : rtF f ls = rtF g ls := by
  induction f generalizing g ls with
  | zero =>
    obtain rfl : ls = [] := List.length_eq_zero_iff.1 (by omega)
    cases g <;> rfl
  | succ f ih =>
    match ls, g, hf, hg with
    | [], 0, _, _ => rfl
    | [], g + 1, _, _ => rfl
    | [x], g + 1, _, _ => rfl
    | x :: y :: l, g + 1, hf, hg =>
      simp only [List.length_cons] at hf hg
      have h1 := half_lt (l.length + 2) (by omega)
      have h2 := half_pos (l.length + 2) (by omega)
      simp only [rtF]
      rw [ih g _ (by simp; omega) (by simp; omega), ih g _ (by simp; omega) (by simp; omega)]
theorem rt_one (x : H4) : rt [x] = x := rfl
theorem rt_split (ls : List H4) (h : 2 ≤ ls.length) : rt ls = nodeL (rt (ls.take (half ls.length))) (rt (ls.drop (half ls.length))) := by
  match ls, h with
  | x :: y :: l, _ =>
    have h1 := half_lt (l.length + 2) (by omega)
    have h2 := half_pos (l.length + 2) (by omega)
    unfold rt
    simp only [List.length_cons, rtF]
    rw [rtF_more (l.length + 1) _ _ (by simp; omega) (Nat.le_refl _), rtF_more (l.length + 1) _ (List.drop _ _) (by simp; omega) (Nat.le_refl _)]

/-! the counter of full trees comes to the root by its words -/
theorem rt_ne (ls : List H4) (h : ls ≠ []) (hn : ∀ x ∈ ls, x ≠ noS) : rt ls ≠ noS := by
  match ls, h with
  | [x], _ => exact hn x (by simp)
  | x :: y :: l, _ => rw [rt_split _ (by simp)]; exact nodeL_ne _ _
theorem carryL_no (u : List H4) (r : H4) : carryL (noS :: u) r = r :: u := by simp [carryL]
theorem carryL_yes (x : H4) (u : List H4) (r : H4) (h : x ≠ noS) : carryL (x :: u) r = noS :: carryL u (nodeL x r) := by simp [carryL, h]
theorem rep_mid (k : Nat) (x : H4) (u : List H4) : List.replicate (k + 1) x ++ u = List.replicate k x ++ (x :: u) := by
  rw [List.replicate_succ']; simp
theorem half_pow (k : Nat) : half (2 ^ (k + 1)) = 2 ^ k := half_of _ _ (by rw [Nat.pow_succ]; have := Nat.two_pow_pos k; omega) (by rw [Nat.pow_succ]; omega)
theorem fold_pow (k : Nat) (A : List H4) (hA : A.length = 2 ^ k) (hn : ∀ x ∈ A, x ≠ noS) (u : List H4) :
    A.foldl carryL (List.replicate k noS ++ u) = List.replicate k noS ++ carryL u (rt A) := by
  induction k generalizing A u with
  | zero =>
    match A, hA with
    | [x], _ => rfl
  | succ k ih =>
    have hp := Nat.two_pow_pos k
    have e2 : 2 ^ (k + 1) = 2 * 2 ^ k := by rw [Nat.pow_succ]; omega
    have hs := rt_split A (by omega)
    rw [hA, half_pow] at hs
    have h1 : (A.take (2 ^ k)).length = 2 ^ k := by rw [List.length_take]; omega
    have h2 : (A.drop (2 ^ k)).length = 2 ^ k := by rw [List.length_drop]; omega
    have n1 : ∀ x ∈ A.take (2 ^ k), x ≠ noS := fun x hx => hn x (List.mem_of_mem_take hx)
    have n2 : ∀ x ∈ A.drop (2 ^ k), x ≠ noS := fun x hx => hn x (List.mem_of_mem_drop hx)
    have r1 : rt (A.take (2 ^ k)) ≠ noS := rt_ne _ (by intro e; rw [e] at h1; simp at h1; omega) n1
    rw [rep_mid]
    conv => lhs; rw [← List.take_append_drop (2 ^ k) A, List.foldl_append]
    rw [ih _ h1 n1, carryL_no, ih _ h2 n2, carryL_yes _ _ _ r1, hs, ← rep_mid]
theorem topL_snoc (t : List H4) (x : H4) : topL (t ++ [x]) = joinL x (topL t) := by unfold topL; rw [List.foldl_append]; rfl
theorem topL_rep (k : Nat) (t : List H4) : topL (t ++ List.replicate k noS) = topL t := by
  induction k with
  | zero => simp
  | succ k ih => rw [List.replicate_succ', ← List.append_assoc, topL_snoc, ih]; simp [joinL]
theorem fold_some (K : Nat) (L : List H4) (h1 : 1 ≤ L.length) (h2 : L.length < 2 ^ K) (hn : ∀ x ∈ L, x ≠ noS) :
    ∃ t : List H4, topL t = rt L ∧ ∀ u, L.foldl carryL (List.replicate K noS ++ u) = t ++ u := by
  induction K generalizing L with
  | zero => rw [Nat.pow_zero] at h2; omega
  | succ K ih =>
    have hp := Nat.two_pow_pos K
    have e2 : 2 ^ (K + 1) = 2 * 2 ^ K := by rw [Nat.pow_succ]; omega
    rcases Nat.lt_trichotomy L.length (2 ^ K) with h | h | h
    · obtain ⟨t, e, f⟩ := ih L h1 h hn
      refine ⟨t ++ [noS], ?_, fun u => ?_⟩
      · rw [topL_snoc, e]; simp [joinL]
      · rw [rep_mid, f]; simp
    · refine ⟨List.replicate K noS ++ [rt L], ?_, fun u => ?_⟩
      · rw [topL_snoc]
        have := topL_rep K []
        rw [List.nil_append] at this
        rw [this]
        simp only [joinL]
        split
        · rename_i e; rw [e]; rfl
        · simp [topL]
      · rw [rep_mid, fold_pow K L h hn, carryL_no]; simp
    · have hs := rt_split L (by omega)
      rw [half_of _ K h (by omega)] at hs
      have l1 : (L.take (2 ^ K)).length = 2 ^ K := by rw [List.length_take]; omega
      have l2 : (L.drop (2 ^ K)).length = L.length - 2 ^ K := by rw [List.length_drop]
      have n1 : ∀ x ∈ L.take (2 ^ K), x ≠ noS := fun x hx => hn x (List.mem_of_mem_take hx)
      have n2 : ∀ x ∈ L.drop (2 ^ K), x ≠ noS := fun x hx => hn x (List.mem_of_mem_drop hx)
      have r1 : rt (L.take (2 ^ K)) ≠ noS := rt_ne _ (by intro e; rw [e] at l1; simp at l1; omega) n1
      have r2 : rt (L.drop (2 ^ K)) ≠ noS := rt_ne _ (by intro e; rw [e] at l2; simp at l2; omega) n2
      obtain ⟨t, e, f⟩ := ih (L.drop (2 ^ K)) (by omega) (by omega) n2
      refine ⟨t ++ [rt (L.take (2 ^ K))], ?_, fun u => ?_⟩
      · rw [topL_snoc, e, hs]; simp [joinL, r1, r2]
      · rw [rep_mid]
        conv => lhs; rw [← List.take_append_drop (2 ^ K) L, List.foldl_append]
        rw [fold_pow K _ l1 n1, carryL_no, f]; simp
theorem carryL_rep (s : List H4) (m : Nat) (r : H4) : ∃ m', carryL (s ++ List.replicate m noS) r = carryL s r ++ List.replicate m' noS := by
  induction s generalizing r with
  | nil =>
    cases m with
    | zero => exact ⟨0, by simp⟩
    | succ m => exact ⟨m, by rw [List.nil_append, List.replicate_succ, carryL_no]; rfl⟩
  | cons x s ih =>
    by_cases h : x = noS
    · subst h; exact ⟨m, by rw [List.cons_append, carryL_no, carryL_no]; rfl⟩
    · obtain ⟨m', e⟩ := ih (nodeL x r)
      exact ⟨m', by rw [List.cons_append, carryL_yes _ _ _ h, carryL_yes _ _ _ h, e]; rfl⟩
theorem fold_rep (L : List H4) (s : List H4) (m : Nat) : ∃ m', L.foldl carryL (s ++ List.replicate m noS) = L.foldl carryL s ++ List.replicate m' noS := by
  induction L generalizing s m with
  | nil => exact ⟨m, rfl⟩
  | cons x L ih =>
    obtain ⟨m1, e⟩ := carryL_rep s m x
    obtain ⟨m2, f⟩ := ih (carryL s x) m1
    exact ⟨m2, by rw [List.foldl_cons, e, f]; rfl⟩
theorem topL_full (L : List H4) (h : L ≠ []) (hn : ∀ x ∈ L, x ≠ noS) : topL (fullL L) = rt L := by
  obtain ⟨t, e, f⟩ := fold_some L.length L (by cases L; exact absurd rfl h; simp) Nat.lt_two_pow_self hn
  obtain ⟨m, g⟩ := fold_rep L [] L.length
  have f0 := f []
  rw [List.append_nil, List.append_nil] at f0
  rw [List.nil_append, f0] at g
  rw [← e, g, topL_rep]; rfl
theorem rootL_eq (L : List H4) (hn : ∀ x ∈ L, x ≠ noS) : rootL L = rt L := by
  cases L with
  | nil => rfl
  | cons x l =>
    have e := topL_full (x :: l) (by simp) hn
    have := rt_ne (x :: l) (by simp) hn
    unfold rootL
    rw [e, if_neg this]

/-! paths -/
/-- The path by its words: from the leaf up. -/
def pathF : Nat → List H4 → Nat → List H4
  | 0, _, _ => []
  | f + 1, ls, i => if ls.length ≤ 1 then [] else
      if i < half ls.length then pathF f (ls.take (half ls.length)) i ++ [rt (ls.drop (half ls.length))]
      else pathF f (ls.drop (half ls.length)) (i - half ls.length) ++ [rt (ls.take (half ls.length))]
def path (ls : List H4) (i : Nat) : List H4 := pathF ls.length ls i
/-- How many roots a path has. -/
def deepF : Nat → Nat → Nat → Nat
  | 0, _, _ => 0
  | f + 1, i, n => if n ≤ 1 then 0 else if i < half n then deepF f i (half n) + 1 else deepF f (i - half n) (n - half n) + 1
def deep (i n : Nat) : Nat := deepF n i n
/-- The way up. -/
def climbF : Nat → H4 → Nat → Nat → List H4 → H4
  | 0, x, _, _, _ => x
  | f + 1, x, i, n, p => if n ≤ 1 then x else
      if i < half n then nodeL (climbF f x i (half n) p.dropLast) (p.getLastD noS)
      else nodeL (p.getLastD noS) (climbF f x (i - half n) (n - half n) p.dropLast)
def climbL (x : H4) (i n : Nat) (p : List H4) : H4 := climbF n x i n p

theorem pathF_more (f g : Nat) (ls : List H4) (i : Nat) (hf : ls.length ≤ f) (hg : ls.length ≤ g) : pathF f ls i = pathF g ls i := by
  induction f generalizing g ls i with
  | zero =>
    obtain rfl : ls = [] := List.length_eq_zero_iff.1 (by omega)
    cases g <;> simp [pathF]
  | succ f ih =>
    by_cases h : ls.length ≤ 1
    · cases g <;> simp [pathF, h]
    · have h1 := half_lt ls.length (by omega)
      have h2 := half_pos ls.length (by omega)
      cases g with
      | zero => omega
      | succ g =>
        simp only [pathF, if_neg h]
        split
        · rw [ih g _ _ (by simp; omega) (by simp; omega)]
        · rw [ih g _ _ (by simp; omega) (by simp; omega)]
theorem path_one (ls : List H4) (i : Nat) (h : ls.length ≤ 1) : path ls i = [] := by
  unfold path
  cases e : ls.length with
  | zero => rfl
  | succ n => simp [pathF, h]
theorem path_left (ls : List H4) (i : Nat) (h : 2 ≤ ls.length) (hi : i < half ls.length) : path ls i = path (ls.take (half ls.length)) i ++ [rt (ls.drop (half ls.length))] := by
  have h1 := half_lt ls.length h
  unfold path
  conv => lhs; rw [show ls.length = (ls.length - 1) + 1 by omega]
  simp only [pathF]
  rw [if_neg (by omega), if_pos hi, pathF_more (ls.length - 1) _ _ _ (by simp; omega) (Nat.le_refl _)]
theorem path_right (ls : List H4) (i : Nat) (h : 2 ≤ ls.length) (hi : ¬ i < half ls.length) : path ls i = path (ls.drop (half ls.length)) (i - half ls.length) ++ [rt (ls.take (half ls.length))] := by
  have h1 := half_lt ls.length h
  have h2 := half_pos ls.length h
  unfold path
  conv => lhs; rw [show ls.length = (ls.length - 1) + 1 by omega]
  simp only [pathF]
  rw [if_neg (by omega), if_neg hi, pathF_more (ls.length - 1) _ _ _ (by simp; omega) (Nat.le_refl _)]
theorem deepF_more (f g i n : Nat) (hf : n ≤ f) (hg : n ≤ g) : deepF f i n = deepF g i n := by
  induction f generalizing g i n with
  | zero =>
    obtain rfl : n = 0 := by omega
    cases g <;> simp [deepF]
  | succ f ih =>
    by_cases h : n ≤ 1
    · cases g <;> simp [deepF, h]
    · have h1 := half_lt n (by omega)
      have h2 := half_pos n (by omega)
      cases g with
      | zero => omega
      | succ g =>
        simp only [deepF, if_neg h]
        rw [ih g _ _ (by omega) (by omega), ih g _ _ (by omega) (by omega)]
theorem deep_one (i n : Nat) (h : n ≤ 1) : deep i n = 0 := by
  unfold deep
  cases n with
  | zero => rfl
  | succ n => simp [deepF, h]
theorem deep_left (i n : Nat) (h : 2 ≤ n) (hi : i < half n) : deep i n = deep i (half n) + 1 := by
  have h1 := half_lt n h
  unfold deep
  conv => lhs; rw [show n = (n - 1) + 1 by omega]
  simp only [deepF]
  rw [show n - 1 + 1 = n by omega, if_neg (by omega), if_pos hi, deepF_more (n - 1) _ _ _ (by omega) (Nat.le_refl _)]
theorem deep_right (i n : Nat) (h : 2 ≤ n) (hi : ¬ i < half n) : deep i n = deep (i - half n) (n - half n) + 1 := by
  have h1 := half_lt n h
  have h2 := half_pos n h
  unfold deep
  conv => lhs; rw [show n = (n - 1) + 1 by omega]
  simp only [deepF]
  rw [show n - 1 + 1 = n by omega, if_neg (by omega), if_neg hi, deepF_more (n - 1) _ _ _ (by omega) (Nat.le_refl _)]
theorem climbF_more (f g : Nat) (x : H4) (i n : Nat) (p : List H4) (hf : n ≤ f) (hg : n ≤ g) : climbF f x i n p = climbF g x i n p := by
  induction f generalizing g i n p with
  | zero =>
    obtain rfl : n = 0 := by omega
    cases g <;> simp [climbF]
  | succ f ih =>
    by_cases h : n ≤ 1
    · cases g <;> simp [climbF, h]
    · have h1 := half_lt n (by omega)
      have h2 := half_pos n (by omega)
      cases g with
      | zero => omega
      | succ g =>
        simp only [climbF, if_neg h]
        rw [ih g _ _ _ (by omega) (by omega), ih g _ _ _ (by omega) (by omega)]
theorem climb_one (x : H4) (i n : Nat) (p : List H4) (h : n ≤ 1) : climbL x i n p = x := by
  unfold climbL
  cases n with
  | zero => rfl
  | succ n => simp [climbF, h]
theorem climb_left (x : H4) (i n : Nat) (p : List H4) (h : 2 ≤ n) (hi : i < half n) : climbL x i n p = nodeL (climbL x i (half n) p.dropLast) (p.getLastD noS) := by
  have h1 := half_lt n h
  unfold climbL
  conv => lhs; rw [show n = (n - 1) + 1 by omega]
  simp only [climbF]
  rw [show n - 1 + 1 = n by omega, if_neg (by omega), if_pos hi, climbF_more (n - 1) _ _ _ _ _ (by omega) (Nat.le_refl _)]
theorem climb_right (x : H4) (i n : Nat) (p : List H4) (h : 2 ≤ n) (hi : ¬ i < half n) : climbL x i n p = nodeL (p.getLastD noS) (climbL x (i - half n) (n - half n) p.dropLast) := by
  have h1 := half_lt n h
  have h2 := half_pos n h
  unfold climbL
  conv => lhs; rw [show n = (n - 1) + 1 by omega]
  simp only [climbF]
  rw [show n - 1 + 1 = n by omega, if_neg (by omega), if_neg hi, climbF_more (n - 1) _ _ _ _ _ (by omega) (Nat.le_refl _)]
/-- A path has as many roots as it is deep. -/
theorem path_length (ls : List H4) (i : Nat) : (path ls i).length = deep i ls.length := by
  induction hn : ls.length using Nat.strongRecOn generalizing ls i with
  | ind n ih =>
    by_cases h : n ≤ 1
    · rw [path_one _ _ (by omega), deep_one _ _ h]; rfl
    · have h1 := half_lt n (by omega)
      have h2 := half_pos n (by omega)
      by_cases hi : i < half n
      · rw [path_left _ _ (by omega) (by rw [hn]; exact hi), deep_left _ _ (by omega) hi, List.length_append, ih (half n) h1 _ _ (by simp [hn]; omega)]; rfl
      · rw [path_right _ _ (by omega) (by rw [hn]; exact hi), deep_right _ _ (by omega) hi, List.length_append, hn, ih (n - half n) (by omega) _ _ (by simp [hn])]; rfl
/-- From a leaf its path leads to the root; from whatever stands in its place to the root with that in its place. -/
theorem climb_path (ls : List H4) (i : Nat) (hi : i < ls.length) : climbL (ls[i]) i ls.length (path ls i) = rt ls := by
  induction hn : ls.length using Nat.strongRecOn generalizing ls i with
  | ind n ih =>
    by_cases h : n ≤ 1
    · rw [climb_one _ _ _ _ h]
      match ls, hi, hn with
      | [x], hi, _ =>
        have : i = 0 := by simp at hi; omega
        subst this; rfl
      | [], hi, _ => simp at hi
      | _ :: _ :: _, _, hn => simp at hn; omega
    · have h1 := half_lt n (by omega)
      have h2 := half_pos n (by omega)
      have hs := rt_split ls (by omega)
      rw [hn] at hs
      by_cases hh : i < half n
      · have := ih (half n) h1 (ls.take (half n)) i (by simp; omega) (by simp; omega)
        rw [climb_left _ _ _ _ (by omega) hh, path_left _ _ (by omega) (by rw [hn]; exact hh), hn]
        simp only [List.dropLast_concat, List.getLastD_concat]
        rw [hs, ← this]
        simp
      · have := ih (n - half n) (by omega) (ls.drop (half n)) (i - half n) (by simp; omega) (by simp; omega)
        rw [climb_right _ _ _ _ (by omega) hh, path_right _ _ (by omega) (by rw [hn]; exact hh), hn]
        simp only [List.dropLast_concat, List.getLastD_concat]
        rw [hs, ← this]
        simp only [List.getElem_drop, show half n + (i - half n) = i by omega]
end Go.Proofs.YtepehjalpkfniaaDoor
