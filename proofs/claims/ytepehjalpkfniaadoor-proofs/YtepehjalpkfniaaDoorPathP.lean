/-
  OWN. A path that is read (chain: parts, path), walked. No project text.
-/
import Derived.Test.YtepehjalpkfniaaDoorDig
import Derived.Test.YtepehjalpkfniaaDoorClimb
import Derived.Test.YtepehjalpkfniaaDoorClimbW
namespace Go.Proofs.YtepehjalpkfniaaDoor
open Go.RowKit

theorem nx_nx (k : Nat) (c : List UInt8 × Bool) : nx 4 (nx (4 * k) c) = nx (4 * (k + 1)) c := by
  apply Prod.ext
  · simp only [nx, List.drop_drop]
    congr 1
  · simp only [nx, List.length_drop]
    rw [Bool.or_assoc]
    congr 1
    rw [← Bool.decide_or]
    apply decide_eq_decide.2
    omega
theorem nx_zero (c : List UInt8 × Bool) : nx (4 * 0) c = c := by
  simp [nx]
/-- So many sums off a text; noughts where it has no more. -/
def padL (l : List UInt8) (n : Nat) : List H4 := (List.range n).map fun k => pad4 ((l.drop (4 * k)).take 4)
theorem padL_len (l : List UInt8) (n : Nat) : (padL l n).length = n := by simp [padL]
theorem padL_succ (l : List UInt8) (n : Nat) : padL l (n + 1) = padL l n ++ [pad4 ((l.drop (4 * n)).take 4)] := by simp [padL, List.range_succ]
theorem padL_chunks (l : List UInt8) (n : Nat) (h : 4 * n ≤ l.length) : padL l n = chunks (l.take (4 * n)) := by
  induction n generalizing l with
  | zero => simp [padL, chunks]
  | succ n ih =>
    obtain ⟨a, b, c, d, r, rfl⟩ := drop4 l (by omega)
    have e1 : padL (a :: b :: c :: d :: r) (n + 1) = (a, b, c, d) :: padL r n := by
      simp only [padL, List.range_succ_eq_map, List.map_cons, List.map_map]
      congr 1
    rw [e1, show 4 * (n + 1) = 4 * n + 4 by omega]
    simp only [List.take_succ_cons, chunks]
    rw [ih r (by simp only [List.length_cons] at h; omega)]

theorem cells_zero (n : Nat) : cellsH (List.replicate n zero4) = List.replicate (n * 4) (B 0) := by
  induction n with
  | zero => rfl
  | succ n ih => rw [List.replicate_succ, cellsH_cons, ih, show (n + 1) * 4 = n * 4 + 1 + 1 + 1 + 1 by omega]; rfl
theorem made_zero (n : Nat) : (madeCells #[Value.int .u8 0, .int .u8 0, .int .u8 0, .int .u8 0] (n * 4)).toList = cellsH (List.replicate n zero4) := by
  rw [cells_zero]
  apply List.eq_replicate_iff.2
  constructor
  · rw [Array.length_toList, size_madeCells]
  · intro v hv
    unfold madeCells at hv
    rw [Array.mem_toList_iff, Array.mem_map] at hv
    obtain ⟨j, _, rfl⟩ := hv
    show (#[Value.int .u8 0, .int .u8 0, .int .u8 0, .int .u8 0] : Array Value)[j % 4]! = B 0
    have h : j % 4 < 4 := Nat.mod_lt _ (by decide)
    generalize j % 4 = q at h
    match q, h with
    | 0, _ => rfl
    | 1, _ => rfl
    | 2, _ => rfl
    | 3, _ => rfl

theorem Own.but {w w' : World} {base r : Nat} {v : Value} {hs : List H4} (h : Own w base v hs) (hb : But r w.heap.size w w') (hr : r < base) : Own w' base v hs := by
  refine h.kept (row := Option.some r) ⟨hb.os, hb.tape, hb.output, hb.size, fun k hk hne => hb.block k hk (fun e => hne (by rw [e]))⟩ ?_
  by_cases e : v.ownBlock = none
  · exact .inl e
  · refine .inr (fun e' => ?_)
    have := h.lt r e'
    omega
theorem set_done (l : List UInt8) (k n : Nat) (h : k < n) : (padL l k ++ List.replicate (n - k) zero4).set k (pad4 ((l.drop (4 * k)).take 4)) = padL l (k + 1) ++ List.replicate (n - (k + 1)) zero4 := by
  rw [padL_succ, List.append_assoc, List.set_append_right _ _ (by rw [padL_len]; exact Nat.le_refl _), padL_len, Nat.sub_self]
  congr 1
  rw [show n - k = (n - (k + 1)) + 1 by omega, List.replicate_succ]
  rfl
theorem done_len (l : List UInt8) (k n : Nat) (h : k ≤ n) : (padL l k ++ List.replicate (n - k) zero4).length = n := by
  rw [List.length_append, padL_len, List.length_replicate]; omega
theorem done_all (l : List UInt8) (n : Nat) : padL l n ++ List.replicate (n - n) zero4 = padL l n := by rw [Nat.sub_self]; simp
end Go.Proofs.YtepehjalpkfniaaDoor
