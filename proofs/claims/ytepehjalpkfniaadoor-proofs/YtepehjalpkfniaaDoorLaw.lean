/-
  OWN. What the statement Roots asks of plain's Climb, in each case. No project text.
-/
import Derived.Test.YtepehjalpkfniaaDoorLentAll
namespace Go.Proofs.YtepehjalpkfniaaDoor
open Go.RowKit

theorem zero_hv : zeroH = hv ((0 : UInt8), (0 : UInt8), (0 : UInt8), (0 : UInt8)) := rfl
theorem pclimb_bad (v : Value) (l : List UInt8) (pl m : Int) (q : ByteArray) (w : World) (hg : Gl w) (hl : Byts w v l) (hq : q.size ≤ 140737488351232) (h : m < 1 ∨ 4096 < m ∨ pl < 0 ∨ m ≤ pl) :
    Calls Tryd.prog 16 #[v, .int .i64 pl, .int .i64 m, .string q] w fun e w' => e = .returned (.tuple #[str [0, 0, 0, 0], argE]) ∧ Below w.heap.size w w' := by
  have hql : q.data.toList.length ≤ 140737488355328 := by rw [Array.length_toList]; show q.size ≤ _; omega
  refine pclimb_of v l pl m q q.data.toList ((0 : UInt8), (0 : UInt8), (0 : UInt8), (0 : UInt8)) (.iface 22 (.int .i64 9)) argE w hg hl rfl hql ?_ (fun W hW => told_kind 9 W hW) ⟨9, rfl⟩
  intro a cap W _ _
  exact sclimb_bad v pl m a _ cap W h
theorem pclimb_short (v : Value) (l : List UInt8) (pl m : Nat) (q : ByteArray) (w : World) (hg : Gl w) (hl : Byts w v l) (hq : q.size ≤ 140737488351232) (hi : pl < m) (hm : m ≤ 4096) (hd : q.size / 4 ≠ deep pl m) :
    Calls Tryd.prog 16 #[v, .int .i64 (pl : Int), .int .i64 (m : Int), .string q] w fun e w' => e = .returned (.tuple #[str [0, 0, 0, 0], argE]) ∧ Below w.heap.size w w' := by
  have hqs : q.data.toList.length = q.size := by rw [Array.length_toList]; rfl
  refine pclimb_of v l pl m q q.data.toList ((0 : UInt8), (0 : UInt8), (0 : UInt8), (0 : UInt8)) (.iface 22 (.int .i64 9)) argE w hg hl rfl (by omega) ?_ (fun W hW => told_kind 9 W hW) ⟨9, rfl⟩
  intro a cap W _ _
  exact sclimb_short v pl m a _ cap W hi hm (by rw [chunks_len, hqs]; exact hd)
theorem pclimb_okq (v : Value) (l : List UInt8) (pl m : Nat) (q : ByteArray) (w : World) (hg : Gl w) (hl : Byts w v l) (hq : q.size ≤ 140737488351232) (hi : pl < m) (hm : m ≤ 4096) (hd : q.size / 4 = deep pl m) :
    Calls Tryd.prog 16 #[v, .int .i64 (pl : Int), .int .i64 (m : Int), .string q] w fun e w' => e = .returned (.tuple #[str (bs (climbL (leafL l) pl m (chunks q.data.toList))), fineE]) ∧ Below w.heap.size w w' := by
  have hqs : q.data.toList.length = q.size := by rw [Array.length_toList]; rfl
  refine pclimb_of v l pl m q q.data.toList _ .nilIface fineE w hg hl rfl (by omega) ?_ (fun W _ => told_nil W) ⟨0, rfl⟩
  intro a cap W h1 h2
  exact sclimb_ok v l pl m a _ cap _ W h1 h2 rfl hi hm (by rw [chunks_len, hqs]; exact hd)
theorem chunks_take (l : List UInt8) : (chunks l).flatMap bs = l.take (l.length / 4 * 4) := by
  induction hn : l.length using Nat.strongRecOn generalizing l with
  | ind n ih =>
    by_cases h : l.length < 4
    · rw [chunks_short l h, show n / 4 * 4 = 0 by omega]; rfl
    · obtain ⟨a, b, c, d, r, rfl⟩ := drop4 l (by omega)
      simp only [List.length_cons] at hn
      simp only [chunks, List.flatMap_cons]
      rw [ih r.length (by omega) r rfl, show n / 4 * 4 = r.length / 4 * 4 + 4 by omega]
      rfl
theorem extract_chunks (q : ByteArray) (k : Nat) (hk : k = q.size / 4) : q.extract 0 (k * 4) = ⟨((chunks q.data.toList).flatMap bs).toArray⟩ := by
  have hqs : q.data.toList.length = q.size := by rw [Array.length_toList]; rfl
  apply ByteArray.ext
  apply Array.toList_inj.1
  rw [Lib.extract_data, chunks_take, hqs, hk]
  simp
end Go.Proofs.YtepehjalpkfniaaDoor
