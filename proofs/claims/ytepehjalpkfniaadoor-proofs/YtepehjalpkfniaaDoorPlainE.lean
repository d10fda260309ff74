/-
  OWN. plain's Extends and Attested, by the contracts of the calls behind them; the statement's own helper four: walked. No project text.
-/
import Derived.Test.YtepehjalpkfniaaDoorRefE
import Derived.Test.YtepehjalpkfniaaDoorLaw
namespace Go.Proofs.YtepehjalpkfniaaDoor
open Go.RowKit

def proofE : Value := .agg #[.int .i64 19, .string ⟨#[]⟩, .bool true]
/-- The first four bytes of a text, noughts behind. -/
def fourL (l : List UInt8) : H4 := (l.getD 0 0, l.getD 1 0, l.getD 2 0, l.getD 3 0)

set_option maxHeartbeats 1000000 in
theorem four_any (s : ByteArray) (w : World) (hs : s.size ≤ 140737488355328) :
    Calls Tryd.prog 20 #[.string s] w fun e w' => e = .returned (str (bs (fourL s.data.toList))) ∧ w = w' := by
  have hz : (⟨#[0, 0, 0, 0]⟩ : ByteArray).size = 4 := rfl
  have ad := fun W => run_string_add_sum (P := Tryd.prog) W s ⟨#[0, 0, 0, 0]⟩ (by omega)
  have hsz : (s ++ (⟨#[0, 0, 0, 0]⟩ : ByteArray)).size = s.size + 4 := by rw [ByteArray.size_append, hz]
  have HX : Hid ((s ++ (⟨#[0, 0, 0, 0]⟩ : ByteArray)).extract 0 4 = ⟨(bs (fourL s.data.toList)).toArray⟩) := by
    show _ = _
    apply ByteArray.ext
    apply Array.toList_inj.1
    rw [Lib.extract_data, ByteArray.data_append, Array.toList_append]
    generalize s.data.toList = l
    match l with
    | [] => rfl
    | [a] => rfl
    | [a, b] => rfl
    | [a, b, c] => rfl
    | a :: b :: c :: d :: r => rfl
  generalize (s ++ (⟨#[0, 0, 0, 0]⟩ : ByteArray)) = X at *
  have h4 : (4 : Int) ≤ (X.size : Int) := by omega
  unfold str
  go_enter Tryd.func20, Tryd.ntmps20
  go_wp2
  go_ret
  exact ⟨by rw [HX.out]; rfl, rfl⟩

theorem errT_below {w w' : World} {n : Nat} (h : ErrT w) (hb : Below n w w') (hn : w.heap.size ≤ n) : ErrT w' := h.below hb (Nat.lt_of_lt_of_le h.lt hn)
/-- A digest. -/
def dg (b : Int) (h : H4) : Value := .agg #[.int .i64 b, B h.1, B h.2.1, B h.2.2.1, B h.2.2.2]
def noE (ok : Bool) : Value := bif ok then .nilIface else .iface 22 (.int .i64 19)
def toldE (ok : Bool) : Value := bif ok then fineE else proofE
/-- What is asked of the program's Extends: in whatever world the proof is lent. -/
def ExtAt : Prop := ∀ (b m : Int) (h g : H4) (v : Value) (l : List UInt8) (blk : Nat) (W : World), (-9223372036854775808 ≤ b ∧ b ≤ 9223372036854775807) → (-9223372036854775808 ≤ m ∧ m ≤ 9223372036854775807) → ErrT W → LentAt W v l blk →
  Calls Tryd.prog 37 #[dg b h, dg m g, v] W fun e w' => e = .returned (noE (extB b h m g l)) ∧ Below W.heap.size W w'

set_option maxHeartbeats 1000000 in
theorem pextends_of (hE : ExtAt) (b m : Int) (h g : H4) (v : Value) (l : List UInt8) (blk : Nat) (w : World) (wb : -9223372036854775808 ≤ b ∧ b ≤ 9223372036854775807) (wm : -9223372036854775808 ≤ m ∧ m ≤ 9223372036854775807) (hg : ErrT w) (hl : LentAt w v l blk) (hbk : blk < w.heap.size) :
    Calls Tryd.prog 21 #[.int .i64 b, str (bs h), .int .i64 m, str (bs g), v] w fun e w' => e = .returned (toldE (extB b h m g l)) ∧ Below w.heap.size w w' := by
  have HE := hide (fun W h1 h2 => hE b m h g v l blk W wb wm h1 h2)
  have HGL := hide hg
  have HLN := hide hl
  obtain ⟨h0, h1, h2, h3⟩ := h
  obtain ⟨g0, g1, g2, g3⟩ := g
  have HH := hide (fun W => hash_text ⟨(bs (h0, h1, h2, h3)).toArray⟩ [] h0 h1 h2 h3 W rfl)
  have HG := hide (fun W => hash_text ⟨(bs (g0, g1, g2, g3)).toArray⟩ [] g0 g1 g2 g3 W rfl)
  unfold str
  generalize extB b (h0, h1, h2, h3) m (g0, g1, g2, g3) l = ok at *
  generalize (⟨(bs (h0, h1, h2, h3)).toArray⟩ : ByteArray) = SH at *
  generalize (⟨(bs (g0, g1, g2, g3)).toArray⟩ : ByteArray) = SG at *
  simp only [hv, B, dg] at HH HG HE
  clear hg hl hE
  go_enter Tryd.func21, Tryd.ntmps21
  go_wp2_with fail
  refine (HH.out _).mono ?_
  rintro e w1 ⟨rfl, hb1⟩
  have B0 : Hid (Below w.heap.size w (w.alloc (.cells #[.int .i64 0, .string ⟨#[]⟩, .bool false] 24))) := (Below.refl _ _).alloc (Nat.le_refl _) _
  have B1 : Hid (Below w.heap.size w w1) := B0.out.trans (hb1.mono (by simp))
  have S0 : Slot3 _ _ _ _ _ := slot3_mk w 24 (.int .i64 0) (.string ⟨#[]⟩) (.bool false)
  have S1 := hide (S0.below hb1 (by simp))
  have z1 : w.heap.size < w1.heap.size := by have := hb1.size; simp at this; omega
  clear hb1 S0
  go_wp2_with fail
  refine (HG.out _).mono ?_
  rintro e w2 ⟨rfl, hb2⟩
  have B2 : Hid (Below w.heap.size w w2) := B1.out.trans (hb2.mono (by omega))
  have S2 := hide (S1.out.below hb2 z1)
  have z2 : w.heap.size < w2.heap.size := by have := hb2.size; omega
  clear hb2 S1
  go_wp2_with fail
  refine (HE.out _ ?h1 ?h2).mono ?_
  case h1 => exact errT_below HGL.out B2.out (Nat.le_refl _)
  case h2 => exact HLN.out.keep (B2.out.block _ hbk)
  rintro e w3 ⟨rfl, hb3⟩
  have B3 : Hid (Below w.heap.size w w3) := B2.out.trans (hb3.mono (by omega))
  have S3 := hide (S2.out.below hb3 z2)
  have z3 : w.heap.size < w3.heap.size := by have := hb3.size; omega
  clear hb3 S2
  have HT : Hid (Calls Tryd.prog 28 #[noE ok] w3 fun e w' => e = .returned (toldE ok) ∧ Below w3.heap.size w3 w') := by
    cases ok
    · exact told_kind 19 w3 (errT_below HGL.out B3.out (Nat.le_refl _))
    · exact told_nil w3
  go_wp2_with fail
  refine HT.out.mono ?_
  rintro e w4 ⟨rfl, hb4⟩
  obtain ⟨c0, c1, c2, cf⟩ := S3.out.below hb4 z3
  have B4 : Hid (Below w.heap.size w w4) := B3.out.trans (hb4.mono (by omega))
  clear hb4 S3 HT HE HH HG
  obtain ⟨kk, hkk⟩ : ∃ kk : Int, toldE ok = .agg #[.int .i64 kk, .string ⟨#[]⟩, .bool true] := by cases ok; exact ⟨19, rfl⟩; exact ⟨0, rfl⟩
  rw [hkk]
  have HK := hide hkk
  clear hkk
  go_wp2
  refine bodyPost_ret (v := .agg #[.int .i64 kk, .string ⟨#[]⟩, .bool true]) (by simp [results, Tryd.results21, go_sem, c0, c1, c2]) rfl ⟨by rw [HK.out], ?_⟩
  exact Below.setCell (Below.setCell (Below.setCell B4.out (Nat.le_refl _) _) (Nat.le_refl _) _) (Nat.le_refl _) _
end Go.Proofs.YtepehjalpkfniaaDoor
