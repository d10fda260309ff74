/-
  OWN. A text that is taken apart (chain: parts), walked: next, number. No project text.
-/
import Derived.Test.YtepehjalpkfniaaDoorNum
namespace Go.Proofs.YtepehjalpkfniaaDoor
open Go.RowKit

/-- All blocks below n but the one numbered r are as they were. -/
structure But (r n : Nat) (w w' : World) : Prop where
  os : w'.os = w.os
  tape : w'.tape = w.tape
  output : w'.output = w.output
  size : w.heap.size ≤ w'.heap.size
  block : ∀ k, k < n → k ≠ r → w'.heap[k]? = w.heap[k]?
theorem But.refl (r n : Nat) (w : World) : But r n w w := ⟨rfl, rfl, rfl, Nat.le_refl _, fun _ _ _ => rfl⟩
theorem But.trans {r n : Nat} {a b c : World} (h : But r n a b) (k : But r n b c) : But r n a c :=
  ⟨k.os.trans h.os, k.tape.trans h.tape, k.output.trans h.output, Nat.le_trans h.size k.size, fun i hi hr => (k.block i hi hr).trans (h.block i hi hr)⟩
theorem But.mono {r n n' : Nat} {w w' : World} (h : But r n w w') (hn : n' ≤ n) : But r n' w w' := ⟨h.os, h.tape, h.output, h.size, fun k hk hr => h.block k (Nat.lt_of_lt_of_le hk hn) hr⟩
theorem But.drew {r n : Nat} {a w : World} (h : But r n a w) : But r n a w.drew := ⟨h.os, h.tape, h.output, h.size, h.block⟩
theorem But.of_drew {r n : Nat} {w w' : World} (h : But r n w.drew w') : But r n w w' := ⟨h.os, h.tape, h.output, h.size, h.block⟩
theorem But.of_below {r n : Nat} {w w' : World} (h : Below n w w') : But r n w w' := ⟨h.os, h.tape, h.output, h.size, fun k hk _ => h.block k hk⟩
theorem But.below {r n m : Nat} {w w' : World} (h : But r n w w') (hm : m ≤ n) (hr : m ≤ r) : Below m w w' := ⟨h.os, h.tape, h.output, h.size, fun k hk => h.block k (by omega) (by omega)⟩
theorem But.alloc {r n : Nat} {a w : World} (h : But r n a w) (hn : n ≤ w.heap.size) (o : Obj) : But r n a (w.alloc o) :=
  h.trans (But.of_below ((Below.refl n w).alloc hn o))
theorem But.setCell {r n : Nat} {a w : World} (h : But r n a w) (p : Addr) (hp : p.block = r ∨ n ≤ p.block) (u : Value) : But r n a (w.setCell p u) :=
  h.trans ⟨rfl, rfl, rfl, by simp [World.setCell], fun k hk hr => Below.heap_setCell _ _ _ _ (by omega)⟩
theorem But.cell {r n : Nat} {w w' : World} (h : But r n w w') {p : Addr} (hp : p.block < n) (hr : p.block ≠ r) : w'.cell? p = w.cell? p := World.cell?_of_block (w := w) (h.block p.block hp hr)
theorem But.frozen {r n : Nat} {w w' : World} (h : But r n w w') {p : Addr} (hp : p.block < n) (hr : p.block ≠ r) : w'.frozen? p = w.frozen? p := World.frozen?_of_block (w := w) (h.block p.block hp hr)

/-- Bytes at a place in a block. -/
def InB (w : World) (b off : Nat) (l : List UInt8) : Prop := b < w.heap.size ∧ ∀ i, i < l.length → w.cell? ⟨b, off + i, none⟩ = some (B (l.getD i 0))
theorem InB.but {w w' : World} {b off r n : Nat} {l : List UInt8} (h : InB w b off l) (hb : But r n w w') (hn : b < n) (hr : b ≠ r) : InB w' b off l :=
  ⟨Nat.lt_of_lt_of_le h.1 hb.size, fun i hi => (hb.cell (p := ⟨b, off + i, none⟩) hn hr).trans (h.2 i hi)⟩
theorem InB.below {w w' : World} {b off n : Nat} {l : List UInt8} (h : InB w b off l) (hb : Below n w w') (hn : b < n) : InB w' b off l :=
  ⟨Nat.lt_of_lt_of_le h.1 hb.size, fun i hi => (hb.cell (p := ⟨b, off + i, none⟩) hn).trans (h.2 i hi)⟩
theorem InB.take {w : World} {b off : Nat} {l : List UInt8} (h : InB w b off l) (n : Nat) : InB w b off (l.take n) := by
  refine ⟨h.1, fun i hi => ?_⟩
  rw [List.length_take] at hi
  rw [h.2 i (by omega)]
  congr 2
  rw [List.getD_eq_getElem?_getD, List.getD_eq_getElem?_getD, List.getElem?_take_of_lt (by omega)]
theorem InB.drop {w : World} {b off : Nat} {l : List UInt8} (h : InB w b off l) (n : Nat) : InB w b (off + n) (l.drop n) := by
  refine ⟨h.1, fun i hi => ?_⟩
  rw [List.length_drop] at hi
  rw [Nat.add_assoc, h.2 (n + i) (by omega)]
  congr 2
  rw [List.getD_eq_getElem?_getD, List.getD_eq_getElem?_getD, List.getElem?_drop]
theorem InB.byts {w : World} {b off cap : Nat} {l : List UInt8} (h : InB w b off l) (hl : l.length ≤ 140737488355328) : Byts w (.slice (some ⟨b, off, none⟩) l.length cap) l :=
  ⟨_, cap, rfl, hl, fun i hi => ⟨b, off, rfl, h.1, h.2 i hi⟩⟩

/-- A text that is being taken apart: what is left of it lies in block b; was there too little? -/
def Prt (w : World) (r b : Nat) (c : List UInt8 × Bool) : Prop :=
  ∃ off cap, w.cell? ⟨r, 0, none⟩ = some (.slice (some ⟨b, off, none⟩) c.1.length cap) ∧ w.cell? ⟨r, 1, none⟩ = some (.bool c.2) ∧ (∀ o, w.frozen? ⟨r, o, none⟩ = false) ∧ r ≠ b ∧ c.1.length ≤ cap ∧ c.1.length ≤ 140737488351232 ∧ cap ≤ 140737488355328 ∧ InB w b off c.1
theorem Prt.lt {w : World} {r b : Nat} {c : List UInt8 × Bool} (h : Prt w r b c) : r < w.heap.size := by
  obtain ⟨off, cap, h0, _⟩ := h
  rcases Nat.lt_or_ge r w.heap.size with h' | h'
  · exact h'
  · simp [World.cell?, Array.getElem?_eq_none h'] at h0
theorem Prt.below {w w' : World} {r b n : Nat} {c : List UInt8 × Bool} (h : Prt w r b c) (hb : Below n w w') (hr : r < n) (hbn : b < n) : Prt w' r b c := by
  obtain ⟨off, cap, h0, h1, hf, hne, hl, hl2, hl3, hi⟩ := h
  exact ⟨off, cap, (hb.cell (p := ⟨r, 0, none⟩) hr).trans h0, (hb.cell (p := ⟨r, 1, none⟩) hr).trans h1, fun o => (hb.frozen (p := ⟨r, o, none⟩) hr).trans (hf o), hne, hl, hl2, hl3, hi.below hb hbn⟩
/-- The next so many bytes, or less if there are less. -/
def nx (n : Nat) (c : List UInt8 × Bool) : List UInt8 × Bool := (c.1.drop n, c.2 || decide (c.1.length < n))

set_option maxRecDepth 100000 in
set_option maxHeartbeats 2000000 in
theorem next_any (r b n : Nat) (c : List UInt8 × Bool) (w : World) (hc : Prt w r b c) (hn : n ≤ 140737488351232) :
    Calls Tryd.prog 74 #[.pointer (some ⟨r, 0, none⟩), .int .i64 (n : Int)] w fun e w' => ∃ off, e = .returned (.slice (some ⟨b, off, none⟩) (c.1.take n).length (c.1.take n).length) ∧ InB w' b off (c.1.take n) ∧ Prt w' r b (nx n c) ∧ But r w.heap.size w w' ∧ w'.heap.size = w.heap.size := by
  obtain ⟨off, cap, h0, h1, hf, hne, hl, hl2, hl3, hi⟩ := hc
  obtain ⟨l, sh⟩ := c
  simp only at *
  have HI := hide hi
  have HF := hide hf
  have HNE := hide hne
  clear hi hne
  have P0 : Hid (∀ (v : List UInt8 × Bool) (k o c : Nat) (W : World), v.1 = l.drop k → k ≤ l.length → l.length - k ≤ c → c ≤ cap → (o = off + k ∨ k = l.length) → W.cell? ⟨r, 0, none⟩ = some (.slice (some ⟨b, o, none⟩) (l.length - k) c) → W.cell? ⟨r, 1, none⟩ = some (.bool v.2) → (∀ o, W.frozen? ⟨r, o, none⟩ = false) → InB W b off l → Prt W r b v) := by
    intro v k o c W hv hk hc1 hc2 ho g0 g1 gf gi
    refine ⟨o, c, ?_, g1, gf, HNE.out, ?_, ?_, ?_, ?_⟩
    · rw [hv, List.length_drop]; exact g0
    · rw [hv, List.length_drop]; omega
    · rw [hv, List.length_drop]; omega
    · omega
    · rw [hv]
      rcases ho with rfl | rfl
      · exact gi.drop k
      · rw [List.drop_of_length_le (Nat.le_refl _)]; exact ⟨gi.1, fun i hi => by simp at hi⟩
  by_cases hs : l.length < n
  · have HT : Hid (l.take n = l) := List.take_of_length_le (by omega)
    rw [HT.out]
    obtain ⟨o2, c2, hoc, ho1, ho2⟩ : ∃ o2 c2, Hid ((if cap = l.length then o2 = off ∧ c2 = 0 else o2 = off + l.length ∧ c2 = cap - l.length)) ∧ c2 ≤ cap ∧ 0 ≤ c2 := by
      by_cases hcn : cap = l.length
      · exact ⟨off, 0, by show (if _ then _ else _); rw [if_pos hcn]; exact ⟨rfl, rfl⟩, by omega, by omega⟩
      · exact ⟨off + l.length, cap - l.length, by show (if _ then _ else _); rw [if_neg hcn]; exact ⟨rfl, rfl⟩, by omega, by omega⟩
    have FIN : Hid (∃ offx, Ending.returned (.slice (some ⟨b, off, none⟩) l.length l.length) = Ending.returned (.slice (some ⟨b, offx, none⟩) l.length l.length) ∧ InB ((w.setCell ⟨r, 1, none⟩ (.bool true)).setCell ⟨r, 0, none⟩ (.slice (some ⟨b, o2, none⟩) 0 c2)) b offx l ∧ Prt ((w.setCell ⟨r, 1, none⟩ (.bool true)).setCell ⟨r, 0, none⟩ (.slice (some ⟨b, o2, none⟩) 0 c2)) r b (nx n (l, sh)) ∧ But r w.heap.size w ((w.setCell ⟨r, 1, none⟩ (.bool true)).setCell ⟨r, 0, none⟩ (.slice (some ⟨b, o2, none⟩) 0 c2)) ∧ ((w.setCell ⟨r, 1, none⟩ (.bool true)).setCell ⟨r, 0, none⟩ (.slice (some ⟨b, o2, none⟩) 0 c2)).heap.size = w.heap.size) := by
      have BW : But r w.heap.size w ((w.setCell ⟨r, 1, none⟩ (.bool true)).setCell ⟨r, 0, none⟩ (.slice (some ⟨b, o2, none⟩) 0 c2)) := ((But.refl _ _ w).setCell ⟨r, 1, none⟩ (.inl rfl) _).setCell ⟨r, 0, none⟩ (.inl rfl) _
      have IW := HI.out.but BW HI.out.1 (Ne.symm HNE.out)
      have e1 : (w.setCell ⟨r, 1, none⟩ (.bool true)).cell? ⟨r, 0, none⟩ = some (.slice (some ⟨b, off, none⟩) l.length cap) := by rw [World.cell?_setCell_other _ _ _ _ (by simp)]; exact h0
      have e2 : (w.setCell ⟨r, 1, none⟩ (.bool true)).cell? ⟨r, 1, none⟩ = some (.bool true) := World.cell?_setCell_same _ _ _ h1
      refine ⟨off, rfl, IW, ?_, BW, by simp [World.setCell]⟩
      refine P0.out (nx n (l, sh)) l.length o2 c2 _ ?_ (Nat.le_refl _) (by omega) ho1 (.inr rfl) ?_ ?_ ?_ IW
      · simp only [nx]; rw [List.drop_of_length_le (by omega), List.drop_of_length_le (Nat.le_refl _)]
      · rw [Nat.sub_self]; exact World.cell?_setCell_same _ _ _ e1
      · rw [World.cell?_setCell_other _ _ _ _ (by simp), e2]
        simp [nx, hs]
      · intro o; rw [World.frozen?_setCell, World.frozen?_setCell]; exact HF.out o
    clear P0 HT HI HF HNE
    by_cases hcn : cap = l.length
    · have hoc2 := hoc.out
      rw [if_pos hcn] at hoc2
      obtain ⟨rfl, rfl⟩ := hoc2
      subst hcn
      clear hoc
      go_enter Tryd.func74, Tryd.ntmps74
      go_wp2
      go_ret
      exact FIN.out
    · have hoc2 := hoc.out
      rw [if_neg hcn] at hoc2
      obtain ⟨rfl, rfl⟩ := hoc2
      clear hoc
      go_enter Tryd.func74, Tryd.ntmps74
      go_wp2
      go_ret
      exact FIN.out
  · have hle : n ≤ l.length := by omega
    clear hs
    have HT : Hid ((l.take n).length = n) := by show _ = _; rw [List.length_take]; omega
    rw [HT.out]
    obtain ⟨o2, c2, hoc, ho1⟩ : ∃ o2 c2, Hid ((if cap = n then o2 = off ∧ c2 = 0 else o2 = off + n ∧ c2 = cap - n)) ∧ (c2 ≤ cap ∧ l.length - n ≤ c2 ∧ (o2 = off + n ∨ n = l.length)) := by
      by_cases hcn : cap = n
      · exact ⟨off, 0, by show (if _ then _ else _); rw [if_pos hcn]; exact ⟨rfl, rfl⟩, by omega, by omega, .inr (by omega)⟩
      · exact ⟨off + n, cap - n, by show (if _ then _ else _); rw [if_neg hcn]; exact ⟨rfl, rfl⟩, by omega, by omega, .inl rfl⟩
    have FIN : Hid (∃ offx, Ending.returned (.slice (some ⟨b, off, none⟩) n n) = Ending.returned (.slice (some ⟨b, offx, none⟩) n n) ∧ InB (w.setCell ⟨r, 0, none⟩ (.slice (some ⟨b, o2, none⟩) (l.length - n) c2)) b offx (l.take n) ∧ Prt (w.setCell ⟨r, 0, none⟩ (.slice (some ⟨b, o2, none⟩) (l.length - n) c2)) r b (nx n (l, sh)) ∧ But r w.heap.size w (w.setCell ⟨r, 0, none⟩ (.slice (some ⟨b, o2, none⟩) (l.length - n) c2)) ∧ (w.setCell ⟨r, 0, none⟩ (.slice (some ⟨b, o2, none⟩) (l.length - n) c2)).heap.size = w.heap.size) := by
      have BW : But r w.heap.size w (w.setCell ⟨r, 0, none⟩ (.slice (some ⟨b, o2, none⟩) (l.length - n) c2)) := (But.refl _ _ w).setCell ⟨r, 0, none⟩ (.inl rfl) _
      have IW := HI.out.but BW HI.out.1 (Ne.symm HNE.out)
      refine ⟨off, rfl, IW.take n, ?_, BW, by simp [World.setCell]⟩
      refine P0.out (nx n (l, sh)) n o2 c2 _ rfl hle ho1.2.1 ho1.1 ho1.2.2 (World.cell?_setCell_same _ _ _ h0) ?_ ?_ IW
      · rw [World.cell?_setCell_other _ _ _ _ (by simp), h1]
        have hd : decide (l.length < n) = false := decide_eq_false (by omega)
        simp [nx, hd]
      · intro o; rw [World.frozen?_setCell]; exact HF.out o
    clear P0 HT HI HF HNE ho1
    by_cases hcn : cap = n
    · have hoc2 := hoc.out
      rw [if_pos hcn] at hoc2
      obtain ⟨rfl, rfl⟩ := hoc2
      subst hcn
      clear hoc
      go_enter Tryd.func74, Tryd.ntmps74
      go_wp2
      go_ret
      have hF := FIN.out
      rw [show l.length - cap = 0 by omega] at hF
      exact hF
    · have hoc2 := hoc.out
      rw [if_neg hcn] at hoc2
      obtain ⟨rfl, rfl⟩ := hoc2
      clear hoc
      go_enter Tryd.func74, Tryd.ntmps74
      go_wp2
      go_ret
      exact FIN.out

theorem InB.conv {w : World} {b off : Nat} {l : List UInt8} {cap : Nat} (h : InB w b off l) : (convert 37 9 (.slice (some ⟨b, off, none⟩) l.length cap)).run Tryd.prog w = .ok (.string ⟨l.toArray⟩) w := by
  refine run_convert_bytes_back (P := Tryd.prog) w 37 9 5 ⟨b, off, none⟩ cap l Tryd.underlying37 Tryd.underlying5 Tryd.underlying9 ?_
  intro j hj
  rw [show (⟨b, off, none⟩ : Addr).add j = ⟨b, off + j, none⟩ by unfold Addr.add; split <;> simp_all, h.2 j hj]
  simp [B, hj]

theorem numL_take_lt (k : Nat) (l : List UInt8) : numL (l.take k) < 256 ^ k := Nat.lt_of_lt_of_le (numL_lt _) (Nat.pow_le_pow_right (by decide) (by rw [List.length_take]; omega))
set_option maxRecDepth 100000 in
set_option maxHeartbeats 2000000 in
theorem number_any (r b k : Nat) (c : List UInt8 × Bool) (w : World) (hc : Prt w r b c) (hk : k ≤ 8) :
    Calls Tryd.prog 71 #[.pointer (some ⟨r, 0, none⟩), .int .i64 (k : Int)] w fun e w' => e = .returned (.int .i64 (wrap64 (numL (c.1.take k) : Int))) ∧ Prt w' r b (nx k c) ∧ But r w.heap.size w w' ∧ w'.heap.size = w.heap.size := by
  have HT := hide (next_any r b k c w hc (by omega))
  have hsz : (⟨(c.1.take k).toArray⟩ : ByteArray).size ≤ 8 := by show (c.1.take k).toArray.size ≤ 8; simp; omega
  have HN := hide (fun W => nread_any ⟨(c.1.take k).toArray⟩ (c.1.take k) W (by simp) hsz)
  have hlt := numL_take_lt k c.1
  have hlt2 : numL (c.1.take k) < 18446744073709551616 := Nat.lt_of_lt_of_le hlt (Nat.le_trans (Nat.pow_le_pow_right (by decide) hk) (by decide))
  generalize c.1.take k = t at *
  generalize numL t = v at *
  clear hc hlt
  go_enter Tryd.func71, Tryd.ntmps71
  go_wp2_with fail
  refine HT.out.mono ?_
  rintro e w1 ⟨off, rfl, hi1, hp1, hb1, hs1⟩
  have hcv := hi1.conv (cap := t.length)
  have HP1 := hide hp1
  have HB1 := hide hb1
  have HS1 := hide hs1
  clear hi1 hp1 hb1 hs1 HT
  generalize (⟨t.toArray⟩ : ByteArray) = S at *
  go_wp2_with fail
  refine (HN.out _).mono ?_
  rintro e w2 ⟨rfl, rfl⟩
  clear hcv HN
  go_wp2
  go_ret
  exact ⟨rfl, HP1.out, HB1.out, HS1.out⟩
end Go.Proofs.YtepehjalpkfniaaDoor
