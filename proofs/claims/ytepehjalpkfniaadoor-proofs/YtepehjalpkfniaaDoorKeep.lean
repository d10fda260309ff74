/-
  OWN. The statement Climbed, walked: its helpers, the bytes of texts, the list of leaves. No project text.
-/
import Derived.Test.YtepehjalpkfniaaDoorClimbW
import Derived.Laws.IdiomStrings
namespace Go.Proofs.YtepehjalpkfniaaDoor
open Go.RowKit

/-- The slice u is a row of bytes of its own kind: the bytes l. -/
def BB (w : World) (u : Value) (l : List UInt8) : Prop :=
  ∃ b cap cs fr, u = .slice (some ⟨b, 0, none⟩) l.length cap ∧ w.heap[b]? = some (.cells cs 5 fr) ∧ l.length ≤ 140737488355328 ∧ ∀ j, j < l.length → cs[j]? = some (B (l.getD j 0))
theorem BB.byts {w : World} {u : Value} {l : List UInt8} (h : BB w u l) : Byts w u l := by
  obtain ⟨b, cap, cs, fr, e, hh, hl, hc⟩ := h
  refine ⟨_, cap, e, hl, fun i hi => ⟨b, 0, rfl, (Array.getElem?_eq_some_iff.1 hh).1, ?_⟩⟩
  rw [Nat.zero_add, cell_of_row w b i cs _ fr hh]
  exact hc i hi
theorem BB.below {w w' : World} {u : Value} {l : List UInt8} {n : Nat} (h : BB w u l) (hb : Below n w w') (hn : w.heap.size ≤ n) : BB w' u l := by
  obtain ⟨b, cap, cs, fr, e, hh, hl, hc⟩ := h
  have hlt := (Array.getElem?_eq_some_iff.1 hh).1
  exact ⟨b, cap, cs, fr, e, (hb.block b (by omega)).trans hh, hl, hc⟩
/-- A row of slices that grows leaves rows of bytes alone. -/
theorem BB.grown {w w' : World} {u v : Value} {l : List UInt8} {base n : Nat} {xs : List Value} (h : BB w u l) (ho : w.ownsRow base 37 1 v n xs) (hg : w.grownBy w' v.ownBlock) : BB w' u l := by
  obtain ⟨b, cap, cs, fr, e, hh, hl, hc⟩ := h
  have hlt := (Array.getElem?_eq_some_iff.1 hh).1
  refine ⟨b, cap, cs, fr, e, (hg.block b hlt ?_).trans hh, hl, hc⟩
  intro eb
  rcases ho.2 with ⟨rfl, _⟩ | ⟨g, cap', cur, rfl, _, hgg, _⟩
  · simp [Value.ownBlock] at eb
  · simp only [Value.ownBlock, Option.some.injEq] at eb
    rw [eb, hgg] at hh
    simp at hh
/-- []byte(s). -/
theorem conv_any (W : World) (s : ByteArray) (hs : s.size ≤ 140737488355328) : ∃ cap W2, (convert 9 37 (.string s)).run Tryd.prog W = .ok (.slice (some ⟨W.heap.size, 0, none⟩) s.size cap) W2 ∧ BB W2 (.slice (some ⟨W.heap.size, 0, none⟩) s.size cap) s.data.toList ∧ Below W.heap.size W W2 ∧ W2.heap.size = W.heap.size + 1 := by
  have h := run_bytes_of_string (P := Tryd.prog) W 9 37 5 s Tryd.underlying9 Tryd.underlying37 Tryd.underlying5
  have hsz : s.data.toList.length = s.size := by rw [Array.length_toList]; rfl
  refine ⟨_, _, h, ?_, (Below.refl _ _).drew.alloc (Nat.le_refl _) _, by simp⟩
  refine ⟨W.heap.size, _, bytesRow s (grownCap W s.size 0 5), _, by rw [hsz], heap_alloc_new W.drew _, by rw [hsz]; exact hs, fun j hj => ?_⟩
  rw [hsz] at hj
  unfold bytesRow
  have hj' : j < s.data.size := hj
  rw [Array.getElem?_append_left (by simpa using hj')]
  rw [Array.getElem?_map, Array.getElem?_eq_getElem hj', List.getD_eq_getElem?_getD, List.getElem?_eq_getElem (by rw [hsz]; exact hj)]
  rfl

set_option maxHeartbeats 1000000 in
theorem pick_any (c : Int) (n : Nat) (w : World) (hn : 1 ≤ n) (hn2 : n ≤ 64) (hc : -9223372036854775808 ≤ c ∧ c ≤ 9223372036854775807) :
    Calls Tryd.prog 26 #[.int .i64 c, .int .i64 (n : Int)] w fun e w' => (∃ k : Nat, k < n ∧ e = .returned (.int .i64 (k : Int))) ∧ w = w' := by
  by_cases h : c < 0
  · go_enter Tryd.func26, Tryd.ntmps26
    go_wp2
    go_ret
    have h1 : 0 ≤ -(c + 1) := by omega
    have h2 := Int.emod_nonneg (-(c + 1)) (show (n : Int) ≠ 0 by omega)
    have h3 := Int.emod_lt_of_pos (-(c + 1)) (show (0 : Int) < n by omega)
    refine ⟨⟨((-(c + 1)) % (n : Int)).toNat, by omega, ret_int ?_⟩, rfl⟩
    rw [← Int.neg_tmod, Int.tmod_eq_emod_of_nonneg h1]
    omega
  · go_enter Tryd.func26, Tryd.ntmps26
    go_wp2
    go_ret
    have h2 := Int.emod_nonneg c (show (n : Int) ≠ 0 by omega)
    have h3 := Int.emod_lt_of_pos c (show (0 : Int) < n by omega)
    refine ⟨⟨(c % (n : Int)).toNat, by omega, ret_int ?_⟩, rfl⟩
    omega

set_option maxHeartbeats 1000000 in
theorem fine_any (w : World) :
    Calls Tryd.prog 27 #[fineE] w fun e w' => e = .returned (.bool true) ∧ Below w.heap.size w w' := by
  unfold fineE
  go_enter Tryd.func27, Tryd.ntmps27
  go_wp2
  go_ret
  exact ⟨rfl, (Below.refl _ _).alloc (Nat.le_refl _) _⟩

/-- The text at a place of a list of texts. -/
def Txts (w : World) (a : Option Addr) (len : Nat) (ss : List ByteArray) : Prop :=
  ∀ i, i < len → ∃ b off, a = some ⟨b, off, none⟩ ∧ b < w.heap.size ∧ w.cell? ⟨b, off + i, none⟩ = some (.string (ss.getD i ByteArray.empty)) ∧ (ss.getD i ByteArray.empty).size ≤ 140737488351232
/-- The first so many of them, as bytes. -/
def lvs (ss : List ByteArray) (n : Nat) : List (List UInt8) := (List.range n).map fun i => (ss.getD i ByteArray.empty).data.toList
theorem lvs_len (ss : List ByteArray) (n : Nat) : (lvs ss n).length = n := by simp [lvs]
theorem lvs_get (ss : List ByteArray) (n i : Nat) (h : i < n) : (lvs ss n).getD i [] = (ss.getD i ByteArray.empty).data.toList := by simp [lvs, h]
/-- The call's own row of slices, each with its bytes. -/
def Rows2 (w : World) (base : Nat) (v : Value) (ll : List (List UInt8)) : Prop :=
  ∃ us : List Value, w.ownsRow base 37 1 v ll.length us ∧ ∀ i, i < ll.length → ∃ u, us[i]? = some u ∧ BB w u (ll.getD i [])
theorem Rows2.lvs {w : World} {base : Nat} {v : Value} {ll : List (List UInt8)} (h : Rows2 w base v ll) : Lvs w v ll := by
  obtain ⟨us, ho, hu⟩ := h
  by_cases hp : 0 < ll.length
  · rcases ho.2 with ⟨_, e⟩ | ⟨g, cap, cur, e, hb, hg, hc, hm, _⟩
    · omega
    · refine ⟨_, cap, e, hc, hm, fun i hi => ?_⟩
      obtain ⟨u, hu1, hu2⟩ := hu i hi
      subst e
      refine ⟨g, 0, u, rfl, (Array.getElem?_eq_some_iff.1 hg).1, ?_, hu2.byts⟩
      rw [Nat.zero_add, ho.cellAt i (by omega)]
      exact hu1
  · have e0 : ll = [] := List.length_eq_zero_iff.1 (by omega)
    subst e0
    rcases ho.2 with ⟨e, _⟩ | ⟨g, cap, cur, e, hb, hg, hc, hm, _⟩
    · exact ⟨none, 0, e, Nat.le_refl _, Nat.zero_le _, fun i hi => by simp at hi⟩
    · exact ⟨_, cap, e, hc, hm, fun i hi => by simp at hi⟩

set_option maxHeartbeats 1000000 in
/-- The statement at no leaves. -/
theorem climbed_none (i : Int) (s : ByteArray) (a : Option Addr) (cap : Nat) (w : World) (hg : Gl w) :
    Calls Tryd.prog 6 #[.slice a 0 cap, .int .i64 i, .string s] w fun e w' => e = .returned (.bool true) ∧ Below w.heap.size w w' := by
  have HR := hide (proot_any [] (.slice none 0 0) w ⟨none, 0, rfl, Nat.le_refl _, Nat.zero_le _, fun i hi => by simp at hi⟩ hg (by simp))
  have HS := hide (fun W => psum_any [] (.slice none 0 0) W (Byts.nil W))
  have e1 : bs (sumL []) = [0, 0, 21, 5] := by decide
  have e2 : bs (rt (([] : List (List UInt8)).map leafL)) = [0, 0, 21, 5] := by decide
  rw [e2] at HR
  rw [e1] at HS
  unfold str at HR HS
  clear e1 e2 hg
  go_enter Tryd.func6, Tryd.ntmps6
  go_wp2_with fail
  refine HR.out.mono ?_
  rintro e w1 ⟨rfl, hb1⟩
  go_wp2_with fail
  refine (HS.out _).mono ?_
  rintro e w2 ⟨rfl, hb2⟩
  have HB : Hid (Below w.heap.size w w2) := hb1.trans (hb2.mono hb1.size)
  clear hb1 hb2 HR HS
  go_wp2
  go_ret
  exact ⟨rfl, HB.out⟩

theorem info37 : (Tryd.prog.info? 37).map (fun i => (i.zero, i.size, i.bytes)) = some (some (.slice none 0 0), 1, 24) := by kernel_rfl
theorem Rows2.nil (w : World) (base : Nat) : Rows2 w base (.slice none 0 0) [] := ⟨[], World.ownsRow_nil _ _ _ _, fun i hi => by simp at hi⟩
theorem lvs_snoc (ss : List ByteArray) (k : Nat) : lvs ss (k + 1) = lvs ss k ++ [(ss.getD k ByteArray.empty).data.toList] := by simp [lvs, List.range_succ]
theorem Rows2.shape2 {w : World} {base : Nat} {v : Value} {ll : List (List UInt8)} (h : Rows2 w base v ll) : ∃ a cap, v = .slice a ll.length cap := by
  obtain ⟨us, ho, _⟩ := h
  rcases ho.2 with ⟨e, e2⟩ | ⟨g, cap, cur, e, _⟩
  · exact ⟨none, 0, by rw [e, e2]⟩
  · exact ⟨_, cap, e⟩
theorem news1 (w : World) (t : TypeId) (a : Value) : ∀ (j : Nat) (u : Value), [a][j]? = some u → (w.alloc (.cells #[a] t)).cell? ((⟨w.heap.size, 0, none⟩ : Addr).add j) = some u := by
  intro j u hj
  match j, hj with
  | 0, hj => simp at hj; subst hj; simp [Addr.add]
  | j + 1, hj => simp at hj
/-- One more behind the append. -/
theorem Rows2.snoc {w w1 : World} {base : Nat} {v v' u : Value} {ll : List (List UInt8)} {l : List UInt8} {us : List Value} (ho : w.ownsRow base 37 1 v ll.length us)
    (hu : ∀ i, i < ll.length → ∃ u, us[i]? = some u ∧ BB w u (ll.getD i [])) (hb : BB w u l) (hown : w1.ownsRow base 37 1 v' (ll.length + 1) (us ++ [u])) (hg : w.grownBy w1 v.ownBlock) :
    Rows2 w1 base v' (ll ++ [l]) := by
  refine ⟨us ++ [u], by rw [List.length_append]; exact hown, fun i hi => ?_⟩
  rw [List.length_append] at hi
  have hul : us.length = ll.length := by have := ho.1; omega
  by_cases h : i < ll.length
  · obtain ⟨x, hx, hxb⟩ := hu i h
    refine ⟨x, ?_, ?_⟩
    · rw [List.getElem?_append_left (by omega)]; exact hx
    · rw [List.getD_eq_getElem?_getD, List.getElem?_append_left h, ← List.getD_eq_getElem?_getD]
      exact hxb.grown ho hg
  · have hi' : i = ll.length := by simp only [List.length_cons, List.length_nil] at hi; omega
    subst hi'
    refine ⟨u, ?_, ?_⟩
    · rw [List.getElem?_append_right (by omega), hul]; simp
    · rw [List.getD_eq_getElem?_getD, List.getElem?_append_right (Nat.le_refl _)]
      simp only [Nat.sub_self, List.getElem?_cons_zero, Option.getD_some]
      exact hb.grown ho hg

theorem ownsRow_below {w w' : World} {base e size n m : Nat} {v : Value} {xs : List Value} (h : w.ownsRow base e size v n xs) (hb : Below m w w') (hm : w.heap.size ≤ m) : w'.ownsRow base e size v n xs := by
  refine h.kept (row := none) ⟨hb.os, hb.tape, hb.output, hb.size, fun k hk _ => hb.block k (by omega)⟩ ?_
  by_cases e : v.ownBlock = none
  · exact .inl e
  · exact .inr e
theorem chunks_flat (p : List H4) : chunks (p.flatMap bs) = p := by
  induction p with
  | nil => rfl
  | cons x p ih =>
    obtain ⟨x0, x1, x2, x3⟩ := x
    show chunks (x0 :: x1 :: x2 :: x3 :: p.flatMap bs) = _
    simp only [chunks]
    rw [ih]
theorem flat_length (p : List H4) : (p.flatMap bs).length = 4 * p.length := by
  induction p with
  | nil => rfl
  | cons x p ih => rw [List.flatMap_cons, List.length_append, ih]; simp only [List.length_cons]; have : (bs x).length = 4 := rfl; omega
/-- plain's Climb where all is as it must be. -/
theorem pclimb_ok (v : Value) (l : List UInt8) (i n : Nat) (p : List H4) (w : World) (hg : Gl w) (hl : Byts w v l) (hi : i < n) (hn : n ≤ 4096) (hp : p.length = deep i n) :
    Calls Tryd.prog 16 #[v, .int .i64 (i : Int), .int .i64 (n : Int), .string ⟨(p.flatMap bs).toArray⟩] w fun e w' => e = .returned (.tuple #[str (bs (climbL (leafL l) i n p)), fineE]) ∧ Below w.heap.size w w' := by
  have hpl : p.length ≤ 4096 := by have := deep_le i n; omega
  refine pclimb_of v l i n ⟨(p.flatMap bs).toArray⟩ (p.flatMap bs) (climbL (leafL l) i n p) .nilIface fineE w hg hl rfl (by rw [flat_length]; omega) ?_ (fun W _ => told_nil W) ⟨0, rfl⟩
  intro a cap W hlW hpW
  rw [chunks_flat] at hpW ⊢
  exact sclimb_ok v l i n a p.length cap p W hlW hpW rfl hi hn hp
theorem lvs_map_get (ss : List ByteArray) (n k : Nat) (h : k < n) : ((lvs ss n).map leafL)[k]'(by simp [lvs]; exact h) = leafL ((ss.getD k ByteArray.empty).data.toList) := by simp [lvs]
theorem str_eq (x y : H4) : ((bs x) == (bs y)) = decide (x = y) := by
  obtain ⟨x0, x1, x2, x3⟩ := x
  obtain ⟨y0, y1, y2, y3⟩ := y
  rw [Bool.eq_iff_iff]
  simp [bs]

theorem app0 (s : ByteArray) : ((⟨#[0]⟩ : ByteArray) ++ s).data.toList = 0 :: s.data.toList := by rw [ByteArray.data_append]; simp
theorem app0_size (s : ByteArray) : ((⟨#[0]⟩ : ByteArray) ++ s).size = s.size + 1 := by rw [ByteArray.size_append]; show 1 + s.size = _; omega

set_option maxRecDepth 100000 in
set_option maxHeartbeats 1500000 in
theorem climbed_walk (ss : List ByteArray) (i : Int) (s : ByteArray) (a : Option Addr) (len cap n : Nat) (w : World) (hg : Gl w) (ht : Txts w a len ss) (hs : s.size ≤ 140737488351232) (hi : -9223372036854775808 ≤ i ∧ i ≤ 9223372036854775807)
    (hlen : len ≤ 9223372036854775807) (hn : n = min len 64) (hn1 : 1 ≤ n) :
    Calls Tryd.prog 6 #[.slice a len cap, .int .i64 i, .string s] w fun e w' => e = .returned (.bool true) ∧ Below w.heap.size w w' := by
  have hn64 : n ≤ 64 := by omega
  have hnl : n ≤ len := by omega
  obtain ⟨b, off, rfl, hbw, _⟩ := ht 0 (by omega)
  have HTX := hide ht
  have HG := hide hg
  obtain ⟨N, hN⟩ : ∃ N : Int, N = (n : Int) := ⟨_, rfl⟩
  have HPK := hide (fun W => pick_any i n W hn1 hn64 hi)
  have HCL := hide (fun (v : Value) (l : List UInt8) (k : Nat) (p : List H4) (W : World) h1 h2 (h3 : k < n) h4 => pclimb_ok v l k n p W h1 h2 h3 (by omega) h4)
  rw [← hN] at HPK HCL
  clear hg ht hi
  obtain ⟨i0, hi0, hz0, hz1, hz2'⟩ := info_parts info37
  rcases Nat.lt_or_ge 64 len with hcase | hcase
  · have h64 : 64 ≤ n := by omega
    obtain rfl : N = 64 := by omega
    clear hn hN
    have hcb : decide ((64 : Int) < (len : Int)) = true := by simp; omega
    have hcz : ((64 : Int) == 0) = false := by decide
    go_enter Tryd.func6, Tryd.ntmps6
    go_wp2

    go_loopw [9, 10] (fun f j wr => ∃ k : Nat, k ≤ n ∧ j = .int .i64 k ∧ ∃ fa fc, f = .slice fa k fc ∧ Rows2 wr w.heap.size (.slice fa k fc) (lvs ss k) ∧ Below w.heap.size w wr) (fun _ j _ => n - (intOf j).toNat)
    case atStart => exact ⟨0, Nat.zero_le _, rfl, none, 0, rfl, Rows2.nil _ _, Below.refl _ _⟩
    case round =>
      obtain ⟨k, hk, rfl, fa, fc, rfl, hrows, hbel⟩ := hrel
      by_cases hlt : k < n
      · obtain ⟨b', off', eb, hbw', hcell, hsk⟩ := HTX.out k (by omega)
        simp only [Option.some.injEq, Addr.mk.injEq] at eb
        obtain ⟨rfl, rfl, _⟩ := eb
        have hc := (hbel.cell (p := ⟨b, off + k, none⟩) hbw).trans hcell
        have hsn := lvs_snoc ss k
        generalize ss.getD k ByteArray.empty = sk at *
        have hll := lvs_len ss k
        obtain ⟨us, ho, hu⟩ := hrows
        obtain ⟨cp, W2, hrun, hbb, hb2, hz2⟩ := conv_any wr sk (by omega)
        rw [hll] at ho
        have HO : Hid ((W2.alloc (.cells #[.slice (some ⟨wr.heap.size, 0, none⟩) sk.size cp] 37)).ownsRow w.heap.size 37 1 (.slice fa k fc) k us) := (ownsRow_below ho hb2 (Nat.le_refl _)).alloc _
        have HU : Hid (∀ i, i < (lvs ss k).length → ∃ u, us[i]? = some u ∧ BB (W2.alloc (.cells #[.slice (some ⟨wr.heap.size, 0, none⟩) sk.size cp] 37)) u ((lvs ss k).getD i [])) := fun i hi => by
          obtain ⟨u, h1, h2⟩ := hu i hi
          exact ⟨u, h1, (h2.below hb2 (Nat.le_refl _)).below ((Below.refl _ _).alloc (Nat.le_refl _) _) (Nat.le_refl _)⟩
        have HBB := hide (hbb.below ((Below.refl _ _).alloc (Nat.le_refl _) (.cells #[.slice (some ⟨wr.heap.size, 0, none⟩) sk.size cp] 37)) (Nat.le_refl _))
        have HBE : Hid (Below w.heap.size w W2) := hbel.trans (hb2.mono hbel.size)
        have hzw := hbel.size
        have HLT : Hid (∀ j, (Value.slice fa k fc).ownBlock = some j → w.heap.size ≤ j) := fun j hj => (HO.out.lt j hj).1
        have HSN := hide hsn
        have HLL := hide hll
        have hz2a : wr.heap.size < W2.heap.size := by omega
        clear ho hu hbb hb2 hsn hll hbel hcell hz2
        go_wp2_with (at_builtin; refine wpList_append_own _ rfl _ _ 28 rfl w.heap.size 37 i0 (.slice none 0 0) 1 24 Tryd.underlying28 hi0 hz0 hz1 hz2' rfl (by decide) _ _ _ rfl HO.out ⟨W2.heap.size, 0, none⟩ 1 1 [.slice (some ⟨wr.heap.size, 0, none⟩) sk.size cp] rfl rfl ?c1 ?c2 ?c3 ?c4 ?c5 ?_)
        case c1 => exact news1 W2 _ _
        case c2 => intro u hu; simp at hu; subst hu; rfl
        case c3 => unfold maxLen; omega
        case c4 => omega
        case c5 => simp; omega
        intro v' w1 hown' hgrow _
        have G1 : Rows2 w1 w.heap.size v' (lvs ss (k + 1)) := by
          rw [HSN.out]
          exact Rows2.snoc (by rw [HLL.out]; exact HO.out) HU.out HBB.out (by rw [HLL.out]; exact hown') hgrow
        have G2 : Below w.heap.size w w1 := (HBE.out.alloc (by omega) _).grown hgrow (by simp; omega) HLT.out
        obtain ⟨fa2, fc2, hv2⟩ := G1.shape2
        rw [lvs_len] at hv2
        rw [hv2] at G1 ⊢
        have H1 := hide G1
        have H2 := hide G2
        clear G1 G2 hown' hgrow hv2 HO HU HBB HBE HLT hrun hc
        go_wp2
        go_roundw
        case rel => exact ⟨k + 1, by omega, by go_num, fa2, fc2, rfl, H1.out, H2.out⟩
        case measure => simp [intOf]; omega
      · have hkn : n = k := by omega
        subst hkn
        have HLV := hide hrows.lvs
        have HBW := hide hbel
        have HGW := hide (HG.out.below hbel (Nat.le_refl _))
        have hzw := hbel.size
        clear hrows hbel
        go_wp2_with fail
        refine (HPK.out _).mono ?_
        rintro e w' ⟨⟨kk, hkk, rfl⟩, rfl⟩
        obtain ⟨lb, lo, u, efa, hlbw, hucell, hub⟩ := HLV.out.at kk (by rw [lvs_len]; exact hkk)
        subst efa
        rw [lvs_get ss n kk hkk] at hub
        have HUB := hide hub
        have hlpos : kk < fc := by
          obtain ⟨_, _, e, h1, _⟩ := HLV.out
          simp only [Value.slice.injEq] at e
          rw [lvs_len] at h1
          omega
        clear hub
        have hR := climb_path ((lvs ss n).map leafL) kk (by rw [List.length_map, lvs_len]; exact hkk)
        rw [lvs_map_get ss n kk hkk, List.length_map, lvs_len] at hR
        have hdeep := path_length ((lvs ss n).map leafL) kk
        rw [List.length_map, lvs_len] at hdeep
        have HRT := hide (proot_any (lvs ss n) (.slice (some ⟨lb, lo, none⟩) n fc) wr HLV.out HGW.out (by rw [lvs_len]; omega))
        have HPT := hide (fun (W : World) (hb : Below wr.heap.size wr W) => ppath_ok (some ⟨lb, lo, none⟩) n fc kk (lvs ss n) W (HLV.out.below hb (Nat.le_refl _)) (lvs_len ss n) hkk (HGW.out.below hb (Nat.le_refl _)) (by omega))
        generalize rt ((lvs ss n).map leafL) = R at *
        generalize path ((lvs ss n).map leafL) kk = p at *
        have HR := hide hR
        have HD := hide hdeep
        clear hR hdeep
        obtain ⟨ot, oo, eo, hbo, hocell, hosz⟩ := HTX.out kk (by omega)
        simp only [Option.some.injEq, Addr.mk.injEq] at eo
        obtain ⟨rfl, rfl, _⟩ := eo
        generalize ss.getD kk ByteArray.empty = sk at *
        have HF := hide (fun W => fine_any W)
        obtain ⟨R0, R1, R2, R3⟩ := R
        have eR : (⟨(bs (R0, R1, R2, R3)).toArray⟩ : ByteArray) = ⟨#[R0, R1, R2, R3]⟩ := rfl
        unfold str fineE at *
        rw [eR] at HRT
        go_wp2_with fail
        refine HRT.out.mono ?_
        rintro e w1 ⟨rfl, hb1⟩
        have B1 := hide hb1
        have z1 := hb1.size
        clear hb1 HRT
        go_wp2_with fail
        refine (HPT.out _ B1.out).mono ?_
        rintro e w2 ⟨rfl, hb2⟩
        have z2 := hb2.size
        have B2 : Hid (Below wr.heap.size wr w2) := B1.out.trans (hb2.mono z1)
        clear hb2 HPT
        have hu2 : (w2.alloc (.cells #[.int .i64 0, .string ⟨#[]⟩, .bool true] 24)).cell? ⟨lb, lo + kk, none⟩ = some u := ((B2.out.alloc (by omega) _).cell (p := ⟨lb, lo + kk, none⟩) hlbw).trans hucell
        have S1 : Hid (Slot3 _ _ _ _ _) := slot3_mk w2 24 (.int .i64 0) (.string ⟨#[]⟩) (.bool true)
        go_wp2_with fail
        refine (HCL.out u sk.data.toList kk p _ ?g1 ?g2 hkk HD.out).mono ?_
        case g1 => exact HGW.out.below (B2.out.alloc (by omega) _) (Nat.le_refl _)
        case g2 => exact HUB.out.below (B2.out.alloc (by omega) _) (Nat.le_refl _)
        rintro e w3 ⟨rfl, hb3⟩
        have z3 := hb3.size
        simp only [World.size_alloc] at z3
        have B3 : Hid (Below wr.heap.size wr w3) := (B2.out.alloc (by omega) _).trans (hb3.mono (by simp; omega))
        have S1' := hide (S1.out.below hb3 (by simp))
        clear hb3 S1 hu2
        rw [HR.out, eR]
        clear eR
        obtain ⟨cp1, W4, hrun4, hbb4, hb4, hz4⟩ := conv_any (w3.alloc (.cells #[.int .i64 0, .string ⟨#[]⟩, .bool true] 24)) s (by omega)
        simp only [World.size_alloc] at hrun4 hbb4 hz4
        have S2 : Hid (Slot3 _ _ _ _ _) := slot3_mk w3 24 (.int .i64 0) (.string ⟨#[]⟩) (.bool true)
        have S2' := hide (S2.out.below hb4 (by simp))
        have S1a := hide ((S1'.out.below ((Below.refl _ _).alloc (Nat.le_refl _) (.cells #[.int .i64 0, .string ⟨#[]⟩, .bool true] 24)) (by omega)).below hb4 (by simp; omega))
        have B4 : Hid (Below wr.heap.size wr W4) := (B3.out.alloc (by omega) _).trans (hb4.mono (by simp; omega))
        have HBY := hide hbb4.byts
        clear S1' S2 hb4 hbb4
        go_wp2_with fail
        refine (HCL.out _ s.data.toList kk p _ ?g3 ?g4 hkk HD.out).mono ?_
        case g3 => exact HGW.out.below B4.out (Nat.le_refl _)
        case g4 => exact HBY.out
        rintro e w5 ⟨rfl, hb5⟩
        have z5 := hb5.size
        have B5 : Hid (Below wr.heap.size wr w5) := B4.out.trans (hb5.mono (by omega))
        have S1b := hide (S1a.out.below hb5 (by omega))
        have S2b := hide (S2'.out.below hb5 (by omega))
        have S3 : Hid (Slot3 _ _ _ _ _) := slot3_mk w5 24 (.int .i64 0) (.string ⟨#[]⟩) (.bool true)
        clear hb5 S1a S2' HBY hrun4
        have HGX : Hid (leafL s.data.toList = leafL sk.data.toList → climbL (leafL s.data.toList) kk n p = (R0, R1, R2, R3)) := fun h => by rw [h]; exact HR.out
        generalize climbL (leafL s.data.toList) kk n p = X at *
        obtain ⟨X0, X1, X2, X3⟩ := X
        have eX : (⟨(bs (X0, X1, X2, X3)).toArray⟩ : ByteArray) = ⟨#[X0, X1, X2, X3]⟩ := rfl
        rw [eX]
        clear eX
        have hB5 : Below w5.heap.size w5 (w5.alloc (.cells #[.int .i64 0, .string ⟨#[]⟩, .bool true] 24)) := (Below.refl _ _).alloc (Nat.le_refl _) _
        have S1c := S1b.out.below hB5 (by omega)
        have S2c := hide (S2b.out.below hB5 (by omega))
        have B5a : Hid (Below wr.heap.size wr (w5.alloc (.cells #[.int .i64 0, .string ⟨#[]⟩, .bool true] 24))) := B5.out.alloc (by omega) _
        obtain ⟨a0, a1, a2, af⟩ := S1c
        clear hB5 S1b S2b B5
        go_wp2_with fail
        refine (HF.out _).mono ?_
        rintro e w6 ⟨rfl, hb6⟩
        have z6 := hb6.size
        simp only [World.size_alloc] at z6
        have B6 : Hid (Below wr.heap.size wr w6) := B5a.out.trans (hb6.mono (by simp; omega))
        obtain ⟨b0, b1, b2, bf⟩ := S2c.out.below hb6 (by simp; omega)
        have S3a := hide (S3.out.below hb6 (by simp))
        clear hb6 a0 a1 a2 af S2c S3 B5a
        go_wp2_with fail
        refine (HF.out _).mono ?_
        rintro e w7 ⟨rfl, hb7⟩
        have z7 := hb7.size
        have B7 : Hid (Below wr.heap.size wr w7) := B6.out.trans (hb7.mono (by omega))
        obtain ⟨d0, d1, d2, df⟩ := S3a.out.below hb7 (by omega)
        clear hb7 b0 b1 b2 bf S3a B6
        go_wp2_with fail
        refine (HF.out _).mono ?_
        rintro e w8 ⟨rfl, hb8⟩
        have z8 := hb8.size
        have B8 : Hid (Below wr.heap.size wr w8) := B7.out.trans (hb8.mono (by omega))
        clear hb8 d0 d1 d2 df B7 HF
        obtain ⟨cp2, W9, hrun9, hbb9, hb9, hz9⟩ := conv_any w8 ((⟨#[0]⟩ : ByteArray) ++ s) (by rw [app0_size]; omega)
        have hY := hbb9.byts
        rw [app0] at hY
        have HY := hide (psum_any _ _ W9 hY)
        rw [sumL_leaf] at HY
        have B9 : Hid (Below wr.heap.size wr W9) := B8.out.trans (hb9.mono (by omega))
        have z9 : w8.heap.size < W9.heap.size := by omega
        unfold str at HY
        generalize leafL s.data.toList = Y at *
        obtain ⟨Y0, Y1, Y2, Y3⟩ := Y
        have eY : (⟨(bs (Y0, Y1, Y2, Y3)).toArray⟩ : ByteArray) = ⟨#[Y0, Y1, Y2, Y3]⟩ := rfl
        rw [eY] at HY
        rw [app0_size] at hrun9 HY
        clear hbb9 hb9 hz9 hY eY
        go_wp2_with fail
        refine HY.out.mono ?_
        rintro e w10 ⟨rfl, hb10⟩
        have z10 := hb10.size
        have B10 : Hid (Below wr.heap.size wr w10) := B9.out.trans (hb10.mono (by omega))
        have hok : w10.cell? ⟨b, off + kk, none⟩ = some (.string sk) := ((HBW.out.trans (B10.out.mono hzw)).cell (p := ⟨b, off + kk, none⟩) hbw).trans hocell
        clear hb10 hrun9 HY
        obtain ⟨cp3, W11, hrun11, hbb11, hb11, hz11⟩ := conv_any w10 ((⟨#[0]⟩ : ByteArray) ++ sk) (by rw [app0_size]; omega)
        have hZ := hbb11.byts
        rw [app0] at hZ
        have HZ := hide (psum_any _ _ W11 hZ)
        rw [sumL_leaf] at HZ
        have B11 : Hid (Below wr.heap.size wr W11) := B10.out.trans (hb11.mono (by omega))
        have z11 : w10.heap.size < W11.heap.size := by omega
        unfold str at HZ
        generalize leafL sk.data.toList = Z at *
        obtain ⟨Z0, Z1, Z2, Z3⟩ := Z
        have eZ : (⟨(bs (Z0, Z1, Z2, Z3)).toArray⟩ : ByteArray) = ⟨#[Z0, Z1, Z2, Z3]⟩ := rfl
        rw [eZ] at HZ
        rw [app0_size] at hrun11 HZ
        clear hbb11 hb11 hz11 hZ eZ
        go_wp2_with fail
        refine HZ.out.mono ?_
        rintro e w12 ⟨rfl, hb12⟩
        have B12 : Hid (Below w.heap.size w w12) := HBW.out.trans ((B11.out.trans (hb12.mono (by omega))).mono hzw)
        clear hb12 hrun11 HZ hok
        by_cases hYZ : (Y0, Y1, Y2, Y3) = (Z0, Z1, Z2, Z3)
        · have hX := HGX.out hYZ
          simp only [Prod.mk.injEq] at hX hYZ
          obtain ⟨rfl, rfl, rfl, rfl⟩ := hX
          obtain ⟨rfl, rfl, rfl, rfl⟩ := hYZ
          go_wp2
          go_ret
          exact ⟨rfl, B12.out⟩
        · have hne : (([Y0, Y1, Y2, Y3] : List UInt8) == [Z0, Z1, Z2, Z3]) = false := by
            have := str_eq (Y0, Y1, Y2, Y3) (Z0, Z1, Z2, Z3)
            rw [decide_eq_false hYZ] at this
            exact this
          go_wp2
          go_ret
          exact ⟨rfl, B12.out⟩
  · have hl2 : n = len := by omega
    subst hl2
    clear hn
    subst hN
    have hcb : decide ((64 : Int) < (n : Int)) = false := by simp; omega
    have hcz : ((n : Int) == 0) = false := beq_eq_false_iff_ne.2 (by omega)
    go_enter Tryd.func6, Tryd.ntmps6
    go_wp2
    go_loopw [9, 10] (fun f j wr => ∃ k : Nat, k ≤ n ∧ j = .int .i64 k ∧ ∃ fa fc, f = .slice fa k fc ∧ Rows2 wr w.heap.size (.slice fa k fc) (lvs ss k) ∧ Below w.heap.size w wr) (fun _ j _ => n - (intOf j).toNat)
    case atStart => exact ⟨0, Nat.zero_le _, rfl, none, 0, rfl, Rows2.nil _ _, Below.refl _ _⟩
    case round =>
      obtain ⟨k, hk, rfl, fa, fc, rfl, hrows, hbel⟩ := hrel
      by_cases hlt : k < n
      · obtain ⟨b', off', eb, hbw', hcell, hsk⟩ := HTX.out k (by omega)
        simp only [Option.some.injEq, Addr.mk.injEq] at eb
        obtain ⟨rfl, rfl, _⟩ := eb
        have hc := (hbel.cell (p := ⟨b, off + k, none⟩) hbw).trans hcell
        have hsn := lvs_snoc ss k
        generalize ss.getD k ByteArray.empty = sk at *
        have hll := lvs_len ss k
        obtain ⟨us, ho, hu⟩ := hrows
        obtain ⟨cp, W2, hrun, hbb, hb2, hz2⟩ := conv_any wr sk (by omega)
        rw [hll] at ho
        have HO : Hid ((W2.alloc (.cells #[.slice (some ⟨wr.heap.size, 0, none⟩) sk.size cp] 37)).ownsRow w.heap.size 37 1 (.slice fa k fc) k us) := (ownsRow_below ho hb2 (Nat.le_refl _)).alloc _
        have HU : Hid (∀ i, i < (lvs ss k).length → ∃ u, us[i]? = some u ∧ BB (W2.alloc (.cells #[.slice (some ⟨wr.heap.size, 0, none⟩) sk.size cp] 37)) u ((lvs ss k).getD i [])) := fun i hi => by
          obtain ⟨u, h1, h2⟩ := hu i hi
          exact ⟨u, h1, (h2.below hb2 (Nat.le_refl _)).below ((Below.refl _ _).alloc (Nat.le_refl _) _) (Nat.le_refl _)⟩
        have HBB := hide (hbb.below ((Below.refl _ _).alloc (Nat.le_refl _) (.cells #[.slice (some ⟨wr.heap.size, 0, none⟩) sk.size cp] 37)) (Nat.le_refl _))
        have HBE : Hid (Below w.heap.size w W2) := hbel.trans (hb2.mono hbel.size)
        have hzw := hbel.size
        have HLT : Hid (∀ j, (Value.slice fa k fc).ownBlock = some j → w.heap.size ≤ j) := fun j hj => (HO.out.lt j hj).1
        have HSN := hide hsn
        have HLL := hide hll
        have hz2a : wr.heap.size < W2.heap.size := by omega
        clear ho hu hbb hb2 hsn hll hbel hcell hz2
        go_wp2_with (at_builtin; refine wpList_append_own _ rfl _ _ 28 rfl w.heap.size 37 i0 (.slice none 0 0) 1 24 Tryd.underlying28 hi0 hz0 hz1 hz2' rfl (by decide) _ _ _ rfl HO.out ⟨W2.heap.size, 0, none⟩ 1 1 [.slice (some ⟨wr.heap.size, 0, none⟩) sk.size cp] rfl rfl ?c1 ?c2 ?c3 ?c4 ?c5 ?_)
        case c1 => exact news1 W2 _ _
        case c2 => intro u hu; simp at hu; subst hu; rfl
        case c3 => unfold maxLen; omega
        case c4 => omega
        case c5 => simp; omega
        intro v' w1 hown' hgrow _
        have G1 : Rows2 w1 w.heap.size v' (lvs ss (k + 1)) := by
          rw [HSN.out]
          exact Rows2.snoc (by rw [HLL.out]; exact HO.out) HU.out HBB.out (by rw [HLL.out]; exact hown') hgrow
        have G2 : Below w.heap.size w w1 := (HBE.out.alloc (by omega) _).grown hgrow (by simp; omega) HLT.out
        obtain ⟨fa2, fc2, hv2⟩ := G1.shape2
        rw [lvs_len] at hv2
        rw [hv2] at G1 ⊢
        have H1 := hide G1
        have H2 := hide G2
        clear G1 G2 hown' hgrow hv2 HO HU HBB HBE HLT hrun hc
        go_wp2
        go_roundw
        case rel => exact ⟨k + 1, by omega, by go_num, fa2, fc2, rfl, H1.out, H2.out⟩
        case measure => simp [intOf]; omega
      · have hkn : n = k := by omega
        subst hkn
        have HLV := hide hrows.lvs
        have HBW := hide hbel
        have HGW := hide (HG.out.below hbel (Nat.le_refl _))
        have hzw := hbel.size
        clear hrows hbel
        go_wp2_with fail
        refine (HPK.out _).mono ?_
        rintro e w' ⟨⟨kk, hkk, rfl⟩, rfl⟩
        obtain ⟨lb, lo, u, efa, hlbw, hucell, hub⟩ := HLV.out.at kk (by rw [lvs_len]; exact hkk)
        subst efa
        rw [lvs_get ss n kk hkk] at hub
        have HUB := hide hub
        have hlpos : kk < fc := by
          obtain ⟨_, _, e, h1, _⟩ := HLV.out
          simp only [Value.slice.injEq] at e
          rw [lvs_len] at h1
          omega
        clear hub
        have hR := climb_path ((lvs ss n).map leafL) kk (by rw [List.length_map, lvs_len]; exact hkk)
        rw [lvs_map_get ss n kk hkk, List.length_map, lvs_len] at hR
        have hdeep := path_length ((lvs ss n).map leafL) kk
        rw [List.length_map, lvs_len] at hdeep
        have HRT := hide (proot_any (lvs ss n) (.slice (some ⟨lb, lo, none⟩) n fc) wr HLV.out HGW.out (by rw [lvs_len]; omega))
        have HPT := hide (fun (W : World) (hb : Below wr.heap.size wr W) => ppath_ok (some ⟨lb, lo, none⟩) n fc kk (lvs ss n) W (HLV.out.below hb (Nat.le_refl _)) (lvs_len ss n) hkk (HGW.out.below hb (Nat.le_refl _)) (by omega))
        generalize rt ((lvs ss n).map leafL) = R at *
        generalize path ((lvs ss n).map leafL) kk = p at *
        have HR := hide hR
        have HD := hide hdeep
        clear hR hdeep
        obtain ⟨ot, oo, eo, hbo, hocell, hosz⟩ := HTX.out kk (by omega)
        simp only [Option.some.injEq, Addr.mk.injEq] at eo
        obtain ⟨rfl, rfl, _⟩ := eo
        generalize ss.getD kk ByteArray.empty = sk at *
        have HF := hide (fun W => fine_any W)
        obtain ⟨R0, R1, R2, R3⟩ := R
        have eR : (⟨(bs (R0, R1, R2, R3)).toArray⟩ : ByteArray) = ⟨#[R0, R1, R2, R3]⟩ := rfl
        unfold str fineE at *
        rw [eR] at HRT
        go_wp2_with fail
        refine HRT.out.mono ?_
        rintro e w1 ⟨rfl, hb1⟩
        have B1 := hide hb1
        have z1 := hb1.size
        clear hb1 HRT
        go_wp2_with fail
        refine (HPT.out _ B1.out).mono ?_
        rintro e w2 ⟨rfl, hb2⟩
        have z2 := hb2.size
        have B2 : Hid (Below wr.heap.size wr w2) := B1.out.trans (hb2.mono z1)
        clear hb2 HPT
        have hu2 : (w2.alloc (.cells #[.int .i64 0, .string ⟨#[]⟩, .bool true] 24)).cell? ⟨lb, lo + kk, none⟩ = some u := ((B2.out.alloc (by omega) _).cell (p := ⟨lb, lo + kk, none⟩) hlbw).trans hucell
        have S1 : Hid (Slot3 _ _ _ _ _) := slot3_mk w2 24 (.int .i64 0) (.string ⟨#[]⟩) (.bool true)
        go_wp2_with fail
        refine (HCL.out u sk.data.toList kk p _ ?g1 ?g2 hkk HD.out).mono ?_
        case g1 => exact HGW.out.below (B2.out.alloc (by omega) _) (Nat.le_refl _)
        case g2 => exact HUB.out.below (B2.out.alloc (by omega) _) (Nat.le_refl _)
        rintro e w3 ⟨rfl, hb3⟩
        have z3 := hb3.size
        simp only [World.size_alloc] at z3
        have B3 : Hid (Below wr.heap.size wr w3) := (B2.out.alloc (by omega) _).trans (hb3.mono (by simp; omega))
        have S1' := hide (S1.out.below hb3 (by simp))
        clear hb3 S1 hu2
        rw [HR.out, eR]
        clear eR
        obtain ⟨cp1, W4, hrun4, hbb4, hb4, hz4⟩ := conv_any (w3.alloc (.cells #[.int .i64 0, .string ⟨#[]⟩, .bool true] 24)) s (by omega)
        simp only [World.size_alloc] at hrun4 hbb4 hz4
        have S2 : Hid (Slot3 _ _ _ _ _) := slot3_mk w3 24 (.int .i64 0) (.string ⟨#[]⟩) (.bool true)
        have S2' := hide (S2.out.below hb4 (by simp))
        have S1a := hide ((S1'.out.below ((Below.refl _ _).alloc (Nat.le_refl _) (.cells #[.int .i64 0, .string ⟨#[]⟩, .bool true] 24)) (by omega)).below hb4 (by simp; omega))
        have B4 : Hid (Below wr.heap.size wr W4) := (B3.out.alloc (by omega) _).trans (hb4.mono (by simp; omega))
        have HBY := hide hbb4.byts
        clear S1' S2 hb4 hbb4
        go_wp2_with fail
        refine (HCL.out _ s.data.toList kk p _ ?g3 ?g4 hkk HD.out).mono ?_
        case g3 => exact HGW.out.below B4.out (Nat.le_refl _)
        case g4 => exact HBY.out
        rintro e w5 ⟨rfl, hb5⟩
        have z5 := hb5.size
        have B5 : Hid (Below wr.heap.size wr w5) := B4.out.trans (hb5.mono (by omega))
        have S1b := hide (S1a.out.below hb5 (by omega))
        have S2b := hide (S2'.out.below hb5 (by omega))
        have S3 : Hid (Slot3 _ _ _ _ _) := slot3_mk w5 24 (.int .i64 0) (.string ⟨#[]⟩) (.bool true)
        clear hb5 S1a S2' HBY hrun4
        have HGX : Hid (leafL s.data.toList = leafL sk.data.toList → climbL (leafL s.data.toList) kk n p = (R0, R1, R2, R3)) := fun h => by rw [h]; exact HR.out
        generalize climbL (leafL s.data.toList) kk n p = X at *
        obtain ⟨X0, X1, X2, X3⟩ := X
        have eX : (⟨(bs (X0, X1, X2, X3)).toArray⟩ : ByteArray) = ⟨#[X0, X1, X2, X3]⟩ := rfl
        rw [eX]
        clear eX
        have hB5 : Below w5.heap.size w5 (w5.alloc (.cells #[.int .i64 0, .string ⟨#[]⟩, .bool true] 24)) := (Below.refl _ _).alloc (Nat.le_refl _) _
        have S1c := S1b.out.below hB5 (by omega)
        have S2c := hide (S2b.out.below hB5 (by omega))
        have B5a : Hid (Below wr.heap.size wr (w5.alloc (.cells #[.int .i64 0, .string ⟨#[]⟩, .bool true] 24))) := B5.out.alloc (by omega) _
        obtain ⟨a0, a1, a2, af⟩ := S1c
        clear hB5 S1b S2b B5
        go_wp2_with fail
        refine (HF.out _).mono ?_
        rintro e w6 ⟨rfl, hb6⟩
        have z6 := hb6.size
        simp only [World.size_alloc] at z6
        have B6 : Hid (Below wr.heap.size wr w6) := B5a.out.trans (hb6.mono (by simp; omega))
        obtain ⟨b0, b1, b2, bf⟩ := S2c.out.below hb6 (by simp; omega)
        have S3a := hide (S3.out.below hb6 (by simp))
        clear hb6 a0 a1 a2 af S2c S3 B5a
        go_wp2_with fail
        refine (HF.out _).mono ?_
        rintro e w7 ⟨rfl, hb7⟩
        have z7 := hb7.size
        have B7 : Hid (Below wr.heap.size wr w7) := B6.out.trans (hb7.mono (by omega))
        obtain ⟨d0, d1, d2, df⟩ := S3a.out.below hb7 (by omega)
        clear hb7 b0 b1 b2 bf S3a B6
        go_wp2_with fail
        refine (HF.out _).mono ?_
        rintro e w8 ⟨rfl, hb8⟩
        have z8 := hb8.size
        have B8 : Hid (Below wr.heap.size wr w8) := B7.out.trans (hb8.mono (by omega))
        clear hb8 d0 d1 d2 df B7 HF
        obtain ⟨cp2, W9, hrun9, hbb9, hb9, hz9⟩ := conv_any w8 ((⟨#[0]⟩ : ByteArray) ++ s) (by rw [app0_size]; omega)
        have hY := hbb9.byts
        rw [app0] at hY
        have HY := hide (psum_any _ _ W9 hY)
        rw [sumL_leaf] at HY
        have B9 : Hid (Below wr.heap.size wr W9) := B8.out.trans (hb9.mono (by omega))
        have z9 : w8.heap.size < W9.heap.size := by omega
        unfold str at HY
        generalize leafL s.data.toList = Y at *
        obtain ⟨Y0, Y1, Y2, Y3⟩ := Y
        have eY : (⟨(bs (Y0, Y1, Y2, Y3)).toArray⟩ : ByteArray) = ⟨#[Y0, Y1, Y2, Y3]⟩ := rfl
        rw [eY] at HY
        rw [app0_size] at hrun9 HY
        clear hbb9 hb9 hz9 hY eY
        go_wp2_with fail
        refine HY.out.mono ?_
        rintro e w10 ⟨rfl, hb10⟩
        have z10 := hb10.size
        have B10 : Hid (Below wr.heap.size wr w10) := B9.out.trans (hb10.mono (by omega))
        have hok : w10.cell? ⟨b, off + kk, none⟩ = some (.string sk) := ((HBW.out.trans (B10.out.mono hzw)).cell (p := ⟨b, off + kk, none⟩) hbw).trans hocell
        clear hb10 hrun9 HY
        obtain ⟨cp3, W11, hrun11, hbb11, hb11, hz11⟩ := conv_any w10 ((⟨#[0]⟩ : ByteArray) ++ sk) (by rw [app0_size]; omega)
        have hZ := hbb11.byts
        rw [app0] at hZ
        have HZ := hide (psum_any _ _ W11 hZ)
        rw [sumL_leaf] at HZ
        have B11 : Hid (Below wr.heap.size wr W11) := B10.out.trans (hb11.mono (by omega))
        have z11 : w10.heap.size < W11.heap.size := by omega
        unfold str at HZ
        generalize leafL sk.data.toList = Z at *
        obtain ⟨Z0, Z1, Z2, Z3⟩ := Z
        have eZ : (⟨(bs (Z0, Z1, Z2, Z3)).toArray⟩ : ByteArray) = ⟨#[Z0, Z1, Z2, Z3]⟩ := rfl
        rw [eZ] at HZ
        rw [app0_size] at hrun11 HZ
        clear hbb11 hb11 hz11 hZ eZ
        go_wp2_with fail
        refine HZ.out.mono ?_
        rintro e w12 ⟨rfl, hb12⟩
        have B12 : Hid (Below w.heap.size w w12) := HBW.out.trans ((B11.out.trans (hb12.mono (by omega))).mono hzw)
        clear hb12 hrun11 HZ hok
        by_cases hYZ : (Y0, Y1, Y2, Y3) = (Z0, Z1, Z2, Z3)
        · have hX := HGX.out hYZ
          simp only [Prod.mk.injEq] at hX hYZ
          obtain ⟨rfl, rfl, rfl, rfl⟩ := hX
          obtain ⟨rfl, rfl, rfl, rfl⟩ := hYZ
          go_wp2
          go_ret
          exact ⟨rfl, B12.out⟩
        · have hne : (([Y0, Y1, Y2, Y3] : List UInt8) == [Z0, Z1, Z2, Z3]) = false := by
            have := str_eq (Y0, Y1, Y2, Y3) (Z0, Z1, Z2, Z3)
            rw [decide_eq_false hYZ] at this
            exact this
          go_wp2
          go_ret
          exact ⟨rfl, B12.out⟩
end Go.Proofs.YtepehjalpkfniaaDoor
