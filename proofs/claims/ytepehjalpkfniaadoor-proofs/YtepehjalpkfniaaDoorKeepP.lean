/-
  OWN. The statement Climbed: the row and its card, in its first form. No project text.
-/
import Derived.Test.YtepehjalpkfniaaDoorLaid
import Derived.Test.YtepehjalpkfniaaDoorKeep
import Derived.SliceStrings
import Derived.SizedLaws
import Derived.Carry
import Derived.Stop.LaidErr
import Derived.OpenShut
namespace Go.Proofs.YtepehjalpkfniaaDoor
open Go.ChangeShapes Go.WideShapes Go.ChangeAt Go.RowKit
open Go.WideMaps Go.WideElems
open Go.ChangeMaps (open_string shut_string)

theorem laidOut : laidOutB Tryd.prog = true := by kernel_rfl
theorem gNoS : Tryd.prog.globalNamed "daybook/sums.noSum" = some 0 := by kernel_rfl
theorem gNoL : Tryd.prog.globalNamed "daybook/sums.noLeaves" = some 1 := by kernel_rfl
theorem gNoST : (Tryd.prog.globals[0]?).map (·.type) = some 62 := by kernel_rfl
theorem gNoLT : (Tryd.prog.globals[1]?).map (·.type) = some 62 := by kernel_rfl
theorem cells5 : Tryd.prog.cellsOf 5 = 1 := by kernel_rfl
theorem cells55 : Tryd.prog.cellsOf 62 = 4 := by kernel_rfl
theorem cells9 : Tryd.prog.cellsOf 9 = 1 := by kernel_rfl
theorem bytes9 : Tryd.prog.bytesOf 9 = 16 := by kernel_rfl

/-- What the listed variables give the walks. -/
theorem gl_of_laid {W : World} (h : laidMetH Tryd.prog Rows.climbedRow.laid W) : Gl W := by
  have h' : laidMet Tryd.prog [("daybook/sums.noLeaves", Rows.laid_daybook_sums_noLeaves), ("daybook/sums.noSum", Rows.laid_daybook_sums_noSum)] W ∧ handlesMet Tryd.prog [("errors.errorType", Rows.laid_errors_errorType)] W := h
  have t1 : Lib.TabIs Tryd.prog W "daybook/sums.noLeaves" .u8 [0, 0, 21, 5] := Lib.tabIs_of_head (rest := [("daybook/sums.noSum", Rows.laid_daybook_sums_noSum)]) gNoL gNoLT Tryd.underlying62 Tryd.underlying5 cells5 cells55 h'.1
  have t2 : Lib.TabIs Tryd.prog W "daybook/sums.noSum" .u8 [255, 255, 255, 255] := Lib.tabIs_of_head (rest := []) gNoS gNoST Tryd.underlying62 Tryd.underlying5 cells5 cells55 h'.1.tail
  refine ⟨errT_of_handle h'.2, ⟨?_, ?_, ?_, ?_⟩, ⟨?_, ?_, ?_, ?_⟩⟩
  · exact t2.cell gNoS 0 (by decide)
  · exact t2.cell gNoS 1 (by decide)
  · exact t2.cell gNoS 2 (by decide)
  · exact t2.cell gNoS 3 (by decide)
  · exact t1.cell gNoL 0 (by decide)
  · exact t1.cell gNoL 1 (by decide)
  · exact t1.cell gNoL 2 (by decide)
  · exact t1.cell gNoL 3 (by decide)

/-- Each text of a list that is read weighs no more than the reach. -/
theorem strs_weigh {H : Type} (e : TypeId) (ss : List ByteArray) (s : ByteArray) (h : s ∈ ss) : s.data.toList.length ∈ DataW.weightsAll (H := H) Tryd.prog e (strs ss) := by
  induction ss with
  | nil => simp at h
  | cons x ss ih =>
    have e1 : DataW.weightsAll (H := H) Tryd.prog e (strs (x :: ss)) = [x.data.toList.length] ++ DataW.weightsAll (H := H) Tryd.prog e (strs ss) := by
      show DataW.weightsAll Tryd.prog e (DataW.lit (.string x.data.toList) :: strs ss) = _
      simp [DataW.weightsAll, DataW.weights]
    rw [e1, List.mem_append]
    rcases List.mem_cons.1 h with rfl | h
    · exact .inl (by simp)
    · exact .inr (ih h)
/-- The texts among the arguments, opened. -/
theorem open_txts {H : Type} {enc : TypeId × Value → H} {W : World} {a0 : Option Addr} {len cap : Nat} {d : DataW H} {ps : List MemPlace} {ts : List TypeId} {ds : List (DataW H)}
    (h : DataW.Trod enc Tryd.prog W 0 (fun _ => true) true 27 (.slice a0 len cap) d ps) (hlt : ∀ x ∈ ps, x.block < W.heap.size)
    (hsz : (DataW.weightsEach Tryd.prog (27 :: ts) (d :: ds)).all (· ≤ reachBytes) = true) :
    ∃ ss : List ByteArray, Txts W a0 len ss ∧ len * 16 ≤ 140737488351232 ∧ (len ≤ cap) := by
  obtain ⟨fuel, hf⟩ := h
  rcases open_strings Tryd.underlying27 Tryd.underlying9 cells9 hf with ⟨hcs, hx⟩ | ⟨a, len', cap', ss, hcs, _, hl, hm, hz, hx, hcell, hws⟩
  · simp [Value.cells] at hcs
    obtain ⟨rfl, rfl, rfl⟩ := hcs
    exact ⟨[], fun i hi => by omega, by omega, Nat.le_refl _⟩
  · simp [Value.cells] at hcs
    obtain ⟨rfl, rfl, rfl⟩ := hcs
    simp only [Prod.mk.injEq] at hx
    obtain ⟨rfl, rfl⟩ := hx
    simp only [if_true] at hz
    have hreach : len * 16 ≤ 140737488351232 := by
      have := sized_slice hsz (j := 0) (t := 27) (e := 9) rfl rfl Tryd.underlying27
      rw [bytes9] at this
      simp only [strs, List.length_map, List.length_take, List.length_drop, reachBytes] at this
      omega
    refine ⟨ss, fun i hi => ?_, hreach, hl⟩
    have hc := hcell i (by omega)
    obtain ⟨b, off, spot⟩ := a
    have hspot : spot = none := by simpa [Addr.add] using World.cell?_spot (hcell 0 (by omega))
    subst hspot
    have hbW : b < W.heap.size := hlt (.cell b off) (MemPlace.mem_row.2 ⟨0, by omega, by simp⟩)
    refine ⟨b, off, rfl, hbW, by rw [← add_plain]; exact hc, ?_⟩
    have hmem : ss.getD i ByteArray.empty ∈ ss.take len := by
      have hi' : i < ss.length := by omega
      rw [List.getD_eq_getElem?_getD, List.getElem?_eq_getElem hi', Option.getD_some]
      rw [List.mem_take_iff_getElem]
      exact ⟨i, by omega, rfl⟩
    have hw := strs_weigh (H := H) 9 (ss.take len) _ hmem
    have hin := List.all_eq_true.1 hsz _ (DataW.weights_mem_each (j := 0) (t := 27) (d := .slice (strs (ss.take len)) (strs (ss.drop len))) rfl rfl (ss.getD i ByteArray.empty).data.toList.length (by
      simp only [DataW.weights, Tryd.underlying27]
      exact List.mem_cons_of_mem _ (List.mem_append_left _ hw)))
    have hs : (ss.getD i ByteArray.empty).data.toList.length = (ss.getD i ByteArray.empty).size := by rw [Array.length_toList]; rfl
    have hin' := of_decide_eq_true hin
    rw [hs] at hin'
    exact hin'

set_option maxRecDepth 100000 in
theorem climbed_contract (H : Type) (enc : TypeId × Value → H) (W : World) (base : Nat) (args : Array Value) (ds gs : List (DataW H)) (before : List MemPlace)
    (hval : ∀ (j : Nat) t v, Tryd.f6.params[j]? = some t → args[j]? = some v → Value.okWide Tryd.prog W .any base t v)
    (hW : DataW.Whole enc Tryd.prog Tryd.f6.params.toList Rows.climbedSpec.vars false W args.toList ds gs before) (hL : laidMetH Tryd.prog Rows.climbedRow.laid W)
    (hsz0 : (DataW.weightsEach Tryd.prog (Tryd.f6.params.toList ++ Rows.climbedSpec.plain.varTypes Tryd.prog) (ds ++ gs)).all (· ≤ reachBytes) = true) :
    Calls Tryd.prog 6 args W fun e W' => ∃ v, e = .returned v ∧ Rows.climbedSpec.post enc Tryd.prog Tryd.f6 false true false false W args v W' := by
  have hsz := hsz0
  have hW' := hW
  obtain ⟨p, q, hA0, hV, rfl, hfz, hnd⟩ := hW
  have hA : DataW.TrodAll enc Tryd.prog W 0 (fun _ => true) true Tryd.f6.params.toList args.toList ds p := hA0
  rw [Tryd.params6] at hA hval hsz
  obtain ⟨v0, v1, v2, d0, d1, d2, p0, p1, p2, rfl, rfl, rfl, h0, h1, h2⟩ := trodAll_three hA
  obtain ⟨rfl, rfl⟩ := trodVars_none hV
  clear hA0 hsz0
  obtain ⟨a0, len, cap, rfl⟩ := okWide_slice Tryd.underlying27 (hval 0 27 v0 rfl rfl)
  obtain ⟨i, rfl, rfl, rfl, wi⟩ := open_int Tryd.underlying3 (hval 1 3 v1 rfl rfl) h1
  obtain ⟨s, rfl, rfl, rfl, hs⟩ := open_string Tryd.underlying9 (hval 2 9 v2 rfl rfl) h2
  simp only [List.append_nil] at hW'
  have hlt : ∀ x ∈ p0, x.block < W.heap.size := fun x hx => by simpa using hW'.lt x hx
  obtain ⟨ss, htx, hreach, hlc⟩ := open_txts h0 hlt hsz
  have hss : s.size ≤ 140737488351232 := by
    have := sized_string hsz (j := 2) (t := 9) rfl rfl
    rw [Array.length_toList] at this
    exact this
  have hib : -9223372036854775808 ≤ i ∧ i ≤ 9223372036854775807 := bounds_i64 wi
  have hgl := gl_of_laid hL
  have walk : Calls Tryd.prog 6 #[.slice a0 len cap, .int .i64 i, .string s] W fun e w' => e = .returned (.bool true) ∧ Below W.heap.size W w' := by
    by_cases hl0 : len = 0
    · subst hl0
      exact climbed_none i s a0 cap W hgl
    · exact climbed_walk ss i s a0 len cap (min len 64) W hgl htx hss hib (by omega) rfl (by omega)
  refine walk.mono fun e W' ⟨he, hb⟩ => ?_
  subst he
  refine ⟨_, rfl, _, _, _, [], p0 ++ ([] ++ []), [], hW', ?_, ?_, ?_, hb.frame _, fun h => by cases h⟩
  · exact trodAll_mk1 (shut_bool Tryd.underlying4 _)
  · exact trodAll_mk3 (Below.trod laidOut (by kernel_rfl) (of_decide_eq_true (by kernel_rfl)) h0 hb hlt) (shut_int Tryd.underlying3 wi) (shut_string Tryd.underlying9 hs)
  · rfl

/-- A world for the witness: the three variables laid. -/
def layAll (w : World) : World :=
  { layErr w with heap := ((layErr w).heap.modify 0 fun
      | .cells _ t frozen => .cells #[.int .u8 255, .int .u8 255, .int .u8 255, .int .u8 255] t frozen
      | o => o).modify 1 fun
      | .cells _ t frozen => .cells #[.int .u8 0, .int .u8 0, .int .u8 21, .int .u8 5] t frozen
      | o => o }
theorem climbed_met (os : Os) : laidMetH Tryd.prog Rows.climbedRow.laid ((layAll (World.holding Tryd.prog os ⟨#[], #[], []⟩)).forCall (fun _ _ => 0) ⟨#[], #[.slice none 0 0, .int .i64 0, .string ⟨#[]⟩], []⟩).memory :=
  laidMetH_of_parts (laidMet_of_run' 8 (by kernel_rfl) (by kernel_rfl)) (by kernel_rfl)
theorem climbed_reads (os : Os) {H : Type} (enc : TypeId × Value → H) : ∃ places, DataW.whole enc Tryd.prog ((layAll (World.holding Tryd.prog os ⟨#[], #[], []⟩)).forCall (fun _ _ => 0) ⟨#[], #[.slice none 0 0, .int .i64 0, .string ⟨#[]⟩], []⟩).memory Tryd.f6.params.toList Rows.climbedSpec.vars false (#[.slice none 0 0, .int .i64 0, .string ⟨#[]⟩] : Array Value).toList 8 = some ([.nil, .lit (.int .i64 0), .lit (.string [])], [], places) :=
  ⟨[], by kernel_rfl⟩

set_option maxRecDepth 100000 in
theorem climbed_lifted (os : Os) (started : os.Started) (H : Type) (enc : TypeId × Value → H) (F : Stop.Interp) :
    ReturnsInHanded {} Tryd.checked os 6 .any ((OpenSpec.ofChange Rows.climbedSpec).preRow enc Tryd.prog Tryd.f6 Rows.climbedRow.domain false Rows.climbedRow.laid) (((OpenSpec.ofChange Rows.climbedSpec).at F).post enc Tryd.prog Tryd.f6 false true false false) := by
  obtain ⟨places, hx⟩ := climbed_reads os enc
  refine returnsInHanded_of_row (C := Tryd.checked) (s := OpenSpec.ofChange Rows.climbedSpec) own started (by kernel_rfl) Tryd.func6
    (witness_row_at (enc := enc) (C := Tryd.checked) false (layAll (World.holding Tryd.prog os ⟨#[], #[], []⟩)) #[.slice none 0 0, .int .i64 0, .string ⟨#[]⟩] rfl (by kernel_rfl) (by kernel_rfl) (by kernel_rfl)
      (OpenSpec.preRow_of_cond 8 hx (by kernel_rfl) (fun k hk => by cases hk) (by kernel_rfl) (climbed_met os))) ?_
  intro W base args ds gs before hval hW _ _ hsz hL _ _
  exact climbed_contract H enc W base args ds gs before hval hW hL hsz

theorem climbed_said : Rows.ClimbedSaid :=
  OpenClaim.holds_of_cond 6 Tryd.f6 rfl rfl rfl rfl rfl rfl rfl ⟨rfl, rfl, rfl, rfl, rfl⟩ rfl rfl rfl rfl rfl (by kernel_rfl) Tryd.func6 (by kernel_rfl)
    (of_decide_eq_true (by kernel_rfl)) (by unfold Func.isWrapper; first | (rw [if_pos (by decide +kernel)]; kernel_rfl) | (rw [if_neg (by decide +kernel)]; exact ⟨rfl, rfl⟩))
    (fun os started H enc _ F => by rw [OpenClaim.pre_eq_preRow]; exact climbed_lifted os started H enc F)

theorem climbed_plain (f : FuncId) (fn : Func) (hf : Tryd.pinned.checked.prog.funcNamed "daybook/daybookkeep.Climbed" = some f) (hfn : Tryd.pinned.checked.prog.funcs[f]? = some fn) :
    true = Tryd.pinned.checked.prog.looks [] ∧ ∀ (j : Nat) t, fn.params[j]? = some t → Tryd.pinned.checked.prog.wantsStandIn t = false := by
  obtain rfl : f = 6 := Option.some.inj ((show Tryd.prog.funcNamed "daybook/daybookkeep.Climbed" = some 6 by kernel_rfl).symm.trans hf) |>.symm
  obtain rfl : fn = Tryd.f6 := (Option.some.inj (Tryd.func6.symm.trans hfn)).symm
  refine ⟨by kernel_rfl, fun j t ht => ?_⟩
  rw [Tryd.params6] at ht
  have hm : t = 27 ∨ t = 3 ∨ t = 9 := by simpa using Array.mem_of_getElem? ht
  rcases hm with rfl | rfl | rfl
  · exact (show Tryd.prog.wantsStandIn 27 = false by kernel_rfl)
  · exact (show Tryd.prog.wantsStandIn 3 = false by kernel_rfl)
  · exact (show Tryd.prog.wantsStandIn 9 = false by kernel_rfl)

theorem climbed_card : Rows.ClimbedCardSaid :=
  Claim7.holds_tied_plain_at .later [] _ _ _ _ climbed_said (fun _ h => by cases h) (by kernel_rfl) (fun _ h => by cases h) climbed_row_tie rfl ⟨rfl, rfl⟩ (by kernel_rfl) rfl climbed_plain (by kernel_rfl)
#print axioms climbed_card
end Go.Proofs.YtepehjalpkfniaaDoor
