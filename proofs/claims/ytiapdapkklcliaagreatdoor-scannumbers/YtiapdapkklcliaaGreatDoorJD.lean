/- The listed variables of ScanNumbers. -/
import Derived.Test.YtiapdapkklcliaaGreatDoorFrW
import Derived.Test.YtiapdapkklcliaaGreatDoorCards
import Derived.Test.YtiapdapkklcliaaGreatDoorTie
import Derived.ChangeMaps5
import Derived.Deep.DeepWitnessRowRef
import Derived.Lib.LaidTab
import Derived.Shelf.Strings.Fields

namespace Go.Proofs.YtiapdapkklcliaaGreatDoor
open Go.ChangeShapes Go.WideShapes Go.ChangeAt Go.RowKit Go.Joins Go.ChangeMaps

/-- The table of blanks among the bytes, as cells. -/
def spaceCells : Array Value := (Lib.asciiSpaceTab.map fun z => Value.int .u8 z).toArray
def rangeCells : Array Value := #[.int .u16 9, .int .u16 13, .int .u16 1, .int .u16 32, .int .u16 133, .int .u16 101, .int .u16 160, .int .u16 5760, .int .u16 5600, .int .u16 8192, .int .u16 8202, .int .u16 1, .int .u16 8232, .int .u16 8233, .int .u16 1, .int .u16 8239, .int .u16 8287, .int .u16 48, .int .u16 12288, .int .u16 12288, .int .u16 1]
/-- The world of the witness: the listed variables laid. -/
noncomputable def witN (os : Os) : World := { World.holding Tryz.prog os ⟨#[], #[], []⟩ with heap := (((((((World.holding Tryz.prog os ⟨#[], #[], []⟩).heap.modify 0 (layC wordsC)).modify 3 (layC signsC)).modify 5 (layC escC)).modify 1 (layC spaceCells)).modify 2 (layC #[.pointer (some ⟨12, 0, none⟩)])).push (.cells #[.slice (some ⟨13, 0, none⟩) 7 7, .slice none 0 0, .int .i64 2] 211)).push (.cells rangeCells 214) }

theorem space_laid : (Rows.laid_strings_asciiSpace : DataW Unit) = Lib.tabData .u8 Lib.asciiSpaceTab := by kernel_rfl
set_option maxRecDepth 100000 in
set_option maxHeartbeats 400000 in
/-- The tables, out of the row's own condition. -/
theorem num_laid {W : World} (h : laidMet Tryz.prog Rows.scanNumbersRow.laid W) : Glb W ∧ Lib.TabIs Tryz.prog W "strings.asciiSpace" .u8 Lib.asciiSpaceTab := by
  obtain ⟨ps, ⟨g4, t4, c4, f4, p4, q4, hg4, ht4, hv4, hd4, ⟨g5, t5, c5, f5, p5, q5, hg5, ht5, hv5, hd5, ⟨g1, t1, c1, f1, p1, q1, hg1, ht1, hv1, hd1, ⟨g2, t2, c2, f2, p2, q2, hg2, ht2, hv2, hd2, ⟨g3, t3, c3, f3, p3, q3, hg3, ht3, hv3, hd3, _, _⟩, _⟩, _⟩, _⟩, _⟩, _⟩ := h
  have n1 : Tryz.prog.globalNamed "pigeonhole/scan.escapes" = some 5 := by kernel_rfl
  have n2 : Tryz.prog.globalNamed "pigeonhole/scan.words" = some 0 := by kernel_rfl
  have n3 : Tryz.prog.globalNamed "pigeonhole/scan.signs" = some 3 := by kernel_rfl
  have n5 : Tryz.prog.globalNamed "strings.asciiSpace" = some 1 := by kernel_rfl
  obtain rfl := Option.some.inj (n1.symm.trans hg1)
  obtain rfl := Option.some.inj (n2.symm.trans hg2)
  obtain rfl := Option.some.inj (n3.symm.trans hg3)
  obtain rfl := Option.some.inj (n5.symm.trans hg5)
  have k1 : (Tryz.prog.globals[5]?).map (·.type) = some 236 := by kernel_rfl
  have k2 : (Tryz.prog.globals[0]?).map (·.type) = some 78 := by kernel_rfl
  have k3 : (Tryz.prog.globals[3]?).map (·.type) = some 135 := by kernel_rfl
  have k5 : (Tryz.prog.globals[1]?).map (·.type) = some 79 := by kernel_rfl
  obtain rfl := Option.some.inj (k1.symm.trans ht1)
  obtain rfl := Option.some.inj (k2.symm.trans ht2)
  obtain rfl := Option.some.inj (k3.symm.trans ht3)
  obtain rfl := Option.some.inj (k5.symm.trans ht5)
  have e1 := toArray_eq (cells_of_escs hd1)
  have e2 := toArray_eq (cells_of_strs (zs := Sc.words) Tryz.underlying78 Tryz.underlying9 cells_str cells_47 hd2)
  have e3 := toArray_eq (cells_of_strs (zs := Sc.signs) Tryz.underlying135 Tryz.underlying9 cells_str cells_54 hd3)
  refine ⟨⟨?_, ?_, ?_⟩, ?_⟩
  · have := holds_of_var n2 hv2
    rw [e2] at this
    exact this
  · have := holds_of_var n3 hv3
    rw [e3] at this
    exact this
  · have := holds_of_var n1 hv1
    rw [e1] at this
    exact this
  · have hd : DataW.trod (fun _ => ()) Tryz.prog W 0 (fun _ => true) false f5 79 c5.toList = some (Rows.laid_strings_asciiSpace, p5) := hd5
    rw [space_laid] at hd
    have e := Lib.cells_of_tab (n := 256) Tryz.underlying79 Tryz.underlying5 (by kernel_rfl) (by kernel_rfl) hd
    show W.var? Tryz.prog "strings.asciiSpace" = some _
    rw [hv5, ← e]

end Go.Proofs.YtiapdapkklcliaaGreatDoor

/- The frame of the row of ScanNumbers: what the walk has to show is its one hypothesis. -/
namespace Go.Proofs.YtiapdapkklcliaaGreatDoor
open Go.ChangeShapes Go.WideShapes Go.ChangeAt Go.RowKit Go.Joins Go.ChangeMaps

/-- What the walk has to show. -/
def ScanNumbersWalk : Prop := ∀ (W : World) (_hg : Glb W) (_ht : Lib.TabIs Tryz.prog W "strings.asciiSpace" .u8 Lib.asciiSpaceTab),
    Calls Tryz.prog 4 #[] W fun e w' => e = .returned (.bool true) ∧ Upd [] W w'

set_option maxHeartbeats 1000000 in
set_option maxRecDepth 100000 in
theorem scanNumbers_contract (hwalk : ScanNumbersWalk) (H : Type) (enc : TypeId × Value → H) (W : World) (base : Nat) (args : Array Value) (ds gs : List (DataW H)) (before : List MemPlace) (hgl : Glb W ∧ Lib.TabIs Tryz.prog W "strings.asciiSpace" .u8 Lib.asciiSpaceTab)
    (hval : ∀ (j : Nat) t v, Tryz.f4.params[j]? = some t → args[j]? = some v → Value.okWide Tryz.prog W .any base t v)
    (hre : (DataW.weightsEach Tryz.prog (Tryz.f4.params.toList ++ (OpenSpec.ofChange Rows.scanNumbersSpec).bare.plain.varTypes Tryz.prog) (ds ++ gs)).all (· ≤ reachBytes) = true)
    (hW : DataW.Whole enc Tryz.prog Tryz.f4.params.toList Rows.scanNumbersSpec.vars false W args.toList ds gs before) :
    Calls Tryz.prog 4 args W fun e W' => ∃ v, e = .returned v ∧ Rows.scanNumbersSpec.post enc Tryz.prog Tryz.f4 false true false false W args v W' := by
  have hW' := hW
  obtain ⟨p, q, hA0, hV, rfl, hfz, hnd⟩ := hW
  have hA : DataW.TrodAll enc Tryz.prog W 0 (fun _ => true) true Tryz.f4.params.toList args.toList ds p := hA0
  rw [Tryz.params4] at hA hval
  obtain ⟨hargs, rfl, rfl⟩ := trodAll_nil hA
  obtain rfl : args = #[] := by cases args; simp_all
  obtain ⟨rfl, rfl⟩ := trodVars_none hV
  clear hA0
  simp only [List.append_nil] at hW'
  rw [Tryz.params4] at hre
  clear hre
  refine (hwalk W hgl.1 hgl.2).mono fun e W' ⟨he, hU⟩ => ?_
  subst he
  have hbel := hU.below
  refine ⟨_, rfl, _, _, _, [], [], [], hW', ?_, ?_, rfl, hbel.frame _, fun h => by cases h⟩
  · exact trodAll_cons_mk (shut_bool Tryz.underlying4 _) trodAll_mk0
  · exact trodAll_mk0

theorem scanNumbers_laid (os : Os) : laidMet Tryz.prog Rows.scanNumbersRow.laid ((witN os).forCall (fun _ _ => 0) ⟨#[], #[], []⟩).memory :=
  laidMet_of_run' 8 (by kernel_rfl) (by kernel_rfl)
theorem scanNumbers_reads (os : Os) {H : Type} (enc : TypeId × Value → H) : ∃ places, DataW.whole enc Tryz.prog ((witN os).forCall (fun _ _ => 0) ⟨#[], #[], []⟩).memory Tryz.f4.params.toList Rows.scanNumbersSpec.vars false #[].toList 8 = some ([], [], places) :=
  ⟨[], by kernel_rfl⟩

set_option maxHeartbeats 1000000 in
set_option maxRecDepth 100000 in
theorem scanNumbers_lifted (hwalk : ScanNumbersWalk) (os : Os) (started : os.Started) (H : Type) (enc : TypeId × Value → H) (F : Stop.Interp) :
    ReturnsInHanded {} Tryz.checked os 4 .any ((OpenSpec.ofChange Rows.scanNumbersSpec).preRow enc Tryz.prog Tryz.f4 Rows.scanNumbersRow.domain false Rows.scanNumbersRow.laid) (((OpenSpec.ofChange Rows.scanNumbersSpec).at F).post enc Tryz.prog Tryz.f4 false true false false) := by
  obtain ⟨places, hx⟩ := scanNumbers_reads os enc
  refine returnsInHanded_of_row (C := Tryz.checked) (s := OpenSpec.ofChange Rows.scanNumbersSpec) own started (by kernel_rfl) Tryz.func4
    (witness_row_atRef (enc := enc) (C := Tryz.checked) false (witN os) #[] rfl (by kernel_rfl) (by kernel_rfl) (by kernel_rfl)
      (OpenSpec.preRow_of_cond 8 hx (by kernel_rfl) (fun k hk => by cases hk) (by kernel_rfl) (scanNumbers_laid os))) ?_
  intro W base args ds gs before hval hW _ _ hre hlaid _ _
  exact scanNumbers_contract hwalk H enc W base args ds gs before (num_laid hlaid) hval hre hW

set_option maxRecDepth 100000 in
theorem scanNumbers_said (hwalk : ScanNumbersWalk) : Rows.ScanNumbersSaid :=
  OpenClaim.holds_of_cond 4 Tryz.f4 rfl rfl rfl rfl rfl rfl rfl ⟨rfl, rfl, rfl, rfl, rfl⟩ rfl rfl rfl rfl rfl (by kernel_rfl) Tryz.func4 (by kernel_rfl)
    (of_decide_eq_true (by kernel_rfl)) (by unfold Func.isWrapper; first | (rw [if_pos (by decide +kernel)]; kernel_rfl) | (rw [if_neg (by decide +kernel)]; exact ⟨rfl, rfl⟩))
    (fun os started H enc _ F => by rw [OpenClaim.pre_eq_preRow]; exact scanNumbers_lifted hwalk os started H enc F)

theorem scanNumbers_plain (f : FuncId) (fn : Func) (hf : Tryz.pinned.checked.prog.funcNamed "pigeonhole/pigeonholelaw03.ScanNumbers" = some f) (hfn : Tryz.pinned.checked.prog.funcs[f]? = some fn) :
    false = Tryz.pinned.checked.prog.looks [] ∧ ∀ (j : Nat) t, fn.params[j]? = some t → Tryz.pinned.checked.prog.wantsStandIn t = false := by
  obtain rfl : f = 4 := Option.some.inj ((show Tryz.prog.funcNamed "pigeonhole/pigeonholelaw03.ScanNumbers" = some 4 by kernel_rfl).symm.trans hf) |>.symm
  obtain rfl : fn = Tryz.f4 := (Option.some.inj (Tryz.func4.symm.trans hfn)).symm
  refine ⟨by kernel_rfl, fun j t ht => ?_⟩
  rw [Tryz.params4] at ht
  simp at ht

/-- The card, of the walk. -/
theorem scanNumbers_card (hwalk : ScanNumbersWalk) : Rows.ScanNumbersCardSaid :=
  Claim7.holds_tied_plain_at .later [] _ _ _ _ (scanNumbers_said hwalk) (fun _ h => by cases h) (by kernel_rfl) (fun _ h => by cases h) scanNumbers_row_tie rfl ⟨rfl, rfl⟩ (by kernel_rfl) rfl scanNumbers_plain (by kernel_rfl)

end Go.Proofs.YtiapdapkklcliaaGreatDoor
