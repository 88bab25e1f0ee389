/- The tables, out of the row's own condition; the world of the witness. -/
import Derived.Test.YtehfoblfmehbdaaDoorFrA
import Derived.Deep.DeepWitnessRowRef
namespace Go.Proofs.YtehfoblfmehbdaaDoor
open Go.ChangeShapes Go.WideShapes Go.ChangeAt Go.RowKit Go.Joins

theorem cell_of_var {w : World} {name : String} {g : Nat} {cs : Array Value} (hg : Tryd.prog.globalNamed name = some g) (h : w.var? Tryd.prog name = some cs) : ∃ t fr, w.heap[g]? = some (.cells cs t fr) := by
  unfold World.var? at h
  rw [hg] at h
  simp only [Option.bind_some] at h
  split at h
  · rename_i cs' t fr he
    cases h
    exact ⟨t, fr, he⟩
  · cases h
theorem cellF {w : World} {g : Nat} {cs : Array Value} {t : TypeId} {fr : Nat × Nat} (h : w.heap[g]? = some (.cells cs t fr)) (i : Nat) : w.cell? ⟨g, i, none⟩ = cs[i]? := by
  simp [World.cell?, h]

/-- The tables are laid. -/
def Glb (W : World) : Prop := ∃ A C, Frm A C W ∧ Ops W
theorem glb_of_laid {W : World} (h : laidMet Tryd.prog Rows.nodeRightsRow.laid W) : Glb W := by
  obtain ⟨ps, ⟨g1, t1, c1, f1, p1, q1, hg1, ht1, hv1, hd1, ⟨g2, t2, c2, f2, p2, q2, hg2, ht2, hv2, hd2, _, _⟩, _⟩, _⟩ := h
  have n1 : Tryd.prog.globalNamed "pigeonhole/node.operators" = some 1 := by kernel_rfl
  have n2 : Tryd.prog.globalNamed "pigeonhole/node.forms" = some 0 := by kernel_rfl
  obtain rfl := Option.some.inj (n1.symm.trans hg1)
  obtain rfl := Option.some.inj (n2.symm.trans hg2)
  have k1 : (Tryd.prog.globals[1]?).map (·.type) = some 72 := by kernel_rfl
  have k2 : (Tryd.prog.globals[0]?).map (·.type) = some 66 := by kernel_rfl
  obtain rfl := Option.some.inj (k1.symm.trans ht1)
  obtain rfl := Option.some.inj (k2.symm.trans ht2)
  have hd1' : DataW.trod (fun (_ : TypeId × Value) => ()) Tryd.prog W 0 (fun _ => true) false f1 72 c1.toList = some (Rows.laid_pigeonhole_node_operators, p1) := hd1
  have hd2' : DataW.trod (fun (_ : TypeId × Value) => ()) Tryd.prog W 0 (fun _ => true) false f2 66 c2.toList = some (Rows.laid_pigeonhole_node_forms, p2) := hd2
  rw [ops_laid] at hd1'
  rw [forms_laid] at hd2'
  have e1 := ops_cells hd1'
  have e2 := forms_cells hd2'
  obtain ⟨s1, r1, y1⟩ := cell_of_var n1 hv1
  obtain ⟨s2, r2, y2⟩ := cell_of_var n2 hv2
  have e1' : c1 = opsV := by
    have := congrArg List.toArray e1
    simpa using this
  rw [e1'] at y1
  have z2 := fun i => cellF y2 i
  refine ⟨fun i => if h : i < 36 then (e2 i h).2.2.2.2.choose else none, fun i => if h : i < 36 then (e2 i h).2.2.2.2.choose_spec.choose else 0, ⟨lt_of_block y2, fun i hi => ?_, fun i hi => ?_, fun i hi => ?_, fun i hi => ?_, fun i hi => ?_, fun i hi => ?_, fun i hi j hj => ?_⟩, ⟨lt_of_block y1, s1, r1, y1⟩⟩
  · rw [z2]; simpa using (e2 i hi).1
  · rw [z2]; simpa using (e2 i hi).2.1
  · rw [z2]; simpa using (e2 i hi).2.2.1
  · rw [z2]
    simp only [dif_pos hi]
    exact Array.getElem?_toList.symm.trans (e2 i hi).2.2.2.2.choose_spec.choose_spec.1
  · rw [z2]; simpa using (e2 i hi).2.2.2.1
  · simp only [dif_pos hi]
    exact ⟨(e2 i hi).2.2.2.2.choose_spec.choose_spec.2.1, (e2 i hi).2.2.2.2.choose_spec.choose_spec.2.2.1⟩
  · simp only [dif_pos hi]
    obtain ⟨b, o, hb, hc⟩ := (e2 i hi).2.2.2.2.choose_spec.choose_spec.2.2.2 j hj
    exact ⟨b, o, hb, World.block_lt_of_cell? _ _ hc, hc⟩

def layC (cs : Array Value) : Obj → Obj
  | .cells _ t frozen => .cells cs t frozen
  | o => o
def wForm0 : List Value := [.int .u8 0, .int .u8 1, .int .u8 0, .slice none 0 0, .bool false, .int .u8 0, .int .u8 2, .int .u8 0, .slice none 0 0, .bool false, .int .u8 0, .int .u8 3, .int .u8 0, .slice none 0 0, .bool false, .int .u8 0, .int .u8 4, .int .u8 0, .slice none 0 0, .bool false, .int .u8 0, .int .u8 5, .int .u8 0, .slice (some ⟨7, 0, none⟩) 1 1, .bool true, .int .u8 0, .int .u8 6, .int .u8 0, .slice (some ⟨8, 0, none⟩) 1 1, .bool true, .int .u8 0, .int .u8 7, .int .u8 1, .slice (some ⟨9, 0, none⟩) 2 2, .bool false, .int .u8 0, .int .u8 8, .int .u8 2, .slice (some ⟨10, 0, none⟩) 2 2, .bool false, .int .u8 0, .int .u8 9, .int .u8 1, .slice (some ⟨11, 0, none⟩) 1 1, .bool true, .int .u8 0, .int .u8 10, .int .u8 1, .slice (some ⟨12, 0, none⟩) 1 1, .bool true, .int .u8 0, .int .u8 11, .int .u8 0, .slice none 0 0, .bool false, .int .u8 0, .int .u8 12, .int .u8 2, .slice (some ⟨13, 0, none⟩) 2 2, .bool true]
def wForm1 : List Value := [.int .u8 0, .int .u8 13, .int .u8 1, .slice (some ⟨14, 0, none⟩) 1 1, .bool true, .int .u8 0, .int .u8 14, .int .u8 1, .slice (some ⟨15, 0, none⟩) 1 1, .bool true, .int .u8 0, .int .u8 16, .int .u8 2, .slice (some ⟨16, 0, none⟩) 2 2, .bool true, .int .u8 0, .int .u8 17, .int .u8 2, .slice (some ⟨17, 0, none⟩) 2 2, .bool true, .int .u8 0, .int .u8 19, .int .u8 1, .slice (some ⟨18, 0, none⟩) 1 1, .bool true, .int .u8 1, .int .u8 22, .int .u8 0, .slice (some ⟨19, 0, none⟩) 1 1, .bool true, .int .u8 2, .int .u8 21, .int .u8 1, .slice (some ⟨20, 0, none⟩) 1 1, .bool true, .int .u8 3, .int .u8 19, .int .u8 1, .slice (some ⟨21, 0, none⟩) 1 1, .bool true, .int .u8 4, .int .u8 19, .int .u8 0, .slice (some ⟨22, 0, none⟩) 1 1, .bool true, .int .u8 5, .int .u8 19, .int .u8 1, .slice (some ⟨23, 0, none⟩) 1 1, .bool false, .int .u8 6, .int .u8 19, .int .u8 0, .slice none 0 0, .bool false, .int .u8 7, .int .u8 19, .int .u8 0, .slice (some ⟨24, 0, none⟩) 1 1, .bool true]
def wForm2 : List Value := [.int .u8 8, .int .u8 19, .int .u8 1, .slice (some ⟨25, 0, none⟩) 1 1, .bool true, .int .u8 9, .int .u8 20, .int .u8 3, .slice (some ⟨26, 0, none⟩) 3 3, .bool false, .int .u8 10, .int .u8 20, .int .u8 3, .slice (some ⟨27, 0, none⟩) 3 3, .bool false, .int .u8 11, .int .u8 20, .int .u8 3, .slice (some ⟨28, 0, none⟩) 3 3, .bool false, .int .u8 12, .int .u8 20, .int .u8 3, .slice (some ⟨29, 0, none⟩) 3 3, .bool false, .int .u8 13, .int .u8 19, .int .u8 1, .slice (some ⟨30, 0, none⟩) 1 1, .bool false, .int .u8 14, .int .u8 5, .int .u8 2, .slice (some ⟨31, 0, none⟩) 2 2, .bool false, .int .u8 15, .int .u8 2, .int .u8 0, .slice none 0 0, .bool false, .int .u8 15, .int .u8 3, .int .u8 0, .slice none 0 0, .bool false, .int .u8 16, .int .u8 20, .int .u8 3, .slice (some ⟨32, 0, none⟩) 3 3, .bool false, .int .u8 16, .int .u8 15, .int .u8 2, .slice (some ⟨33, 0, none⟩) 2 2, .bool false, .int .u8 17, .int .u8 18, .int .u8 2, .slice (some ⟨34, 0, none⟩) 2 2, .bool false]
def wRows0 : List Obj := [.cells #[.int .u8 0] 38, .cells #[.int .u8 0] 38, .cells #[.int .u8 0, .int .u8 0] 38, .cells #[.int .u8 0, .int .u8 0] 38, .cells #[.int .u8 0] 38, .cells #[.int .u8 9] 38, .cells #[.int .u8 0, .int .u8 10] 38, .cells #[.int .u8 11] 38, .cells #[.int .u8 16] 38, .cells #[.int .u8 3, .int .u8 12] 38, .cells #[.int .u8 0, .int .u8 17] 38, .cells #[.int .u8 0] 38, .cells #[.int .u8 2] 38, .cells #[.int .u8 9] 38, .cells #[.int .u8 0] 38, .cells #[.int .u8 0] 38, .cells #[.int .u8 0] 38, .cells #[.int .u8 3] 38, .cells #[.int .u8 3] 38, .cells #[.int .u8 4, .int .u8 7, .int .u8 3] 38]
def wRows1 : List Obj := [.cells #[.int .u8 5, .int .u8 7, .int .u8 3] 38, .cells #[.int .u8 6, .int .u8 8, .int .u8 3] 38, .cells #[.int .u8 13, .int .u8 7, .int .u8 3] 38, .cells #[.int .u8 14] 38, .cells #[.int .u8 15, .int .u8 0] 38, .cells #[.int .u8 5, .int .u8 7, .int .u8 3] 38, .cells #[.int .u8 0, .int .u8 3] 38, .cells #[.int .u8 0, .int .u8 0] 38]
/-- The world of the witness: the listed variables laid. -/
noncomputable def witW (os : Os) : World := { World.holding Tryd.prog os ⟨#[], #[], []⟩ with heap := (((World.holding Tryd.prog os ⟨#[], #[], []⟩).heap.modify 1 (layC opsV)).modify 0 (layC (wForm0 ++ wForm1 ++ wForm2).toArray)) ++ (wRows0 ++ wRows1).toArray }
theorem laid_met (os : Os) (args : Array Value) : laidMet Tryd.prog Rows.nodeRightsRow.laid ((witW os).forCall (fun _ _ => 0) ⟨#[], args, []⟩).memory :=
  laidMet_of_run' 8 (by kernel_rfl) (by kernel_rfl)

end Go.Proofs.YtehfoblfmehbdaaDoor
