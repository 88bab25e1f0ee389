/- The tables, out of the row's own condition; the world of the witness. -/
import Derived.Test.YtpgjcedonimgnaaDoorFrA
import Derived.Deep.DeepWitnessRowRef
namespace Go.Proofs.YtpgjcedonimgnaaDoor
open Go.ChangeShapes Go.WideShapes Go.ChangeAt Go.RowKit Go.Joins

theorem cell_of_var {w : World} {name : String} {g : Nat} {cs : Array Value} (hg : Tryd.prog.globalNamed name = some g) (h : w.var? Tryd.prog name = some cs) : ∃ t fr, w.heap[g]? = some (.cells cs t fr) := by
  unfold World.var? at h
  rw [hg] at h
  simp only [Option.bind_some] at h
  split at h
  · rename_i cs' t fr he
    cases h
    exact ⟨t, fr, he⟩
  · cases h
theorem cellF {w : World} {g : Nat} {cs : Array Value} {t : TypeId} {fr : Nat × Nat} (h : w.heap[g]? = some (.cells cs t fr)) (i : Nat) : w.cell? ⟨g, i, none⟩ = cs[i]? := by
  simp [World.cell?, h]

/-- The tables are laid. -/
def Glb (W : World) : Prop := ∃ A C, Frm A C W ∧ Ops W ∧ Blt W
theorem glb_of_laid {W : World} (h : laidMet Tryd.prog Rows.lintKindsRow.laid W) : Glb W := by
  obtain ⟨ps, ⟨g1, t1, c1, f1, p1, q1, hg1, ht1, hv1, hd1, ⟨g2, t2, c2, f2, p2, q2, hg2, ht2, hv2, hd2, ⟨g3, t3, c3, f3, p3, q3, hg3, ht3, hv3, hd3, _, _⟩, _⟩, _⟩, _⟩ := h
  have n1 : Tryd.prog.globalNamed "pigeonhole/node.operators" = some 2 := by kernel_rfl
  have n2 : Tryd.prog.globalNamed "pigeonhole/node.forms" = some 1 := by kernel_rfl
  have n3 : Tryd.prog.globalNamed "pigeonhole/lint.builtIn" = some 0 := by kernel_rfl
  obtain rfl := Option.some.inj (n1.symm.trans hg1)
  obtain rfl := Option.some.inj (n2.symm.trans hg2)
  obtain rfl := Option.some.inj (n3.symm.trans hg3)
  have k1 : (Tryd.prog.globals[2]?).map (·.type) = some 85 := by kernel_rfl
  have k2 : (Tryd.prog.globals[1]?).map (·.type) = some 76 := by kernel_rfl
  have k3 : (Tryd.prog.globals[0]?).map (·.type) = some 45 := by kernel_rfl
  obtain rfl := Option.some.inj (k1.symm.trans ht1)
  obtain rfl := Option.some.inj (k2.symm.trans ht2)
  obtain rfl := Option.some.inj (k3.symm.trans ht3)
  have hd1' : DataW.trod (fun (_ : TypeId × Value) => ()) Tryd.prog W 0 (fun _ => true) false f1 85 c1.toList = some (Rows.laid_pigeonhole_node_operators, p1) := hd1
  have hd2' : DataW.trod (fun (_ : TypeId × Value) => ()) Tryd.prog W 0 (fun _ => true) false f2 76 c2.toList = some (Rows.laid_pigeonhole_node_forms, p2) := hd2
  have hd3' : DataW.trod (fun (_ : TypeId × Value) => ()) Tryd.prog W 0 (fun _ => true) false f3 45 c3.toList = some (Rows.laid_pigeonhole_lint_builtIn, p3) := hd3
  rw [ops_laid] at hd1'
  rw [forms_laid] at hd2'
  rw [blt_laid] at hd3'
  have e1 := ops_cells hd1'
  have e2 := forms_cells hd2'
  have e3 := blt_cells hd3'
  obtain ⟨s1, r1, y1⟩ := cell_of_var n1 hv1
  obtain ⟨s2, r2, y2⟩ := cell_of_var n2 hv2
  obtain ⟨s3, r3, y3⟩ := cell_of_var n3 hv3
  have e1' : c1 = opsV := by
    have := congrArg List.toArray e1
    simpa using this
  rw [e1'] at y1
  have z2 := fun i => cellF y2 i
  have z3 := fun i => cellF y3 i
  refine ⟨fun i => if h : i < 36 then (e2 i h).2.2.2.2.choose else none, fun i => if h : i < 36 then (e2 i h).2.2.2.2.choose_spec.choose else 0, ⟨lt_of_block y2, fun i hi => ?_, fun i hi => ?_, fun i hi => ?_, fun i hi => ?_, fun i hi => ?_, fun i hi => ?_, fun i hi j hj => ?_⟩, ⟨lt_of_block y1, s1, r1, y1⟩, fun k a hk ha => ?_⟩
  · rw [z2]; simpa using (e2 i hi).1
  · rw [z2]; simpa using (e2 i hi).2.1
  · rw [z2]; simpa using (e2 i hi).2.2.1
  · rw [z2]
    simp only [dif_pos hi]
    exact Array.getElem?_toList.symm.trans (e2 i hi).2.2.2.2.choose_spec.choose_spec.1
  · rw [z2]; simpa using (e2 i hi).2.2.2.1
  · simp only [dif_pos hi]
    exact ⟨(e2 i hi).2.2.2.2.choose_spec.choose_spec.2.1, (e2 i hi).2.2.2.2.choose_spec.choose_spec.2.2.1⟩
  · simp only [dif_pos hi]
    obtain ⟨b, o, hb, hc⟩ := (e2 i hi).2.2.2.2.choose_spec.choose_spec.2.2.2 j hj
    exact ⟨b, o, hb, cell_lt hc, hc⟩
  · obtain ⟨ad, c, h1, h2⟩ := e3 k a hk ha
    refine ⟨ad, c, ?_, h2⟩
    rw [z3]
    rw [Array.getElem?_toList] at h1
    exact h1

def layC (cs : Array Value) : Obj → Obj
  | .cells _ t frozen => .cells cs t frozen
  | o => o
def wForm0 : List Value := [.int .u8 0, .int .u8 1, .int .u8 0, .slice none 0 0, .bool false, .int .u8 0, .int .u8 2, .int .u8 0, .slice none 0 0, .bool false, .int .u8 0, .int .u8 3, .int .u8 0, .slice none 0 0, .bool false, .int .u8 0, .int .u8 4, .int .u8 0, .slice none 0 0, .bool false, .int .u8 0, .int .u8 5, .int .u8 0, .slice (some ⟨8, 0, none⟩) 1 1, .bool true, .int .u8 0, .int .u8 6, .int .u8 0, .slice (some ⟨9, 0, none⟩) 1 1, .bool true, .int .u8 0, .int .u8 7, .int .u8 1, .slice (some ⟨10, 0, none⟩) 2 2, .bool false, .int .u8 0, .int .u8 8, .int .u8 2, .slice (some ⟨11, 0, none⟩) 2 2, .bool false, .int .u8 0, .int .u8 9, .int .u8 1, .slice (some ⟨12, 0, none⟩) 1 1, .bool true, .int .u8 0, .int .u8 10, .int .u8 1, .slice (some ⟨13, 0, none⟩) 1 1, .bool true, .int .u8 0, .int .u8 11, .int .u8 0, .slice none 0 0, .bool false, .int .u8 0, .int .u8 12, .int .u8 2, .slice (some ⟨14, 0, none⟩) 2 2, .bool true]
def wForm1 : List Value := [.int .u8 0, .int .u8 13, .int .u8 1, .slice (some ⟨15, 0, none⟩) 1 1, .bool true, .int .u8 0, .int .u8 14, .int .u8 1, .slice (some ⟨16, 0, none⟩) 1 1, .bool true, .int .u8 0, .int .u8 16, .int .u8 2, .slice (some ⟨17, 0, none⟩) 2 2, .bool true, .int .u8 0, .int .u8 17, .int .u8 2, .slice (some ⟨18, 0, none⟩) 2 2, .bool true, .int .u8 0, .int .u8 19, .int .u8 1, .slice (some ⟨19, 0, none⟩) 1 1, .bool true, .int .u8 1, .int .u8 22, .int .u8 0, .slice (some ⟨20, 0, none⟩) 1 1, .bool true, .int .u8 2, .int .u8 21, .int .u8 1, .slice (some ⟨21, 0, none⟩) 1 1, .bool true, .int .u8 3, .int .u8 19, .int .u8 1, .slice (some ⟨22, 0, none⟩) 1 1, .bool true, .int .u8 4, .int .u8 19, .int .u8 0, .slice (some ⟨23, 0, none⟩) 1 1, .bool true, .int .u8 5, .int .u8 19, .int .u8 1, .slice (some ⟨24, 0, none⟩) 1 1, .bool false, .int .u8 6, .int .u8 19, .int .u8 0, .slice none 0 0, .bool false, .int .u8 7, .int .u8 19, .int .u8 0, .slice (some ⟨25, 0, none⟩) 1 1, .bool true]
def wForm2 : List Value := [.int .u8 8, .int .u8 19, .int .u8 1, .slice (some ⟨26, 0, none⟩) 1 1, .bool true, .int .u8 9, .int .u8 20, .int .u8 3, .slice (some ⟨27, 0, none⟩) 3 3, .bool false, .int .u8 10, .int .u8 20, .int .u8 3, .slice (some ⟨28, 0, none⟩) 3 3, .bool false, .int .u8 11, .int .u8 20, .int .u8 3, .slice (some ⟨29, 0, none⟩) 3 3, .bool false, .int .u8 12, .int .u8 20, .int .u8 3, .slice (some ⟨30, 0, none⟩) 3 3, .bool false, .int .u8 13, .int .u8 19, .int .u8 1, .slice (some ⟨31, 0, none⟩) 1 1, .bool false, .int .u8 14, .int .u8 5, .int .u8 2, .slice (some ⟨32, 0, none⟩) 2 2, .bool false, .int .u8 15, .int .u8 2, .int .u8 0, .slice none 0 0, .bool false, .int .u8 15, .int .u8 3, .int .u8 0, .slice none 0 0, .bool false, .int .u8 16, .int .u8 20, .int .u8 3, .slice (some ⟨33, 0, none⟩) 3 3, .bool false, .int .u8 16, .int .u8 15, .int .u8 2, .slice (some ⟨34, 0, none⟩) 2 2, .bool false, .int .u8 17, .int .u8 18, .int .u8 2, .slice (some ⟨35, 0, none⟩) 2 2, .bool false]
def wBlt : Array Value := #[.slice none 0 0, .slice none 0 0, .slice none 0 0, .slice none 0 0, .slice none 0 0, .slice (some ⟨36, 0, none⟩) 14 14, .slice (some ⟨37, 0, none⟩) 8 8, .slice (some ⟨38, 0, none⟩) 1 1, .slice none 0 0, .slice (some ⟨39, 0, none⟩) 16 16, .slice (some ⟨40, 0, none⟩) 18 18, .slice none 0 0, .slice (some ⟨41, 0, none⟩) 3 3, .slice (some ⟨42, 0, none⟩) 11 11, .slice (some ⟨43, 0, none⟩) 3 3, .slice none 0 0]
def wRows0 : List Obj := [.cells #[.int .u8 0] 59, .cells #[.int .u8 0] 59, .cells #[.int .u8 0, .int .u8 0] 59, .cells #[.int .u8 0, .int .u8 0] 59, .cells #[.int .u8 0] 59, .cells #[.int .u8 9] 59, .cells #[.int .u8 0, .int .u8 10] 59, .cells #[.int .u8 11] 59, .cells #[.int .u8 16] 59, .cells #[.int .u8 3, .int .u8 12] 59, .cells #[.int .u8 0, .int .u8 17] 59, .cells #[.int .u8 0] 59, .cells #[.int .u8 2] 59, .cells #[.int .u8 9] 59, .cells #[.int .u8 0] 59, .cells #[.int .u8 0] 59, .cells #[.int .u8 0] 59, .cells #[.int .u8 3] 59, .cells #[.int .u8 3] 59, .cells #[.int .u8 4, .int .u8 7, .int .u8 3] 59]
def wRows1 : List Obj := [.cells #[.int .u8 5, .int .u8 7, .int .u8 3] 59, .cells #[.int .u8 6, .int .u8 8, .int .u8 3] 59, .cells #[.int .u8 13, .int .u8 7, .int .u8 3] 59, .cells #[.int .u8 14] 59, .cells #[.int .u8 15, .int .u8 0] 59, .cells #[.int .u8 5, .int .u8 7, .int .u8 3] 59, .cells #[.int .u8 0, .int .u8 3] 59, .cells #[.int .u8 0, .int .u8 0] 59, .cells #[.string ⟨#[116, 117, 112, 108, 101, 95, 116, 111, 95, 108, 105, 115, 116]⟩, .string ⟨#[108, 105, 115, 116, 95, 116, 111, 95, 116, 117, 112, 108, 101]⟩, .string ⟨#[97, 116, 111, 109, 95, 116, 111, 95, 108, 105, 115, 116]⟩, .string ⟨#[108, 105, 115, 116, 95, 116, 111, 95, 97, 116, 111, 109]⟩, .string ⟨#[105, 110, 116, 101, 103, 101, 114, 95, 116, 111, 95, 108, 105, 115, 116]⟩, .string ⟨#[108, 105, 115, 116, 95, 116, 111, 95, 105, 110, 116, 101, 103, 101, 114]⟩, .string ⟨#[114, 101, 118, 101, 114, 115, 101]⟩, .string ⟨#[115, 117, 109]⟩, .string ⟨#[115, 111, 114, 116]⟩, .string ⟨#[117, 115, 111, 114, 116]⟩, .string ⟨#[108, 97, 115, 116]⟩, .string ⟨#[116, 104, 114, 111, 119]⟩, .string ⟨#[101, 114, 114, 111, 114]⟩, .string ⟨#[101, 120, 105, 116]⟩] 9, .cells #[.string ⟨#[43, 43]⟩, .string ⟨#[45, 45]⟩, .string ⟨#[109, 97, 120]⟩, .string ⟨#[109, 105, 110]⟩, .string ⟨#[110, 116, 104]⟩, .string ⟨#[110, 116, 104, 116, 97, 105, 108]⟩, .string ⟨#[109, 101, 109, 98, 101, 114]⟩, .string ⟨#[115, 101, 113]⟩] 9, .cells #[.string ⟨#[115, 101, 116, 101, 108, 101, 109, 101, 110, 116]⟩] 9, .cells #[.string ⟨#[43]⟩, .string ⟨#[45]⟩, .string ⟨#[110, 111, 116]⟩, .string ⟨#[97, 98, 115]⟩, .string ⟨#[104, 100]⟩, .string ⟨#[116, 108]⟩, .string ⟨#[108, 101, 110, 103, 116, 104]⟩, .string ⟨#[116, 117, 112, 108, 101, 95, 115, 105, 122, 101]⟩, .string ⟨#[105, 115, 95, 105, 110, 116, 101, 103, 101, 114]⟩, .string ⟨#[105, 115, 95, 97, 116, 111, 109]⟩, .string ⟨#[105, 115, 95, 116, 117, 112, 108, 101]⟩, .string ⟨#[105, 115, 95, 108, 105, 115, 116]⟩, .string ⟨#[105, 115, 95, 112, 105, 100]⟩, .string ⟨#[105, 115, 95, 114, 101, 102, 101, 114, 101, 110, 99, 101]⟩, .string ⟨#[105, 115, 95, 102, 117, 110, 99, 116, 105, 111, 110]⟩, .string ⟨#[105, 115, 95, 98, 111, 111, 108, 101, 97, 110]⟩] 9, .cells #[.string ⟨#[43]⟩, .string ⟨#[45]⟩, .string ⟨#[42]⟩, .string ⟨#[100, 105, 118]⟩, .string ⟨#[114, 101, 109]⟩, .string ⟨#[61, 61]⟩, .string ⟨#[47, 61]⟩, .string ⟨#[61, 58, 61]⟩, .string ⟨#[61, 47, 61]⟩, .string ⟨#[60]⟩, .string ⟨#[61, 60]⟩, .string ⟨#[62]⟩, .string ⟨#[62, 61]⟩, .string ⟨#[97, 110, 100]⟩, .string ⟨#[111, 114]⟩, .string ⟨#[120, 111, 114]⟩, .string ⟨#[101, 108, 101, 109, 101, 110, 116]⟩, .string ⟨#[105, 115, 95, 102, 117, 110, 99, 116, 105, 111, 110]⟩] 9, .cells #[.string ⟨#[115, 101, 108, 102]⟩, .string ⟨#[109, 97, 107, 101, 95, 114, 101, 102]⟩, .string ⟨#[110, 111, 119]⟩] 9, .cells #[.string ⟨#[115, 112, 97, 119, 110]⟩, .string ⟨#[115, 112, 97, 119, 110, 95, 108, 105, 110, 107]⟩, .string ⟨#[115, 112, 97, 119, 110, 95, 109, 111, 110, 105, 116, 111, 114]⟩, .string ⟨#[108, 105, 110, 107]⟩, .string ⟨#[117, 110, 108, 105, 110, 107]⟩, .string ⟨#[109, 111, 110, 105, 116, 111, 114]⟩, .string ⟨#[100, 101, 109, 111, 110, 105, 116, 111, 114]⟩, .string ⟨#[116, 114, 97, 112, 95, 101, 120, 105, 116]⟩, .string ⟨#[117, 110, 114, 101, 103, 105, 115, 116, 101, 114]⟩, .string ⟨#[119, 104, 101, 114, 101, 105, 115]⟩, .string ⟨#[112, 114, 105, 110, 116]⟩] 9, .cells #[.string ⟨#[33]⟩, .string ⟨#[101, 120, 105, 116]⟩, .string ⟨#[114, 101, 103, 105, 115, 116, 101, 114]⟩] 9]
/-- The world of the witness: the listed variables laid. -/
noncomputable def witW (os : Os) : World := { World.holding Tryd.prog os ⟨#[], #[], []⟩ with heap := ((((World.holding Tryd.prog os ⟨#[], #[], []⟩).heap.modify 2 (layC opsV)).modify 1 (layC (wForm0 ++ wForm1 ++ wForm2).toArray)).modify 0 (layC wBlt)) ++ (wRows0 ++ wRows1).toArray }
theorem laid_met (os : Os) (args : Array Value) : laidMet Tryd.prog Rows.lintKindsRow.laid ((witW os).forCall (fun _ _ => 0) ⟨#[], args, []⟩).memory :=
  laidMet_of_run' 8 (by kernel_rfl) (by kernel_rfl)

end Go.Proofs.YtpgjcedonimgnaaDoor
