/- The frame of the rows: what the listed tables hold, and the world of the witness. -/
import Derived.Test.YtiapdapkklcliaaGreatDoorNam
import Derived.Test.YtiapdapkklcliaaGreatDoorRows
import Derived.ProofKit
import Derived.OpenShut
import Derived.Lib.SmallJoins
import Derived.Deep.DeepHandedRow
import Derived.Lib.LaidTab
import Derived.Carry
namespace Go.Proofs.YtiapdapkklcliaaGreatDoor
open Go.ChangeShapes Go.WideShapes Go.ChangeAt Go.RowKit Go.Joins

theorem laidOut : laidOutB Tryz.prog = true := by kernel_rfl
theorem own : ownKnob Tryz.prog.godebug = none := by kernel_rfl

/-- An array of strings that reads as a table holds the table's strings. -/
theorem cells_of_strs {H : Type} {enc : TypeId × Value → H} {P : Program} {w : World} {base : Nat} {sp : Nat → Bool} {held : Bool} {fuel : Nat} {t e : TypeId} {n : Nat} {cs : List Value} {zs : List (List UInt8)} {p : List MemPlace}
    (ht : P.underlying t = some (.array n e)) (he : P.underlying e = some .string) (hce : P.cellsOf e = 1) (hct : P.cellsOf t = n)
    (h : DataW.trod enc P w base sp held fuel t cs = some (.agg (zs.map fun z => .lit (.string z)), p)) : cs = zs.map fun z => Value.string (str z) := by
  obtain ⟨xs, m, _, hx, hl, hn, hel⟩ := DataW.trod_array ht h
  have hxs : xs.map (·.1) = zs.map fun z => (DataW.lit (.string z) : DataW H) := by
    have := congrArg Prod.fst hx
    simpa using this.symm
  have hzl : zs.length = n := by
    have := congrArg List.length hxs
    simp at this
    omega
  rw [hct] at hl
  apply List.ext_getElem?
  intro i
  by_cases hi : i < n
  · have h1 := hel i hi
    rw [List.getElem?_eq_getElem (by omega)] at h1
    obtain ⟨s, hc, hs, _⟩ := DataW.trod_string he h1
    have h2 : cs[i]? = some (.string s) := by
      rw [hce, Nat.mul_one] at hc
      have := congrArg (·[0]?) hc
      simpa [List.getElem?_take, List.getElem?_drop] using this
    have h3 : (xs.map (·.1))[i]? = some (DataW.lit (.string s.data.toList) : DataW H) := by
      rw [List.getElem?_map, List.getElem?_eq_getElem (by omega), hs]; rfl
    rw [hxs] at h3
    simp only [List.getElem?_map, Option.map_eq_some_iff, DataW.lit.injEq, Lit.string.injEq] at h3
    obtain ⟨z', hz', e'⟩ := h3
    rw [h2, List.getElem?_map, hz', e', Option.map_some]
    rw [show str s.data.toList = s from str_byt s]
  · rw [List.getElem?_eq_none (by omega), List.getElem?_eq_none (by simp; omega)]

theorem holds_of_var {w : World} {name : String} {g : Nat} {cs : Array Value} (hg : Tryz.prog.globalNamed name = some g) (h : w.var? Tryz.prog name = some cs) : Holds w g cs := by
  unfold World.var? at h
  rw [hg] at h
  simp only [Option.bind_some] at h
  split at h
  · rename_i cs' t fr he
    cases h
    exact ⟨t, fr, he⟩
  · cases h

theorem cells_str : Tryz.prog.cellsOf 9 = 1 := by kernel_rfl
theorem cells_u8' : Tryz.prog.cellsOf 5 = 1 := by kernel_rfl
theorem cells_47 : Tryz.prog.cellsOf 78 = 19 := by kernel_rfl
theorem cells_54 : Tryz.prog.cellsOf 135 = 29 := by kernel_rfl
theorem cells_56 : Tryz.prog.cellsOf 235 = 2 := by kernel_rfl
theorem cells_57 : Tryz.prog.cellsOf 236 = 10 := by kernel_rfl

theorem list2 {α : Type} {l : List α} (h : l.length = 2) : ∃ a b, l = [a, b] := by
  match l, h with
  | [a, b], _ => exact ⟨a, b, rfl⟩

/-- The escapes' cells. -/
theorem cells_of_escs {H : Type} {enc : TypeId × Value → H} {w : World} {base : Nat} {sp : Nat → Bool} {held : Bool} {fuel : Nat} {cs : List Value} {p : List MemPlace}
    (h : DataW.trod enc Tryz.prog w base sp held fuel 236 cs = some (Rows.laid_pigeonhole_scan_escapes, p)) : cs = escC.toList := by
  obtain ⟨xs, m, _, hx, hl, hn, hel⟩ := DataW.trod_array Tryz.underlying236 h
  have hxs : xs.map (·.1) = [.agg [.lit (.int .u8 110), .lit (.int .u8 10)], .agg [.lit (.int .u8 116), .lit (.int .u8 9)], .agg [.lit (.int .u8 92), .lit (.int .u8 92)], .agg [.lit (.int .u8 39), .lit (.int .u8 39)], .agg [.lit (.int .u8 34), .lit (.int .u8 34)]] := by
    have := congrArg Prod.fst hx
    simp only [Rows.laid_pigeonhole_scan_escapes, DataW.agg.injEq] at this
    exact this.symm
  rw [cells_57] at hl
  rw [cells_56] at hel
  have one : ∀ i (hi : i < 5), ∀ A B : Int, (xs.map (·.1))[i]? = some (.agg [.lit (.int .u8 A), .lit (.int .u8 B)]) → cs[i * 2]? = some (.int .u8 A) ∧ cs[i * 2 + 1]? = some (.int .u8 B) := by
    intro i hi A B hAB
    have h1 := hel i hi
    rw [List.getElem?_eq_getElem (by omega)] at h1
    obtain ⟨ys, m2, _, hy, _, hyn, hyel⟩ := DataW.trod_struct Tryz.underlying235 h1
    obtain ⟨ya, yb, rfl⟩ := list2 (show ys.length = 2 from hyn)
    have g0 : DataW.trod enc Tryz.prog w base sp held m2 5 ((((cs.drop (i * 2)).take 2).drop 0).take (Tryz.prog.cellsOf 5)) = some ya := hyel 0 _ rfl
    have g1 : DataW.trod enc Tryz.prog w base sp held m2 5 ((((cs.drop (i * 2)).take 2).drop 1).take (Tryz.prog.cellsOf 5)) = some yb := hyel 1 _ rfl
    rw [cells_u8'] at g0 g1
    obtain ⟨n0, c0, e0, _⟩ := DataW.trod_int Tryz.underlying5 g0
    obtain ⟨n1, c1, e1, _⟩ := DataW.trod_int Tryz.underlying5 g1
    have hpair : (DataW.agg ([ya, yb].map (·.1)) : DataW H) = .agg [.lit (.int .u8 A), .lit (.int .u8 B)] := by
      have := congrArg Prod.fst hy
      rw [List.getElem?_map, List.getElem?_eq_getElem (by omega), Option.map_some, Option.some.injEq] at hAB
      rw [← hAB]
      simpa using this.symm
    simp only [List.map_cons, List.map_nil, e0, e1, DataW.agg.injEq, List.cons.injEq, DataW.lit.injEq, Lit.int.injEq, true_and, and_true] at hpair
    obtain ⟨rfl, rfl⟩ := hpair
    constructor
    · have := congrArg (·[0]?) c0
      simpa [List.getElem?_take, List.getElem?_drop] using this
    · have := congrArg (·[0]?) c1
      simpa [List.getElem?_take, List.getElem?_drop] using this
  have o0 := one 0 (by omega) 110 10 (by rw [hxs]; rfl)
  have o1 := one 1 (by omega) 116 9 (by rw [hxs]; rfl)
  have o2 := one 2 (by omega) 92 92 (by rw [hxs]; rfl)
  have o3 := one 3 (by omega) 39 39 (by rw [hxs]; rfl)
  have o4 := one 4 (by omega) 34 34 (by rw [hxs]; rfl)
  apply List.ext_getElem?
  intro i
  by_cases hi : i < 10
  · obtain rfl | rfl | rfl | rfl | rfl | rfl | rfl | rfl | rfl | rfl : i = 0 ∨ i = 1 ∨ i = 2 ∨ i = 3 ∨ i = 4 ∨ i = 5 ∨ i = 6 ∨ i = 7 ∨ i = 8 ∨ i = 9 := by omega
    · exact o0.1
    · exact o0.2
    · exact o1.1
    · exact o1.2
    · exact o2.1
    · exact o2.2
    · exact o3.1
    · exact o3.2
    · exact o4.1
    · exact o4.2
  · rw [List.getElem?_eq_none (by omega), List.getElem?_eq_none (by simp [escC]; omega)]

theorem toArray_eq {cs : Array Value} {l : List Value} (h : cs.toList = l) : cs = l.toArray := by rw [← h]

/-- The tables, out of the row's own condition. -/
theorem glb_of_laid {W : World} (h : laidMet Tryz.prog [("pigeonhole/scan.escapes", Rows.laid_pigeonhole_scan_escapes), ("pigeonhole/scan.words", Rows.laid_pigeonhole_scan_words), ("pigeonhole/scan.signs", Rows.laid_pigeonhole_scan_signs)] W) : Glb W := by
  obtain ⟨ps, ⟨g1, t1, c1, f1, p1, q1, hg1, ht1, hv1, hd1, ⟨g2, t2, c2, f2, p2, q2, hg2, ht2, hv2, hd2, ⟨g3, t3, c3, f3, p3, q3, hg3, ht3, hv3, hd3, _, _⟩, _⟩, _⟩, _⟩ := h
  have n1 : Tryz.prog.globalNamed "pigeonhole/scan.escapes" = some 5 := by kernel_rfl
  have n2 : Tryz.prog.globalNamed "pigeonhole/scan.words" = some 0 := by kernel_rfl
  have n3 : Tryz.prog.globalNamed "pigeonhole/scan.signs" = some 3 := by kernel_rfl
  obtain rfl := Option.some.inj (n1.symm.trans hg1)
  obtain rfl := Option.some.inj (n2.symm.trans hg2)
  obtain rfl := Option.some.inj (n3.symm.trans hg3)
  have k1 : (Tryz.prog.globals[5]?).map (·.type) = some 236 := by kernel_rfl
  have k2 : (Tryz.prog.globals[0]?).map (·.type) = some 78 := by kernel_rfl
  have k3 : (Tryz.prog.globals[3]?).map (·.type) = some 135 := by kernel_rfl
  obtain rfl := Option.some.inj (k1.symm.trans ht1)
  obtain rfl := Option.some.inj (k2.symm.trans ht2)
  obtain rfl := Option.some.inj (k3.symm.trans ht3)
  have e1 := toArray_eq (cells_of_escs hd1)
  have e2 := toArray_eq (cells_of_strs (zs := Sc.words) Tryz.underlying78 Tryz.underlying9 cells_str cells_47 hd2)
  have e3 := toArray_eq (cells_of_strs (zs := Sc.signs) Tryz.underlying135 Tryz.underlying9 cells_str cells_54 hd3)
  refine ⟨?_, ?_, ?_⟩
  · have := holds_of_var n2 hv2
    rw [e2] at this
    exact this
  · have := holds_of_var n3 hv3
    rw [e3] at this
    exact this
  · have := holds_of_var n1 hv1
    rw [e1] at this
    exact this

/-- The listed tables' cells, laid. -/
def layC (cs : Array Value) : Obj → Obj
  | .cells _ t frozen => .cells cs t frozen
  | o => o
theorem laid_met (os : Os) (args : Array Value) : laidMet Tryz.prog [("pigeonhole/scan.escapes", Rows.laid_pigeonhole_scan_escapes), ("pigeonhole/scan.words", Rows.laid_pigeonhole_scan_words), ("pigeonhole/scan.signs", Rows.laid_pigeonhole_scan_signs)] (({ World.holding Tryz.prog os ⟨#[], #[], []⟩ with heap := (((World.holding Tryz.prog os ⟨#[], #[], []⟩).heap.modify 0 (layC wordsC)).modify 3 (layC signsC)).modify 5 (layC escC) } : World).forCall (fun _ _ => 0) ⟨#[], args, []⟩).memory :=
  laidMet_of_run' 8 (by kernel_rfl) (by kernel_rfl)

end Go.Proofs.YtiapdapkklcliaaGreatDoor
