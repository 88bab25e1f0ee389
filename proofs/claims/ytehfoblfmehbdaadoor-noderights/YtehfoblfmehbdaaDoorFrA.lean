/- The frame of the rows of package node: the tables, out of the row's own condition. -/
import Derived.Test.YtehfoblfmehbdaaDoorJAG
import Derived.Test.YtehfoblfmehbdaaDoorRows
import Derived.ProofKit
import Derived.OpenShut
import Derived.Lib.SmallJoins
import Derived.Deep.DeepHandedRow
import Derived.Carry
namespace Go.Proofs.YtehfoblfmehbdaaDoor
open Go.ChangeShapes Go.WideShapes Go.ChangeAt Go.RowKit Go.Joins

theorem laidOut : laidOutB Tryd.prog = true := by kernel_rfl
theorem own : ownKnob Tryd.prog.godebug = none := by kernel_rfl
theorem cellsU8 : Tryd.prog.cellsOf 5 = 1 := by kernel_rfl
theorem cellsStr : Tryd.prog.cellsOf 9 = 1 := by kernel_rfl
theorem cellsRole : Tryd.prog.cellsOf 38 = 1 := by kernel_rfl
theorem cellsKind : Tryd.prog.cellsOf 22 = 1 := by kernel_rfl
theorem cellsBool : Tryd.prog.cellsOf 4 = 1 := by kernel_rfl
theorem cellsRoles : Tryd.prog.cellsOf 53 = 1 := by kernel_rfl
theorem cellsForm : Tryd.prog.cellsOf 55 = 5 := by kernel_rfl
theorem cellsOpst : Tryd.prog.cellsOf 71 = 2 := by kernel_rfl
theorem cellsOpsa : Tryd.prog.cellsOf 72 = 48 := by kernel_rfl

section
variable {w : World} {base : Nat} {sp : Nat → Bool} {held : Bool} {fuel : Nat} {t : TypeId} {cs : List Value} {p : List MemPlace}

/-- An element of an array that reads as data. -/
theorem arr_get {n : Nat} {e : TypeId} {ds : List (DataW Unit)} (ht : Tryd.prog.underlying t = some (.array n e)) (h : DataW.trod (fun (_ : TypeId × Value) => ()) Tryd.prog w base sp held fuel t cs = some (.agg ds, p)) (i : Nat) (hi : i < n) (d : DataW Unit) (hd : ds[i]? = some d) :
    ∃ m q, DataW.trod (fun (_ : TypeId × Value) => ()) Tryd.prog w base sp held m e ((cs.drop (i * Tryd.prog.cellsOf e)).take (Tryd.prog.cellsOf e)) = some (d, q) := by
  obtain ⟨xs, m, _, hx, _, hn, hel⟩ := DataW.trod_array ht h
  have hxs : ds = xs.map (·.1) := by
    have := congrArg Prod.fst hx
    simpa using this
  have h1 := hel i hi
  rw [List.getElem?_eq_getElem (by omega)] at h1
  refine ⟨m, (xs[i]'(by omega)).2, h1.trans ?_⟩
  rw [hxs, List.getElem?_map, List.getElem?_eq_getElem (by omega)] at hd
  simp only [Option.map_some, Option.some.injEq] at hd
  rw [← hd]
/-- A field of a struct that reads as data. -/
theorem fld_get {fs : Array Field} {ds : List (DataW Unit)} (ht : Tryd.prog.underlying t = some (.struct fs)) (h : DataW.trod (fun (_ : TypeId × Value) => ()) Tryd.prog w base sp held fuel t cs = some (.agg ds, p)) (i : Nat) (T o : Nat) (hf : (fs[i]?).map (fun f => (f.type, f.offset)) = some (T, o)) (d : DataW Unit) (hd : ds[i]? = some d) :
    ∃ m q, DataW.trod (fun (_ : TypeId × Value) => ()) Tryd.prog w base sp held m T ((cs.drop o).take (Tryd.prog.cellsOf T)) = some (d, q) := by
  obtain ⟨f, hf', hfe⟩ := Option.map_eq_some_iff.1 hf
  simp only [Prod.mk.injEq] at hfe
  obtain ⟨rfl, rfl⟩ := hfe
  obtain ⟨xs, m, _, hx, _, hn, hel⟩ := DataW.trod_struct ht h
  have hxs : ds = xs.map (·.1) := by
    have := congrArg Prod.fst hx
    simpa using this
  have hi : i < xs.length := by rw [hn]; exact (Array.getElem?_eq_some_iff.1 hf').1
  have h1 := hel i f hf'
  rw [List.getElem?_eq_getElem hi] at h1
  refine ⟨m, xs[i].2, h1.trans ?_⟩
  rw [hxs, List.getElem?_map, List.getElem?_eq_getElem hi] at hd
  simp only [Option.map_some, Option.some.injEq] at hd
  rw [← hd]
theorem one_int {k : IntKind} {n : Int} (ht : Tryd.prog.underlying t = some (.int k)) (h : DataW.trod (fun (_ : TypeId × Value) => ()) Tryd.prog w base sp held fuel t cs = some (.lit (.int k n), p)) : cs = [.int k n] := by
  obtain ⟨m, hc, hx, _⟩ := DataW.trod_int ht h
  simp at hx
  rw [hc, hx.1]
theorem one_bool {b : Bool} (ht : Tryd.prog.underlying t = some .bool) (h : DataW.trod (fun (_ : TypeId × Value) => ()) Tryd.prog w base sp held fuel t cs = some (.lit (.bool b), p)) : cs = [.bool b] := by
  obtain ⟨m, hc, hx⟩ := DataW.trod_bool ht h
  simp at hx
  rw [hc, hx.1]
theorem one_str {z : List UInt8} (ht : Tryd.prog.underlying t = some .string) (h : DataW.trod (fun (_ : TypeId × Value) => ()) Tryd.prog w base sp held fuel t cs = some (.lit (.string z), p)) : cs = [.string ⟨z.toArray⟩] := by
  obtain ⟨m, hc, hx, _⟩ := DataW.trod_string ht h
  simp at hx
  rw [hc, hx.1]
/-- A row as data: none, or its elements. -/
def sD (ds : List (DataW Unit)) : DataW Unit := if ds.isEmpty then .nil else .slice ds []
/-- A slice that reads as a row: where its elements lie. -/
theorem row_get {e : TypeId} {ds : List (DataW Unit)} (ht : Tryd.prog.underlying t = some (.slice e)) (hce : Tryd.prog.cellsOf e = 1) (h : DataW.trod (fun (_ : TypeId × Value) => ()) Tryd.prog w base sp held fuel t cs = some (sD ds, p)) :
    ∃ (ad : Option Addr) (c : Nat), cs = [.slice ad ds.length c] ∧ ds.length ≤ c ∧ c ≤ maxLen ∧ ∀ j d, ds[j]? = some d → ∃ b o v m q, ad = some ⟨b, o, none⟩ ∧ w.cell? ⟨b, o + j, none⟩ = some v ∧ DataW.trod (fun (_ : TypeId × Value) => ()) Tryd.prog w base sp held m e [v] = some (d, q) := by
  rcases DataW.trod_slice ht h with ⟨hcs, hx⟩ | ⟨a, len, cap, elems, rest, m, _, hcs, hx, _, hl, hm, hlen, hel, _, _⟩
  · have hz : ds = [] := by
      cases ds with
      | nil => rfl
      | cons d r => simp [sD] at hx
    subst hz
    exact ⟨none, 0, by simpa using hcs, by simp, by simp, fun j d hd => by simp at hd⟩
  · have hds : ds = elems.map (·.1) := by
      cases ds with
      | nil => simp [sD] at hx
      | cons d r =>
        have := congrArg Prod.fst hx
        simp only [sD, List.isEmpty_cons, Bool.false_eq_true, if_false, DataW.slice.injEq] at this
        exact this.1
    have hn : ds.length = len := by rw [hds, List.length_map]; exact hlen
    have one : ∀ j (hj : j < len), ∃ v, w.cell? (a.add j) = some v ∧ DataW.trod (fun (_ : TypeId × Value) => ()) Tryd.prog w base sp held m e [v] = some (elems[j]'(by omega)) := by
      intro j hj
      have h1 := hel j hj
      rw [List.getElem?_eq_getElem (by omega), hce, Nat.mul_one] at h1
      obtain ⟨vs, h2, h3⟩ := Option.bind_eq_some_iff.1 h1
      obtain ⟨_, h4, h5⟩ := World.cells?_some h2
      have h6 := h5 0 (by omega)
      have h9 : (a.add j).add 0 = a.add j := by simp [Addr.add]
      rw [h9] at h6
      match vs, h4 with
      | [v], _ => exact ⟨v, by simpa using h6, h3⟩
    refine ⟨some a, cap, by rw [hn]; exact hcs, by omega, hm, fun j d hd => ?_⟩
    have hj : j < len := by
      have := (List.getElem?_eq_some_iff.1 hd).1
      omega
    obtain ⟨v0, c0, _⟩ := one 0 (by omega)
    obtain ⟨v, cj, ht⟩ := one j hj
    obtain ⟨b, off, spot⟩ := a
    have hspot : spot = none := by simpa [Addr.add] using World.cell?_spot c0
    subst hspot
    rw [Addr.add_lit] at cj
    refine ⟨b, off, v, m, (elems[j]'(by omega)).2, rfl, cj, ht.trans ?_⟩
    rw [hds, List.getElem?_map, List.getElem?_eq_getElem (by omega)] at hd
    simp only [Option.map_some, Option.some.injEq] at hd
    rw [← hd]
end
theorem at_one {cs : List Value} {k : Nat} {v : Value} (h : (cs.drop k).take 1 = [v]) : cs[k]? = some v := by
  have := congrArg (·[0]?) h
  simpa [List.getElem?_take, List.getElem?_drop] using this

/-- The tables as data. -/
def opsD : DataW Unit := .agg (opsL.map fun p => .agg [.lit (.string p.1), .lit (.int .u8 p.2)])
def fmD (f : Fm) : DataW Unit := .agg [.lit (.int .u8 f.ro), .lit (.int .u8 f.kd), .lit (.int .u8 f.le), sD (f.ks.map fun k => .lit (.int .u8 k)), .lit (.bool f.mo)]
def formsD : DataW Unit := .agg (formsL.map fmD)
theorem ops_laid : (Rows.laid_pigeonhole_node_operators : DataW Unit) = opsD := by kernel_rfl
theorem forms_laid : (Rows.laid_pigeonhole_node_forms : DataW Unit) = formsD := by kernel_rfl

section
variable {W : World} {base : Nat} {sp : Nat → Bool} {held : Bool} {fuel : Nat} {cs : List Value} {p : List MemPlace}
theorem ops_cells (h : DataW.trod (fun (_ : TypeId × Value) => ()) Tryd.prog W base sp held fuel 72 cs = some (opsD, p)) : cs = opsV.toList := by
  have hlen : cs.length = 48 := by
    obtain ⟨_, _, _, _, hl, _, _⟩ := DataW.trod_array Tryd.underlying72 h
    rw [hl]; exact cellsOpsa
  have one : ∀ i, i < 24 → cs[i * 2]? = some (.string (opT i)) ∧ cs[i * 2 + 1]? = some (.int .u8 (opN i)) := by
    intro i hi
    have hd : (opsL.map fun p => (DataW.agg [.lit (.string p.1), .lit (.int .u8 p.2)] : DataW Unit))[i]? = some (.agg [.lit (.string (opsL.getD i ([], 0)).1), .lit (.int .u8 (opN i))]) := by
      rw [List.getElem?_map, List.getElem?_eq_getElem (by simpa [opsL] using hi)]
      simp [opN, List.getD_eq_getElem?_getD, List.getElem?_eq_getElem (show i < opsL.length by simpa [opsL] using hi)]
    obtain ⟨m, q, h1⟩ := arr_get Tryd.underlying72 h i hi _ hd
    rw [cellsOpst] at h1
    obtain ⟨m0, q0, g0⟩ := fld_get Tryd.underlying71 h1 0 9 0 rfl _ rfl
    obtain ⟨m1, q1, g1⟩ := fld_get Tryd.underlying71 h1 1 5 1 rfl _ rfl
    have e0 := one_str Tryd.underlying9 g0
    have e1 := one_int Tryd.underlying5 g1
    rw [cellsStr] at e0
    rw [cellsU8] at e1
    have f0 := at_one e0
    have f1 := at_one e1
    constructor
    · simpa [List.getElem?_take, List.getElem?_drop, opT] using f0
    · simpa [List.getElem?_take, List.getElem?_drop] using f1
  apply List.ext_getElem?
  intro i
  by_cases hi : i < 48
  · have ev : ∀ k, k < 24 → opsV.toList[k * 2]? = some (.string (opT k)) ∧ opsV.toList[k * 2 + 1]? = some (.int .u8 (opN k)) := by
      intro k hk
      obtain rfl | rfl | rfl | rfl | rfl | rfl | rfl | rfl | rfl | rfl | rfl | rfl | rfl | rfl | rfl | rfl | rfl | rfl | rfl | rfl | rfl | rfl | rfl | rfl : k = 0 ∨ k = 1 ∨ k = 2 ∨ k = 3 ∨ k = 4 ∨ k = 5 ∨ k = 6 ∨ k = 7 ∨ k = 8 ∨ k = 9 ∨ k = 10 ∨ k = 11 ∨ k = 12 ∨ k = 13 ∨ k = 14 ∨ k = 15 ∨ k = 16 ∨ k = 17 ∨ k = 18 ∨ k = 19 ∨ k = 20 ∨ k = 21 ∨ k = 22 ∨ k = 23 := by omega
      all_goals exact ⟨by kernel_rfl, by kernel_rfl⟩
    rcases Nat.mod_two_eq_zero_or_one i with h0 | h1
    · have e : i = i / 2 * 2 := by omega
      rw [e, (one (i / 2) (by omega)).1, (ev (i / 2) (by omega)).1]
    · have e : i = i / 2 * 2 + 1 := by omega
      rw [e, (one (i / 2) (by omega)).2, (ev (i / 2) (by omega)).2]
  · have hsz : opsV.toList.length = 48 := by kernel_rfl
    rw [List.getElem?_eq_none (by omega), List.getElem?_eq_none (by omega)]
/-- The forms' cells, and their rows of roles. -/
theorem forms_cells (h : DataW.trod (fun (_ : TypeId × Value) => ()) Tryd.prog W base sp held fuel 66 cs = some (formsD, p)) : ∀ i, i < 36 → cs[i * 5]? = some (.int .u8 (fm i).ro) ∧ cs[i * 5 + 1]? = some (.int .u8 (fm i).kd) ∧ cs[i * 5 + 2]? = some (.int .u8 (fm i).le) ∧ cs[i * 5 + 4]? = some (.bool (fm i).mo) ∧
    ∃ (ad : Option Addr) (c : Nat), cs[i * 5 + 3]? = some (.slice ad (fm i).ks.length c) ∧ (fm i).ks.length ≤ c ∧ c ≤ 9223372036854775807 ∧ ∀ j (hj : j < (fm i).ks.length), ∃ b o, ad = some ⟨b, o, none⟩ ∧ W.cell? ⟨b, o + j, none⟩ = some (.int .u8 ((fm i).ks[j]'hj)) := by
  intro i hi
  have hil : i < formsL.length := by rw [forms_len]; exact hi
  have hd : (formsL.map fmD)[i]? = some (fmD (fm i)) := by
    rw [List.getElem?_map, List.getElem?_eq_getElem hil]
    simp [fm, List.getD_eq_getElem?_getD, List.getElem?_eq_getElem hil]
  obtain ⟨m, q, h1⟩ := arr_get Tryd.underlying66 h i hi _ hd
  rw [cellsForm] at h1
  obtain ⟨m0, q0, g0⟩ := fld_get Tryd.underlying55 h1 0 38 0 rfl _ rfl
  obtain ⟨m1, q1, g1⟩ := fld_get Tryd.underlying55 h1 1 22 1 rfl _ rfl
  obtain ⟨m2, q2, g2⟩ := fld_get Tryd.underlying55 h1 2 5 2 rfl _ rfl
  obtain ⟨m3, q3, g3⟩ := fld_get Tryd.underlying55 h1 3 53 3 rfl _ rfl
  obtain ⟨m4, q4, g4⟩ := fld_get Tryd.underlying55 h1 4 4 4 rfl _ rfl
  have e0 := one_int Tryd.underlying38 g0
  have e1 := one_int Tryd.underlying22 g1
  have e2 := one_int Tryd.underlying5 g2
  have e4 := one_bool Tryd.underlying4 g4
  obtain ⟨ad, c, e3, hl, hm, hr⟩ := row_get Tryd.underlying53 cellsRole g3
  rw [cellsRole] at e0
  rw [cellsKind] at e1
  rw [cellsU8] at e2
  rw [cellsRoles] at e3
  rw [cellsBool] at e4
  have f0 := at_one e0
  have f1 := at_one e1
  have f2 := at_one e2
  have f3 := at_one e3
  have f4 := at_one e4
  refine ⟨?_, ?_, ?_, ?_, ad, c, ?_, by simpa using hl, by simpa [maxLen] using hm, fun j hj => ?_⟩
  · simpa [List.getElem?_take, List.getElem?_drop] using f0
  · simpa [List.getElem?_take, List.getElem?_drop] using f1
  · simpa [List.getElem?_take, List.getElem?_drop] using f2
  · simpa [List.getElem?_take, List.getElem?_drop] using f4
  · simpa [List.getElem?_take, List.getElem?_drop] using f3
  · obtain ⟨b, o, v, m5, q5, hb, hc, ht⟩ := hr j (.lit (.int .u8 ((fm i).ks[j]'hj))) (by rw [List.getElem?_map, List.getElem?_eq_getElem hj]; rfl)
    have e5 := one_int Tryd.underlying38 ht
    simp at e5
    exact ⟨b, o, hb, by rw [hc, e5]⟩
end

end Go.Proofs.YtehfoblfmehbdaaDoor
