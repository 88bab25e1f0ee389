/- The table of what is built in, out of the row's own condition; the world of the witness. -/
import Derived.Test.YtnpocmhaoaigfaaGreatDoorJAC
import Derived.Test.YtnpocmhaoaigfaaGreatDoorFr
import Derived.Test.YtnpocmhaoaigfaaGreatDoorJAQ
import Derived.Test.YtnpocmhaoaigfaaGreatDoorRows
import Derived.ProofKit
import Derived.OpenShut
import Derived.Lib.SmallJoins
import Derived.Deep.DeepHandedRow
import Derived.Deep.DeepWitnessRowRef
import Derived.Carry
namespace Go.Proofs.YtnpocmhaoaigfaaGreatDoor
open Go.ChangeShapes Go.WideShapes Go.ChangeAt Go.RowKit Go.Joins

theorem cellsStr : Tryz.prog.cellsOf 9 = 1 := by kernel_rfl
theorem cellsStrs : Tryz.prog.cellsOf 85 = 1 := by kernel_rfl
theorem cellsBlt4 : Tryz.prog.cellsOf 86 = 4 := by kernel_rfl

section
variable {w : World} {base : Nat} {sp : Nat → Bool} {held : Bool} {fuel : Nat} {t : TypeId} {cs : List Value} {p : List MemPlace}

/-- An element of an array that reads as data. -/
theorem arr_get {n : Nat} {e : TypeId} {ds : List (DataW Unit)} (ht : Tryz.prog.underlying t = some (.array n e)) (h : DataW.trod (fun (_ : TypeId × Value) => ()) Tryz.prog w base sp held fuel t cs = some (.agg ds, p)) (i : Nat) (hi : i < n) (d : DataW Unit) (hd : ds[i]? = some d) :
    ∃ m q, DataW.trod (fun (_ : TypeId × Value) => ()) Tryz.prog w base sp held m e ((cs.drop (i * Tryz.prog.cellsOf e)).take (Tryz.prog.cellsOf e)) = some (d, q) := by
  obtain ⟨xs, m, _, hx, _, hn, hel⟩ := DataW.trod_array ht h
  have hxs : ds = xs.map (·.1) := by
    have := congrArg Prod.fst hx
    simpa using this
  have h1 := hel i hi
  rw [List.getElem?_eq_getElem (by omega)] at h1
  refine ⟨m, (xs[i]'(by omega)).2, h1.trans ?_⟩
  rw [hxs, List.getElem?_map, List.getElem?_eq_getElem (by omega)] at hd
  simp only [Option.map_some, Option.some.injEq] at hd
  rw [← hd]
/-- A field of a struct that reads as data. -/
theorem fld_get {fs : Array Field} {ds : List (DataW Unit)} (ht : Tryz.prog.underlying t = some (.struct fs)) (h : DataW.trod (fun (_ : TypeId × Value) => ()) Tryz.prog w base sp held fuel t cs = some (.agg ds, p)) (i : Nat) (T o : Nat) (hf : (fs[i]?).map (fun f => (f.type, f.offset)) = some (T, o)) (d : DataW Unit) (hd : ds[i]? = some d) :
    ∃ m q, DataW.trod (fun (_ : TypeId × Value) => ()) Tryz.prog w base sp held m T ((cs.drop o).take (Tryz.prog.cellsOf T)) = some (d, q) := by
  obtain ⟨f, hf', hfe⟩ := Option.map_eq_some_iff.1 hf
  simp only [Prod.mk.injEq] at hfe
  obtain ⟨rfl, rfl⟩ := hfe
  obtain ⟨xs, m, _, hx, _, hn, hel⟩ := DataW.trod_struct ht h
  have hxs : ds = xs.map (·.1) := by
    have := congrArg Prod.fst hx
    simpa using this
  have hi : i < xs.length := by rw [hn]; exact (Array.getElem?_eq_some_iff.1 hf').1
  have h1 := hel i f hf'
  rw [List.getElem?_eq_getElem hi] at h1
  refine ⟨m, xs[i].2, h1.trans ?_⟩
  rw [hxs, List.getElem?_map, List.getElem?_eq_getElem hi] at hd
  simp only [Option.map_some, Option.some.injEq] at hd
  rw [← hd]
theorem one_int {k : IntKind} {n : Int} (ht : Tryz.prog.underlying t = some (.int k)) (h : DataW.trod (fun (_ : TypeId × Value) => ()) Tryz.prog w base sp held fuel t cs = some (.lit (.int k n), p)) : cs = [.int k n] := by
  obtain ⟨m, hc, hx, _⟩ := DataW.trod_int ht h
  simp at hx
  rw [hc, hx.1]
theorem one_bool {b : Bool} (ht : Tryz.prog.underlying t = some .bool) (h : DataW.trod (fun (_ : TypeId × Value) => ()) Tryz.prog w base sp held fuel t cs = some (.lit (.bool b), p)) : cs = [.bool b] := by
  obtain ⟨m, hc, hx⟩ := DataW.trod_bool ht h
  simp at hx
  rw [hc, hx.1]
theorem one_str {z : List UInt8} (ht : Tryz.prog.underlying t = some .string) (h : DataW.trod (fun (_ : TypeId × Value) => ()) Tryz.prog w base sp held fuel t cs = some (.lit (.string z), p)) : cs = [.string ⟨z.toArray⟩] := by
  obtain ⟨m, hc, hx, _⟩ := DataW.trod_string ht h
  simp at hx
  rw [hc, hx.1]
/-- A row as data: none, or its elements. -/
def sD (ds : List (DataW Unit)) : DataW Unit := if ds.isEmpty then .nil else .slice ds []
/-- A slice that reads as a row: where its elements lie. -/
theorem row_get {e : TypeId} {ds : List (DataW Unit)} (ht : Tryz.prog.underlying t = some (.slice e)) (hce : Tryz.prog.cellsOf e = 1) (h : DataW.trod (fun (_ : TypeId × Value) => ()) Tryz.prog w base sp held fuel t cs = some (sD ds, p)) :
    ∃ (ad : Option Addr) (c : Nat), cs = [.slice ad ds.length c] ∧ ds.length ≤ c ∧ c ≤ maxLen ∧ ∀ j d, ds[j]? = some d → ∃ b o v m q, ad = some ⟨b, o, none⟩ ∧ w.cell? ⟨b, o + j, none⟩ = some v ∧ DataW.trod (fun (_ : TypeId × Value) => ()) Tryz.prog w base sp held m e [v] = some (d, q) := by
  rcases DataW.trod_slice ht h with ⟨hcs, hx⟩ | ⟨a, len, cap, elems, rest, m, _, hcs, hx, _, hl, hm, hlen, hel, _, _⟩
  · have hz : ds = [] := by
      cases ds with
      | nil => rfl
      | cons d r => simp [sD] at hx
    subst hz
    exact ⟨none, 0, by simpa using hcs, by simp, by simp, fun j d hd => by simp at hd⟩
  · have hds : ds = elems.map (·.1) := by
      cases ds with
      | nil => simp [sD] at hx
      | cons d r =>
        have := congrArg Prod.fst hx
        simp only [sD, List.isEmpty_cons, Bool.false_eq_true, if_false, DataW.slice.injEq] at this
        exact this.1
    have hn : ds.length = len := by rw [hds, List.length_map]; exact hlen
    have one : ∀ j (hj : j < len), ∃ v, w.cell? (a.add j) = some v ∧ DataW.trod (fun (_ : TypeId × Value) => ()) Tryz.prog w base sp held m e [v] = some (elems[j]'(by omega)) := by
      intro j hj
      have h1 := hel j hj
      rw [List.getElem?_eq_getElem (by omega), hce, Nat.mul_one] at h1
      obtain ⟨vs, h2, h3⟩ := Option.bind_eq_some_iff.1 h1
      obtain ⟨_, h4, h5⟩ := World.cells?_some h2
      have h6 := h5 0 (by omega)
      have h9 : (a.add j).add 0 = a.add j := by simp [Addr.add]
      rw [h9] at h6
      match vs, h4 with
      | [v], _ => exact ⟨v, by simpa using h6, h3⟩
    refine ⟨some a, cap, by rw [hn]; exact hcs, by omega, hm, fun j d hd => ?_⟩
    have hj : j < len := by
      have := (List.getElem?_eq_some_iff.1 hd).1
      omega
    obtain ⟨v0, c0, _⟩ := one 0 (by omega)
    obtain ⟨v, cj, ht⟩ := one j hj
    obtain ⟨b, off, spot⟩ := a
    have hspot : spot = none := by simpa [Addr.add] using World.cell?_spot c0
    subst hspot
    rw [Addr.add_lit] at cj
    refine ⟨b, off, v, m, (elems[j]'(by omega)).2, rfl, cj, ht.trans ?_⟩
    rw [hds, List.getElem?_map, List.getElem?_eq_getElem (by omega)] at hd
    simp only [Option.map_some, Option.some.injEq] at hd
    rw [← hd]
end
theorem at_one {cs : List Value} {k : Nat} {v : Value} (h : (cs.drop k).take 1 = [v]) : cs[k]? = some v := by
  have := congrArg (·[0]?) h
  simpa [List.getElem?_take, List.getElem?_drop] using this

/-- The table as data. -/
def bltD : DataW Unit := .agg ((List.range 4).map fun k => .agg ((List.range 4).map fun a => sD ((bltT k a).map fun s => .lit (.string s.data.toList))))
theorem blt_laid : (Rows.laid_pigeonhole_lint_builtIn : DataW Unit) = bltD := by kernel_rfl
section
variable {W : World} {base : Nat} {sp : Nat → Bool} {held : Bool} {fuel : Nat} {cs : List Value} {p : List MemPlace}
theorem blt_cells (h : DataW.trod (fun (_ : TypeId × Value) => ()) Tryz.prog W base sp held fuel 87 cs = some (bltD, p)) : ∀ k a, k < 4 → a < 4 → ∃ (ad : Option Addr) (c : Nat), cs[k * 4 + a]? = some (.slice ad (bltT k a).length c) ∧ StrAt W ad (bltT k a) := by
  intro k a hk ha
  obtain ⟨m, q, h1⟩ := arr_get Tryz.underlying87 h k hk (.agg ((List.range 4).map fun a => sD ((bltT k a).map fun s => .lit (.string s.data.toList)))) (by rw [List.getElem?_map, List.getElem?_range hk]; rfl)
  rw [cellsBlt4] at h1
  obtain ⟨m1, q1, h2⟩ := arr_get Tryz.underlying86 h1 a ha (sD ((bltT k a).map fun s => .lit (.string s.data.toList))) (by rw [List.getElem?_map, List.getElem?_range ha]; rfl)
  obtain ⟨ad, c, e3, _, _, hr⟩ := row_get Tryz.underlying85 cellsStr h2
  rw [cellsStrs, Nat.mul_one] at e3
  have f3 := at_one e3
  refine ⟨ad, c, ?_, ?_⟩
  · rw [List.length_map] at f3
    simpa [List.getElem?_take, List.getElem?_drop, ha] using f3
  · by_cases hz : bltT k a = []
    · exact Or.inl hz
    · right
      have hpos : 0 < (bltT k a).length := List.length_pos_iff.2 hz
      obtain ⟨b, o, _, _, _, hb, _, _⟩ := hr 0 _ (by rw [List.getElem?_map, List.getElem?_eq_getElem hpos]; rfl)
      refine ⟨b, o, hb, fun i hi => ?_⟩
      obtain ⟨b', o', v, m5, q5, hb', hc, ht⟩ := hr i (.lit (.string ((bltT k a)[i]).data.toList)) (by rw [List.getElem?_map, List.getElem?_eq_getElem hi]; rfl)
      rw [hb] at hb'
      cases hb'
      have e5 := one_str Tryz.underlying9 ht
      simp at e5
      rw [hc, e5]
end
theorem cell_of_var {w : World} {name : String} {g : Nat} {cs : Array Value} (hg : Tryz.prog.globalNamed name = some g) (h : w.var? Tryz.prog name = some cs) : ∃ t fr, w.heap[g]? = some (.cells cs t fr) := by
  unfold World.var? at h
  rw [hg] at h
  simp only [Option.bind_some] at h
  split at h
  · rename_i cs' t fr he
    cases h
    exact ⟨t, fr, he⟩
  · cases h
theorem cellF {w : World} {g : Nat} {cs : Array Value} {t : TypeId} {fr : Nat × Nat} (h : w.heap[g]? = some (.cells cs t fr)) (i : Nat) : w.cell? ⟨g, i, none⟩ = cs[i]? := by
  simp [World.cell?, h]


theorem blt_of_laid {W : World} (h : laidMet Tryz.prog Rows.bifWholeRow.laid W) : Blt W := by
  obtain ⟨ps, ⟨g1, t1, c1, f1, p1, q1, hg1, ht1, hv1, hd1, ⟨g3, t3, c3, f3, p3, q3, hg3, ht3, hv3, hd3, _, _⟩, _⟩, _⟩ := h
  have n3 : Tryz.prog.globalNamed "pigeonhole/lint.builtIn" = some 0 := by kernel_rfl
  obtain rfl := Option.some.inj (n3.symm.trans hg3)
  have k3 : (Tryz.prog.globals[0]?).map (·.type) = some 87 := by kernel_rfl
  obtain rfl := Option.some.inj (k3.symm.trans ht3)
  have hd3' : DataW.trod (fun (_ : TypeId × Value) => ()) Tryz.prog W 0 (fun _ => true) false f3 87 c3.toList = some (Rows.laid_pigeonhole_lint_builtIn, p3) := hd3
  rw [blt_laid] at hd3'
  have e3 := blt_cells hd3'
  obtain ⟨s3, r3, y3⟩ := cell_of_var n3 hv3
  intro k a hk ha
  obtain ⟨ad, c, h1, h2⟩ := e3 k a hk ha
  refine ⟨ad, c, ?_, h2⟩
  rw [cellF y3]
  rw [Array.getElem?_toList] at h1
  exact h1

def layC (cs : Array Value) : Obj → Obj
  | .cells _ t frozen => .cells cs t frozen
  | o => o
def wBlt : Array Value := #[.slice none 0 0, .slice none 0 0, .slice none 0 0, .slice none 0 0, .slice none 0 0, .slice (some ⟨10, 0, none⟩) 14 14, .slice (some ⟨11, 0, none⟩) 8 8, .slice (some ⟨12, 0, none⟩) 1 1, .slice none 0 0, .slice (some ⟨13, 0, none⟩) 16 16, .slice (some ⟨14, 0, none⟩) 18 18, .slice none 0 0, .slice (some ⟨15, 0, none⟩) 3 3, .slice (some ⟨16, 0, none⟩) 11 11, .slice (some ⟨17, 0, none⟩) 3 3, .slice none 0 0]
def wRows : List Obj := [.cells #[.string ⟨#[116, 117, 112, 108, 101, 95, 116, 111, 95, 108, 105, 115, 116]⟩, .string ⟨#[108, 105, 115, 116, 95, 116, 111, 95, 116, 117, 112, 108, 101]⟩, .string ⟨#[97, 116, 111, 109, 95, 116, 111, 95, 108, 105, 115, 116]⟩, .string ⟨#[108, 105, 115, 116, 95, 116, 111, 95, 97, 116, 111, 109]⟩, .string ⟨#[105, 110, 116, 101, 103, 101, 114, 95, 116, 111, 95, 108, 105, 115, 116]⟩, .string ⟨#[108, 105, 115, 116, 95, 116, 111, 95, 105, 110, 116, 101, 103, 101, 114]⟩, .string ⟨#[114, 101, 118, 101, 114, 115, 101]⟩, .string ⟨#[115, 117, 109]⟩, .string ⟨#[115, 111, 114, 116]⟩, .string ⟨#[117, 115, 111, 114, 116]⟩, .string ⟨#[108, 97, 115, 116]⟩, .string ⟨#[116, 104, 114, 111, 119]⟩, .string ⟨#[101, 114, 114, 111, 114]⟩, .string ⟨#[101, 120, 105, 116]⟩] 9, .cells #[.string ⟨#[43, 43]⟩, .string ⟨#[45, 45]⟩, .string ⟨#[109, 97, 120]⟩, .string ⟨#[109, 105, 110]⟩, .string ⟨#[110, 116, 104]⟩, .string ⟨#[110, 116, 104, 116, 97, 105, 108]⟩, .string ⟨#[109, 101, 109, 98, 101, 114]⟩, .string ⟨#[115, 101, 113]⟩] 9, .cells #[.string ⟨#[115, 101, 116, 101, 108, 101, 109, 101, 110, 116]⟩] 9, .cells #[.string ⟨#[43]⟩, .string ⟨#[45]⟩, .string ⟨#[110, 111, 116]⟩, .string ⟨#[97, 98, 115]⟩, .string ⟨#[104, 100]⟩, .string ⟨#[116, 108]⟩, .string ⟨#[108, 101, 110, 103, 116, 104]⟩, .string ⟨#[116, 117, 112, 108, 101, 95, 115, 105, 122, 101]⟩, .string ⟨#[105, 115, 95, 105, 110, 116, 101, 103, 101, 114]⟩, .string ⟨#[105, 115, 95, 97, 116, 111, 109]⟩, .string ⟨#[105, 115, 95, 116, 117, 112, 108, 101]⟩, .string ⟨#[105, 115, 95, 108, 105, 115, 116]⟩, .string ⟨#[105, 115, 95, 112, 105, 100]⟩, .string ⟨#[105, 115, 95, 114, 101, 102, 101, 114, 101, 110, 99, 101]⟩, .string ⟨#[105, 115, 95, 102, 117, 110, 99, 116, 105, 111, 110]⟩, .string ⟨#[105, 115, 95, 98, 111, 111, 108, 101, 97, 110]⟩] 9, .cells #[.string ⟨#[43]⟩, .string ⟨#[45]⟩, .string ⟨#[42]⟩, .string ⟨#[100, 105, 118]⟩, .string ⟨#[114, 101, 109]⟩, .string ⟨#[61, 61]⟩, .string ⟨#[47, 61]⟩, .string ⟨#[61, 58, 61]⟩, .string ⟨#[61, 47, 61]⟩, .string ⟨#[60]⟩, .string ⟨#[61, 60]⟩, .string ⟨#[62]⟩, .string ⟨#[62, 61]⟩, .string ⟨#[97, 110, 100]⟩, .string ⟨#[111, 114]⟩, .string ⟨#[120, 111, 114]⟩, .string ⟨#[101, 108, 101, 109, 101, 110, 116]⟩, .string ⟨#[105, 115, 95, 102, 117, 110, 99, 116, 105, 111, 110]⟩] 9, .cells #[.string ⟨#[115, 101, 108, 102]⟩, .string ⟨#[109, 97, 107, 101, 95, 114, 101, 102]⟩, .string ⟨#[110, 111, 119]⟩] 9, .cells #[.string ⟨#[115, 112, 97, 119, 110]⟩, .string ⟨#[115, 112, 97, 119, 110, 95, 108, 105, 110, 107]⟩, .string ⟨#[115, 112, 97, 119, 110, 95, 109, 111, 110, 105, 116, 111, 114]⟩, .string ⟨#[108, 105, 110, 107]⟩, .string ⟨#[117, 110, 108, 105, 110, 107]⟩, .string ⟨#[109, 111, 110, 105, 116, 111, 114]⟩, .string ⟨#[100, 101, 109, 111, 110, 105, 116, 111, 114]⟩, .string ⟨#[116, 114, 97, 112, 95, 101, 120, 105, 116]⟩, .string ⟨#[117, 110, 114, 101, 103, 105, 115, 116, 101, 114]⟩, .string ⟨#[119, 104, 101, 114, 101, 105, 115]⟩, .string ⟨#[112, 114, 105, 110, 116]⟩] 9, .cells #[.string ⟨#[33]⟩, .string ⟨#[101, 120, 105, 116]⟩, .string ⟨#[114, 101, 103, 105, 115, 116, 101, 114]⟩] 9]
def wAcc : Array Value := #[.int .u8 128, .int .u8 191, .int .u8 160, .int .u8 191, .int .u8 128, .int .u8 159, .int .u8 144, .int .u8 191, .int .u8 128, .int .u8 143, .int .u8 0, .int .u8 0, .int .u8 0, .int .u8 0, .int .u8 0, .int .u8 0, .int .u8 0, .int .u8 0, .int .u8 0, .int .u8 0, .int .u8 0, .int .u8 0, .int .u8 0, .int .u8 0, .int .u8 0, .int .u8 0, .int .u8 0, .int .u8 0, .int .u8 0, .int .u8 0, .int .u8 0, .int .u8 0]
def wKts : Array Value := #[.string ⟨#[105, 115, 95, 105, 110, 116, 101, 103, 101, 114]⟩, .int .u8 1, .string ⟨#[105, 115, 95, 97, 116, 111, 109]⟩, .int .u8 2, .string ⟨#[105, 115, 95, 116, 117, 112, 108, 101]⟩, .int .u8 6, .string ⟨#[105, 115, 95, 108, 105, 115, 116]⟩, .int .u8 7, .string ⟨#[105, 115, 95, 112, 105, 100]⟩, .int .u8 5, .string ⟨#[105, 115, 95, 114, 101, 102, 101, 114, 101, 110, 99, 101]⟩, .int .u8 3, .string ⟨#[105, 115, 95, 102, 117, 110, 99, 116, 105, 111, 110]⟩, .int .u8 4]
def litV : DataW Unit → Value
  | .lit (.int k n) => .int k n
  | _ => undef
def wFst : Array Value := match Go.Pinned.utf8First with
  | .agg ds => (ds.map litV).toArray
  | _ => #[]
/-- The world of the witness: the listed variables laid. -/
noncomputable def witW (os : Os) : World := { World.holding Tryz.prog os ⟨#[], #[], []⟩ with heap := (((((World.holding Tryz.prog os ⟨#[], #[], []⟩).heap.modify 0 (layC wBlt)).modify 2 (layC wKts)).modify 3 (layC wFst)).modify 4 (layC wAcc)) ++ wRows.toArray }
theorem laid_met (os : Os) (args : Array Value) : laidMet Tryz.prog Rows.bifWholeRow.laid ((witW os).forCall (fun _ _ => 0) ⟨#[], args, []⟩).memory :=
  laidMet_of_run' 8 (by kernel_rfl) (by kernel_rfl)

end Go.Proofs.YtnpocmhaoaigfaaGreatDoor
