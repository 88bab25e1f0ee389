/- The frame of the rows of package term: the words, out of the row's own condition; the world of the witness. -/
import Derived.Test.YtalhbbabijlngaaGreatDoorJAB
import Derived.Test.YtalhbbabijlngaaGreatDoorJAL
import Derived.Test.YtalhbbabijlngaaGreatDoorJAA
import Derived.Test.YtalhbbabijlngaaGreatDoorJAH
import Derived.ArgAppend
import Derived.Deep.MidRow
namespace Go.Proofs.YtalhbbabijlngaaGreatDoor
open Go.ChangeShapes Go.WideShapes Go.ChangeAt Go.RowKit Go.Joins
def firstCells : Array Value := (Go.Pinned.utf8FirstZ.map fun (n : Nat) => Value.int .u8 n).toArray
def acceptCells : Array Value := #[.int .u8 128, .int .u8 191, .int .u8 160, .int .u8 191, .int .u8 128, .int .u8 159, .int .u8 144, .int .u8 191, .int .u8 128, .int .u8 143, .int .u8 0, .int .u8 0, .int .u8 0, .int .u8 0, .int .u8 0, .int .u8 0, .int .u8 0, .int .u8 0, .int .u8 0, .int .u8 0, .int .u8 0, .int .u8 0, .int .u8 0, .int .u8 0, .int .u8 0, .int .u8 0, .int .u8 0, .int .u8 0, .int .u8 0, .int .u8 0, .int .u8 0, .int .u8 0]
def d32Cells : Array Value := #[.int .u8 0, .int .u8 1, .int .u8 28, .int .u8 2, .int .u8 29, .int .u8 14, .int .u8 24, .int .u8 3, .int .u8 30, .int .u8 22, .int .u8 20, .int .u8 15, .int .u8 25, .int .u8 17, .int .u8 4, .int .u8 8, .int .u8 31, .int .u8 27, .int .u8 13, .int .u8 23, .int .u8 21, .int .u8 19, .int .u8 16, .int .u8 7, .int .u8 26, .int .u8 12, .int .u8 18, .int .u8 6, .int .u8 11, .int .u8 5, .int .u8 10, .int .u8 9]
def d64Cells : Array Value := #[.int .u8 0, .int .u8 1, .int .u8 56, .int .u8 2, .int .u8 57, .int .u8 49, .int .u8 28, .int .u8 3, .int .u8 61, .int .u8 58, .int .u8 42, .int .u8 50, .int .u8 38, .int .u8 29, .int .u8 17, .int .u8 4, .int .u8 62, .int .u8 47, .int .u8 59, .int .u8 36, .int .u8 45, .int .u8 43, .int .u8 51, .int .u8 22, .int .u8 53, .int .u8 39, .int .u8 33, .int .u8 30, .int .u8 24, .int .u8 18, .int .u8 12, .int .u8 5, .int .u8 63, .int .u8 55, .int .u8 48, .int .u8 27, .int .u8 60, .int .u8 41, .int .u8 37, .int .u8 16, .int .u8 46, .int .u8 35, .int .u8 44, .int .u8 21, .int .u8 52, .int .u8 32, .int .u8 23, .int .u8 11, .int .u8 54, .int .u8 26, .int .u8 40, .int .u8 15, .int .u8 34, .int .u8 20, .int .u8 31, .int .u8 10, .int .u8 25, .int .u8 14, .int .u8 19, .int .u8 9, .int .u8 13, .int .u8 8, .int .u8 7, .int .u8 6]
def powCells : Array Value := #[.int .u64 1, .int .u64 10, .int .u64 100, .int .u64 1000, .int .u64 10000, .int .u64 100000, .int .u64 1000000, .int .u64 10000000, .int .u64 100000000, .int .u64 1000000000, .int .u64 10000000000, .int .u64 100000000000, .int .u64 1000000000000, .int .u64 10000000000000, .int .u64 100000000000000, .int .u64 1000000000000000, .int .u64 10000000000000000, .int .u64 100000000000000000, .int .u64 1000000000000000000, .int .u64 10000000000000000000]
def wordCells : Array Value := (resW.map fun l => Value.string (str l)).toArray
def layC (cs : Array Value) : Obj → Obj
 | .cells _ t frozen => .cells cs t frozen
 | o => o
noncomputable def witW (os : Os) : World := { World.holding Tryz.prog os ⟨#[], #[], []⟩ with heap := (((((((World.holding Tryz.prog os ⟨#[], #[], []⟩).heap.modify 0 (layC #[.slice (some ⟨12, 0, none⟩) 19 19])).modify 2 (layC powCells)).modify 3 (layC firstCells)).modify 4 (layC acceptCells)).modify 5 (layC d32Cells)).modify 6 (layC d64Cells)).push (.cells wordCells 9) }
theorem laid_met (os : Os) (args : Array Value) : laidMet Tryz.prog Rows.termOrdersRow.laid ((witW os).forCall (fun _ _ => 0) ⟨#[], args, []⟩).memory :=
 laidMet_of_run' 8 (by kernel_rfl) (by kernel_rfl)
theorem cell_of_var {w : World} {name : String} {g : Nat} {cs : Array Value} (hg : Tryz.prog.globalNamed name = some g) (h : w.var? Tryz.prog name = some cs) (i : Nat) : w.cell? ⟨g, i, none⟩ = cs[i]? := by
 unfold World.var? at h
 rw [hg] at h
 simp only [Option.bind_some] at h
 split at h
 ·rename_i cs' t fr he
  cases h
  exact Lib.cell_of_heap he i
 ·cases h
set_option maxRecDepth 100000 in
theorem glb_of_laid {W : World} (h : laidMet Tryz.prog Rows.termOrdersRow.laid W) : Glb W := by
 obtain ⟨ps, ⟨g1, t1, c1, f1, p1, q1, _, _, _, _, ⟨g2, t2, c2, f2, p2, q2, _, _, _, _, ⟨g3, t3, c3, f3, p3, q3, hg3, ht3, hv3, hd3, ⟨g4, t4, c4, f4, p4, q4, _, _, _, _, ⟨g5, t5, c5, f5, p5, q5, hg5, ht5, hv5, hd5, _⟩, _⟩, _⟩, _⟩, _⟩, _⟩ := h
 have n3 := pow_named
 obtain rfl := Option.some.inj (n3.symm.trans hg3)
 have k3 : (Tryz.prog.globals[2]?).map (·.type) = some 256 := by kernel_rfl
 obtain rfl := Option.some.inj (k3.symm.trans ht3)
 have hpow : Pow W := by
  have hd : DataW.trod (fun _ => ()) Tryz.prog W 0 (fun _ => true) false f3 256 c3.toList = some (Lib.tabData .u64 Lib.pow10Tab, p3) := hd3
  have e := Lib.cells_of_tab (n := 20) Tryz.underlying256 Tryz.underlying128 (by kernel_rfl) (by kernel_rfl) hd
  show W.var? Tryz.prog "internal/strconv.uint64pow10" = some _
  rw [hv3, ← e]
 refine ⟨?_, hpow⟩
 have n5 : Tryz.prog.globalNamed "pigeonhole/term.reserved" = some 0 := by kernel_rfl
 obtain rfl := Option.some.inj (n5.symm.trans hg5)
 have k5 : (Tryz.prog.globals[0]?).map (·.type) = some 55 := by kernel_rfl
 obtain rfl := Option.some.inj (k5.symm.trans ht5)
 rcases DataW.trod_slice Tryz.underlying55 hd5 with ⟨_, hx⟩ | ⟨a, len, cap, elems, rest, m, _, hcs, hx, _, hl, _, hlen, hel, _, _⟩
 ·simp [Rows.laid_pigeonhole_term_reserved] at hx
 ·have hxs : elems.map (·.1) = resW.map (fun z => (DataW.lit (.string z) : DataW Unit)) := by
   have := congrArg Prod.fst hx
   simp only [Rows.laid_pigeonhole_term_reserved, DataW.slice.injEq] at this
   exact this.1.symm
  have hn : elems.length = 19 := by
   have := congrArg List.length hxs
   simpa [resW] using this
  have hc0 : c5[0]? = some (.slice (some a) len cap) := by
   have := congrArg (·[0]?) hcs
   simpa using this
  have hlen19 : len = 19 := by omega
  subst hlen19
  have one : ∀ i, i < 19 → W.cell? (a.add i) = some (.string (str (resW.getD i []))) := by
   intro i hi
   have h1 := hel i hi
   rw [List.getElem?_eq_getElem (by omega), cells_str, Nat.mul_one] at h1
   obtain ⟨cs, h2, h3⟩ := Option.bind_eq_some_iff.1 h1
   obtain ⟨_, h4, h5⟩ := World.cells?_some h2
   obtain ⟨s, hc, hs, _⟩ := DataW.trod_string Tryz.underlying9 h3
   have h6 := h5 0 (by omega)
   rw [hc] at h6
   have h7 : (elems.map (·.1))[i]? = some (DataW.lit (.string s.data.toList) : DataW Unit) := by
    rw [List.getElem?_map, List.getElem?_eq_getElem (by omega), hs]; rfl
   rw [hxs] at h7
   simp only [List.getElem?_map, Option.map_eq_some_iff, DataW.lit.injEq, Lit.string.injEq] at h7
   obtain ⟨z', hz', e'⟩ := h7
   have h8 : resW.getD i [] = s.data.toList := by rw [List.getD, hz', ← e']; rfl
   rw [h8, show str s.data.toList = s from str_byt s]
   have h9 : (a.add i).add 0 = a.add i := by simp [Addr.add]
   rw [h9] at h6
   simpa using h6
  obtain ⟨b, off, spot⟩ := a
  have hspot : spot = none := by simpa [Addr.add] using World.cell?_spot (one 0 (by omega))
  subst hspot
  refine ⟨b, off, cap, ?_, hl, fun i hi => ?_⟩
  ·rw [cell_of_var n5 hv5 0]; exact hc0
  ·have := one i hi
   rw [Addr.add_lit] at this
   exact this
end Go.Proofs.YtalhbbabijlngaaGreatDoor
namespace Go.Proofs.YtalhbbabijlngaaGreatDoor
open Go.RowKit
def Bk (w : World) (g : Nat) (cs : Array Value) (t : TypeId) : Prop := w.heap[g]? = some (.cells cs t (0, 0))
theorem lt_blk {w : World} {g : Nat} {o : Obj} (h : w.heap[g]? = some o) : g < w.heap.size := by
 by_cases h1 : g < w.heap.size
 ·exact h1
 ·rw [Array.getElem?_eq_none (by omega)] at h; cases h
theorem Bk.lt {w : World} {g : Nat} {cs : Array Value} {t : TypeId} (h : Bk w g cs t) : g < w.heap.size := lt_blk h
theorem Bk.cell {w : World} {g : Nat} {cs : Array Value} {t : TypeId} (h : Bk w g cs t) (i : Nat) : w.cell? ⟨g, i, none⟩ = cs[i]? := cell_of_row w g i _ _ _ h
theorem Bk.free {w : World} {g : Nat} {cs : Array Value} {t : TypeId} (h : Bk w g cs t) (i : Nat) : w.frozen? ⟨g, i, none⟩ = false := frozen_of_row w g i _ _ h
theorem Bk.set {w : World} {g : Nat} {cs : Array Value} {t : TypeId} (h : Bk w g cs t) (i : Nat) (v : Value) : Bk (w.setCell ⟨g, i, none⟩ v) g (cs.setIfInBounds i v) t := by
 unfold Bk
 rw [heap_setCell_same w g i _ _ _ h]
theorem Bk.mono {S : List Nat} {w w' : World} {g : Nat} {cs : Array Value} {t : TypeId} (h : Bk w g cs t) (hu : Upd S w w') (hn : g ∉ S) : Bk w' g cs t := (hu.block g h.lt hn).trans h
theorem Bk.new (w : World) (cs : Array Value) (t : TypeId) : Bk (w.alloc (.cells cs t)) w.heap.size cs t := heap_alloc_new _ _
theorem setCells_upd (g : Nat) : ∀ (vs : List Value) (o : Nat) (w : World), w.grownBy (w.setCells g o vs) (some g)
 | [], _, w => ⟨rfl, rfl, rfl, Nat.le_refl _, fun _ _ _ => rfl⟩
 | v :: r, o, w => by
  have ih := setCells_upd g r (o + 1) (w.setCell ⟨g, o, none⟩ v)
  exact ⟨ih.os, ih.tape, ih.output, Nat.le_trans (by rw [World.size_setCell]; exact Nat.le_refl _) ih.size, fun k hk hne => (ih.block k (by rw [World.size_setCell]; exact hk) hne).trans (heap_setCell_other _ _ _ _ (fun e => hne (by rw [e])))⟩
end Go.Proofs.YtalhbbabijlngaaGreatDoor
