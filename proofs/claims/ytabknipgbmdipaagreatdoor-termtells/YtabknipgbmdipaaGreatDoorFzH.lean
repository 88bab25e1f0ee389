/- Blocks, and rows of cells that are stored. -/
import Derived.Test.YtabknipgbmdipaaGreatDoorJAA
import Derived.Test.YtabknipgbmdipaaGreatDoorJAI
import Derived.ArgAppend
import Derived.Deep.MidRow
namespace Go.Proofs.YtabknipgbmdipaaGreatDoor
open Go.RowKit

/-- A block of the call's own. -/
def Bk (w : World) (g : Nat) (cs : Array Value) (t : TypeId) : Prop := w.heap[g]? = some (.cells cs t (0, 0))
theorem lt_blk {w : World} {g : Nat} {o : Obj} (h : w.heap[g]? = some o) : g < w.heap.size := by
  by_cases h1 : g < w.heap.size
  · exact h1
  · rw [Array.getElem?_eq_none (by omega)] at h; cases h
theorem Bk.lt {w : World} {g : Nat} {cs : Array Value} {t : TypeId} (h : Bk w g cs t) : g < w.heap.size := lt_blk h
theorem Bk.cell {w : World} {g : Nat} {cs : Array Value} {t : TypeId} (h : Bk w g cs t) (i : Nat) : w.cell? ⟨g, i, none⟩ = cs[i]? := cell_of_row w g i _ _ _ h
theorem Bk.free {w : World} {g : Nat} {cs : Array Value} {t : TypeId} (h : Bk w g cs t) (i : Nat) : w.frozen? ⟨g, i, none⟩ = false := frozen_of_row w g i _ _ h
theorem Bk.set {w : World} {g : Nat} {cs : Array Value} {t : TypeId} (h : Bk w g cs t) (i : Nat) (v : Value) : Bk (w.setCell ⟨g, i, none⟩ v) g (cs.setIfInBounds i v) t := by
  unfold Bk
  rw [heap_setCell_same w g i _ _ _ h]
theorem Bk.other {w : World} {g : Nat} {cs : Array Value} {t : TypeId} (h : Bk w g cs t) (a : Addr) (ha : a.block ≠ g) (u : Value) : Bk (w.setCell a u) g cs t := by
  unfold Bk
  rw [heap_setCell_other _ _ _ _ (fun e => ha e.symm)]; exact h
theorem Bk.mono {S : List Nat} {w w' : World} {g : Nat} {cs : Array Value} {t : TypeId} (h : Bk w g cs t) (hu : Upd S w w') (hn : g ∉ S) : Bk w' g cs t := (hu.block g h.lt hn).trans h
theorem Bk.new (w : World) (cs : Array Value) (t : TypeId) : Bk (w.alloc (.cells cs t)) w.heap.size cs t := heap_alloc_new _ _
theorem Bk.drew {w : World} {g : Nat} {cs : Array Value} {t : TypeId} (h : Bk w g cs t) : Bk w.drew g cs t := h

theorem setCells_upd (g : Nat) : ∀ (vs : List Value) (o : Nat) (w : World), w.grownBy (w.setCells g o vs) (some g)
  | [], _, w => ⟨rfl, rfl, rfl, Nat.le_refl _, fun _ _ _ => rfl⟩
  | v :: r, o, w => by
    have ih := setCells_upd g r (o + 1) (w.setCell ⟨g, o, none⟩ v)
    exact ⟨ih.os, ih.tape, ih.output, Nat.le_trans (by rw [World.size_setCell]; exact Nat.le_refl _) ih.size, fun k hk hne => (ih.block k (by rw [World.size_setCell]; exact hk) hne).trans (heap_setCell_other _ _ _ _ (fun e => hne (by rw [e])))⟩

end Go.Proofs.YtabknipgbmdipaaGreatDoor
