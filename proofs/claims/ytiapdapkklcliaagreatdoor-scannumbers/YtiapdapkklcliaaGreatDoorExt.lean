/- A region that draws its order, whose own operations only read, and whose callees may make memory: walked once, in the order of the text. -/
import Derived.Test.YtiapdapkklcliaaGreatDoorBase
import Derived.Deep.QuietTactic
import Derived.BigQuiet
namespace Go.Proofs.YtiapdapkklcliaaGreatDoor
open Go.RowKit

/-- A world in which nothing of an elder one has turned. -/
structure Ext (w : World) where
  W : World
  h : Upd [] w W

theorem Ext.call {f : FuncId} {args : Array Value} {w : World} {v : Value} {n : Ext w} (h : Calls Tryz.prog f args n.W fun e w' => e = .returned v ∧ Upd [] n.W w') :
    Calls Tryz.prog f args n.W fun e w'' => e = .returned v ∧ ∃ m : Ext w, w'' = m.W :=
  h.mono fun _ w'' ⟨he, hu⟩ => ⟨he, ⟨w'', n.h.trans hu⟩, rfl⟩
theorem Ext.cell {w : World} (n : Ext w) {p : Addr} {v : Value} (h : w.cell? p = some v) : n.W.cell? p = some v :=
  (n.h.cell (World.block_lt_of_cell? _ _ h) (by simp)).trans h

theorem wp_region_ext {id : Nat} {Q : Exit → Act → World → Prop} {a : Act} {w : World} {l : List Oper} (hm : Tryz.prog.follows .mixedOrders = true) (hB : Region.lexB .any l.toArray = true)
    (h : wpQuiet Tryz.prog l.toArray (fun w' => ∃ n : Ext w, w' = n.W) (fun a' => ∀ w', (∃ n : Ext w, w' = n.W) → Q .normal a' w') l a) : (Code.region id l.toArray true).wp Tryz.prog Q a w :=
  wp_region_quiet (C := fun w' => ∃ n : Ext w, w' = n.W) hm hB ⟨⟨w.drew, (Upd.refl [] w).drew⟩, rfl⟩ (by simpa using h)

end Go.Proofs.YtiapdapkklcliaaGreatDoor
