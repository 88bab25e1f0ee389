/- Structs stored, loaded, handed back. -/
import Derived.Test.YtiapdapkklcliaaGreatDoorBase
import Derived.Laws.Rows
namespace Go.Proofs.YtiapdapkklcliaaGreatDoor
open Go.RowKit

theorem setRow_upd (w : World) (g : Nat) (cs : Array Value) : Upd [g] w (w.setRow g cs) :=
  ⟨rfl, rfl, rfl, by simp, fun k _ hn => by
    have : g ≠ k := fun e => hn (by simp [e])
    simp only [World.setRow, Array.getElem?_modify]
    rw [if_neg this]⟩
theorem setRow_blk {w : World} {g : Nat} {old : Array Value} {t : TypeId} (h : Blk w g old t) (cs : Array Value) : Blk (w.setRow g cs) g cs t := by
  unfold Blk at *
  simp only [World.setRow, Array.getElem?_modify, if_true, h]
  rfl

/-- A struct is stored into a block of the call's own. -/
theorem store_S (w : World) {ops : Array Oper} {rest : List Oper} {o : Oper} {a : Act} {Q : Exit → Act → World → Prop} (hgd : o.guard = none) (T : TypeId) (x y : Operand) (ho : o.op = .store T x y)
    (g : Nat) (cells old : Array Value) (hx : a.eval x = .pointer (some ⟨g, 0, none⟩)) (hy : a.eval y = .agg cells) (hg : Blk w g old T) (hi : (Tryz.prog.info? T).map (·.size) = some cells.size) (hc : cells.size = old.size) (h1 : cells.all (·.oneCell') = true)
    (h : ∀ w', Blk w' g cells T → Upd [g] w w' → wpList Tryz.prog ops Q rest (a.put o.dst undef) w') : wpList Tryz.prog ops Q (o :: rest) a w :=
  wpList_store_row hgd T x y ho g cells hx hy T old hg hi (by omega) h1 (h _ (setRow_blk hg cells) (setRow_upd w g cells))

/-- .. and handed back. -/
theorem ret_S {fn : Func} {R : Ending → World → Prop} {a : Act} {w : World} {p : Tmp} {T : TypeId} (h : fn.results = #[.cell p T]) (hd : a.defers = []) (g : Nat) (cs : Array Value) {fs : _}
    (hp : a.tmps.getD p undef = .pointer (some ⟨g, 0, none⟩)) (hg : Blk w g cs T) (hu : Tryz.prog.underlying T = some (.struct fs)) (hi : (Tryz.prog.info? T).map (·.size) = some cs.size)
    (hR : R (.returned (.agg cs)) w) : bodyPost Tryz.prog fn R .ret a w :=
  bodyPost_ret (v := .agg cs) (results_cell_row h a.tmps w g T cs (0, 0) _ hp hg hu rfl hi) hd hR

/-- .. behind another result. -/
theorem ret_TS {fn : Func} {R : Ending → World → Prop} {a : Act} {w : World} {u p : Tmp} {T : TypeId} (h : fn.results = #[.tmp u, .cell p T]) (hd : a.defers = []) (g : Nat) (cs : Array Value) (v : Value) {fs : _} (hv : a.tmps.getD u undef = v)
    (hp : a.tmps.getD p undef = .pointer (some ⟨g, 0, none⟩)) (hg : Blk w g cs T) (hu : Tryz.prog.underlying T = some (.struct fs)) (hi : (Tryz.prog.info? T).map (·.size) = some cs.size)
    (hR : R (.returned (.tuple #[v, .agg cs])) w) : bodyPost Tryz.prog fn R .ret a w := by
  refine bodyPost_ret (v := .tuple #[v, .agg cs]) ?_ hd hR
  have hp' : a.tmps[p]?.getD undef = .pointer (some ⟨g, 0, none⟩) := by simpa using hp
  have hu' : a.tmps[u]?.getD undef = v := by simpa using hv
  simp [results, h, hp', hu', asAddr, run_loadVar_row w g T T cs (0, 0) _ hg hu rfl hi]

end Go.Proofs.YtiapdapkklcliaaGreatDoor
