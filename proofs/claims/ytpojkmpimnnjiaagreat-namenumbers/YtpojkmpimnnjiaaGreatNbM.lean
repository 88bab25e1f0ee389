/- The kit's mark of a Named, by its contract. -/
import Derived.Test.YtpojkmpimnnjiaaGreatBgC
import Derived.Laws.Rows
namespace Go.Proofs.YtpojkmpimnnjiaaGreat
open Go.RowKit

theorem setRow_upd (w : World) (g : Nat) (cs : Array Value) : Upd [g] w (w.setRow g cs) :=
  ⟨rfl, rfl, rfl, by simp, fun k _ hn => by
    have : g ≠ k := fun e => hn (by simp [e])
    simp only [World.setRow, Array.getElem?_modify]
    rw [if_neg this]⟩
theorem setRow_blk {w : World} {g : Nat} {old : Array Value} {t : TypeId} (h : Blk w g old t) (cs : Array Value) : Blk (w.setRow g cs) g cs t := by
  unfold Blk at *
  simp only [World.setRow, Array.getElem?_modify, if_true, h]
  rfl

/-- A struct is stored into a block of the call's own. -/
theorem store_S (w : World) {ops : Array Oper} {rest : List Oper} {o : Oper} {a : Act} {Q : Exit → Act → World → Prop} (hgd : o.guard = none) (T : TypeId) (x y : Operand) (ho : o.op = .store T x y)
    (g : Nat) (cells old : Array Value) (hx : a.eval x = .pointer (some ⟨g, 0, none⟩)) (hy : a.eval y = .agg cells) (hg : Blk w g old T) (hi : (Tryz.prog.info? T).map (·.size) = some cells.size) (hc : cells.size = old.size) (h1 : cells.all (·.oneCell') = true)
    (h : ∀ w', Blk w' g cells T → Upd [g] w w' → wpList Tryz.prog ops Q rest (a.put o.dst undef) w') : wpList Tryz.prog ops Q (o :: rest) a w :=
  wpList_store_row hgd T x y ho g cells hx hy T old hg hi (by omega) h1 (h _ (setRow_blk hg cells) (setRow_upd w g cells))

/-- .. and handed back. -/
theorem ret_S {fn : Func} {R : Ending → World → Prop} {a : Act} {w : World} {p : Tmp} {T : TypeId} (h : fn.results = #[.cell p T]) (hd : a.defers = []) (g : Nat) (cs : Array Value) {fs : _}
    (hp : a.tmps.getD p undef = .pointer (some ⟨g, 0, none⟩)) (hg : Blk w g cs T) (hu : Tryz.prog.underlying T = some (.struct fs)) (hi : (Tryz.prog.info? T).map (·.size) = some cs.size)
    (hR : R (.returned (.agg cs)) w) : bodyPost Tryz.prog fn R .ret a w :=
  bodyPost_ret (v := .agg cs) (results_cell_row h a.tmps w g T cs (0, 0) _ hp hg hu rfl hi) hd hR

/-- A mark's number. -/
def mkN (k i : Int) : Int := wrap64 (wrap64 (1000003 * wrap64 (k + 7)) + i)
set_option maxHeartbeats 400000 in
theorem mark_any (k i : Int) (w : World) : Calls Tryz.prog 62 #[.int .i64 k, .int .i64 i] w fun e w' => e = .returned (.int .i64 (mkN k i)) ∧ w' = w := by
  have HM : Hid (mkN k i = wrap64 (wrap64 (1000003 * wrap64 (k + 7)) + i)) := rfl
  go_enter Tryz.func62, Tryz.ntmps62
  go_wp2
  go_ret
  rw [HM.out]
  exact ⟨rfl, rfl⟩
theorem info_nam2 : (Tryz.prog.info? 42).map (·.size) = some 2 := by kernel_rfl
/-- A mark of a Named, as a row's cells. -/
def mkNm (k i : Nat) : List Value := [.string ⟨#[]⟩, .int .i64 (mkN k i)]
set_option maxHeartbeats 400000 in
theorem markNamed_any (k i : Int) (w : World) : Calls Tryz.prog 85 #[.int .i64 k, .int .i64 i] w fun e w' => e = .returned (.agg #[.string ⟨#[]⟩, .int .i64 (mkN k i)]) ∧ Upd [] w w' := by
  obtain ⟨M, hM⟩ : ∃ M, M = mkN k i := ⟨_, rfl⟩
  have HM : Hid (∀ W, Calls Tryz.prog 62 #[.int .i64 k, .int .i64 i] W fun e w' => e = .returned (.int .i64 M) ∧ w' = W) := fun W => by rw [hM]; exact mark_any k i W
  rw [← hM]
  clear hM
  have hA := Blk.new w #[.string ⟨#[]⟩, .int .i64 0] 42
  go_enter Tryz.func85, Tryz.ntmps85
  go_wp2_with (first | (go_at_call 62; refine (HM.out _).mono ?_; rintro e w' ⟨rfl, rfl⟩) | (refine store_S _ rfl 42 _ _ rfl w.heap.size #[.string ⟨#[]⟩, .int .i64 M] _ rfl rfl hA info_nam2 rfl (by simp [Value.oneCell']) ?_; intro w5 hB5 hU5))
  exact ret_S Tryz.results85 rfl _ _ rfl hB5 Tryz.underlying42 info_nam2 ⟨rfl, ((Upd.refl [] w).alloc _).then hU5 (by simp)⟩

end Go.Proofs.YtpojkmpimnnjiaaGreat
