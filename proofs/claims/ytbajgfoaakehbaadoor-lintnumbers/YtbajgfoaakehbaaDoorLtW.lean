/- lint's Check: the deferred closure. -/
import Derived.Test.YtbajgfoaakehbaaDoorLtV
import Derived.Defers
import Derived.Recover
import Derived.Deep.WholeRow
namespace Go.Proofs.YtbajgfoaakehbaaDoor
open Go.RowKit

/-- A fault in its block. -/
def Fb (w : World) (g : Nat) (e p : Int) : Prop := w.heap[g]? = some (.cells #[.int .i64 e, .int .i64 p] 33 (0, 0))

theorem ta_nil (w : World) : (Instr.typeAssert .nilIface 20 33 true).run Tryd.prog w = .ok (.tuple #[.agg #[.int .i64 0, .int .i64 0], .bool false]) w := by kernel_rfl
theorem ta_some (e p : Int) (w : World) : (Instr.typeAssert (.iface 33 (.agg #[.int .i64 e, .int .i64 p])) 20 33 true).run Tryd.prog w = .ok (.tuple #[.agg #[.int .i64 e, .int .i64 p], .bool true]) w := by kernel_rfl
theorem info_fault : (Tryd.prog.info? 33).map (·.size) = some 2 := by kernel_rfl
theorem st_new (e p : Int) (w : World) : (storeCells ⟨w.heap.size, 0, none⟩ [.int .i64 e, .int .i64 p]).run Tryd.prog (w.alloc (.cells #[.int .i64 0, .int .i64 0] 33)) = .ok () (w.alloc (.cells #[.int .i64 e, .int .i64 p] 33)) :=
  run_storeCells_new (P := Tryd.prog) w 33 #[.int .i64 0, .int .i64 0] #[.int .i64 e, .int .i64 p] info_fault rfl (by simp [Value.oneCell'])
theorem store_F (w : World) {ops : Array Oper} {rest : List Oper} {o : Oper} {a : Act} {Q : Exit → Act → World → Prop} (hgd : o.guard = none) (x y : Operand) (ho : o.op = .store 33 x y)
    (g : Nat) (e p e' p' : Int) (hx : a.eval x = .pointer (some ⟨g, 0, none⟩)) (hy : a.eval y = .agg #[.int .i64 e, .int .i64 p]) (hg : Fb w g e' p')
    (h : ∀ w', Fb w' g e p → Upd [g] w w' → wpList Tryd.prog ops Q rest (a.put o.dst undef) w') : wpList Tryd.prog ops Q (o :: rest) a w :=
  wpList_store_row hgd 33 x y ho g #[.int .i64 e, .int .i64 p] hx hy 33 #[.int .i64 e', .int .i64 p'] hg info_fault rfl (by simp [Value.oneCell']) (h _ (setRow_heap w g _ _ _ _ hg) (setRow_upd w g _))
set_option maxHeartbeats 1000000 in
set_option maxRecDepth 100000 in
theorem catch_idle (g : Nat) (w : World) :
    CallsD Tryd.prog 21 #[.pointer (some ⟨g, 0, none⟩)] .returning w fun e u' w' => e = .returned (.tuple #[]) ∧ u' = .returning ∧ Upd [] w w' := by
  refine callsD_of_wpS Tryd.func21 rfl fun c₀ cs hu => ?_
  have U : Upd [] w (w.alloc (.cells #[.int .i64 0, .int .i64 0] 33)) := (Upd.refl [] w).alloc _
  apply wpS_seq
  apply wpS_region
  simp [wpOpsS, go_sem, recoverD, hu, Tryd.ntmps21, Exit.thenS, ta_nil]
  apply wpS_seq
  apply wpS_region
  simp [wpOpsS, go_sem, Exit.thenS]
  refine wpS_cond (t := false) (by simp [Act.eval, Array.replicate]) ?_
  simp only [Bool.false_eq_true, if_false]
  refine wpS_of_wp (wp_skip ?_)
  cases c₀
  simp_all [bodyPostS, results, Tryd.results21]
set_option maxHeartbeats 1000000 in
set_option maxRecDepth 100000 in
theorem catch_bad (g : Nat) (er p : Int) (w : World) (hg : Fb w g 0 0) :
    CallsD Tryd.prog 21 #[.pointer (some ⟨g, 0, none⟩)] (.panicking [{ v := .iface 33 (.agg #[.int .i64 er, .int .i64 p]), recovered := false }]) w fun e u' w' => e = .returned (.tuple #[]) ∧ u' = .panicking [{ v := .iface 33 (.agg #[.int .i64 er, .int .i64 p]), recovered := true }] ∧ Upd [g] w w' ∧ Fb w' g er p := by
  refine callsD_of_wpS Tryd.func21 rfl fun c₀ cs hu => ?_
  have U : Upd [] w (w.alloc (.cells #[.int .i64 er, .int .i64 p] 33)) := (Upd.refl [] w).alloc _
  apply wpS_seq
  apply wpS_region
  simp [wpOpsS, go_sem, recoverD, hu, Tryd.ntmps21, Exit.thenS, ta_some]
  apply wpS_seq
  apply wpS_region
  simp [wpOpsS, go_sem, Exit.thenS]
  refine wpS_cond (t := true) (by simp [Act.eval, Array.replicate]) ?_
  simp only [if_true]
  refine wpS_of_wp ?_
  simp [Array.replicate]
  have hF : Fb (w.alloc (.cells #[.int .i64 er, .int .i64 p] 33)) g 0 0 := (Below.heap_alloc w _ g (lt_of_block hg)).trans hg
  go_wp2_with (first | (refine store_F _ rfl _ _ rfl _ _ _ _ _ rfl rfl hF ?_; intro w3 f3 u3) | fail)
  have U3 : Upd [g] w w3 := U.into.trans u3
  cases c₀
  simp_all [bodyPostS, results, Tryd.results21]

end Go.Proofs.YtbajgfoaakehbaaDoor
