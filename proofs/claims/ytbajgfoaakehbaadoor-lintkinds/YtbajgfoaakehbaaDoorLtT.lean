/- lint's scopes: one name, bound or not. -/
import Derived.Test.YtbajgfoaakehbaaDoorLtS
import Derived.LoopN
namespace Go.Proofs.YtbajgfoaakehbaaDoor
open Go.RowKit

theorem nm_check (b : Bool) (s : ByteArray) (w : World) : (Instr.checkKey b 10000 9 (.string s)).run Tryd.prog w = .ok () w := by kernel_rfl
theorem nm_find0 (s : ByteArray) (w : World) : (Instr.findKey 9 (.string s) []).run Tryd.prog w = .ok none w := by kernel_rfl
theorem nm_findX (w : World) : (Instr.findKey 9 (.string ⟨#[88]⟩) [{ key := .string ⟨#[88]⟩, val := .int .i64 1, born := 0 }]).run Tryd.prog w = .ok (some (0, .int .i64 1)) w := by kernel_rfl
theorem nm_findY (w : World) : (Instr.findKey 9 (.string ⟨#[89]⟩) [{ key := .string ⟨#[88]⟩, val := .int .i64 1, born := 0 }]).run Tryd.prog w = .ok none w := by kernel_rfl
theorem nm_zero (w : World) : (zeroValue 3).run Tryd.prog w = .ok (.int .i64 0) w := by kernel_rfl
theorem nm_look0 {w : World} {bm : Nat} (s : ByteArray) (hm : w.heap[bm]? = some (.map #[] 0)) : (Instr.lookup 55 (.map (some bm)) (.string s) true).run Tryd.prog w = .ok (.tuple #[.int .i64 0, .bool false]) w := by
  simp [Instr.lookup, run_underlying und_names, MapKept.run_getObj_map hm, nm_check, nm_find0, Result.andThen]
theorem nm_lookN (w : World) (s : ByteArray) : (Instr.lookup 55 (.map none) (.string s) true).run Tryd.prog w = .ok (.tuple #[.int .i64 0, .bool false]) w := by
  simp [Instr.lookup, run_underlying und_names, nm_check, nm_find0, Result.andThen]
theorem nm_lookX {w : World} {bm : Nat} (hm : w.heap[bm]? = some (.map #[{ key := .string ⟨#[88]⟩, val := .int .i64 1, born := 0 }] 1)) : (Instr.lookup 55 (.map (some bm)) (.string ⟨#[88]⟩) true).run Tryd.prog w = .ok (.tuple #[.int .i64 1, .bool true]) w := by
  simp [Instr.lookup, run_underlying und_names, MapKept.run_getObj_map hm, nm_check, nm_findX, Result.andThen]
theorem nm_lookY {w : World} {bm : Nat} (hm : w.heap[bm]? = some (.map #[{ key := .string ⟨#[88]⟩, val := .int .i64 1, born := 0 }] 1)) : (Instr.lookup 55 (.map (some bm)) (.string ⟨#[89]⟩) true).run Tryd.prog w = .ok (.tuple #[.int .i64 0, .bool false]) w := by
  simp [Instr.lookup, run_underlying und_names, MapKept.run_getObj_map hm, nm_check, nm_findY, Result.andThen]

/-- A scope, and the empty one around it. -/
structure Scp (w : World) (b bm b0 : Nat) : Prop where
  s : w.heap[b]? = some (.cells #[.map (some bm), .pointer (some ⟨b0, 0, none⟩)] 57 (0, 0))
  o : w.heap[b0]? = some (.cells #[.map none, .pointer none] 57 (0, 0))
theorem Scp.mono {S : List Nat} {w w' : World} {b bm b0 : Nat} (h : Scp w b bm b0) (hu : Upd S w w') (h1 : b ∉ S) (h2 : b0 ∉ S) : Scp w' b bm b0 :=
  ⟨(hu.block b (lt_of_block h.s) h1).trans h.s, (hu.block b0 (lt_of_block h.o) h2).trans h.o⟩
theorem Scp.cells {w : World} {b bm b0 : Nat} (h : Scp w b bm b0) : w.cell? ⟨b, 0, none⟩ = some (.map (some bm)) ∧ w.cell? ⟨b, 1, none⟩ = some (.pointer (some ⟨b0, 0, none⟩)) ∧ w.cell? ⟨b0, 0, none⟩ = some (.map none) ∧ w.cell? ⟨b0, 1, none⟩ = some (.pointer none) :=
  ⟨cell_of_row w b 0 _ _ _ h.s, cell_of_row w b 1 _ _ _ h.s, cell_of_row w b0 0 _ _ _ h.o, cell_of_row w b0 1 _ _ _ h.o⟩

set_option maxHeartbeats 1000000 in
set_option maxRecDepth 100000 in
theorem of_no (b bm b0 : Nat) (s : ByteArray) (w : World) (h : Scp w b bm b0) (hl : (Instr.lookup 55 (.map (some bm)) (.string s) true).run Tryd.prog w = .ok (.tuple #[.int .i64 0, .bool false]) w) : Calls Tryd.prog 53 #[.pointer (some ⟨b, 0, none⟩), .string s] w fun e w' => e = .returned (.int .i64 0) ∧ w' = w := by
  obtain ⟨c0, c1, d0, d1⟩ := h.cells
  clear h
  have hn := nm_lookN w s
  go_enter Tryd.func53, Tryd.ntmps53
  go_wp2_with fail
  refine wp_loop_rounds 3 ?_
  rw [rounds_succ]
  go_wp2_with fail
  rw [rounds_succ]
  go_wp2_with fail
  rw [rounds_succ]
  go_wp2_with fail
  go_ret
  exact ⟨rfl, rfl⟩
set_option maxHeartbeats 1000000 in
set_option maxRecDepth 100000 in
theorem of_hit (b bm b0 : Nat) (s : ByteArray) (v : Int) (w : World) (h : Scp w b bm b0) (hl : (Instr.lookup 55 (.map (some bm)) (.string s) true).run Tryd.prog w = .ok (.tuple #[.int .i64 v, .bool true]) w) : Calls Tryd.prog 53 #[.pointer (some ⟨b, 0, none⟩), .string s] w fun e w' => e = .returned (.int .i64 v) ∧ w' = w := by
  obtain ⟨c0, c1, d0, d1⟩ := h.cells
  clear h
  go_enter Tryd.func53, Tryd.ntmps53
  go_wp2_with fail
  refine wp_loop_rounds 1 ?_
  rw [rounds_succ]
  go_wp2_with fail
  go_ret
  exact ⟨rfl, rfl⟩

theorem nm_put {w : World} {bm : Nat} (hm : w.heap[bm]? = some (.map #[] 0)) : ∃ w', (Instr.mapUpdate 55 (.map (some bm)) (.string ⟨#[88]⟩) (.int .i64 1)).run Tryd.prog w = .ok () w' ∧ Upd [bm] w w' ∧ w'.heap[bm]? = some (.map #[{ key := .string ⟨#[88]⟩, val := .int .i64 1, born := 0 }] 1) := by
  refine ⟨{ w with heap := w.heap.setIfInBounds bm (.map (#[].push { key := .string ⟨#[88]⟩, val := .int .i64 1, born := 0 }) 1) }, ?_, ⟨rfl, rfl, rfl, by simp, fun k _ hn => ?_⟩, ?_⟩
  · simp [Instr.mapUpdate, run_underlying und_names, MapKept.run_getObj_map hm, MapKept.run_setObj_map _ hm, nm_check, nm_find0, Result.andThen]
  · simp at hn
    simp [Ne.symm hn]
  · have := lt_of_block hm
    simp [this]

set_option maxHeartbeats 1000000 in
set_option maxRecDepth 100000 in
theorem bind_X (b bm b0 : Nat) (w : World) (h : Scp w b bm b0) (hm : w.heap[bm]? = some (.map #[] 0)) : Calls Tryd.prog 45 #[.pointer (some ⟨b, 0, none⟩), .string ⟨#[88]⟩] w fun e w' => (∃ u, e = .returned u) ∧ Upd [bm] w w' ∧ w'.heap[bm]? = some (.map #[{ key := .string ⟨#[88]⟩, val := .int .i64 1, born := 0 }] 1) := by
  obtain ⟨c0, c1, d0, d1⟩ := h.cells
  obtain ⟨w', hp, hu, hm'⟩ := nm_put hm
  have ho : bits BinOp.or IntKind.i64 0 1 = 1 := by decide
  have ha : bits BinOp.and IntKind.i64 0 1 = 0 := by decide
  go_enter Tryd.func45, Tryd.ntmps45
  go_wp2_with fail
  refine Calls.mono (of_no b bm b0 _ w h (nm_look0 _ hm)) ?_
  rintro e w1 ⟨rfl, rfl⟩
  clear h
  go_wp2_with fail
  exact bodyPost_end (results_none rfl _ _ _) rfl ⟨⟨_, rfl⟩, hu, hm'⟩
set_option maxHeartbeats 1000000 in
set_option maxRecDepth 100000 in
theorem pattern_X (b bm b0 : Nat) (w : World) (h : Scp w b bm b0) (hm : w.heap[bm]? = some (.map #[] 0)) : Calls Tryd.prog 39 #[.agg #[.int .u8 3, .string ⟨#[88]⟩, .int .i64 0, .int .i64 0, .slice none 0 0], .pointer (some ⟨b, 0, none⟩)] w fun e w' => (∃ u, e = .returned u) ∧ Upd [bm] w w' ∧ w'.heap[bm]? = some (.map #[{ key := .string ⟨#[88]⟩, val := .int .i64 1, born := 0 }] 1) := by
  have lm := lt_of_block hm
  go_enter Tryd.func39, Tryd.ntmps39
  go_wp2_with fail
  have U : Upd [] w (w.alloc (.cells #[.int .u8 3, .string ⟨#[88]⟩, .int .i64 0, .int .i64 0, .slice none 0 0] 29)) := (Upd.refl [] w).alloc _
  refine Calls.mono (bind_X b bm b0 _ (h.mono U (by simp) (by simp)) ((U.block bm lm (by simp)).trans hm)) ?_
  rintro e w1 ⟨⟨u, rfl⟩, hu, hm'⟩
  have HU : Upd [bm] w w1 := U.into.trans hu
  clear h hm U hu
  go_wp2_with fail
  exact bodyPost_end (results_none rfl _ _ _) rfl ⟨⟨_, rfl⟩, HU, hm'⟩
/-- How a check of this goes out: well, or with a fault. -/
def Outc (bad : Bool) (e : Ending) : Prop := if bad then e = .panicked [{ v := .iface 33 (.agg #[.int .i64 212, .int .i64 7]), recovered := false }] else ∃ u, e = .returned u
set_option maxHeartbeats 1000000 in
set_option maxRecDepth 100000 in
theorem variable_X (b bm b0 : Nat) (w : World) (h : Scp w b bm b0) (hm : w.heap[bm]? = some (.map #[{ key := .string ⟨#[88]⟩, val := .int .i64 1, born := 0 }] 1)) : Calls Tryd.prog 47 #[.agg #[.int .u8 3, .string ⟨#[88]⟩, .int .i64 0, .int .i64 0, .slice none 0 0], .pointer (some ⟨b, 0, none⟩)] w fun e w' => (∃ u, e = .returned u) ∧ Upd [] w w' := by
  have lm := lt_of_block hm
  go_enter Tryd.func47, Tryd.ntmps47
  go_wp2_with fail
  have U : Upd [] w (w.alloc (.cells #[.int .u8 3, .string ⟨#[88]⟩, .int .i64 0, .int .i64 0, .slice none 0 0] 29)) := (Upd.refl [] w).alloc _
  refine Calls.mono (of_hit b bm b0 _ 1 _ (h.mono U (by simp) (by simp)) (nm_lookX ((U.block bm lm (by simp)).trans hm))) ?_
  rintro e w1 ⟨rfl, rfl⟩
  clear h hm
  go_wp2_with fail
  exact bodyPost_ret (results_none rfl _ _ _) rfl ⟨⟨_, rfl⟩, U⟩
set_option maxHeartbeats 1000000 in
set_option maxRecDepth 100000 in
theorem variable_Y (b bm b0 : Nat) (w : World) (h : Scp w b bm b0) (hm : w.heap[bm]? = some (.map #[{ key := .string ⟨#[88]⟩, val := .int .i64 1, born := 0 }] 1)) : Calls Tryd.prog 47 #[.agg #[.int .u8 3, .string ⟨#[89]⟩, .int .i64 0, .int .i64 7, .slice none 0 0], .pointer (some ⟨b, 0, none⟩)] w fun e w' => e = .panicked [{ v := .iface 33 (.agg #[.int .i64 212, .int .i64 7]), recovered := false }] ∧ Upd [] w w' := by
  have lm := lt_of_block hm
  have tN : Tb (w.alloc (.cells #[.int .u8 3, .string ⟨#[89]⟩, .int .i64 0, .int .i64 7, .slice none 0 0] 29)) w.heap.size #[.int .u8 3, .string ⟨#[89]⟩, .int .i64 0, .int .i64 7, .slice none 0 0] := Tb.new _ _ _ rfl
  go_enter Tryd.func47, Tryd.ntmps47
  go_wp2_with fail
  have U : Upd [] w (w.alloc (.cells #[.int .u8 3, .string ⟨#[89]⟩, .int .i64 0, .int .i64 7, .slice none 0 0] 29)) := (Upd.refl [] w).alloc _
  refine Calls.mono (of_no b bm b0 _ _ (h.mono U (by simp) (by simp)) (nm_lookY ((U.block bm lm (by simp)).trans hm))) ?_
  rintro e w1 ⟨rfl, rfl⟩
  clear h hm
  go_wp2_with (first | (refine load_T _ rfl _ rfl _ _ rfl tN rfl ?_) | fail)
  refine Calls.mono (refuse_no _ _ _ _ _ _ _ _ _) ?_
  rintro e w2 ⟨⟨v2, rfl⟩, u2⟩
  have t2 := tN.mono u2 (by simp)
  have U2 : Hid (Upd [] w w2) := U.trans u2
  clear tN U u2
  go_wp2_with (first | (refine load_T _ rfl _ rfl _ _ rfl t2 rfl ?_) | fail)
  refine Calls.mono (refuse_yes _ _ _ _ _ _ _ _ _) ?_
  rintro e w3 ⟨rfl, u3⟩
  have U3 : Hid (Upd [] w w3) := U2.out.trans u3
  clear t2 U2 u3
  go_wp2_with fail
  exact ⟨rfl, rfl, U3.out⟩

end Go.Proofs.YtbajgfoaakehbaaDoor
