/- lint's scopes: one name, bound or not. -/
import Derived.Test.YtpgjcedonimgnaaDoorJAC
import Derived.LoopN

namespace Go.Proofs.YtpgjcedonimgnaaDoor
open Go.RowKit

theorem nm_check (b : Bool) (s : ByteArray) (w : World) : (Instr.checkKey b 10000 9 (.string s)).run Tryd.prog w = .ok () w := by kernel_rfl
theorem nm_find0 (s : ByteArray) (w : World) : (Instr.findKey 9 (.string s) []).run Tryd.prog w = .ok none w := by kernel_rfl
theorem nm_findX (w : World) : (Instr.findKey 9 (.string ⟨#[88]⟩) [{ key := .string ⟨#[88]⟩, val := .int .i64 1, born := 0 }]).run Tryd.prog w = .ok (some (0, .int .i64 1)) w := by kernel_rfl
theorem nm_findY (w : World) : (Instr.findKey 9 (.string ⟨#[89]⟩) [{ key := .string ⟨#[88]⟩, val := .int .i64 1, born := 0 }]).run Tryd.prog w = .ok none w := by kernel_rfl
theorem nm_zero (w : World) : (zeroValue 3).run Tryd.prog w = .ok (.int .i64 0) w := by kernel_rfl
theorem nm_look0 {w : World} {bm : Nat} (s : ByteArray) (hm : w.heap[bm]? = some (.map #[] 0)) : (Instr.lookup 55 (.map (some bm)) (.string s) true).run Tryd.prog w = .ok (.tuple #[.int .i64 0, .bool false]) w := by
  simp [Instr.lookup, run_underlying und_names, MapKept.run_getObj_map hm, nm_check, nm_find0, Result.andThen]
theorem nm_lookN (w : World) (s : ByteArray) : (Instr.lookup 55 (.map none) (.string s) true).run Tryd.prog w = .ok (.tuple #[.int .i64 0, .bool false]) w := by
  simp [Instr.lookup, run_underlying und_names, nm_check, nm_find0, Result.andThen]
theorem nm_lookX {w : World} {bm : Nat} (hm : w.heap[bm]? = some (.map #[{ key := .string ⟨#[88]⟩, val := .int .i64 1, born := 0 }] 1)) : (Instr.lookup 55 (.map (some bm)) (.string ⟨#[88]⟩) true).run Tryd.prog w = .ok (.tuple #[.int .i64 1, .bool true]) w := by
  simp [Instr.lookup, run_underlying und_names, MapKept.run_getObj_map hm, nm_check, nm_findX, Result.andThen]
theorem nm_lookY {w : World} {bm : Nat} (hm : w.heap[bm]? = some (.map #[{ key := .string ⟨#[88]⟩, val := .int .i64 1, born := 0 }] 1)) : (Instr.lookup 55 (.map (some bm)) (.string ⟨#[89]⟩) true).run Tryd.prog w = .ok (.tuple #[.int .i64 0, .bool false]) w := by
  simp [Instr.lookup, run_underlying und_names, MapKept.run_getObj_map hm, nm_check, nm_findY, Result.andThen]

/-- A scope, and the empty one around it. -/
structure Scp (w : World) (b bm b0 : Nat) : Prop where
  s : w.heap[b]? = some (.cells #[.map (some bm), .pointer (some ⟨b0, 0, none⟩)] 57 (0, 0))
  o : w.heap[b0]? = some (.cells #[.map none, .pointer none] 57 (0, 0))
theorem Scp.mono {S : List Nat} {w w' : World} {b bm b0 : Nat} (h : Scp w b bm b0) (hu : Upd S w w') (h1 : b ∉ S) (h2 : b0 ∉ S) : Scp w' b bm b0 :=
  ⟨(hu.block b (lt_of_block h.s) h1).trans h.s, (hu.block b0 (lt_of_block h.o) h2).trans h.o⟩
theorem Scp.cells {w : World} {b bm b0 : Nat} (h : Scp w b bm b0) : w.cell? ⟨b, 0, none⟩ = some (.map (some bm)) ∧ w.cell? ⟨b, 1, none⟩ = some (.pointer (some ⟨b0, 0, none⟩)) ∧ w.cell? ⟨b0, 0, none⟩ = some (.map none) ∧ w.cell? ⟨b0, 1, none⟩ = some (.pointer none) :=
  ⟨cell_of_row w b 0 _ _ _ h.s, cell_of_row w b 1 _ _ _ h.s, cell_of_row w b0 0 _ _ _ h.o, cell_of_row w b0 1 _ _ _ h.o⟩

set_option maxHeartbeats 1000000 in
set_option maxRecDepth 100000 in
theorem of_no (b bm b0 : Nat) (s : ByteArray) (w : World) (h : Scp w b bm b0) (hl : (Instr.lookup 55 (.map (some bm)) (.string s) true).run Tryd.prog w = .ok (.tuple #[.int .i64 0, .bool false]) w) : Calls Tryd.prog 53 #[.pointer (some ⟨b, 0, none⟩), .string s] w fun e w' => e = .returned (.int .i64 0) ∧ w' = w := by
  obtain ⟨c0, c1, d0, d1⟩ := h.cells
  clear h
  have hn := nm_lookN w s
  go_enter Tryd.func53, Tryd.ntmps53
  go_wp2_with fail
  refine wp_loop_rounds 3 ?_
  rw [rounds_succ]
  go_wp2_with fail
  rw [rounds_succ]
  go_wp2_with fail
  rw [rounds_succ]
  go_wp2_with fail
  go_ret
  exact ⟨rfl, rfl⟩
set_option maxHeartbeats 1000000 in
set_option maxRecDepth 100000 in
theorem of_hit (b bm b0 : Nat) (s : ByteArray) (v : Int) (w : World) (h : Scp w b bm b0) (hl : (Instr.lookup 55 (.map (some bm)) (.string s) true).run Tryd.prog w = .ok (.tuple #[.int .i64 v, .bool true]) w) : Calls Tryd.prog 53 #[.pointer (some ⟨b, 0, none⟩), .string s] w fun e w' => e = .returned (.int .i64 v) ∧ w' = w := by
  obtain ⟨c0, c1, d0, d1⟩ := h.cells
  clear h
  go_enter Tryd.func53, Tryd.ntmps53
  go_wp2_with fail
  refine wp_loop_rounds 1 ?_
  rw [rounds_succ]
  go_wp2_with fail
  go_ret
  exact ⟨rfl, rfl⟩

theorem nm_put {w : World} {bm : Nat} (hm : w.heap[bm]? = some (.map #[] 0)) : ∃ w', (Instr.mapUpdate 55 (.map (some bm)) (.string ⟨#[88]⟩) (.int .i64 1)).run Tryd.prog w = .ok () w' ∧ Upd [bm] w w' ∧ w'.heap[bm]? = some (.map #[{ key := .string ⟨#[88]⟩, val := .int .i64 1, born := 0 }] 1) := by
  refine ⟨{ w with heap := w.heap.setIfInBounds bm (.map (#[].push { key := .string ⟨#[88]⟩, val := .int .i64 1, born := 0 }) 1) }, ?_, ⟨rfl, rfl, rfl, by simp, fun k _ hn => ?_⟩, ?_⟩
  · simp [Instr.mapUpdate, run_underlying und_names, MapKept.run_getObj_map hm, MapKept.run_setObj_map _ hm, nm_check, nm_find0, Result.andThen]
  · simp at hn
    simp [Ne.symm hn]
  · have := lt_of_block hm
    simp [this]

set_option maxHeartbeats 1000000 in
set_option maxRecDepth 100000 in
theorem bind_X (b bm b0 : Nat) (w : World) (h : Scp w b bm b0) (hm : w.heap[bm]? = some (.map #[] 0)) : Calls Tryd.prog 45 #[.pointer (some ⟨b, 0, none⟩), .string ⟨#[88]⟩] w fun e w' => (∃ u, e = .returned u) ∧ Upd [bm] w w' ∧ w'.heap[bm]? = some (.map #[{ key := .string ⟨#[88]⟩, val := .int .i64 1, born := 0 }] 1) := by
  obtain ⟨c0, c1, d0, d1⟩ := h.cells
  obtain ⟨w', hp, hu, hm'⟩ := nm_put hm
  have ho : bits BinOp.or IntKind.i64 0 1 = 1 := by decide
  have ha : bits BinOp.and IntKind.i64 0 1 = 0 := by decide
  go_enter Tryd.func45, Tryd.ntmps45
  go_wp2_with fail
  refine Calls.mono (of_no b bm b0 _ w h (nm_look0 _ hm)) ?_
  rintro e w1 ⟨rfl, rfl⟩
  clear h
  go_wp2_with fail
  exact bodyPost_end (results_none rfl _ _ _) rfl ⟨⟨_, rfl⟩, hu, hm'⟩
set_option maxHeartbeats 1000000 in
set_option maxRecDepth 100000 in
theorem pattern_X (b bm b0 : Nat) (w : World) (h : Scp w b bm b0) (hm : w.heap[bm]? = some (.map #[] 0)) : Calls Tryd.prog 39 #[.agg #[.int .u8 3, .string ⟨#[88]⟩, .int .i64 0, .int .i64 0, .slice none 0 0], .pointer (some ⟨b, 0, none⟩)] w fun e w' => (∃ u, e = .returned u) ∧ Upd [bm] w w' ∧ w'.heap[bm]? = some (.map #[{ key := .string ⟨#[88]⟩, val := .int .i64 1, born := 0 }] 1) := by
  have lm := lt_of_block hm
  go_enter Tryd.func39, Tryd.ntmps39
  go_wp2_with fail
  have U : Upd [] w (w.alloc (.cells #[.int .u8 3, .string ⟨#[88]⟩, .int .i64 0, .int .i64 0, .slice none 0 0] 29)) := (Upd.refl [] w).alloc _
  refine Calls.mono (bind_X b bm b0 _ (h.mono U (by simp) (by simp)) ((U.block bm lm (by simp)).trans hm)) ?_
  rintro e w1 ⟨⟨u, rfl⟩, hu, hm'⟩
  have HU : Upd [bm] w w1 := U.into.trans hu
  clear h hm U hu
  go_wp2_with fail
  exact bodyPost_end (results_none rfl _ _ _) rfl ⟨⟨_, rfl⟩, HU, hm'⟩
/-- How a check of this goes out: well, or with a fault. -/
def Outc (bad : Bool) (e : Ending) : Prop := if bad then e = .panicked [{ v := .iface 33 (.agg #[.int .i64 212, .int .i64 7]), recovered := false }] else ∃ u, e = .returned u
set_option maxHeartbeats 1000000 in
set_option maxRecDepth 100000 in
theorem variable_X (b bm b0 : Nat) (w : World) (h : Scp w b bm b0) (hm : w.heap[bm]? = some (.map #[{ key := .string ⟨#[88]⟩, val := .int .i64 1, born := 0 }] 1)) : Calls Tryd.prog 47 #[.agg #[.int .u8 3, .string ⟨#[88]⟩, .int .i64 0, .int .i64 0, .slice none 0 0], .pointer (some ⟨b, 0, none⟩)] w fun e w' => (∃ u, e = .returned u) ∧ Upd [] w w' := by
  have lm := lt_of_block hm
  go_enter Tryd.func47, Tryd.ntmps47
  go_wp2_with fail
  have U : Upd [] w (w.alloc (.cells #[.int .u8 3, .string ⟨#[88]⟩, .int .i64 0, .int .i64 0, .slice none 0 0] 29)) := (Upd.refl [] w).alloc _
  refine Calls.mono (of_hit b bm b0 _ 1 _ (h.mono U (by simp) (by simp)) (nm_lookX ((U.block bm lm (by simp)).trans hm))) ?_
  rintro e w1 ⟨rfl, rfl⟩
  clear h hm
  go_wp2_with fail
  exact bodyPost_ret (results_none rfl _ _ _) rfl ⟨⟨_, rfl⟩, U⟩
set_option maxHeartbeats 1000000 in
set_option maxRecDepth 100000 in
theorem variable_Y (b bm b0 : Nat) (w : World) (h : Scp w b bm b0) (hm : w.heap[bm]? = some (.map #[{ key := .string ⟨#[88]⟩, val := .int .i64 1, born := 0 }] 1)) : Calls Tryd.prog 47 #[.agg #[.int .u8 3, .string ⟨#[89]⟩, .int .i64 0, .int .i64 7, .slice none 0 0], .pointer (some ⟨b, 0, none⟩)] w fun e w' => e = .panicked [{ v := .iface 33 (.agg #[.int .i64 212, .int .i64 7]), recovered := false }] ∧ Upd [] w w' := by
  have lm := lt_of_block hm
  have tN : Tb (w.alloc (.cells #[.int .u8 3, .string ⟨#[89]⟩, .int .i64 0, .int .i64 7, .slice none 0 0] 29)) w.heap.size #[.int .u8 3, .string ⟨#[89]⟩, .int .i64 0, .int .i64 7, .slice none 0 0] := Tb.new _ _ _ rfl
  go_enter Tryd.func47, Tryd.ntmps47
  go_wp2_with fail
  have U : Upd [] w (w.alloc (.cells #[.int .u8 3, .string ⟨#[89]⟩, .int .i64 0, .int .i64 7, .slice none 0 0] 29)) := (Upd.refl [] w).alloc _
  refine Calls.mono (of_no b bm b0 _ _ (h.mono U (by simp) (by simp)) (nm_lookY ((U.block bm lm (by simp)).trans hm))) ?_
  rintro e w1 ⟨rfl, rfl⟩
  clear h hm
  go_wp2_with (first | (refine load_T _ rfl _ rfl _ _ rfl tN rfl ?_) | fail)
  refine Calls.mono (refuse_no _ _ _ _ _ _ _ _ _) ?_
  rintro e w2 ⟨⟨v2, rfl⟩, u2⟩
  have t2 := tN.mono u2 (by simp)
  have U2 : Hid (Upd [] w w2) := U.trans u2
  clear tN U u2
  go_wp2_with (first | (refine load_T _ rfl _ rfl _ _ rfl t2 rfl ?_) | fail)
  refine Calls.mono (refuse_yes _ _ _ _ _ _ _ _ _) ?_
  rintro e w3 ⟨rfl, u3⟩
  have U3 : Hid (Upd [] w w3) := U2.out.trans u3
  clear t2 U2 u3
  go_wp2_with fail
  exact ⟨rfl, rfl, U3.out⟩

end Go.Proofs.YtpgjcedonimgnaaDoor

/- lint's clause of one variable. -/
namespace Go.Proofs.YtpgjcedonimgnaaDoor
open Go.RowKit

/-- X is in scope. -/
def HasX (w : World) (b bm b0 : Nat) : Prop := Scp w b bm b0 ∧ w.heap[bm]? = some (.map #[{ key := .string ⟨#[88]⟩, val := .int .i64 1, born := 0 }] 1)
theorem HasX.mono {w w' : World} {b bm b0 : Nat} (h : HasX w b bm b0) (hu : Upd [] w w') : HasX w' b bm b0 :=
  ⟨h.1.mono hu (by simp) (by simp), (hu.block bm (lt_of_block h.2) (by simp)).trans h.2⟩
/-- How a check goes out: well, or with the fault. -/
def Out2 : Bool → Ending → Prop
  | false, e => ∃ u, e = .returned u
  | true, e => e = .panicked [{ v := .iface 33 (.agg #[.int .i64 212, .int .i64 7]), recovered := false }]
/-- The two names. -/
def isE (bad : Bool) (s : ByteArray) (p : Int) : Prop := (bad = false ∧ s = ⟨#[88]⟩ ∧ p = 0) ∨ (bad = true ∧ s = ⟨#[89]⟩ ∧ p = 7)
theorem variable_E (bad : Bool) (s : ByteArray) (p : Int) (hE : isE bad s p) (b bm b0 : Nat) (w : World) (h : HasX w b bm b0) : Calls Tryd.prog 47 #[.agg #[.int .u8 3, .string s, .int .i64 0, .int .i64 p, .slice none 0 0], .pointer (some ⟨b, 0, none⟩)] w fun e w' => Out2 bad e ∧ Upd [] w w' := by
  rcases hE with ⟨rfl, rfl, rfl⟩ | ⟨rfl, rfl, rfl⟩
  · exact (variable_X b bm b0 w h.1 h.2).mono fun e w' h => h
  · exact (variable_Y b bm b0 w h.1 h.2).mono fun e w' h => h

set_option maxHeartbeats 1000000 in
set_option maxRecDepth 100000 in
theorem expression_E (bad : Bool) (s : ByteArray) (p : Int) (hE : isE bad s p) (bc b bm b0 : Nat) (w : World) (h : HasX w b bm b0) : Calls Tryd.prog 54 #[.pointer (some ⟨bc, 0, none⟩), .agg #[.int .u8 3, .string s, .int .i64 0, .int .i64 p, .slice none 0 0], .pointer (some ⟨b, 0, none⟩)] w fun e w' => Out2 bad e ∧ Upd [] w w' := by
  have HE : Hid (isE bad s p) := hE
  have HX : Hid (HasX w b bm b0) := h
  clear hE h
  obtain ⟨O, hO⟩ : ∃ O, O = Out2 bad := ⟨_, rfl⟩
  have HO : Hid (O = Out2 bad) := hO
  rw [← hO]
  clear hO
  go_enter Tryd.func54, Tryd.ntmps54
  go_wp2_with (first | (refine load_T _ rfl _ rfl _ _ rfl (Tb.new _ _ _ (by simp)) rfl ?_) | fail)
  have U : Hid (Upd [] w ((w.alloc (.cells #[.pointer (some ⟨bc, 0, none⟩)] 48)).alloc (.cells #[.int .u8 3, .string s, .int .i64 0, .int .i64 p, .slice none 0 0] 29))) := ((Upd.refl [] w).alloc _).alloc _
  refine Calls.mono (variable_E bad s p HE.out b bm b0 _ (HX.out.mono U.out)) ?_
  rintro e w1 ⟨he, hu⟩
  have HU : Hid (Upd [] w w1) := U.out.trans hu
  clear U hu HX HE
  have hO := HO.out
  clear HO
  subst hO
  cases bad
  · obtain ⟨u, rfl⟩ := he
    go_wp2_with fail
    exact bodyPost_end (results_none rfl _ _ _) rfl ⟨⟨_, rfl⟩, HU.out⟩
  · cases he
    go_wp2_with fail
    exact ⟨rfl, rfl, HU.out⟩
set_option maxHeartbeats 1000000 in
set_option maxRecDepth 100000 in
theorem item_E (bad : Bool) (s : ByteArray) (p : Int) (hE : isE bad s p) (bc b bm b0 : Nat) (w : World) (h : HasX w b bm b0) : Calls Tryd.prog 48 #[.pointer (some ⟨bc, 0, none⟩), .agg #[.int .u8 3, .string s, .int .i64 0, .int .i64 p, .slice none 0 0], .pointer (some ⟨b, 0, none⟩)] w fun e w' => Out2 bad e ∧ Upd [] w w' := by
  have HE : Hid (isE bad s p) := hE
  have HX : Hid (HasX w b bm b0) := h
  clear hE h
  obtain ⟨O, hO⟩ : ∃ O, O = Out2 bad := ⟨_, rfl⟩
  have HO : Hid (O = Out2 bad) := hO
  rw [← hO]
  clear hO
  go_enter Tryd.func48, Tryd.ntmps48
  go_wp2_with (first | (refine load_T _ rfl _ rfl _ _ rfl (Tb.new _ _ _ (by simp)) rfl ?_) | fail)
  have U : Hid (Upd [] w (w.alloc (.cells #[.int .u8 3, .string s, .int .i64 0, .int .i64 p, .slice none 0 0] 29))) := (Upd.refl [] w).alloc _
  refine Calls.mono (expression_E bad s p HE.out bc b bm b0 _ (HX.out.mono U.out)) ?_
  rintro e w1 ⟨he, hu⟩
  have HU : Hid (Upd [] w w1) := U.out.trans hu
  clear U hu HX HE
  have hO := HO.out
  clear HO
  subst hO
  cases bad
  · obtain ⟨u, rfl⟩ := he
    go_wp2_with fail
    exact bodyPost_ret (results_none rfl _ _ _) rfl ⟨⟨_, rfl⟩, HU.out⟩
  · cases he
    go_wp2_with fail
    exact ⟨rfl, rfl, HU.out⟩
set_option maxHeartbeats 1000000 in
set_option maxRecDepth 100000 in
theorem body_E (bad : Bool) (s : ByteArray) (p : Int) (hE : isE bad s p) (bc b bm b0 b2 : Nat) (w : World) (h : HasX w b bm b0) (t2 : Tb w b2 #[.int .u8 3, .string s, .int .i64 0, .int .i64 p, .slice none 0 0]) : Calls Tryd.prog 41 #[.pointer (some ⟨bc, 0, none⟩), .agg #[.int .u8 19, .string ⟨#[]⟩, .int .i64 0, .int .i64 0, .slice (some ⟨b2, 0, none⟩) 1 1], .pointer (some ⟨b, 0, none⟩)] w fun e w' => Out2 bad e ∧ Upd [] w w' := by
  have HE : Hid (isE bad s p) := hE
  have HX : Hid (HasX w b bm b0) := h
  clear hE h
  obtain ⟨O, hO⟩ : ∃ O, O = Out2 bad := ⟨_, rfl⟩
  have HO : Hid (O = Out2 bad) := hO
  rw [← hO]
  clear hO
  go_enter Tryd.func41, Tryd.ntmps41
  go_wp2_with fail
  obtain ⟨w1, hw1⟩ : ∃ w1, w1 = w.alloc (.cells #[.int .u8 19, .string ⟨#[]⟩, .int .i64 0, .int .i64 0, .slice (some ⟨b2, 0, none⟩) 1 1] 29) := ⟨_, rfl⟩
  have U1 : Hid (Upd [] w w1) := by rw [hw1]; exact (Upd.refl [] w).alloc _
  have T2 : Tb w1 b2 #[.int .u8 3, .string s, .int .i64 0, .int .i64 p, .slice none 0 0] := t2.mono U1.out (by simp)
  have x0 : w1.cell? ⟨b2, 0, none⟩ = some (.int .u8 3) := T2.cell 0
  have x1 : w1.cell? ⟨b2, 1, none⟩ = some (.string s) := T2.cell 1
  have x2 : w1.cell? ⟨b2, 2, none⟩ = some (.int .i64 0) := T2.cell 2
  have x3 : w1.cell? ⟨b2, 3, none⟩ = some (.int .i64 p) := T2.cell 3
  have x4 : w1.cell? ⟨b2, 4, none⟩ = some (.slice none 0 0) := T2.cell 4
  have tz : Tb (w1.alloc (.cells #[.int .u8 0, .string ⟨#[]⟩, .int .i64 0, .int .i64 0, .slice none 0 0] 29)) w1.heap.size #[.int .u8 0, .string ⟨#[]⟩, .int .i64 0, .int .i64 0, .slice none 0 0] := Tb.new _ _ _ rfl
  have HUZ : Hid (Upd [] w1 (w1.alloc (.cells #[.int .u8 0, .string ⟨#[]⟩, .int .i64 0, .int .i64 0, .slice none 0 0] 29))) := (Upd.refl [] w1).alloc _
  rw [← hw1]
  clear hw1 t2
  refine wp_loop_rounds 2 ?_
  rw [rounds_succ]
  go_wp2_with (first
    | (refine store_T _ rfl _ _ rfl _ #[.int .u8 3, .string s, .int .i64 0, .int .i64 p, .slice none 0 0] _ rfl rfl tz rfl rfl (by simp [Value.oneCell']) ?_; intro w3 t3 u3; have U3 : Hid (Upd [] w1 w3) := HUZ.out.then u3 (by simp))
    | (refine load_T _ rfl _ rfl _ _ rfl t3 rfl ?_)
    | fail)
  refine Calls.mono (item_E bad s p HE.out bc b bm b0 w3 (HX.out.mono (U1.out.trans U3.out))) ?_
  rintro e w4 ⟨he, hu⟩
  have HU : Hid (Upd [] w w4) := (U1.out.trans U3.out).trans hu
  clear U1 U3 hu HX HE T2 x0 x1 x2 x3 x4 tz HUZ t3 u3
  have hO := HO.out
  clear HO
  subst hO
  cases bad
  · obtain ⟨u, rfl⟩ := he
    go_wp2_with fail
    rw [rounds_succ]
    go_wp2_with fail
    exact bodyPost_end (results_none rfl _ _ _) rfl ⟨⟨_, rfl⟩, HU.out⟩
  · cases he
    go_wp2_with fail
    exact ⟨rfl, rfl, HU.out⟩

end Go.Proofs.YtpgjcedonimgnaaDoor
