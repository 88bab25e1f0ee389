/- NameNil, walked. -/
import Derived.Test.YticbafidaakpjaaNmF
namespace Go.Proofs.Yticbafidaakpjaa
open Go.RowKit Go.Maps

/-- Names that are not. -/
def NoN (pv : Value) (w : World) : Prop := Calls Try.prog 16 #[pv] w fun e w' => e = .returned (.bool false) ∧ w' = w
set_option maxRecDepth 10000 in
theorem put_no (pv : Value) (w : World) (h : NoN pv w) (s : BS) (p : Int) : Calls Try.prog 7 #[pv, encStr s, .int .i64 p] w fun e w' => e = .returned (.bool false) ∧ w' = w := by
  have H : Hid (NoN pv w) := h
  clear h
  go_enter Try.func7, Try.ntmps7
  go_wp2_with fail
  refine Calls.mono H.out ?_
  rintro e w' ⟨rfl, rfl⟩
  go_wp2_with fail
  go_ret
  exact ⟨rfl, rfl⟩
set_option maxRecDepth 10000 in
theorem take_no (pv : Value) (w : World) (h : NoN pv w) (s : BS) : Calls Try.prog 8 #[pv, encStr s] w fun e w' => e = .returned (.bool false) ∧ w' = w := by
  have H : Hid (NoN pv w) := h
  clear h
  go_enter Try.func8, Try.ntmps8
  go_wp2_with fail
  refine Calls.mono H.out ?_
  rintro e w' ⟨rfl, rfl⟩
  go_wp2_with fail
  go_ret
  exact ⟨rfl, rfl⟩
set_option maxRecDepth 10000 in
theorem find_no (pv : Value) (w : World) (h : NoN pv w) (s : BS) : Calls Try.prog 6 #[pv, encStr s] w fun e w' => e = .returned (.tuple #[.int .i64 0, .bool false]) ∧ w' = w := by
  have H : Hid (NoN pv w) := h
  clear h
  go_enter Try.func6, Try.ntmps6
  go_wp2_with fail
  refine Calls.mono H.out ?_
  rintro e w' ⟨rfl, rfl⟩
  go_wp2_with fail
  refine bodyPost_ret (results_tmp2 rfl _ _ _) rfl ?_
  exact ⟨rfl, rfl⟩
set_option maxRecDepth 10000 in
theorem end_no (pv : Value) (w : World) (h : NoN pv w) (p : Int) : Calls Try.prog 9 #[pv, .int .i64 p] w fun e w' => e = .returned (.slice none 0 0) ∧ w' = w := by
  have H : Hid (NoN pv w) := h
  clear h
  go_enter Try.func9, Try.ntmps9
  go_wp2_with fail
  refine Calls.mono H.out ?_
  rintro e w' ⟨rfl, rfl⟩
  go_wp2_with fail
  go_ret
  exact ⟨rfl, rfl⟩
set_option maxRecDepth 10000 in
theorem all_no (pv : Value) (w : World) (h : NoN pv w)  : Calls Try.prog 10 #[pv] w fun e w' => e = .returned (.slice none 0 0) ∧ w' = w := by
  have H : Hid (NoN pv w) := h
  clear h
  go_enter Try.func10, Try.ntmps10
  go_wp2_with fail
  refine Calls.mono H.out ?_
  rintro e w' ⟨rfl, rfl⟩
  go_wp2_with fail
  go_ret
  exact ⟨rfl, rfl⟩

set_option maxHeartbeats 4000000 in
set_option maxRecDepth 100000 in
theorem Nil_walk (w : World) (s : BS) (p : Int) : Calls Try.prog 3 #[encStr s, .int .i64 p] w fun e w' => e = .returned (.bool true) ∧ Upd [] w w' := by
  go_enter Try.func3, Try.ntmps3
  go_wp2_with fail
  refine Calls.mono (awake_any all_any _) ?_
  rintro e w1 ⟨rfl, hu⟩
  have U1 : Hid (Upd [] w w1) := hu
  clear hu
  go_wp2_with fail
  generalize hwl : World.alloc _ _ = wl
  have ul : Upd [] w1 wl := by rw [← hwl]; exact ((Upd.refl [] w1).alloc _).alloc _
  have hz : Cl wl w1.heap.size #[.pointer none, .map none, .map none] 29 := by rw [← hwl]; exact (Cl.new w1 _ _ _ rfl).old _
  have ha : Cl wl (w1.heap.size + 1) #[.pointer none, .pointer (some ⟨w1.heap.size, 0, none⟩)] 23 := by rw [← hwl]; exact Cl.new _ _ _ _ (by simp)
  obtain ⟨bz, hbz⟩ : ∃ bz, bz = w1.heap.size := ⟨_, rfl⟩
  rw [← hbz] at hz ha ⊢
  have UL : Hid (Upd [] w wl) := U1.out.trans ul
  have HM0 : Hid (NoN (.pointer none) wl) := made_nil wl
  have HM1 : Hid (NoN (.pointer (some ⟨bz, 0, none⟩)) wl) := made_zero wl bz (by rw [hz.cell]; rfl)
  have q0 : wl.cell? ⟨bz + 1, 0, none⟩ = some (.pointer none) := by rw [ha.cell]; rfl
  have q1 : wl.cell? ⟨bz + 1, 1, none⟩ = some (.pointer (some ⟨bz, 0, none⟩)) := by rw [ha.cell]; rfl
  clear hwl ul hz ha hbz U1
  refine wp_loop_rounds 3 ?_
  rw [rounds_succ]
  go_wp2_with (first
    | (go_at_call 6; refine (find_no _ _ HM0.out s).mono ?_; rintro e w' ⟨rfl, rfl⟩)
    | (go_at_call 7; refine (put_no _ _ HM0.out s p).mono ?_; rintro e w' ⟨rfl, rfl⟩)
    | (go_at_call 8; refine (take_no _ _ HM0.out s).mono ?_; rintro e w' ⟨rfl, rfl⟩)
    | (go_at_call 9; refine (end_no _ _ HM0.out p).mono ?_; rintro e w' ⟨rfl, rfl⟩)
    | (go_at_call 10; refine (all_no _ _ HM0.out).mono ?_; rintro e w' ⟨rfl, rfl⟩))
  rw [rounds_succ]
  go_wp2_with (first
    | (go_at_call 6; refine (find_no _ _ HM1.out s).mono ?_; rintro e w' ⟨rfl, rfl⟩)
    | (go_at_call 7; refine (put_no _ _ HM1.out s p).mono ?_; rintro e w' ⟨rfl, rfl⟩)
    | (go_at_call 8; refine (take_no _ _ HM1.out s).mono ?_; rintro e w' ⟨rfl, rfl⟩)
    | (go_at_call 9; refine (end_no _ _ HM1.out p).mono ?_; rintro e w' ⟨rfl, rfl⟩)
    | (go_at_call 10; refine (all_no _ _ HM1.out).mono ?_; rintro e w' ⟨rfl, rfl⟩))
  rw [rounds_succ]
  go_wp2_with fail
  go_ret
  exact ⟨rfl, UL.out⟩

end Go.Proofs.Yticbafidaakpjaa
