/- LinkNil, walked. -/
import Derived.Test.YtmepiggkligacaaLkK
namespace Go.Proofs.Ytmepiggkligacaa
open Go.RowKit Go.Maps

/-- Links that are not. -/
def NoL (pv : Value) (w : World) : Prop := Calls Try.prog 28 #[pv] w fun e w' => e = .returned (.bool false) ∧ w' = w
set_option maxRecDepth 10000 in
theorem link_no (pv : Value) (w : World) (h : NoL pv w) (a b : Int) : Calls Try.prog 16 #[pv, .int .i64 a, .int .i64 b] w fun e w' => e = .returned (.bool false) ∧ w' = w := by
  have H : Hid (NoL pv w) := h
  clear h
  go_enter Try.func16, Try.ntmps16
  go_wp2_with fail
  refine Calls.mono H.out ?_
  rintro e w' ⟨rfl, rfl⟩
  go_wp2_with fail
  go_ret
  exact ⟨rfl, rfl⟩
set_option maxRecDepth 10000 in
theorem unlink_not (pv : Value) (w : World) (h : NoL pv w) (a b : Int) : Calls Try.prog 17 #[pv, .int .i64 a, .int .i64 b] w fun e w' => e = .returned (.bool false) ∧ w' = w := by
  have H : Hid (NoL pv w) := h
  clear h
  go_enter Try.func17, Try.ntmps17
  go_wp2_with fail
  refine Calls.mono H.out ?_
  rintro e w' ⟨rfl, rfl⟩
  go_wp2_with fail
  go_ret
  exact ⟨rfl, rfl⟩
set_option maxRecDepth 10000 in
theorem watch_no (pv : Value) (w : World) (h : NoL pv w) (r a b : Int) : Calls Try.prog 18 #[pv, .int .i64 r, .int .i64 a, .int .i64 b] w fun e w' => e = .returned (.bool false) ∧ w' = w := by
  have H : Hid (NoL pv w) := h
  clear h
  go_enter Try.func18, Try.ntmps18
  go_wp2_with fail
  refine Calls.mono H.out ?_
  rintro e w' ⟨rfl, rfl⟩
  go_wp2_with fail
  go_ret
  exact ⟨rfl, rfl⟩
set_option maxRecDepth 10000 in
theorem unwatch_no (pv : Value) (w : World) (h : NoL pv w) (r a : Int) : Calls Try.prog 19 #[pv, .int .i64 r, .int .i64 a] w fun e w' => e = .returned (.bool false) ∧ w' = w := by
  have H : Hid (NoL pv w) := h
  clear h
  go_enter Try.func19, Try.ntmps19
  go_wp2_with fail
  refine Calls.mono H.out ?_
  rintro e w' ⟨rfl, rfl⟩
  go_wp2_with fail
  go_ret
  exact ⟨rfl, rfl⟩
set_option maxRecDepth 10000 in
theorem of_no (pv : Value) (w : World) (h : NoL pv w) (a : Int) : Calls Try.prog 11 #[pv, .int .i64 a] w fun e w' => e = .returned (.slice none 0 0) ∧ w' = w := by
  have H : Hid (NoL pv w) := h
  clear h
  go_enter Try.func11, Try.ntmps11
  go_wp2_with fail
  refine Calls.mono H.out ?_
  rintro e w' ⟨rfl, rfl⟩
  go_wp2_with fail
  go_ret
  exact ⟨rfl, rfl⟩
set_option maxRecDepth 10000 in
theorem monitors_no (pv : Value) (w : World) (h : NoL pv w) : Calls Try.prog 14 #[pv] w fun e w' => e = .returned (.slice none 0 0) ∧ w' = w := by
  have H : Hid (NoL pv w) := h
  clear h
  go_enter Try.func14, Try.ntmps14
  go_wp2_with fail
  refine Calls.mono H.out ?_
  rintro e w' ⟨rfl, rfl⟩
  go_wp2_with fail
  go_ret
  exact ⟨rfl, rfl⟩
set_option maxRecDepth 10000 in
theorem end_no (pv : Value) (w : World) (h : NoL pv w) (a : Int) : Calls Try.prog 20 #[pv, .int .i64 a] w fun e w' => e = .returned (.tuple #[.slice none 0 0, .slice none 0 0]) ∧ w' = w := by
  have H : Hid (NoL pv w) := h
  clear h
  go_enter Try.func20, Try.ntmps20
  go_wp2_with fail
  refine Calls.mono H.out ?_
  rintro e w' ⟨rfl, rfl⟩
  go_wp2_with fail
  refine bodyPost_ret (results_tmp2 rfl _ _ _) rfl ?_
  exact ⟨rfl, rfl⟩

set_option maxHeartbeats 4000000 in
set_option maxRecDepth 100000 in
theorem Nil_walk (w : World) (a b r : Int) : Calls Try.prog 4 #[.int .i64 a, .int .i64 b, .int .i64 r] w fun e w' => e = .returned (.bool true) ∧ Upd [] w w' := by
  go_enter Try.func4, Try.ntmps4
  go_wp2_with fail
  refine Calls.mono (awake_any _) ?_
  rintro e w1 ⟨rfl, hu⟩
  have U1 : Hid (Upd [] w w1) := hu
  clear hu
  go_wp2_with fail
  generalize hwl : World.alloc _ _ = wl
  have ul : Upd [] w1 wl := by rw [← hwl]; exact ((Upd.refl [] w1).alloc _).alloc _
  have hz : Cl wl w1.heap.size #[.pointer none, .map none, .map none, .map none] 45 := by rw [← hwl]; exact (Cl.new w1 _ _ _ rfl).old _
  have ha : Cl wl (w1.heap.size + 1) #[.pointer none, .pointer (some ⟨w1.heap.size, 0, none⟩)] 23 := by rw [← hwl]; exact Cl.new _ _ _ _ (by simp)
  obtain ⟨bz, hbz⟩ : ∃ bz, bz = w1.heap.size := ⟨_, rfl⟩
  rw [← hbz] at hz ha ⊢
  have UL : Hid (Upd [] w wl) := U1.out.trans ul
  have HM0 : Hid (NoL (.pointer none) wl) := made_nil wl
  have HM1 : Hid (NoL (.pointer (some ⟨bz, 0, none⟩)) wl) := made_zero wl bz (by rw [hz.cell]; rfl)
  have q0 : wl.cell? ⟨bz + 1, 0, none⟩ = some (.pointer none) := by rw [ha.cell]; rfl
  have q1 : wl.cell? ⟨bz + 1, 1, none⟩ = some (.pointer (some ⟨bz, 0, none⟩)) := by rw [ha.cell]; rfl
  clear hwl ul hz ha hbz U1
  refine wp_loop_rounds 3 ?_
  rw [rounds_succ]
  go_wp2_with (first
    | (go_at_call 16; refine (link_no _ _ HM0.out a b).mono ?_; rintro e w' ⟨rfl, rfl⟩)
    | (go_at_call 17; refine (unlink_not _ _ HM0.out a b).mono ?_; rintro e w' ⟨rfl, rfl⟩)
    | (go_at_call 18; refine (watch_no _ _ HM0.out r a b).mono ?_; rintro e w' ⟨rfl, rfl⟩)
    | (go_at_call 19; refine (unwatch_no _ _ HM0.out r a).mono ?_; rintro e w' ⟨rfl, rfl⟩)
    | (go_at_call 11; refine (of_no _ _ HM0.out a).mono ?_; rintro e w' ⟨rfl, rfl⟩)
    | (go_at_call 14; refine (monitors_no _ _ HM0.out).mono ?_; rintro e w' ⟨rfl, rfl⟩)
    | (go_at_call 20; refine (end_no _ _ HM0.out a).mono ?_; rintro e w' ⟨rfl, rfl⟩))
  rw [rounds_succ]
  go_wp2_with (first
    | (go_at_call 16; refine (link_no _ _ HM1.out a b).mono ?_; rintro e w' ⟨rfl, rfl⟩)
    | (go_at_call 17; refine (unlink_not _ _ HM1.out a b).mono ?_; rintro e w' ⟨rfl, rfl⟩)
    | (go_at_call 18; refine (watch_no _ _ HM1.out r a b).mono ?_; rintro e w' ⟨rfl, rfl⟩)
    | (go_at_call 19; refine (unwatch_no _ _ HM1.out r a).mono ?_; rintro e w' ⟨rfl, rfl⟩)
    | (go_at_call 11; refine (of_no _ _ HM1.out a).mono ?_; rintro e w' ⟨rfl, rfl⟩)
    | (go_at_call 14; refine (monitors_no _ _ HM1.out).mono ?_; rintro e w' ⟨rfl, rfl⟩)
    | (go_at_call 20; refine (end_no _ _ HM1.out a).mono ?_; rintro e w' ⟨rfl, rfl⟩))
  rw [rounds_succ]
  go_wp2_with fail
  go_ret
  exact ⟨rfl, UL.out⟩

end Go.Proofs.Ytmepiggkligacaa
