/- ClockNil, walked. -/
import Derived.Test.YtpdmdcnangldcaaCkA
namespace Go.Proofs.Ytpdmdcnangldcaa
open Go.RowKit Go.Maps

/-- A clock that is not, in whatever world that comes of w. -/
def NoC (pv : Value) (w : World) : Prop := ∀ W, Upd [] w W → Calls Try.prog 15 #[pv] W fun e w' => e = .returned (.bool false) ∧ w' = W
theorem NoC.upd {pv : Value} {w w' : World} (h : NoC pv w) (hu : Upd [] w w') : NoC pv w' := fun W hW => h W (hu.trans hW)
theorem noC_nil (w : World) : NoC (.pointer none) w := fun W _ => made_nil W
theorem noC_zero {w : World} {b : Nat} {cs : Array Value} (h : Cl w b cs 27) (h0 : cs[0]? = some (.pointer none)) : NoC (.pointer (some ⟨b, 0, none⟩)) w := fun W hW => made_zero W b (by rw [(h.upd hW (by simp)).cell]; exact h0)
set_option maxRecDepth 10000 in
theorem set_no (pv : Value) (w : World) (h : NoC pv w) (a b : Int) : Calls Try.prog 9 #[pv, .int .i64 a, .int .i64 b] w fun e w' => e = .returned (.bool false) ∧ w' = w := by
  have H : Hid (NoC pv w) := h
  clear h
  go_enter Try.func9, Try.ntmps9
  go_wp2_with fail
  refine Calls.mono (H.out _ (Upd.refl _ _)) ?_
  rintro e w' ⟨rfl, rfl⟩
  go_wp2_with fail
  go_ret
  exact ⟨rfl, rfl⟩
set_option maxRecDepth 10000 in
theorem drop_no (pv : Value) (w : World) (h : NoC pv w) (a : Int) : Calls Try.prog 10 #[pv, .int .i64 a] w fun e w' => e = .returned (.bool false) ∧ w' = w := by
  have H : Hid (NoC pv w) := h
  clear h
  go_enter Try.func10, Try.ntmps10
  go_wp2_with fail
  refine Calls.mono (H.out _ (Upd.refl _ _)) ?_
  rintro e w' ⟨rfl, rfl⟩
  go_wp2_with fail
  go_ret
  exact ⟨rfl, rfl⟩
set_option maxRecDepth 10000 in
theorem now_no (pv : Value) (w : World) (h : NoC pv w)  : Calls Try.prog 8 #[pv] w fun e w' => e = .returned (.int .i64 0) ∧ w' = w := by
  have H : Hid (NoC pv w) := h
  clear h
  go_enter Try.func8, Try.ntmps8
  go_wp2_with fail
  refine Calls.mono (H.out _ (Upd.refl _ _)) ?_
  rintro e w' ⟨rfl, rfl⟩
  go_wp2_with fail
  go_ret
  exact ⟨rfl, rfl⟩
set_option maxRecDepth 10000 in
theorem waits_no (pv : Value) (w : World) (h : NoC pv w)  : Calls Try.prog 11 #[pv] w fun e w' => e = .returned (.slice none 0 0) ∧ w' = w := by
  have H : Hid (NoC pv w) := h
  clear h
  go_enter Try.func11, Try.ntmps11
  go_wp2_with fail
  refine Calls.mono (H.out _ (Upd.refl _ _)) ?_
  rintro e w' ⟨rfl, rfl⟩
  go_wp2_with fail
  go_ret
  exact ⟨rfl, rfl⟩
set_option maxRecDepth 10000 in
theorem tick_no (p : Option Addr) (w : World) (h : NoC (.pointer p) w) (a : Int) : Calls Try.prog 7 #[.pointer p, .int .i64 a] w fun e w' => e = .returned (.tuple #[.slice none 0 0, .bool false]) ∧ Upd [] w w' := by
  have U : Hid (NoC (.pointer p) w ∧ Upd [] w (w.alloc (.cells #[.pointer p] 23))) := ⟨h, (Upd.refl [] w).alloc _⟩
  clear h
  go_enter Try.func7, Try.ntmps7
  go_wp2_with fail
  refine Calls.mono (U.out.1 _ U.out.2) ?_
  rintro e w' ⟨rfl, rfl⟩
  go_wp2_with fail
  go_ret2
  exact ⟨rfl, U.out.2⟩

set_option maxHeartbeats 4000000 in
set_option maxRecDepth 100000 in
theorem Nil_walk (w : World) (a b : Int) : Calls Try.prog 3 #[.int .i64 a, .int .i64 b] w fun e w' => e = .returned (.bool true) ∧ Upd [] w w' := by
  go_enter Try.func3, Try.ntmps3
  go_wp2_with fail
  refine Calls.mono (awake_any _) ?_
  rintro e w1 ⟨rfl, hu⟩
  have U1 : Hid (Upd [] w w1) := hu
  clear hu
  go_wp2_with fail
  generalize hwl : World.alloc _ _ = wl
  have ul : Upd [] w1 wl := by rw [← hwl]; exact ((Upd.refl [] w1).alloc _).alloc _
  have hz : Cl wl w1.heap.size #[.pointer none, .int .i64 0, .map none, .slice none 0 0] 27 := by rw [← hwl]; exact (Cl.new w1 _ _ _ rfl).old _
  have ha : Cl wl (w1.heap.size + 1) #[.pointer none, .pointer (some ⟨w1.heap.size, 0, none⟩)] 23 := by rw [← hwl]; exact Cl.new _ _ _ _ (by simp)
  obtain ⟨bz, hbz⟩ : ∃ bz, bz = w1.heap.size := ⟨_, rfl⟩
  rw [← hbz] at hz ha ⊢
  have UL : Hid (Upd [] w wl) := U1.out.trans ul
  have HM0 : Hid (NoC (.pointer none) wl) := noC_nil wl
  have HM1 : Hid (NoC (.pointer (some ⟨bz, 0, none⟩)) wl) := noC_zero hz rfl
  have HQ : Hid (∀ W, Upd [] wl W → W.cell? ⟨bz + 1, 1, none⟩ = some (.pointer (some ⟨bz, 0, none⟩))) := fun W hW => by rw [(ha.upd hW (by simp)).cell]; rfl
  have q0 : wl.cell? ⟨bz + 1, 0, none⟩ = some (.pointer none) := by rw [ha.cell]; rfl
  clear hwl ul hz ha hbz U1
  refine wp_loop_rounds 3 ?_
  rw [rounds_succ]
  go_wp2_with fail
  refine Calls.mono (tick_no _ _ HM0.out b) ?_
  rintro e w2 ⟨rfl, hu2⟩
  have U2 : Hid (Upd [] wl w2) := hu2
  have q1 : w2.cell? ⟨bz + 1, 1, none⟩ = some (.pointer (some ⟨bz, 0, none⟩)) := HQ.out w2 hu2
  clear hu2 q0
  go_wp2_with (first
    | (go_at_call 8; refine (now_no _ _ (HM0.out.upd U2.out)).mono ?_; rintro e w' ⟨rfl, rfl⟩)
    | (go_at_call 9; refine (set_no _ _ (HM0.out.upd U2.out) a b).mono ?_; rintro e w' ⟨rfl, rfl⟩)
    | (go_at_call 10; refine (drop_no _ _ (HM0.out.upd U2.out) a).mono ?_; rintro e w' ⟨rfl, rfl⟩)
    | (go_at_call 11; refine (waits_no _ _ (HM0.out.upd U2.out)).mono ?_; rintro e w' ⟨rfl, rfl⟩))
  rw [rounds_succ]
  go_wp2_with (first
    | (go_at_call 7; refine (tick_no _ _ (HM1.out.upd U2.out) b).mono ?_; rintro e w3 ⟨rfl, hu3⟩; have U3 : Hid (Upd [] wl w3) := U2.out.trans hu3; clear hu3)
    | (go_at_call 8; refine (now_no _ _ (HM1.out.upd U3.out)).mono ?_; rintro e w' ⟨rfl, rfl⟩)
    | (go_at_call 9; refine (set_no _ _ (HM1.out.upd U3.out) a b).mono ?_; rintro e w' ⟨rfl, rfl⟩)
    | (go_at_call 10; refine (drop_no _ _ (HM1.out.upd U3.out) a).mono ?_; rintro e w' ⟨rfl, rfl⟩)
    | (go_at_call 11; refine (waits_no _ _ (HM1.out.upd U3.out)).mono ?_; rintro e w' ⟨rfl, rfl⟩))
  rw [rounds_succ]
  go_wp2_with fail
  go_ret
  exact ⟨rfl, UL.out.trans U3.out⟩

end Go.Proofs.Ytpdmdcnangldcaa
