/- The small calls of boxes. -/
import Derived.Test.YtmdkhkeljpdbiaaMlF
namespace Go.Proofs.Ytmdkhkeljpdbiaa
open Go.RowKit

set_option maxHeartbeats 1000000 in
set_option maxRecDepth 100000 in
theorem ended_in (w : World) (b : Nat) (p : Option Addr) (n c : Nat) (k : Int) (q : Bool) (hq : (k == (n : Int)) = q) (h : Bx w b (.slice p n c) k) : Calls Try.prog 24 #[.pointer (some ⟨b, 0, none⟩)] w fun e w' => e = .returned (.bool q) ∧ Upd [] w w' := by
  have UZ : Hid (Upd [] w w) := Upd.refl _ _
  go_enter Try.func24, Try.ntmps24
  go_wp2_with fail
  refine wp_region_held_drew (S := fun W => Bx W b (.slice p n c) k) (by kernel_rfl) h (fun hS => ?_)
  obtain ⟨w1, hwd⟩ : ∃ v, v = w.drew := ⟨_, rfl⟩
  rw [← hwd] at hS ⊢
  have U1 : Hid (Upd [] w w1) := by rw [hwd]; exact UZ.out.drew
  clear hwd
  clear h UZ
  refine wpAnyH_take (i := 0) (v := .pointer (some ⟨b, 0, none⟩)) rfl (by kernel_rfl) (by kernel_rfl) (by kernel_rfl) (fun _ _ _ h => h) (Or.inl ⟨by rfl, ?_⟩) hS ?_
  · intro W hW; have e0 := hW.c1; have e1 := hW.c2; go_simp
  refine wpAnyH_take (i := 1) (v := .pointer (some ⟨b, 0, none⟩)) rfl (by kernel_rfl) (by kernel_rfl) (by kernel_rfl) (fun _ _ _ h => h) (Or.inl ⟨by rfl, ?_⟩) hS ?_
  · intro W hW; have e0 := hW.c1; have e1 := hW.c2; go_simp
  refine wpAnyH_take (i := 2) (v := .pointer (some ⟨b, 2, none⟩)) rfl (by kernel_rfl) (by kernel_rfl) (by kernel_rfl) (fun _ _ _ h => h) (Or.inl ⟨by rfl, ?_⟩) hS ?_
  · intro W hW; have e0 := hW.c1; have e1 := hW.c2; go_simp
  refine wpAnyH_take (i := 3) (v := .int .i64 k) rfl (by kernel_rfl) (by kernel_rfl) (by kernel_rfl) (fun _ _ _ h => h) (Or.inl ⟨by rfl, ?_⟩) hS ?_
  · intro W hW; have e0 := hW.c1; have e1 := hW.c2; go_simp
  refine wpAnyH_take (i := 4) (v := .pointer (some ⟨b, 0, none⟩)) rfl (by kernel_rfl) (by kernel_rfl) (by kernel_rfl) (fun _ _ _ h => h) (Or.inl ⟨by rfl, ?_⟩) hS ?_
  · intro W hW; have e0 := hW.c1; have e1 := hW.c2; go_simp
  refine wpAnyH_take (i := 5) (v := .pointer (some ⟨b, 0, none⟩)) rfl (by kernel_rfl) (by kernel_rfl) (by kernel_rfl) (fun _ _ _ h => h) (Or.inl ⟨by rfl, ?_⟩) hS ?_
  · intro W hW; have e0 := hW.c1; have e1 := hW.c2; go_simp
  refine wpAnyH_take (i := 6) (v := .pointer (some ⟨b, 1, none⟩)) rfl (by kernel_rfl) (by kernel_rfl) (by kernel_rfl) (fun _ _ _ h => h) (Or.inl ⟨by rfl, ?_⟩) hS ?_
  · intro W hW; have e0 := hW.c1; have e1 := hW.c2; go_simp
  refine wpAnyH_take (i := 7) (v := .slice p n c) rfl (by kernel_rfl) (by kernel_rfl) (by kernel_rfl) (fun _ _ _ h => h) (Or.inl ⟨by rfl, ?_⟩) hS ?_
  · intro W hW; have e0 := hW.c1; have e1 := hW.c2; go_simp
  refine wpAnyH_take (i := 8) (v := .int .i64 n) rfl (by kernel_rfl) (by kernel_rfl) (by kernel_rfl) (fun _ _ _ h => h) (Or.inl ⟨by rfl, ?_⟩) hS ?_
  · intro W hW; have e0 := hW.c1; have e1 := hW.c2; go_simp
  refine wpAnyH_take (i := 9) (v := .bool q) rfl (by kernel_rfl) (by kernel_rfl) (by kernel_rfl) (fun _ _ _ h => h) (Or.inl ⟨by rfl, ?_⟩) hS ?_
  · intro W hW; have e0 := hW.c1; have e1 := hW.c2; go_simp
  refine wpAnyH_take (i := 10) (v := .bool q) rfl (by kernel_rfl) (by kernel_rfl) (by kernel_rfl) (fun _ _ _ h => h) (Or.inl ⟨by rfl, ?_⟩) hS ?_
  · intro W hW; have e0 := hW.c1; have e1 := hW.c2; go_simp
  simp only [Act.put, List.getElem_toArray, List.getElem_cons_succ, List.getElem_cons_zero, List.setIfInBounds_toArray, List.set_cons_succ, List.set_cons_zero]
  refine wpAnyH_done (by kernel_rfl) ?_ _
  go_wp2
  go_ret
  exact ⟨rfl, U1.out⟩

set_option maxRecDepth 10000 in
theorem begin_in (w : World) (b : Nat) (v : Value) (k : Int) (h : Bx w b v k) : Calls Try.prog 7 #[.pointer (some ⟨b, 0, none⟩)] w fun e w' => e = .returned (.tuple #[]) ∧ Bx w' b v 0 ∧ Upd [b] w w' := by
  have e2 := h.c2
  have f2 := h.f 2
  go_enter Try.func7, Try.ntmps7
  go_wp2_with fail
  refine Calls.mono (made_ok _ b v k h) ?_
  rintro e w1 ⟨rfl, hw1⟩
  rw [hw1]
  clear hw1
  go_wp2_with fail
  exact bodyPost_end (results_none rfl _ _ _) rfl ⟨rfl, h.set2 0, (Upd.refl [b] w).setCell (Or.inr (by simp)) _⟩
theorem begin_no (w : World) (x : Value) (hm : Calls Try.prog 23 #[x] w fun e w' => e = .returned (.bool false) ∧ w' = w) : Calls Try.prog 7 #[x] w fun e w' => e = .returned (.tuple #[]) ∧ w' = w := by
  have hm : Hid (Unit → _) := fun () => hm
  go_enter Try.func7, Try.ntmps7
  go_wp2_with fail
  refine Calls.mono (hm.out ()) ?_
  rintro e w1 ⟨rfl, hw1⟩
  rw [hw1]
  clear hw1
  go_wp2_with fail
  exact bodyPost_end (results_none rfl _ _ _) rfl ⟨rfl, rfl⟩

theorem len_in (w : World) (b : Nat) (p : Option Addr) (n c : Nat) (k : Int) (h : Bx w b (.slice p n c) k) : Calls Try.prog 13 #[.pointer (some ⟨b, 0, none⟩)] w fun e w' => e = .returned (.int .i64 n) ∧ w' = w := by
  have e1 := h.c1
  go_enter Try.func13, Try.ntmps13
  go_wp2_with fail
  refine Calls.mono (made_ok _ b _ k h) ?_
  rintro e w1 ⟨rfl, hw1⟩
  rw [hw1]
  clear hw1
  go_wp2_with fail
  go_ret
  exact ⟨rfl, rfl⟩
theorem len_no (w : World) (x : Value) (hm : Calls Try.prog 23 #[x] w fun e w' => e = .returned (.bool false) ∧ w' = w) : Calls Try.prog 13 #[x] w fun e w' => e = .returned (.int .i64 0) ∧ w' = w := by
  have hm : Hid (Unit → _) := fun () => hm
  go_enter Try.func13, Try.ntmps13
  go_wp2_with fail
  refine Calls.mono (hm.out ()) ?_
  rintro e w1 ⟨rfl, hw1⟩
  rw [hw1]
  clear hw1
  go_wp2_with fail
  go_ret
  exact ⟨rfl, rfl⟩

theorem skip_no (w : World) (x : Value) (hm : Calls Try.prog 23 #[x] w fun e w' => e = .returned (.bool false) ∧ w' = w) : Calls Try.prog 12 #[x] w fun e w' => e = .returned (.int .i64 1) ∧ w' = w := by
  have hm : Hid (Unit → _) := fun () => hm
  go_enter Try.func12, Try.ntmps12
  go_wp2_with fail
  refine Calls.mono (hm.out ()) ?_
  rintro e w1 ⟨rfl, hw1⟩
  rw [hw1]
  clear hw1
  go_wp2_with fail
  go_ret
  exact ⟨rfl, rfl⟩
theorem skip_end (w : World) (b : Nat) (p : Option Addr) (n c : Nat) (k : Int) (hq : (k == (n : Int)) = true) (h : Bx w b (.slice p n c) k) : Calls Try.prog 12 #[.pointer (some ⟨b, 0, none⟩)] w fun e w' => e = .returned (.int .i64 6) ∧ Upd [] w w' := by
  go_enter Try.func12, Try.ntmps12
  go_wp2_with fail
  refine Calls.mono (made_ok _ b _ k h) ?_
  rintro e w1 ⟨rfl, hw1⟩
  rw [hw1]
  clear hw1
  go_wp2_with fail
  refine Calls.mono (ended_in _ b p n c k true hq h) ?_
  rintro e w2 ⟨rfl, hu⟩
  go_wp2_with fail
  go_ret
  exact ⟨rfl, hu⟩
theorem skip_on (w : World) (b : Nat) (p : Option Addr) (n c : Nat) (k : Int) (hq : (k == (n : Int)) = false) (h0 : 0 ≤ k) (h1 : k ≤ 2000) (h : Bx w b (.slice p n c) k) : Calls Try.prog 12 #[.pointer (some ⟨b, 0, none⟩)] w fun e w' => e = .returned (.int .i64 0) ∧ Bx w' b (.slice p n c) (k + 1) ∧ Upd [b] w w' := by
  go_enter Try.func12, Try.ntmps12
  go_wp2_with fail
  refine Calls.mono (made_ok _ b _ k h) ?_
  rintro e w1 ⟨rfl, hw1⟩
  rw [hw1]
  clear hw1
  go_wp2_with fail
  refine Calls.mono (ended_in _ b p n c k false hq h) ?_
  rintro e w2 ⟨rfl, hu⟩
  have hb := h.mono hu (by simp)
  have e2 := hb.c2
  have f2 := hb.f 2
  have HB : Hid (Bx w2 b (.slice p n c) k ∧ Upd [] w w2) := ⟨hb, hu⟩
  clear h hb hu hq
  go_wp2_with fail
  go_ret
  exact ⟨rfl, HB.out.1.set2 _, ((Upd.refl [b] w).then HB.out.2 (by simp)).setCell (Or.inr (by simp)) _⟩

end Go.Proofs.Ytmdkhkeljpdbiaa
