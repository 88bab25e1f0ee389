/- SameTerm of terms without rows; what a box that is none answers. -/
import Derived.Test.YtmdkhkeljpdbiaaMlO
namespace Go.Proofs.Ytmdkhkeljpdbiaa
open Go.RowKit

set_option maxRecDepth 10000 in
theorem sameL_none (w : World) (a b : Option Addr) (c d : Nat) : Calls Try.prog 27 #[.slice a 0 c, .slice b 0 d] w fun e w' => e = .returned (.bool true) ∧ w' = w := by
  go_enter Try.func27, Try.ntmps27
  go_wp2_with fail
  refine wp_loop_rounds 1 ?_
  rw [rounds_succ]
  go_wp2_with fail
  go_ret
  exact ⟨rfl, rfl⟩
set_option maxRecDepth 10000 in
theorem sameT_none (w : World) (a b : Option Addr) (c d : Nat) : Calls Try.prog 28 #[.slice a 0 c, .slice b 0 d] w fun e w' => e = .returned (.bool true) ∧ w' = w := by
  go_enter Try.func28, Try.ntmps28
  go_wp2_with fail
  refine wp_loop_rounds 1 ?_
  rw [rounds_succ]
  go_wp2_with fail
  go_ret
  exact ⟨rfl, rfl⟩
set_option maxHeartbeats 1000000 in
set_option maxRecDepth 10000 in
theorem same_fl (w : World) (k n : Int) (b : Bool) (s : ByteArray) : Calls Try.prog 11 #[.agg (fl k b s n), .agg (fl k b s n)] w fun e w' => e = .returned (.bool true) ∧ Upd [] w w' := by
  have hk : (k == k) = true := by simp
  have hn : (n == n) = true := by simp
  have hb : (b == b) = true := by simp
  have hs2 : (s.toList == s.toList) = true := by simp
  have u0 : Hid (Upd [] w ((w.alloc (.cells (fl k b s n) 26)).alloc (.cells (fl k b s n) 26))) := ((Upd.refl [] w).alloc _).alloc _
  go_enter Try.func11, Try.ntmps11
  go_wp2_with (first
    | (go_at_call 27; refine (sameL_none _ none none 0 0).mono ?_; rintro e w1 ⟨rfl, hw1⟩; rw [hw1]; clear hw1 w1)
    | (go_at_call 28; refine (sameT_none _ none none 0 0).mono ?_; rintro e w1 ⟨rfl, hw1⟩; rw [hw1]; clear hw1 w1)
    | fail)
  go_ret
  exact ⟨rfl, u0.out⟩

set_option maxRecDepth 10000 in
theorem all_no (w : World) (x : Value) (hm : Calls Try.prog 23 #[x] w fun e w' => e = .returned (.bool false) ∧ w' = w) : Calls Try.prog 14 #[x] w fun e w' => e = .returned (.slice none 0 0) ∧ w' = w := by
  have hm : Hid (Unit → _) := fun () => hm
  go_enter Try.func14, Try.ntmps14
  go_wp2_with fail
  refine Calls.mono (hm.out ()) ?_
  rintro e w1 ⟨rfl, hw1⟩
  rw [hw1]
  clear hw1
  go_wp2_with fail
  go_ret
  exact ⟨rfl, rfl⟩
set_option maxRecDepth 10000 in
theorem copy_no (w : World) (x : Value) (hm : Calls Try.prog 23 #[x] w fun e w' => e = .returned (.bool false) ∧ w' = w) : Calls Try.prog 15 #[x] w fun e w' => e = .returned (.pointer none) ∧ w' = w := by
  have hm : Hid (Unit → _) := fun () => hm
  go_enter Try.func15, Try.ntmps15
  go_wp2_with fail
  refine Calls.mono (hm.out ()) ?_
  rintro e w1 ⟨rfl, hw1⟩
  rw [hw1]
  clear hw1
  go_wp2_with fail
  go_ret
  exact ⟨rfl, rfl⟩

end Go.Proofs.Ytmdkhkeljpdbiaa
