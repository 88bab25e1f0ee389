/- The kit's marks, by their contracts. -/
import Derived.Test.YtpemnficdhjkhaaBgC
namespace Go.Proofs.Ytpemnficdhjkhaa
open Go.RowKit

/-- A mark's number. -/
def mkN (k i : Int) : Int := wrap64 (wrap64 (1000003 * wrap64 (k + 7)) + i)
set_option maxHeartbeats 400000 in
theorem mark_any (k i : Int) (w : World) : Calls Try.prog 56 #[.int .i64 k, .int .i64 i] w fun e w' => e = .returned (.int .i64 (mkN k i)) ∧ w' = w := by
  have HM : Hid (mkN k i = wrap64 (wrap64 (1000003 * wrap64 (k + 7)) + i)) := rfl
  go_enter Try.func56, Try.ntmps56
  go_wp2
  go_ret
  rw [HM.out]
  exact ⟨rfl, rfl⟩
theorem markInt_any (k i : Int) (w : World) : Calls Try.prog 56 #[.int .i64 k, .int .i64 i] w fun e w' => e = .returned (.int .i64 (mkN k i)) ∧ Upd [] w w' :=
  (mark_any k i w).mono fun _ _ ⟨he, hw⟩ => ⟨he, by rw [hw]; exact Upd.refl [] _⟩
/-- A mark, as a row's cell. -/
def mkIn (k i : Nat) : List Value := [.int .i64 (mkN k i)]

end Go.Proofs.Ytpemnficdhjkhaa
