/- The statements' makers of nodes. -/
import Derived.Test.YtbajgfoaakehbaaDoorDrI
import Derived.Test.YtbajgfoaakehbaaDoorNdM
namespace Go.Proofs.YtbajgfoaakehbaaDoor
open Go.RowKit

set_option maxHeartbeats 1000000 in
set_option maxRecDepth 100000 in
theorem lnode_any (k : Int) (s : ByteArray) (a : Option Addr) (n c : Nat) (w : World) : Calls Tryd.prog 18 #[.int .u8 k, .string s, .slice a n c] w fun e w' => e = .returned (.agg #[.int .u8 k, .string s, .int .i64 0, .int .i64 0, .slice a n c]) ∧ Upd [] w w' := by
  go_enter Tryd.func18, Tryd.ntmps18
  go_wp2_with fail
  exact ret_T Tryd.results18 rfl _ _ rfl (Tb.new _ _ _ rfl) rfl ⟨rfl, (Upd.refl [] w).alloc _⟩

end Go.Proofs.YtbajgfoaakehbaaDoor
