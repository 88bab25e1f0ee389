/- The reference's word, Plain, by their contracts. -/
import Derived.Test.YtalhbbabijlngaaGreatDoorJAJ
import Derived.Test.YtalhbbabijlngaaGreatDoorJAM
namespace Go.Proofs.YtalhbbabijlngaaGreatDoor
open Go.RowKit
theorem idx_str (s : ByteArray) (k : Nat) (hk : k < s.size) (W : World) : (Instr.index 9 (.string s) (.int .i64 (k : Int))).run Tryz.prog W = .ok (.int .u8 (s[k].toNat : Int)) W := by
 rw [run_index_string _ _ _ _ _ Tryz.underlying9, dif_pos ⟨by omega, by omega⟩]
 simp
end Go.Proofs.YtalhbbabijlngaaGreatDoor
