/- Copies of terms without rows. -/
import Derived.Test.YtmdkhkeljpdbiaaDrT
import Derived.Test.YtmdkhkeljpdbiaaMlB
namespace Go.Proofs.Ytmdkhkeljpdbiaa
open Go.RowKit

/-- The cells of a term without rows. -/
abbrev fl (k : Int) (g : Bool) (s : ByteArray) (n : Int) : Array Value := #[.int .u8 k, .bool g, .slice none 0 0, .string s, .int .i64 n, .slice none 0 0, .slice none 0 0]

theorem clt_none (w : World) (a : Option Addr) (c : Nat) (p q : Value) :
    Calls Try.prog 35 #[.slice a 0 c, p, q] w fun e w' => e = .returned (.tuple #[.slice none 0 0, .bool false]) ∧ w' = w := by
  go_enter Try.func35, Try.ntmps35
  go_wp2
  go_ret2
  exact ⟨rfl, rfl⟩
theorem cll_none (w : World) (a : Option Addr) (c : Nat) (p q : Value) :
    Calls Try.prog 37 #[.slice a 0 c, p, q] w fun e w' => e = .returned (.tuple #[.slice none 0 0, .bool false]) ∧ w' = w := by
  go_enter Try.func37, Try.ntmps37
  go_wp2
  go_ret2
  exact ⟨rfl, rfl⟩

end Go.Proofs.Ytmdkhkeljpdbiaa
