/- small of the statements: some word. -/
import Derived.Test.YtpeganecbjefoaaDoorLawB
namespace Go.Proofs.YtpeganecbjefoaaDoor
open Go.RowKit

/-- A word is answered. -/
def IsWord (e : Ending) : Prop := ∃ t, e = .returned (.bool t)
theorem IsWord.mk (t : Bool) : IsWord (.returned (.bool t)) := ⟨t, rfl⟩

set_option maxHeartbeats 1000000 in
set_option maxRecDepth 100000 in
theorem small_any (k num k' num' : Int) (na nb : Bool) (A B : List Nat) (s s' : ByteArray) (a ai at' b bi bt : Option Addr) (ca ni ci nt ct cb mi cbi mt cbt : Nat) (w : World) :
    Calls Tryd.prog 10 #[.agg #[.int .u8 k, .bool na, .slice a A.length ca, .string s, .int .i64 num, .slice ai ni ci, .slice at' nt ct], .agg #[.int .u8 k', .bool nb, .slice b B.length cb, .string s', .int .i64 num', .slice bi mi cbi, .slice bt mt cbt]] w fun e w' => IsWord e ∧ Upd [] w w' := by
  obtain ⟨S1, h1⟩ : ∃ S, wrap64 ((A.length : Int) + (B.length : Int)) = S := ⟨_, rfl⟩
  obtain ⟨S2, h2⟩ : ∃ S, wrap64 ((ni : Int) + (mi : Int)) = S := ⟨_, rfl⟩
  obtain ⟨S3, h3⟩ : ∃ S, wrap64 (S2 + (nt : Int)) = S := ⟨_, rfl⟩
  obtain ⟨S4, h4⟩ : ∃ S, wrap64 (S3 + (mt : Int)) = S := ⟨_, rfl⟩
  go_enter Tryd.func10, Tryd.ntmps10
  go_wp2
  all_goals go_ret
  all_goals exact ⟨IsWord.mk _, by repeat (first | exact Upd.refl _ _ | refine Upd.alloc ?_ _)⟩

end Go.Proofs.YtpeganecbjefoaaDoor
