/- LintKinds, walked. -/
import Derived.Test.YtbajgfoaakehbaaDoorLtY
namespace Go.Proofs.YtbajgfoaakehbaaDoor
open Go.RowKit

set_option maxHeartbeats 4000000 in
set_option maxRecDepth 100000 in
theorem Kinds_walk (A : Nat → Option Addr) (C : Nat → Nat) (s : ByteArray) (a : Int) (w : World) (hF : Frm A C w) (hO : Ops w) (hB : Blt w) : Calls Tryd.prog 3 #[.string s, .int .i64 a] w fun e w' => e = .returned (.bool true) ∧ Upd [] w w' := by
  have HF : Hid (Frm A C w ∧ Ops w ∧ Blt w) := ⟨hF, hO, hB⟩
  clear hF hO hB
  have hk : ∀ (n : Nat) (w : World), (binOp BinOp.eql 3 (.int .i64 (n : Int)) (.int .i64 (n : Int))).run Tryd.prog w = .ok (.bool true) w := fun n w => by simp [go_sem]
  go_enter Tryd.func3, Tryd.ntmps3
  go_wp2_with fail
  refine Calls.mono (awake_any A C w HF.out.1 HF.out.2.1 HF.out.2.2) ?_
  rintro e w1 ⟨rfl, U1⟩
  have V1 : Hid (Upd [] w w1) := U1
  clear U1
  by_cases hl : 100 < s.size
  · go_wp2_with fail
    go_ret
    exact ⟨rfl, V1.out⟩
  · go_wp2_with fail
    refine Calls.mono (Kind_any s a w1 (HF.out.2.2.mono V1.out)) ?_
    rintro e w2 ⟨rfl, rfl⟩
    obtain ⟨k, hkk⟩ : ∃ k, k = kindS s a := ⟨_, rfl⟩
    rw [← hkk]
    go_wp2_with fail
    refine Calls.mono (rKind_any s a w2) ?_
    rintro e w3 ⟨rfl, U3⟩
    rw [← hkk]
    have V3 : Hid (Upd [] w w3) := V1.out.trans U3
    clear hkk U3 V1
    go_wp2_with fail
    go_ret
    exact ⟨rfl, V3.out⟩

end Go.Proofs.YtbajgfoaakehbaaDoor
