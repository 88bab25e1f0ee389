/- The kit's flat.. of no lists at all. -/
import Derived.Test.YtalhbbabijlngaaGreatDoorJBE
import Derived.Laws.MakeOwn
namespace Go.Proofs.YtalhbbabijlngaaGreatDoor
open Go.RowKit
set_option maxHeartbeats 2000000 in
set_option maxRecDepth 100000 in
theorem flatBytes_nil (w : World) : Calls Tryz.prog 97 #[.slice none 0 0] w fun e w' => e = .returned (.bool true) ∧ Upd [] w w' := by
 have hmk := make0 (t := 75) (e := 52) Tryz.underlying75 (by kernel_rfl)
 go_enter Tryz.func97, Tryz.ntmps97
 go_wp2_with fail
 go_loopw [3, 4] (fun k _ wr => k = .int .i64 0 ∧ Upd [] w wr) (fun _ _ _ => 0)
 case atStart => exact ⟨rfl, Upd.refl _ _⟩
 case round =>
  obtain ⟨rfl, hU1⟩ := hrel
  have hm0 := hmk wr
  go_wp2_with fail
  obtain ⟨W, hW⟩ : ∃ W, W = wr.alloc (.cells #[] 52) := ⟨_, rfl⟩
  have HU : Hid (Upd [] w W) := by rw [hW]; exact hU1.alloc _
  rw [← hW]
  clear hW hm0 hmk
  go_loopw [6, 7, 8] (fun k _ _ wq => k = .int .i64 0 ∧ Upd [] w wq) (fun _ _ _ _ => 0)
  case atStart => exact ⟨rfl, HU.out⟩
  case round =>
   obtain ⟨rfl, hUq⟩ := hrel
   go_wp2_with fail
   go_loopw [9, 10] (fun k _ wz => k = .int .i64 0 ∧ Upd [] w wz) (fun _ _ _ => 0)
   case atStart => exact ⟨rfl, hUq⟩
   case round =>
    obtain ⟨rfl, hU2⟩ := hrel
    go_wp2_with fail
    go_loopw [11, 12, 13] (fun k _ _ wz => k = .int .i64 0 ∧ Upd [] w wz) (fun _ _ _ _ => 0)
    case atStart => exact ⟨rfl, hU2⟩
    case round =>
     obtain ⟨rfl, hU3⟩ := hrel
     go_wp2_with fail
     go_loopw [14, 15] (fun k _ wz => k = .int .i64 0 ∧ Upd [] w wz) (fun _ _ _ => 0)
     case atStart => exact ⟨rfl, hU3⟩
     case round =>
      obtain ⟨rfl, hU4⟩ := hrel
      go_wp2
      go_ret
      exact ⟨rfl, hU4⟩
set_option maxHeartbeats 2000000 in
set_option maxRecDepth 100000 in
theorem flatFaults_nil (w : World) : Calls Tryz.prog 98 #[.slice none 0 0] w fun e w' => e = .returned (.bool true) ∧ Upd [] w w' := by
 have hmk := make0 (t := 76) (e := 161) Tryz.underlying76 (by kernel_rfl)
 go_enter Tryz.func98, Tryz.ntmps98
 go_wp2_with fail
 go_loopw [3, 4] (fun k _ wr => k = .int .i64 0 ∧ Upd [] w wr) (fun _ _ _ => 0)
 case atStart => exact ⟨rfl, Upd.refl _ _⟩
 case round =>
  obtain ⟨rfl, hU1⟩ := hrel
  have hm0 := hmk wr
  go_wp2_with fail
  obtain ⟨W, hW⟩ : ∃ W, W = wr.alloc (.cells #[] 161) := ⟨_, rfl⟩
  have HU : Hid (Upd [] w W) := by rw [hW]; exact hU1.alloc _
  rw [← hW]
  clear hW hm0 hmk
  go_loopw [6, 7, 8] (fun k _ _ wq => k = .int .i64 0 ∧ Upd [] w wq) (fun _ _ _ _ => 0)
  case atStart => exact ⟨rfl, HU.out⟩
  case round =>
   obtain ⟨rfl, hUq⟩ := hrel
   go_wp2_with fail
   go_loopw [9, 10] (fun k _ wz => k = .int .i64 0 ∧ Upd [] w wz) (fun _ _ _ => 0)
   case atStart => exact ⟨rfl, hUq⟩
   case round =>
    obtain ⟨rfl, hU2⟩ := hrel
    go_wp2_with fail
    go_loopw [11, 12, 13] (fun k _ _ wz => k = .int .i64 0 ∧ Upd [] w wz) (fun _ _ _ _ => 0)
    case atStart => exact ⟨rfl, hU2⟩
    case round =>
     obtain ⟨rfl, hU3⟩ := hrel
     go_wp2_with fail
     go_loopw [14, 15] (fun k _ wz => k = .int .i64 0 ∧ Upd [] w wz) (fun _ _ _ => 0)
     case atStart => exact ⟨rfl, hU3⟩
     case round =>
      obtain ⟨rfl, hU4⟩ := hrel
      go_wp2
      go_ret
      exact ⟨rfl, hU4⟩
set_option maxHeartbeats 2000000 in
set_option maxRecDepth 100000 in
theorem flatTokens_nil (w : World) : Calls Tryz.prog 100 #[.slice none 0 0] w fun e w' => e = .returned (.bool true) ∧ Upd [] w w' := by
 have hmk := make0 (t := 77) (e := 166) Tryz.underlying77 (by kernel_rfl)
 go_enter Tryz.func100, Tryz.ntmps100
 go_wp2_with fail
 go_loopw [3, 4] (fun k _ wr => k = .int .i64 0 ∧ Upd [] w wr) (fun _ _ _ => 0)
 case atStart => exact ⟨rfl, Upd.refl _ _⟩
 case round =>
  obtain ⟨rfl, hU1⟩ := hrel
  have hm0 := hmk wr
  go_wp2_with fail
  obtain ⟨W, hW⟩ : ∃ W, W = wr.alloc (.cells #[] 166) := ⟨_, rfl⟩
  have HU : Hid (Upd [] w W) := by rw [hW]; exact hU1.alloc _
  rw [← hW]
  clear hW hm0 hmk
  go_loopw [6, 7, 8] (fun k _ _ wq => k = .int .i64 0 ∧ Upd [] w wq) (fun _ _ _ _ => 0)
  case atStart => exact ⟨rfl, HU.out⟩
  case round =>
   obtain ⟨rfl, hUq⟩ := hrel
   go_wp2_with fail
   go_loopw [9, 10] (fun k _ wz => k = .int .i64 0 ∧ Upd [] w wz) (fun _ _ _ => 0)
   case atStart => exact ⟨rfl, hUq⟩
   case round =>
    obtain ⟨rfl, hU2⟩ := hrel
    go_wp2_with fail
    go_loopw [11, 12, 13] (fun k _ _ wz => k = .int .i64 0 ∧ Upd [] w wz) (fun _ _ _ _ => 0)
    case atStart => exact ⟨rfl, hU2⟩
    case round =>
     obtain ⟨rfl, hU3⟩ := hrel
     go_wp2_with fail
     go_loopw [14, 15] (fun k _ wz => k = .int .i64 0 ∧ Upd [] w wz) (fun _ _ _ => 0)
     case atStart => exact ⟨rfl, hU3⟩
     case round =>
      obtain ⟨rfl, hU4⟩ := hrel
      go_wp2
      go_ret
      exact ⟨rfl, hU4⟩
set_option maxHeartbeats 2000000 in
set_option maxRecDepth 100000 in
theorem flatNodes_nil (w : World) : Calls Tryz.prog 101 #[.slice none 0 0] w fun e w' => e = .returned (.bool true) ∧ Upd [] w w' := by
 have hmk := make0 (t := 78) (e := 171) Tryz.underlying78 (by kernel_rfl)
 go_enter Tryz.func101, Tryz.ntmps101
 go_wp2_with fail
 go_loopw [3, 4] (fun k _ wr => k = .int .i64 0 ∧ Upd [] w wr) (fun _ _ _ => 0)
 case atStart => exact ⟨rfl, Upd.refl _ _⟩
 case round =>
  obtain ⟨rfl, hU1⟩ := hrel
  have hm0 := hmk wr
  go_wp2_with fail
  obtain ⟨W, hW⟩ : ∃ W, W = wr.alloc (.cells #[] 171) := ⟨_, rfl⟩
  have HU : Hid (Upd [] w W) := by rw [hW]; exact hU1.alloc _
  rw [← hW]
  clear hW hm0 hmk
  go_loopw [6, 7, 8] (fun k _ _ wq => k = .int .i64 0 ∧ Upd [] w wq) (fun _ _ _ _ => 0)
  case atStart => exact ⟨rfl, HU.out⟩
  case round =>
   obtain ⟨rfl, hUq⟩ := hrel
   go_wp2_with fail
   go_loopw [9, 10] (fun k _ wz => k = .int .i64 0 ∧ Upd [] w wz) (fun _ _ _ => 0)
   case atStart => exact ⟨rfl, hUq⟩
   case round =>
    obtain ⟨rfl, hU2⟩ := hrel
    go_wp2_with fail
    go_loopw [11, 12, 13] (fun k _ _ wz => k = .int .i64 0 ∧ Upd [] w wz) (fun _ _ _ _ => 0)
    case atStart => exact ⟨rfl, hU2⟩
    case round =>
     obtain ⟨rfl, hU3⟩ := hrel
     go_wp2_with fail
     go_loopw [14, 15] (fun k _ wz => k = .int .i64 0 ∧ Upd [] w wz) (fun _ _ _ => 0)
     case atStart => exact ⟨rfl, hU3⟩
     case round =>
      obtain ⟨rfl, hU4⟩ := hrel
      go_wp2
      go_ret
      exact ⟨rfl, hU4⟩
end Go.Proofs.YtalhbbabijlngaaGreatDoor
