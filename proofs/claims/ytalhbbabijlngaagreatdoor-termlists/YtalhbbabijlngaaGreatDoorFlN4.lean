/- The kit's flat.. of no lists at all. -/
import Derived.Test.YtalhbbabijlngaaGreatDoorJBE
import Derived.Laws.MakeOwn
namespace Go.Proofs.YtalhbbabijlngaaGreatDoor
open Go.RowKit
set_option maxHeartbeats 2000000 in
set_option maxRecDepth 100000 in
theorem flatCodes_nil (w : World) : Calls Tryz.prog 107 #[.slice none 0 0] w fun e w' => e = .returned (.bool true) ∧ Upd [] w w' := by
 have hmk := make0 (t := 84) (e := 203) Tryz.underlying84 (by kernel_rfl)
 go_enter Tryz.func107, Tryz.ntmps107
 go_wp2_with fail
 go_loopw [3, 4] (fun k _ wr => k = .int .i64 0 ∧ Upd [] w wr) (fun _ _ _ => 0)
 case atStart => exact ⟨rfl, Upd.refl _ _⟩
 case round =>
  obtain ⟨rfl, hU1⟩ := hrel
  have hm0 := hmk wr
  go_wp2_with fail
  obtain ⟨W, hW⟩ : ∃ W, W = wr.alloc (.cells #[] 203) := ⟨_, rfl⟩
  have HU : Hid (Upd [] w W) := by rw [hW]; exact hU1.alloc _
  rw [← hW]
  clear hW hm0 hmk
  go_loopw [6, 7, 8] (fun k _ _ wq => k = .int .i64 0 ∧ Upd [] w wq) (fun _ _ _ _ => 0)
  case atStart => exact ⟨rfl, HU.out⟩
  case round =>
   obtain ⟨rfl, hUq⟩ := hrel
   go_wp2_with fail
   go_loopw [9, 10] (fun k _ wz => k = .int .i64 0 ∧ Upd [] w wz) (fun _ _ _ => 0)
   case atStart => exact ⟨rfl, hUq⟩
   case round =>
    obtain ⟨rfl, hU2⟩ := hrel
    go_wp2_with fail
    go_loopw [11, 12, 13] (fun k _ _ wz => k = .int .i64 0 ∧ Upd [] w wz) (fun _ _ _ _ => 0)
    case atStart => exact ⟨rfl, hU2⟩
    case round =>
     obtain ⟨rfl, hU3⟩ := hrel
     go_wp2_with fail
     go_loopw [14, 15] (fun k _ wz => k = .int .i64 0 ∧ Upd [] w wz) (fun _ _ _ => 0)
     case atStart => exact ⟨rfl, hU3⟩
     case round =>
      obtain ⟨rfl, hU4⟩ := hrel
      go_wp2
      go_ret
      exact ⟨rfl, hU4⟩
set_option maxHeartbeats 2000000 in
set_option maxRecDepth 100000 in
theorem flatSteps_nil (w : World) : Calls Tryz.prog 108 #[.slice none 0 0] w fun e w' => e = .returned (.bool true) ∧ Upd [] w w' := by
 have hmk := make0 (t := 85) (e := 208) Tryz.underlying85 (by kernel_rfl)
 go_enter Tryz.func108, Tryz.ntmps108
 go_wp2_with fail
 go_loopw [3, 4] (fun k _ wr => k = .int .i64 0 ∧ Upd [] w wr) (fun _ _ _ => 0)
 case atStart => exact ⟨rfl, Upd.refl _ _⟩
 case round =>
  obtain ⟨rfl, hU1⟩ := hrel
  have hm0 := hmk wr
  go_wp2_with fail
  obtain ⟨W, hW⟩ : ∃ W, W = wr.alloc (.cells #[] 208) := ⟨_, rfl⟩
  have HU : Hid (Upd [] w W) := by rw [hW]; exact hU1.alloc _
  rw [← hW]
  clear hW hm0 hmk
  go_loopw [6, 7, 8] (fun k _ _ wq => k = .int .i64 0 ∧ Upd [] w wq) (fun _ _ _ _ => 0)
  case atStart => exact ⟨rfl, HU.out⟩
  case round =>
   obtain ⟨rfl, hUq⟩ := hrel
   go_wp2_with fail
   go_loopw [9, 10] (fun k _ wz => k = .int .i64 0 ∧ Upd [] w wz) (fun _ _ _ => 0)
   case atStart => exact ⟨rfl, hUq⟩
   case round =>
    obtain ⟨rfl, hU2⟩ := hrel
    go_wp2_with fail
    go_loopw [11, 12, 13] (fun k _ _ wz => k = .int .i64 0 ∧ Upd [] w wz) (fun _ _ _ _ => 0)
    case atStart => exact ⟨rfl, hU2⟩
    case round =>
     obtain ⟨rfl, hU3⟩ := hrel
     go_wp2_with fail
     go_loopw [14, 15] (fun k _ wz => k = .int .i64 0 ∧ Upd [] w wz) (fun _ _ _ => 0)
     case atStart => exact ⟨rfl, hU3⟩
     case round =>
      obtain ⟨rfl, hU4⟩ := hrel
      go_wp2
      go_ret
      exact ⟨rfl, hU4⟩
set_option maxHeartbeats 2000000 in
set_option maxRecDepth 100000 in
theorem flatEndeds_nil (w : World) : Calls Tryz.prog 109 #[.slice none 0 0] w fun e w' => e = .returned (.bool true) ∧ Upd [] w w' := by
 have hmk := make0 (t := 86) (e := 213) Tryz.underlying86 (by kernel_rfl)
 go_enter Tryz.func109, Tryz.ntmps109
 go_wp2_with fail
 go_loopw [3, 4] (fun k _ wr => k = .int .i64 0 ∧ Upd [] w wr) (fun _ _ _ => 0)
 case atStart => exact ⟨rfl, Upd.refl _ _⟩
 case round =>
  obtain ⟨rfl, hU1⟩ := hrel
  have hm0 := hmk wr
  go_wp2_with fail
  obtain ⟨W, hW⟩ : ∃ W, W = wr.alloc (.cells #[] 213) := ⟨_, rfl⟩
  have HU : Hid (Upd [] w W) := by rw [hW]; exact hU1.alloc _
  rw [← hW]
  clear hW hm0 hmk
  go_loopw [6, 7, 8] (fun k _ _ wq => k = .int .i64 0 ∧ Upd [] w wq) (fun _ _ _ _ => 0)
  case atStart => exact ⟨rfl, HU.out⟩
  case round =>
   obtain ⟨rfl, hUq⟩ := hrel
   go_wp2_with fail
   go_loopw [9, 10] (fun k _ wz => k = .int .i64 0 ∧ Upd [] w wz) (fun _ _ _ => 0)
   case atStart => exact ⟨rfl, hUq⟩
   case round =>
    obtain ⟨rfl, hU2⟩ := hrel
    go_wp2_with fail
    go_loopw [11, 12, 13] (fun k _ _ wz => k = .int .i64 0 ∧ Upd [] w wz) (fun _ _ _ _ => 0)
    case atStart => exact ⟨rfl, hU2⟩
    case round =>
     obtain ⟨rfl, hU3⟩ := hrel
     go_wp2_with fail
     go_loopw [14, 15] (fun k _ wz => k = .int .i64 0 ∧ Upd [] w wz) (fun _ _ _ => 0)
     case atStart => exact ⟨rfl, hU3⟩
     case round =>
      obtain ⟨rfl, hU4⟩ := hrel
      go_wp2
      go_ret
      exact ⟨rfl, hU4⟩
set_option maxHeartbeats 2000000 in
set_option maxRecDepth 100000 in
theorem flatNameds_nil (w : World) : Calls Tryz.prog 110 #[.slice none 0 0] w fun e w' => e = .returned (.bool true) ∧ Upd [] w w' := by
 have hmk := make0 (t := 87) (e := 218) Tryz.underlying87 (by kernel_rfl)
 go_enter Tryz.func110, Tryz.ntmps110
 go_wp2_with fail
 go_loopw [3, 4] (fun k _ wr => k = .int .i64 0 ∧ Upd [] w wr) (fun _ _ _ => 0)
 case atStart => exact ⟨rfl, Upd.refl _ _⟩
 case round =>
  obtain ⟨rfl, hU1⟩ := hrel
  have hm0 := hmk wr
  go_wp2_with fail
  obtain ⟨W, hW⟩ : ∃ W, W = wr.alloc (.cells #[] 218) := ⟨_, rfl⟩
  have HU : Hid (Upd [] w W) := by rw [hW]; exact hU1.alloc _
  rw [← hW]
  clear hW hm0 hmk
  go_loopw [6, 7, 8] (fun k _ _ wq => k = .int .i64 0 ∧ Upd [] w wq) (fun _ _ _ _ => 0)
  case atStart => exact ⟨rfl, HU.out⟩
  case round =>
   obtain ⟨rfl, hUq⟩ := hrel
   go_wp2_with fail
   go_loopw [9, 10] (fun k _ wz => k = .int .i64 0 ∧ Upd [] w wz) (fun _ _ _ => 0)
   case atStart => exact ⟨rfl, hUq⟩
   case round =>
    obtain ⟨rfl, hU2⟩ := hrel
    go_wp2_with fail
    go_loopw [11, 12, 13] (fun k _ _ wz => k = .int .i64 0 ∧ Upd [] w wz) (fun _ _ _ _ => 0)
    case atStart => exact ⟨rfl, hU2⟩
    case round =>
     obtain ⟨rfl, hU3⟩ := hrel
     go_wp2_with fail
     go_loopw [14, 15] (fun k _ wz => k = .int .i64 0 ∧ Upd [] w wz) (fun _ _ _ => 0)
     case atStart => exact ⟨rfl, hU3⟩
     case round =>
      obtain ⟨rfl, hU4⟩ := hrel
      go_wp2
      go_ret
      exact ⟨rfl, hU4⟩
set_option maxHeartbeats 2000000 in
set_option maxRecDepth 100000 in
theorem flatSeens_nil (w : World) : Calls Tryz.prog 111 #[.slice none 0 0] w fun e w' => e = .returned (.bool true) ∧ Upd [] w w' := by
 have hmk := make0 (t := 88) (e := 222) Tryz.underlying88 (by kernel_rfl)
 go_enter Tryz.func111, Tryz.ntmps111
 go_wp2_with fail
 go_loopw [3, 4] (fun k _ wr => k = .int .i64 0 ∧ Upd [] w wr) (fun _ _ _ => 0)
 case atStart => exact ⟨rfl, Upd.refl _ _⟩
 case round =>
  obtain ⟨rfl, hU1⟩ := hrel
  have hm0 := hmk wr
  go_wp2_with fail
  obtain ⟨W, hW⟩ : ∃ W, W = wr.alloc (.cells #[] 222) := ⟨_, rfl⟩
  have HU : Hid (Upd [] w W) := by rw [hW]; exact hU1.alloc _
  rw [← hW]
  clear hW hm0 hmk
  go_loopw [6, 7, 8] (fun k _ _ wq => k = .int .i64 0 ∧ Upd [] w wq) (fun _ _ _ _ => 0)
  case atStart => exact ⟨rfl, HU.out⟩
  case round =>
   obtain ⟨rfl, hUq⟩ := hrel
   go_wp2_with fail
   go_loopw [9, 10] (fun k _ wz => k = .int .i64 0 ∧ Upd [] w wz) (fun _ _ _ => 0)
   case atStart => exact ⟨rfl, hUq⟩
   case round =>
    obtain ⟨rfl, hU2⟩ := hrel
    go_wp2_with fail
    go_loopw [11, 12, 13] (fun k _ _ wz => k = .int .i64 0 ∧ Upd [] w wz) (fun _ _ _ _ => 0)
    case atStart => exact ⟨rfl, hU2⟩
    case round =>
     obtain ⟨rfl, hU3⟩ := hrel
     go_wp2_with fail
     go_loopw [14, 15] (fun k _ wz => k = .int .i64 0 ∧ Upd [] w wz) (fun _ _ _ => 0)
     case atStart => exact ⟨rfl, hU3⟩
     case round =>
      obtain ⟨rfl, hU4⟩ := hrel
      go_wp2
      go_ret
      exact ⟨rfl, hU4⟩
end Go.Proofs.YtalhbbabijlngaaGreatDoor
