/- The kit's flat.. of no lists at all. -/
import Derived.Test.YtalhbbabijlngaaGreatDoorJBE
import Derived.Laws.MakeOwn
namespace Go.Proofs.YtalhbbabijlngaaGreatDoor
open Go.RowKit
set_option maxHeartbeats 2000000 in
set_option maxRecDepth 100000 in
theorem flatCores_nil (w : World) : Calls Tryz.prog 102 #[.slice none 0 0] w fun e w' => e = .returned (.bool true) ∧ Upd [] w w' := by
 have hmk := make0 (t := 79) (e := 177) Tryz.underlying79 (by kernel_rfl)
 go_enter Tryz.func102, Tryz.ntmps102
 go_wp2_with fail
 go_loopw [3, 4] (fun k _ wr => k = .int .i64 0 ∧ Upd [] w wr) (fun _ _ _ => 0)
 case atStart => exact ⟨rfl, Upd.refl _ _⟩
 case round =>
  obtain ⟨rfl, hU1⟩ := hrel
  have hm0 := hmk wr
  go_wp2_with fail
  obtain ⟨W, hW⟩ : ∃ W, W = wr.alloc (.cells #[] 177) := ⟨_, rfl⟩
  have HU : Hid (Upd [] w W) := by rw [hW]; exact hU1.alloc _
  rw [← hW]
  clear hW hm0 hmk
  go_loopw [6, 7, 8] (fun k _ _ wq => k = .int .i64 0 ∧ Upd [] w wq) (fun _ _ _ _ => 0)
  case atStart => exact ⟨rfl, HU.out⟩
  case round =>
   obtain ⟨rfl, hUq⟩ := hrel
   go_wp2_with fail
   go_loopw [9, 10] (fun k _ wz => k = .int .i64 0 ∧ Upd [] w wz) (fun _ _ _ => 0)
   case atStart => exact ⟨rfl, hUq⟩
   case round =>
    obtain ⟨rfl, hU2⟩ := hrel
    go_wp2_with fail
    go_loopw [11, 12, 13] (fun k _ _ wz => k = .int .i64 0 ∧ Upd [] w wz) (fun _ _ _ _ => 0)
    case atStart => exact ⟨rfl, hU2⟩
    case round =>
     obtain ⟨rfl, hU3⟩ := hrel
     go_wp2_with fail
     go_loopw [14, 15] (fun k _ wz => k = .int .i64 0 ∧ Upd [] w wz) (fun _ _ _ => 0)
     case atStart => exact ⟨rfl, hU3⟩
     case round =>
      obtain ⟨rfl, hU4⟩ := hrel
      go_wp2
      go_ret
      exact ⟨rfl, hU4⟩
set_option maxHeartbeats 2000000 in
set_option maxRecDepth 100000 in
theorem flatFuncs_nil (w : World) : Calls Tryz.prog 103 #[.slice none 0 0] w fun e w' => e = .returned (.bool true) ∧ Upd [] w w' := by
 have hmk := make0 (t := 80) (e := 183) Tryz.underlying80 (by kernel_rfl)
 go_enter Tryz.func103, Tryz.ntmps103
 go_wp2_with fail
 go_loopw [3, 4] (fun k _ wr => k = .int .i64 0 ∧ Upd [] w wr) (fun _ _ _ => 0)
 case atStart => exact ⟨rfl, Upd.refl _ _⟩
 case round =>
  obtain ⟨rfl, hU1⟩ := hrel
  have hm0 := hmk wr
  go_wp2_with fail
  obtain ⟨W, hW⟩ : ∃ W, W = wr.alloc (.cells #[] 183) := ⟨_, rfl⟩
  have HU : Hid (Upd [] w W) := by rw [hW]; exact hU1.alloc _
  rw [← hW]
  clear hW hm0 hmk
  go_loopw [6, 7, 8] (fun k _ _ wq => k = .int .i64 0 ∧ Upd [] w wq) (fun _ _ _ _ => 0)
  case atStart => exact ⟨rfl, HU.out⟩
  case round =>
   obtain ⟨rfl, hUq⟩ := hrel
   go_wp2_with fail
   go_loopw [9, 10] (fun k _ wz => k = .int .i64 0 ∧ Upd [] w wz) (fun _ _ _ => 0)
   case atStart => exact ⟨rfl, hUq⟩
   case round =>
    obtain ⟨rfl, hU2⟩ := hrel
    go_wp2_with fail
    go_loopw [11, 12, 13] (fun k _ _ wz => k = .int .i64 0 ∧ Upd [] w wz) (fun _ _ _ _ => 0)
    case atStart => exact ⟨rfl, hU2⟩
    case round =>
     obtain ⟨rfl, hU3⟩ := hrel
     go_wp2_with fail
     go_loopw [14, 15] (fun k _ wz => k = .int .i64 0 ∧ Upd [] w wz) (fun _ _ _ => 0)
     case atStart => exact ⟨rfl, hU3⟩
     case round =>
      obtain ⟨rfl, hU4⟩ := hrel
      go_wp2
      go_ret
      exact ⟨rfl, hU4⟩
set_option maxHeartbeats 2000000 in
set_option maxRecDepth 100000 in
theorem flatPrograms_nil (w : World) : Calls Tryz.prog 104 #[.slice none 0 0] w fun e w' => e = .returned (.bool true) ∧ Upd [] w w' := by
 have hmk := make0 (t := 81) (e := 188) Tryz.underlying81 (by kernel_rfl)
 go_enter Tryz.func104, Tryz.ntmps104
 go_wp2_with fail
 go_loopw [3, 4] (fun k _ wr => k = .int .i64 0 ∧ Upd [] w wr) (fun _ _ _ => 0)
 case atStart => exact ⟨rfl, Upd.refl _ _⟩
 case round =>
  obtain ⟨rfl, hU1⟩ := hrel
  have hm0 := hmk wr
  go_wp2_with fail
  obtain ⟨W, hW⟩ : ∃ W, W = wr.alloc (.cells #[] 188) := ⟨_, rfl⟩
  have HU : Hid (Upd [] w W) := by rw [hW]; exact hU1.alloc _
  rw [← hW]
  clear hW hm0 hmk
  go_loopw [6, 7, 8] (fun k _ _ wq => k = .int .i64 0 ∧ Upd [] w wq) (fun _ _ _ _ => 0)
  case atStart => exact ⟨rfl, HU.out⟩
  case round =>
   obtain ⟨rfl, hUq⟩ := hrel
   go_wp2_with fail
   go_loopw [9, 10] (fun k _ wz => k = .int .i64 0 ∧ Upd [] w wz) (fun _ _ _ => 0)
   case atStart => exact ⟨rfl, hUq⟩
   case round =>
    obtain ⟨rfl, hU2⟩ := hrel
    go_wp2_with fail
    go_loopw [11, 12, 13] (fun k _ _ wz => k = .int .i64 0 ∧ Upd [] w wz) (fun _ _ _ _ => 0)
    case atStart => exact ⟨rfl, hU2⟩
    case round =>
     obtain ⟨rfl, hU3⟩ := hrel
     go_wp2_with fail
     go_loopw [14, 15] (fun k _ wz => k = .int .i64 0 ∧ Upd [] w wz) (fun _ _ _ => 0)
     case atStart => exact ⟨rfl, hU3⟩
     case round =>
      obtain ⟨rfl, hU4⟩ := hrel
      go_wp2
      go_ret
      exact ⟨rfl, hU4⟩
set_option maxHeartbeats 2000000 in
set_option maxRecDepth 100000 in
theorem flatInstrs_nil (w : World) : Calls Tryz.prog 105 #[.slice none 0 0] w fun e w' => e = .returned (.bool true) ∧ Upd [] w w' := by
 have hmk := make0 (t := 82) (e := 193) Tryz.underlying82 (by kernel_rfl)
 go_enter Tryz.func105, Tryz.ntmps105
 go_wp2_with fail
 go_loopw [3, 4] (fun k _ wr => k = .int .i64 0 ∧ Upd [] w wr) (fun _ _ _ => 0)
 case atStart => exact ⟨rfl, Upd.refl _ _⟩
 case round =>
  obtain ⟨rfl, hU1⟩ := hrel
  have hm0 := hmk wr
  go_wp2_with fail
  obtain ⟨W, hW⟩ : ∃ W, W = wr.alloc (.cells #[] 193) := ⟨_, rfl⟩
  have HU : Hid (Upd [] w W) := by rw [hW]; exact hU1.alloc _
  rw [← hW]
  clear hW hm0 hmk
  go_loopw [6, 7, 8] (fun k _ _ wq => k = .int .i64 0 ∧ Upd [] w wq) (fun _ _ _ _ => 0)
  case atStart => exact ⟨rfl, HU.out⟩
  case round =>
   obtain ⟨rfl, hUq⟩ := hrel
   go_wp2_with fail
   go_loopw [9, 10] (fun k _ wz => k = .int .i64 0 ∧ Upd [] w wz) (fun _ _ _ => 0)
   case atStart => exact ⟨rfl, hUq⟩
   case round =>
    obtain ⟨rfl, hU2⟩ := hrel
    go_wp2_with fail
    go_loopw [11, 12, 13] (fun k _ _ wz => k = .int .i64 0 ∧ Upd [] w wz) (fun _ _ _ _ => 0)
    case atStart => exact ⟨rfl, hU2⟩
    case round =>
     obtain ⟨rfl, hU3⟩ := hrel
     go_wp2_with fail
     go_loopw [14, 15] (fun k _ wz => k = .int .i64 0 ∧ Upd [] w wz) (fun _ _ _ => 0)
     case atStart => exact ⟨rfl, hU3⟩
     case round =>
      obtain ⟨rfl, hU4⟩ := hrel
      go_wp2
      go_ret
      exact ⟨rfl, hU4⟩
set_option maxHeartbeats 2000000 in
set_option maxRecDepth 100000 in
theorem flatEntries_nil (w : World) : Calls Tryz.prog 106 #[.slice none 0 0] w fun e w' => e = .returned (.bool true) ∧ Upd [] w w' := by
 have hmk := make0 (t := 83) (e := 199) Tryz.underlying83 (by kernel_rfl)
 go_enter Tryz.func106, Tryz.ntmps106
 go_wp2_with fail
 go_loopw [3, 4] (fun k _ wr => k = .int .i64 0 ∧ Upd [] w wr) (fun _ _ _ => 0)
 case atStart => exact ⟨rfl, Upd.refl _ _⟩
 case round =>
  obtain ⟨rfl, hU1⟩ := hrel
  have hm0 := hmk wr
  go_wp2_with fail
  obtain ⟨W, hW⟩ : ∃ W, W = wr.alloc (.cells #[] 199) := ⟨_, rfl⟩
  have HU : Hid (Upd [] w W) := by rw [hW]; exact hU1.alloc _
  rw [← hW]
  clear hW hm0 hmk
  go_loopw [6, 7, 8] (fun k _ _ wq => k = .int .i64 0 ∧ Upd [] w wq) (fun _ _ _ _ => 0)
  case atStart => exact ⟨rfl, HU.out⟩
  case round =>
   obtain ⟨rfl, hUq⟩ := hrel
   go_wp2_with fail
   go_loopw [9, 10] (fun k _ wz => k = .int .i64 0 ∧ Upd [] w wz) (fun _ _ _ => 0)
   case atStart => exact ⟨rfl, hUq⟩
   case round =>
    obtain ⟨rfl, hU2⟩ := hrel
    go_wp2_with fail
    go_loopw [11, 12, 13] (fun k _ _ wz => k = .int .i64 0 ∧ Upd [] w wz) (fun _ _ _ _ => 0)
    case atStart => exact ⟨rfl, hU2⟩
    case round =>
     obtain ⟨rfl, hU3⟩ := hrel
     go_wp2_with fail
     go_loopw [14, 15] (fun k _ wz => k = .int .i64 0 ∧ Upd [] w wz) (fun _ _ _ => 0)
     case atStart => exact ⟨rfl, hU3⟩
     case round =>
      obtain ⟨rfl, hU4⟩ := hrel
      go_wp2
      go_ret
      exact ⟨rfl, hU4⟩
end Go.Proofs.YtalhbbabijlngaaGreatDoor
