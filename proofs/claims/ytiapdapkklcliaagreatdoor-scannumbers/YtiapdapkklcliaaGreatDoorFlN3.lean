/- The kit's flat.. of no lists at all. -/
import Derived.Test.YtiapdapkklcliaaGreatDoorFlN0
import Derived.Laws.MakeOwn
namespace Go.Proofs.YtiapdapkklcliaaGreatDoor
open Go.RowKit

set_option maxHeartbeats 2000000 in
set_option maxRecDepth 100000 in
theorem flatCores_nil (w : World) : Calls Tryz.prog 62 #[.slice none 0 0] w fun e w' => e = .returned (.bool true) ∧ Upd [] w w' := by
  have hmk := make0 (t := 64) (e := 158) Tryz.underlying64 (by kernel_rfl)
  go_enter Tryz.func62, Tryz.ntmps62
  go_wp2_with fail
  go_loopw [3, 4] (fun k _ wr => k = .int .i64 0 ∧ Upd [] w wr) (fun _ _ _ => 0)
  case atStart => exact ⟨rfl, Upd.refl _ _⟩
  case round =>
    obtain ⟨rfl, hU1⟩ := hrel
    have hm0 := hmk wr
    go_wp2_with fail
    obtain ⟨W, hW⟩ : ∃ W, W = wr.alloc (.cells #[] 158) := ⟨_, rfl⟩
    have HU : Hid (Upd [] w W) := by rw [hW]; exact hU1.alloc _
    rw [← hW]
    clear hW hm0 hmk
    go_loopw [6, 7, 8] (fun k _ _ wq => k = .int .i64 0 ∧ Upd [] w wq) (fun _ _ _ _ => 0)
    case atStart => exact ⟨rfl, HU.out⟩
    case round =>
      obtain ⟨rfl, hUq⟩ := hrel
      go_wp2_with fail
      go_loopw [9, 10] (fun k _ wz => k = .int .i64 0 ∧ Upd [] w wz) (fun _ _ _ => 0)
      case atStart => exact ⟨rfl, hUq⟩
      case round =>
        obtain ⟨rfl, hU2⟩ := hrel
        go_wp2_with fail
        go_loopw [11, 12, 13] (fun k _ _ wz => k = .int .i64 0 ∧ Upd [] w wz) (fun _ _ _ _ => 0)
        case atStart => exact ⟨rfl, hU2⟩
        case round =>
          obtain ⟨rfl, hU3⟩ := hrel
          go_wp2_with fail
          go_loopw [14, 15] (fun k _ wz => k = .int .i64 0 ∧ Upd [] w wz) (fun _ _ _ => 0)
          case atStart => exact ⟨rfl, hU3⟩
          case round =>
            obtain ⟨rfl, hU4⟩ := hrel
            go_wp2
            go_ret
            exact ⟨rfl, hU4⟩

set_option maxHeartbeats 2000000 in
set_option maxRecDepth 100000 in
theorem flatFuncs_nil (w : World) : Calls Tryz.prog 63 #[.slice none 0 0] w fun e w' => e = .returned (.bool true) ∧ Upd [] w w' := by
  have hmk := make0 (t := 65) (e := 164) Tryz.underlying65 (by kernel_rfl)
  go_enter Tryz.func63, Tryz.ntmps63
  go_wp2_with fail
  go_loopw [3, 4] (fun k _ wr => k = .int .i64 0 ∧ Upd [] w wr) (fun _ _ _ => 0)
  case atStart => exact ⟨rfl, Upd.refl _ _⟩
  case round =>
    obtain ⟨rfl, hU1⟩ := hrel
    have hm0 := hmk wr
    go_wp2_with fail
    obtain ⟨W, hW⟩ : ∃ W, W = wr.alloc (.cells #[] 164) := ⟨_, rfl⟩
    have HU : Hid (Upd [] w W) := by rw [hW]; exact hU1.alloc _
    rw [← hW]
    clear hW hm0 hmk
    go_loopw [6, 7, 8] (fun k _ _ wq => k = .int .i64 0 ∧ Upd [] w wq) (fun _ _ _ _ => 0)
    case atStart => exact ⟨rfl, HU.out⟩
    case round =>
      obtain ⟨rfl, hUq⟩ := hrel
      go_wp2_with fail
      go_loopw [9, 10] (fun k _ wz => k = .int .i64 0 ∧ Upd [] w wz) (fun _ _ _ => 0)
      case atStart => exact ⟨rfl, hUq⟩
      case round =>
        obtain ⟨rfl, hU2⟩ := hrel
        go_wp2_with fail
        go_loopw [11, 12, 13] (fun k _ _ wz => k = .int .i64 0 ∧ Upd [] w wz) (fun _ _ _ _ => 0)
        case atStart => exact ⟨rfl, hU2⟩
        case round =>
          obtain ⟨rfl, hU3⟩ := hrel
          go_wp2_with fail
          go_loopw [14, 15] (fun k _ wz => k = .int .i64 0 ∧ Upd [] w wz) (fun _ _ _ => 0)
          case atStart => exact ⟨rfl, hU3⟩
          case round =>
            obtain ⟨rfl, hU4⟩ := hrel
            go_wp2
            go_ret
            exact ⟨rfl, hU4⟩

set_option maxHeartbeats 2000000 in
set_option maxRecDepth 100000 in
theorem flatPrograms_nil (w : World) : Calls Tryz.prog 64 #[.slice none 0 0] w fun e w' => e = .returned (.bool true) ∧ Upd [] w w' := by
  have hmk := make0 (t := 66) (e := 169) Tryz.underlying66 (by kernel_rfl)
  go_enter Tryz.func64, Tryz.ntmps64
  go_wp2_with fail
  go_loopw [3, 4] (fun k _ wr => k = .int .i64 0 ∧ Upd [] w wr) (fun _ _ _ => 0)
  case atStart => exact ⟨rfl, Upd.refl _ _⟩
  case round =>
    obtain ⟨rfl, hU1⟩ := hrel
    have hm0 := hmk wr
    go_wp2_with fail
    obtain ⟨W, hW⟩ : ∃ W, W = wr.alloc (.cells #[] 169) := ⟨_, rfl⟩
    have HU : Hid (Upd [] w W) := by rw [hW]; exact hU1.alloc _
    rw [← hW]
    clear hW hm0 hmk
    go_loopw [6, 7, 8] (fun k _ _ wq => k = .int .i64 0 ∧ Upd [] w wq) (fun _ _ _ _ => 0)
    case atStart => exact ⟨rfl, HU.out⟩
    case round =>
      obtain ⟨rfl, hUq⟩ := hrel
      go_wp2_with fail
      go_loopw [9, 10] (fun k _ wz => k = .int .i64 0 ∧ Upd [] w wz) (fun _ _ _ => 0)
      case atStart => exact ⟨rfl, hUq⟩
      case round =>
        obtain ⟨rfl, hU2⟩ := hrel
        go_wp2_with fail
        go_loopw [11, 12, 13] (fun k _ _ wz => k = .int .i64 0 ∧ Upd [] w wz) (fun _ _ _ _ => 0)
        case atStart => exact ⟨rfl, hU2⟩
        case round =>
          obtain ⟨rfl, hU3⟩ := hrel
          go_wp2_with fail
          go_loopw [14, 15] (fun k _ wz => k = .int .i64 0 ∧ Upd [] w wz) (fun _ _ _ => 0)
          case atStart => exact ⟨rfl, hU3⟩
          case round =>
            obtain ⟨rfl, hU4⟩ := hrel
            go_wp2
            go_ret
            exact ⟨rfl, hU4⟩

set_option maxHeartbeats 2000000 in
set_option maxRecDepth 100000 in
theorem flatInstrs_nil (w : World) : Calls Tryz.prog 65 #[.slice none 0 0] w fun e w' => e = .returned (.bool true) ∧ Upd [] w w' := by
  have hmk := make0 (t := 67) (e := 174) Tryz.underlying67 (by kernel_rfl)
  go_enter Tryz.func65, Tryz.ntmps65
  go_wp2_with fail
  go_loopw [3, 4] (fun k _ wr => k = .int .i64 0 ∧ Upd [] w wr) (fun _ _ _ => 0)
  case atStart => exact ⟨rfl, Upd.refl _ _⟩
  case round =>
    obtain ⟨rfl, hU1⟩ := hrel
    have hm0 := hmk wr
    go_wp2_with fail
    obtain ⟨W, hW⟩ : ∃ W, W = wr.alloc (.cells #[] 174) := ⟨_, rfl⟩
    have HU : Hid (Upd [] w W) := by rw [hW]; exact hU1.alloc _
    rw [← hW]
    clear hW hm0 hmk
    go_loopw [6, 7, 8] (fun k _ _ wq => k = .int .i64 0 ∧ Upd [] w wq) (fun _ _ _ _ => 0)
    case atStart => exact ⟨rfl, HU.out⟩
    case round =>
      obtain ⟨rfl, hUq⟩ := hrel
      go_wp2_with fail
      go_loopw [9, 10] (fun k _ wz => k = .int .i64 0 ∧ Upd [] w wz) (fun _ _ _ => 0)
      case atStart => exact ⟨rfl, hUq⟩
      case round =>
        obtain ⟨rfl, hU2⟩ := hrel
        go_wp2_with fail
        go_loopw [11, 12, 13] (fun k _ _ wz => k = .int .i64 0 ∧ Upd [] w wz) (fun _ _ _ _ => 0)
        case atStart => exact ⟨rfl, hU2⟩
        case round =>
          obtain ⟨rfl, hU3⟩ := hrel
          go_wp2_with fail
          go_loopw [14, 15] (fun k _ wz => k = .int .i64 0 ∧ Upd [] w wz) (fun _ _ _ => 0)
          case atStart => exact ⟨rfl, hU3⟩
          case round =>
            obtain ⟨rfl, hU4⟩ := hrel
            go_wp2
            go_ret
            exact ⟨rfl, hU4⟩

set_option maxHeartbeats 2000000 in
set_option maxRecDepth 100000 in
theorem flatEntries_nil (w : World) : Calls Tryz.prog 66 #[.slice none 0 0] w fun e w' => e = .returned (.bool true) ∧ Upd [] w w' := by
  have hmk := make0 (t := 68) (e := 180) Tryz.underlying68 (by kernel_rfl)
  go_enter Tryz.func66, Tryz.ntmps66
  go_wp2_with fail
  go_loopw [3, 4] (fun k _ wr => k = .int .i64 0 ∧ Upd [] w wr) (fun _ _ _ => 0)
  case atStart => exact ⟨rfl, Upd.refl _ _⟩
  case round =>
    obtain ⟨rfl, hU1⟩ := hrel
    have hm0 := hmk wr
    go_wp2_with fail
    obtain ⟨W, hW⟩ : ∃ W, W = wr.alloc (.cells #[] 180) := ⟨_, rfl⟩
    have HU : Hid (Upd [] w W) := by rw [hW]; exact hU1.alloc _
    rw [← hW]
    clear hW hm0 hmk
    go_loopw [6, 7, 8] (fun k _ _ wq => k = .int .i64 0 ∧ Upd [] w wq) (fun _ _ _ _ => 0)
    case atStart => exact ⟨rfl, HU.out⟩
    case round =>
      obtain ⟨rfl, hUq⟩ := hrel
      go_wp2_with fail
      go_loopw [9, 10] (fun k _ wz => k = .int .i64 0 ∧ Upd [] w wz) (fun _ _ _ => 0)
      case atStart => exact ⟨rfl, hUq⟩
      case round =>
        obtain ⟨rfl, hU2⟩ := hrel
        go_wp2_with fail
        go_loopw [11, 12, 13] (fun k _ _ wz => k = .int .i64 0 ∧ Upd [] w wz) (fun _ _ _ _ => 0)
        case atStart => exact ⟨rfl, hU2⟩
        case round =>
          obtain ⟨rfl, hU3⟩ := hrel
          go_wp2_with fail
          go_loopw [14, 15] (fun k _ wz => k = .int .i64 0 ∧ Upd [] w wz) (fun _ _ _ => 0)
          case atStart => exact ⟨rfl, hU3⟩
          case round =>
            obtain ⟨rfl, hU4⟩ := hrel
            go_wp2
            go_ret
            exact ⟨rfl, hU4⟩

end Go.Proofs.YtiapdapkklcliaaGreatDoor
