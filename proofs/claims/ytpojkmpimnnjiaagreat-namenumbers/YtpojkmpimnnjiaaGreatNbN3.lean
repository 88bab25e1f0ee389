/- The kit's flat.. of no lists at all. -/
import Derived.Test.YtpojkmpimnnjiaaGreatNbN0
import Derived.Laws.MakeOwn
namespace Go.Proofs.YtpojkmpimnnjiaaGreat
open Go.RowKit

set_option maxHeartbeats 2000000 in
set_option maxRecDepth 100000 in
theorem flatCores_nil (w : World) : Calls Tryz.prog 47 #[.slice none 0 0] w fun e w' => e = .returned (.bool true) ∧ Upd [] w w' := by
  have hmk := make0 (t := 72) (e := 144) Tryz.underlying72 (by kernel_rfl)
  go_enter Tryz.func47, Tryz.ntmps47
  go_wp2_with fail
  go_loopw [3, 4] (fun k _ wr => k = .int .i64 0 ∧ Upd [] w wr) (fun _ _ _ => 0)
  case atStart => exact ⟨rfl, Upd.refl _ _⟩
  case round =>
    obtain ⟨rfl, hU1⟩ := hrel
    have hm0 := hmk wr
    go_wp2_with fail
    obtain ⟨W, hW⟩ : ∃ W, W = wr.alloc (.cells #[] 144) := ⟨_, rfl⟩
    have HU : Hid (Upd [] w W) := by rw [hW]; exact hU1.alloc _
    rw [← hW]
    clear hW hm0 hmk
    go_loopw [6, 7, 8] (fun k _ _ wq => k = .int .i64 0 ∧ Upd [] w wq) (fun _ _ _ _ => 0)
    case atStart => exact ⟨rfl, HU.out⟩
    case round =>
      obtain ⟨rfl, hUq⟩ := hrel
      go_wp2_with fail
      go_loopw [9, 10] (fun k _ wz => k = .int .i64 0 ∧ Upd [] w wz) (fun _ _ _ => 0)
      case atStart => exact ⟨rfl, hUq⟩
      case round =>
        obtain ⟨rfl, hU2⟩ := hrel
        go_wp2_with fail
        go_loopw [11, 12, 13] (fun k _ _ wz => k = .int .i64 0 ∧ Upd [] w wz) (fun _ _ _ _ => 0)
        case atStart => exact ⟨rfl, hU2⟩
        case round =>
          obtain ⟨rfl, hU3⟩ := hrel
          go_wp2_with fail
          go_loopw [14, 15] (fun k _ wz => k = .int .i64 0 ∧ Upd [] w wz) (fun _ _ _ => 0)
          case atStart => exact ⟨rfl, hU3⟩
          case round =>
            obtain ⟨rfl, hU4⟩ := hrel
            go_wp2
            go_ret
            exact ⟨rfl, hU4⟩

set_option maxHeartbeats 2000000 in
set_option maxRecDepth 100000 in
theorem flatFuncs_nil (w : World) : Calls Tryz.prog 48 #[.slice none 0 0] w fun e w' => e = .returned (.bool true) ∧ Upd [] w w' := by
  have hmk := make0 (t := 73) (e := 150) Tryz.underlying73 (by kernel_rfl)
  go_enter Tryz.func48, Tryz.ntmps48
  go_wp2_with fail
  go_loopw [3, 4] (fun k _ wr => k = .int .i64 0 ∧ Upd [] w wr) (fun _ _ _ => 0)
  case atStart => exact ⟨rfl, Upd.refl _ _⟩
  case round =>
    obtain ⟨rfl, hU1⟩ := hrel
    have hm0 := hmk wr
    go_wp2_with fail
    obtain ⟨W, hW⟩ : ∃ W, W = wr.alloc (.cells #[] 150) := ⟨_, rfl⟩
    have HU : Hid (Upd [] w W) := by rw [hW]; exact hU1.alloc _
    rw [← hW]
    clear hW hm0 hmk
    go_loopw [6, 7, 8] (fun k _ _ wq => k = .int .i64 0 ∧ Upd [] w wq) (fun _ _ _ _ => 0)
    case atStart => exact ⟨rfl, HU.out⟩
    case round =>
      obtain ⟨rfl, hUq⟩ := hrel
      go_wp2_with fail
      go_loopw [9, 10] (fun k _ wz => k = .int .i64 0 ∧ Upd [] w wz) (fun _ _ _ => 0)
      case atStart => exact ⟨rfl, hUq⟩
      case round =>
        obtain ⟨rfl, hU2⟩ := hrel
        go_wp2_with fail
        go_loopw [11, 12, 13] (fun k _ _ wz => k = .int .i64 0 ∧ Upd [] w wz) (fun _ _ _ _ => 0)
        case atStart => exact ⟨rfl, hU2⟩
        case round =>
          obtain ⟨rfl, hU3⟩ := hrel
          go_wp2_with fail
          go_loopw [14, 15] (fun k _ wz => k = .int .i64 0 ∧ Upd [] w wz) (fun _ _ _ => 0)
          case atStart => exact ⟨rfl, hU3⟩
          case round =>
            obtain ⟨rfl, hU4⟩ := hrel
            go_wp2
            go_ret
            exact ⟨rfl, hU4⟩

set_option maxHeartbeats 2000000 in
set_option maxRecDepth 100000 in
theorem flatPrograms_nil (w : World) : Calls Tryz.prog 49 #[.slice none 0 0] w fun e w' => e = .returned (.bool true) ∧ Upd [] w w' := by
  have hmk := make0 (t := 74) (e := 155) Tryz.underlying74 (by kernel_rfl)
  go_enter Tryz.func49, Tryz.ntmps49
  go_wp2_with fail
  go_loopw [3, 4] (fun k _ wr => k = .int .i64 0 ∧ Upd [] w wr) (fun _ _ _ => 0)
  case atStart => exact ⟨rfl, Upd.refl _ _⟩
  case round =>
    obtain ⟨rfl, hU1⟩ := hrel
    have hm0 := hmk wr
    go_wp2_with fail
    obtain ⟨W, hW⟩ : ∃ W, W = wr.alloc (.cells #[] 155) := ⟨_, rfl⟩
    have HU : Hid (Upd [] w W) := by rw [hW]; exact hU1.alloc _
    rw [← hW]
    clear hW hm0 hmk
    go_loopw [6, 7, 8] (fun k _ _ wq => k = .int .i64 0 ∧ Upd [] w wq) (fun _ _ _ _ => 0)
    case atStart => exact ⟨rfl, HU.out⟩
    case round =>
      obtain ⟨rfl, hUq⟩ := hrel
      go_wp2_with fail
      go_loopw [9, 10] (fun k _ wz => k = .int .i64 0 ∧ Upd [] w wz) (fun _ _ _ => 0)
      case atStart => exact ⟨rfl, hUq⟩
      case round =>
        obtain ⟨rfl, hU2⟩ := hrel
        go_wp2_with fail
        go_loopw [11, 12, 13] (fun k _ _ wz => k = .int .i64 0 ∧ Upd [] w wz) (fun _ _ _ _ => 0)
        case atStart => exact ⟨rfl, hU2⟩
        case round =>
          obtain ⟨rfl, hU3⟩ := hrel
          go_wp2_with fail
          go_loopw [14, 15] (fun k _ wz => k = .int .i64 0 ∧ Upd [] w wz) (fun _ _ _ => 0)
          case atStart => exact ⟨rfl, hU3⟩
          case round =>
            obtain ⟨rfl, hU4⟩ := hrel
            go_wp2
            go_ret
            exact ⟨rfl, hU4⟩

set_option maxHeartbeats 2000000 in
set_option maxRecDepth 100000 in
theorem flatInstrs_nil (w : World) : Calls Tryz.prog 50 #[.slice none 0 0] w fun e w' => e = .returned (.bool true) ∧ Upd [] w w' := by
  have hmk := make0 (t := 75) (e := 160) Tryz.underlying75 (by kernel_rfl)
  go_enter Tryz.func50, Tryz.ntmps50
  go_wp2_with fail
  go_loopw [3, 4] (fun k _ wr => k = .int .i64 0 ∧ Upd [] w wr) (fun _ _ _ => 0)
  case atStart => exact ⟨rfl, Upd.refl _ _⟩
  case round =>
    obtain ⟨rfl, hU1⟩ := hrel
    have hm0 := hmk wr
    go_wp2_with fail
    obtain ⟨W, hW⟩ : ∃ W, W = wr.alloc (.cells #[] 160) := ⟨_, rfl⟩
    have HU : Hid (Upd [] w W) := by rw [hW]; exact hU1.alloc _
    rw [← hW]
    clear hW hm0 hmk
    go_loopw [6, 7, 8] (fun k _ _ wq => k = .int .i64 0 ∧ Upd [] w wq) (fun _ _ _ _ => 0)
    case atStart => exact ⟨rfl, HU.out⟩
    case round =>
      obtain ⟨rfl, hUq⟩ := hrel
      go_wp2_with fail
      go_loopw [9, 10] (fun k _ wz => k = .int .i64 0 ∧ Upd [] w wz) (fun _ _ _ => 0)
      case atStart => exact ⟨rfl, hUq⟩
      case round =>
        obtain ⟨rfl, hU2⟩ := hrel
        go_wp2_with fail
        go_loopw [11, 12, 13] (fun k _ _ wz => k = .int .i64 0 ∧ Upd [] w wz) (fun _ _ _ _ => 0)
        case atStart => exact ⟨rfl, hU2⟩
        case round =>
          obtain ⟨rfl, hU3⟩ := hrel
          go_wp2_with fail
          go_loopw [14, 15] (fun k _ wz => k = .int .i64 0 ∧ Upd [] w wz) (fun _ _ _ => 0)
          case atStart => exact ⟨rfl, hU3⟩
          case round =>
            obtain ⟨rfl, hU4⟩ := hrel
            go_wp2
            go_ret
            exact ⟨rfl, hU4⟩

set_option maxHeartbeats 2000000 in
set_option maxRecDepth 100000 in
theorem flatEntries_nil (w : World) : Calls Tryz.prog 51 #[.slice none 0 0] w fun e w' => e = .returned (.bool true) ∧ Upd [] w w' := by
  have hmk := make0 (t := 76) (e := 166) Tryz.underlying76 (by kernel_rfl)
  go_enter Tryz.func51, Tryz.ntmps51
  go_wp2_with fail
  go_loopw [3, 4] (fun k _ wr => k = .int .i64 0 ∧ Upd [] w wr) (fun _ _ _ => 0)
  case atStart => exact ⟨rfl, Upd.refl _ _⟩
  case round =>
    obtain ⟨rfl, hU1⟩ := hrel
    have hm0 := hmk wr
    go_wp2_with fail
    obtain ⟨W, hW⟩ : ∃ W, W = wr.alloc (.cells #[] 166) := ⟨_, rfl⟩
    have HU : Hid (Upd [] w W) := by rw [hW]; exact hU1.alloc _
    rw [← hW]
    clear hW hm0 hmk
    go_loopw [6, 7, 8] (fun k _ _ wq => k = .int .i64 0 ∧ Upd [] w wq) (fun _ _ _ _ => 0)
    case atStart => exact ⟨rfl, HU.out⟩
    case round =>
      obtain ⟨rfl, hUq⟩ := hrel
      go_wp2_with fail
      go_loopw [9, 10] (fun k _ wz => k = .int .i64 0 ∧ Upd [] w wz) (fun _ _ _ => 0)
      case atStart => exact ⟨rfl, hUq⟩
      case round =>
        obtain ⟨rfl, hU2⟩ := hrel
        go_wp2_with fail
        go_loopw [11, 12, 13] (fun k _ _ wz => k = .int .i64 0 ∧ Upd [] w wz) (fun _ _ _ _ => 0)
        case atStart => exact ⟨rfl, hU2⟩
        case round =>
          obtain ⟨rfl, hU3⟩ := hrel
          go_wp2_with fail
          go_loopw [14, 15] (fun k _ wz => k = .int .i64 0 ∧ Upd [] w wz) (fun _ _ _ => 0)
          case atStart => exact ⟨rfl, hU3⟩
          case round =>
            obtain ⟨rfl, hU4⟩ := hrel
            go_wp2
            go_ret
            exact ⟨rfl, hU4⟩

end Go.Proofs.YtpojkmpimnnjiaaGreat
