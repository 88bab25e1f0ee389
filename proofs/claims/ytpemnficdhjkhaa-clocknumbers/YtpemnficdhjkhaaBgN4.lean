/- The kit's flat.. of no lists at all. -/
import Derived.Test.YtpemnficdhjkhaaBgN0
import Derived.Laws.MakeOwn
namespace Go.Proofs.Ytpemnficdhjkhaa
open Go.RowKit

set_option maxHeartbeats 2000000 in
set_option maxRecDepth 100000 in
theorem flatCodes_nil (w : World) : Calls Try.prog 46 #[.slice none 0 0] w fun e w' => e = .returned (.bool true) ∧ Upd [] w w' := by
  have hmk := make0 (t := 67) (e := 158) Try.underlying67 (by kernel_rfl)
  go_enter Try.func46, Try.ntmps46
  go_wp2_with fail
  go_loopw [3, 4] (fun k _ wr => k = .int .i64 0 ∧ Upd [] w wr) (fun _ _ _ => 0)
  case atStart => exact ⟨rfl, Upd.refl _ _⟩
  case round =>
    obtain ⟨rfl, hU1⟩ := hrel
    have hm0 := hmk wr
    go_wp2_with fail
    obtain ⟨W, hW⟩ : ∃ W, W = wr.alloc (.cells #[] 158) := ⟨_, rfl⟩
    have HU : Hid (Upd [] w W) := by rw [hW]; exact hU1.alloc _
    rw [← hW]
    clear hW hm0 hmk
    go_loopw [6, 7, 8] (fun k _ _ wq => k = .int .i64 0 ∧ Upd [] w wq) (fun _ _ _ _ => 0)
    case atStart => exact ⟨rfl, HU.out⟩
    case round =>
      obtain ⟨rfl, hUq⟩ := hrel
      go_wp2_with fail
      go_loopw [9, 10] (fun k _ wz => k = .int .i64 0 ∧ Upd [] w wz) (fun _ _ _ => 0)
      case atStart => exact ⟨rfl, hUq⟩
      case round =>
        obtain ⟨rfl, hU2⟩ := hrel
        go_wp2_with fail
        go_loopw [11, 12, 13] (fun k _ _ wz => k = .int .i64 0 ∧ Upd [] w wz) (fun _ _ _ _ => 0)
        case atStart => exact ⟨rfl, hU2⟩
        case round =>
          obtain ⟨rfl, hU3⟩ := hrel
          go_wp2_with fail
          go_loopw [14, 15] (fun k _ wz => k = .int .i64 0 ∧ Upd [] w wz) (fun _ _ _ => 0)
          case atStart => exact ⟨rfl, hU3⟩
          case round =>
            obtain ⟨rfl, hU4⟩ := hrel
            go_wp2
            go_ret
            exact ⟨rfl, hU4⟩

set_option maxHeartbeats 2000000 in
set_option maxRecDepth 100000 in
theorem flatSteps_nil (w : World) : Calls Try.prog 47 #[.slice none 0 0] w fun e w' => e = .returned (.bool true) ∧ Upd [] w w' := by
  have hmk := make0 (t := 68) (e := 163) Try.underlying68 (by kernel_rfl)
  go_enter Try.func47, Try.ntmps47
  go_wp2_with fail
  go_loopw [3, 4] (fun k _ wr => k = .int .i64 0 ∧ Upd [] w wr) (fun _ _ _ => 0)
  case atStart => exact ⟨rfl, Upd.refl _ _⟩
  case round =>
    obtain ⟨rfl, hU1⟩ := hrel
    have hm0 := hmk wr
    go_wp2_with fail
    obtain ⟨W, hW⟩ : ∃ W, W = wr.alloc (.cells #[] 163) := ⟨_, rfl⟩
    have HU : Hid (Upd [] w W) := by rw [hW]; exact hU1.alloc _
    rw [← hW]
    clear hW hm0 hmk
    go_loopw [6, 7, 8] (fun k _ _ wq => k = .int .i64 0 ∧ Upd [] w wq) (fun _ _ _ _ => 0)
    case atStart => exact ⟨rfl, HU.out⟩
    case round =>
      obtain ⟨rfl, hUq⟩ := hrel
      go_wp2_with fail
      go_loopw [9, 10] (fun k _ wz => k = .int .i64 0 ∧ Upd [] w wz) (fun _ _ _ => 0)
      case atStart => exact ⟨rfl, hUq⟩
      case round =>
        obtain ⟨rfl, hU2⟩ := hrel
        go_wp2_with fail
        go_loopw [11, 12, 13] (fun k _ _ wz => k = .int .i64 0 ∧ Upd [] w wz) (fun _ _ _ _ => 0)
        case atStart => exact ⟨rfl, hU2⟩
        case round =>
          obtain ⟨rfl, hU3⟩ := hrel
          go_wp2_with fail
          go_loopw [14, 15] (fun k _ wz => k = .int .i64 0 ∧ Upd [] w wz) (fun _ _ _ => 0)
          case atStart => exact ⟨rfl, hU3⟩
          case round =>
            obtain ⟨rfl, hU4⟩ := hrel
            go_wp2
            go_ret
            exact ⟨rfl, hU4⟩

set_option maxHeartbeats 2000000 in
set_option maxRecDepth 100000 in
theorem flatEndeds_nil (w : World) : Calls Try.prog 48 #[.slice none 0 0] w fun e w' => e = .returned (.bool true) ∧ Upd [] w w' := by
  have hmk := make0 (t := 69) (e := 168) Try.underlying69 (by kernel_rfl)
  go_enter Try.func48, Try.ntmps48
  go_wp2_with fail
  go_loopw [3, 4] (fun k _ wr => k = .int .i64 0 ∧ Upd [] w wr) (fun _ _ _ => 0)
  case atStart => exact ⟨rfl, Upd.refl _ _⟩
  case round =>
    obtain ⟨rfl, hU1⟩ := hrel
    have hm0 := hmk wr
    go_wp2_with fail
    obtain ⟨W, hW⟩ : ∃ W, W = wr.alloc (.cells #[] 168) := ⟨_, rfl⟩
    have HU : Hid (Upd [] w W) := by rw [hW]; exact hU1.alloc _
    rw [← hW]
    clear hW hm0 hmk
    go_loopw [6, 7, 8] (fun k _ _ wq => k = .int .i64 0 ∧ Upd [] w wq) (fun _ _ _ _ => 0)
    case atStart => exact ⟨rfl, HU.out⟩
    case round =>
      obtain ⟨rfl, hUq⟩ := hrel
      go_wp2_with fail
      go_loopw [9, 10] (fun k _ wz => k = .int .i64 0 ∧ Upd [] w wz) (fun _ _ _ => 0)
      case atStart => exact ⟨rfl, hUq⟩
      case round =>
        obtain ⟨rfl, hU2⟩ := hrel
        go_wp2_with fail
        go_loopw [11, 12, 13] (fun k _ _ wz => k = .int .i64 0 ∧ Upd [] w wz) (fun _ _ _ _ => 0)
        case atStart => exact ⟨rfl, hU2⟩
        case round =>
          obtain ⟨rfl, hU3⟩ := hrel
          go_wp2_with fail
          go_loopw [14, 15] (fun k _ wz => k = .int .i64 0 ∧ Upd [] w wz) (fun _ _ _ => 0)
          case atStart => exact ⟨rfl, hU3⟩
          case round =>
            obtain ⟨rfl, hU4⟩ := hrel
            go_wp2
            go_ret
            exact ⟨rfl, hU4⟩

set_option maxHeartbeats 2000000 in
set_option maxRecDepth 100000 in
theorem flatNameds_nil (w : World) : Calls Try.prog 49 #[.slice none 0 0] w fun e w' => e = .returned (.bool true) ∧ Upd [] w w' := by
  have hmk := make0 (t := 70) (e := 173) Try.underlying70 (by kernel_rfl)
  go_enter Try.func49, Try.ntmps49
  go_wp2_with fail
  go_loopw [3, 4] (fun k _ wr => k = .int .i64 0 ∧ Upd [] w wr) (fun _ _ _ => 0)
  case atStart => exact ⟨rfl, Upd.refl _ _⟩
  case round =>
    obtain ⟨rfl, hU1⟩ := hrel
    have hm0 := hmk wr
    go_wp2_with fail
    obtain ⟨W, hW⟩ : ∃ W, W = wr.alloc (.cells #[] 173) := ⟨_, rfl⟩
    have HU : Hid (Upd [] w W) := by rw [hW]; exact hU1.alloc _
    rw [← hW]
    clear hW hm0 hmk
    go_loopw [6, 7, 8] (fun k _ _ wq => k = .int .i64 0 ∧ Upd [] w wq) (fun _ _ _ _ => 0)
    case atStart => exact ⟨rfl, HU.out⟩
    case round =>
      obtain ⟨rfl, hUq⟩ := hrel
      go_wp2_with fail
      go_loopw [9, 10] (fun k _ wz => k = .int .i64 0 ∧ Upd [] w wz) (fun _ _ _ => 0)
      case atStart => exact ⟨rfl, hUq⟩
      case round =>
        obtain ⟨rfl, hU2⟩ := hrel
        go_wp2_with fail
        go_loopw [11, 12, 13] (fun k _ _ wz => k = .int .i64 0 ∧ Upd [] w wz) (fun _ _ _ _ => 0)
        case atStart => exact ⟨rfl, hU2⟩
        case round =>
          obtain ⟨rfl, hU3⟩ := hrel
          go_wp2_with fail
          go_loopw [14, 15] (fun k _ wz => k = .int .i64 0 ∧ Upd [] w wz) (fun _ _ _ => 0)
          case atStart => exact ⟨rfl, hU3⟩
          case round =>
            obtain ⟨rfl, hU4⟩ := hrel
            go_wp2
            go_ret
            exact ⟨rfl, hU4⟩

set_option maxHeartbeats 2000000 in
set_option maxRecDepth 100000 in
theorem flatSeens_nil (w : World) : Calls Try.prog 50 #[.slice none 0 0] w fun e w' => e = .returned (.bool true) ∧ Upd [] w w' := by
  have hmk := make0 (t := 71) (e := 177) Try.underlying71 (by kernel_rfl)
  go_enter Try.func50, Try.ntmps50
  go_wp2_with fail
  go_loopw [3, 4] (fun k _ wr => k = .int .i64 0 ∧ Upd [] w wr) (fun _ _ _ => 0)
  case atStart => exact ⟨rfl, Upd.refl _ _⟩
  case round =>
    obtain ⟨rfl, hU1⟩ := hrel
    have hm0 := hmk wr
    go_wp2_with fail
    obtain ⟨W, hW⟩ : ∃ W, W = wr.alloc (.cells #[] 177) := ⟨_, rfl⟩
    have HU : Hid (Upd [] w W) := by rw [hW]; exact hU1.alloc _
    rw [← hW]
    clear hW hm0 hmk
    go_loopw [6, 7, 8] (fun k _ _ wq => k = .int .i64 0 ∧ Upd [] w wq) (fun _ _ _ _ => 0)
    case atStart => exact ⟨rfl, HU.out⟩
    case round =>
      obtain ⟨rfl, hUq⟩ := hrel
      go_wp2_with fail
      go_loopw [9, 10] (fun k _ wz => k = .int .i64 0 ∧ Upd [] w wz) (fun _ _ _ => 0)
      case atStart => exact ⟨rfl, hUq⟩
      case round =>
        obtain ⟨rfl, hU2⟩ := hrel
        go_wp2_with fail
        go_loopw [11, 12, 13] (fun k _ _ wz => k = .int .i64 0 ∧ Upd [] w wz) (fun _ _ _ _ => 0)
        case atStart => exact ⟨rfl, hU2⟩
        case round =>
          obtain ⟨rfl, hU3⟩ := hrel
          go_wp2_with fail
          go_loopw [14, 15] (fun k _ wz => k = .int .i64 0 ∧ Upd [] w wz) (fun _ _ _ => 0)
          case atStart => exact ⟨rfl, hU3⟩
          case round =>
            obtain ⟨rfl, hU4⟩ := hrel
            go_wp2
            go_ret
            exact ⟨rfl, hU4⟩

end Go.Proofs.Ytpemnficdhjkhaa
