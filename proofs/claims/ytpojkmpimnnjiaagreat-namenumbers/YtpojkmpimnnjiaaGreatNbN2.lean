/- The kit's flat.. of no lists at all. -/
import Derived.Test.YtpojkmpimnnjiaaGreatNbN0
import Derived.Laws.MakeOwn
namespace Go.Proofs.YtpojkmpimnnjiaaGreat
open Go.RowKit

set_option maxHeartbeats 2000000 in
set_option maxRecDepth 100000 in
theorem flatBytes_nil (w : World) : Calls Tryz.prog 42 #[.slice none 0 0] w fun e w' => e = .returned (.bool true) ∧ Upd [] w w' := by
  have hmk := make0 (t := 67) (e := 120) Tryz.underlying67 (by kernel_rfl)
  go_enter Tryz.func42, Tryz.ntmps42
  go_wp2_with fail
  go_loopw [3, 4] (fun k _ wr => k = .int .i64 0 ∧ Upd [] w wr) (fun _ _ _ => 0)
  case atStart => exact ⟨rfl, Upd.refl _ _⟩
  case round =>
    obtain ⟨rfl, hU1⟩ := hrel
    have hm0 := hmk wr
    go_wp2_with fail
    obtain ⟨W, hW⟩ : ∃ W, W = wr.alloc (.cells #[] 120) := ⟨_, rfl⟩
    have HU : Hid (Upd [] w W) := by rw [hW]; exact hU1.alloc _
    rw [← hW]
    clear hW hm0 hmk
    go_loopw [6, 7, 8] (fun k _ _ wq => k = .int .i64 0 ∧ Upd [] w wq) (fun _ _ _ _ => 0)
    case atStart => exact ⟨rfl, HU.out⟩
    case round =>
      obtain ⟨rfl, hUq⟩ := hrel
      go_wp2_with fail
      go_loopw [9, 10] (fun k _ wz => k = .int .i64 0 ∧ Upd [] w wz) (fun _ _ _ => 0)
      case atStart => exact ⟨rfl, hUq⟩
      case round =>
        obtain ⟨rfl, hU2⟩ := hrel
        go_wp2_with fail
        go_loopw [11, 12, 13] (fun k _ _ wz => k = .int .i64 0 ∧ Upd [] w wz) (fun _ _ _ _ => 0)
        case atStart => exact ⟨rfl, hU2⟩
        case round =>
          obtain ⟨rfl, hU3⟩ := hrel
          go_wp2_with fail
          go_loopw [14, 15] (fun k _ wz => k = .int .i64 0 ∧ Upd [] w wz) (fun _ _ _ => 0)
          case atStart => exact ⟨rfl, hU3⟩
          case round =>
            obtain ⟨rfl, hU4⟩ := hrel
            go_wp2
            go_ret
            exact ⟨rfl, hU4⟩

set_option maxHeartbeats 2000000 in
set_option maxRecDepth 100000 in
theorem flatFaults_nil (w : World) : Calls Tryz.prog 43 #[.slice none 0 0] w fun e w' => e = .returned (.bool true) ∧ Upd [] w w' := by
  have hmk := make0 (t := 68) (e := 122) Tryz.underlying68 (by kernel_rfl)
  go_enter Tryz.func43, Tryz.ntmps43
  go_wp2_with fail
  go_loopw [3, 4] (fun k _ wr => k = .int .i64 0 ∧ Upd [] w wr) (fun _ _ _ => 0)
  case atStart => exact ⟨rfl, Upd.refl _ _⟩
  case round =>
    obtain ⟨rfl, hU1⟩ := hrel
    have hm0 := hmk wr
    go_wp2_with fail
    obtain ⟨W, hW⟩ : ∃ W, W = wr.alloc (.cells #[] 122) := ⟨_, rfl⟩
    have HU : Hid (Upd [] w W) := by rw [hW]; exact hU1.alloc _
    rw [← hW]
    clear hW hm0 hmk
    go_loopw [6, 7, 8] (fun k _ _ wq => k = .int .i64 0 ∧ Upd [] w wq) (fun _ _ _ _ => 0)
    case atStart => exact ⟨rfl, HU.out⟩
    case round =>
      obtain ⟨rfl, hUq⟩ := hrel
      go_wp2_with fail
      go_loopw [9, 10] (fun k _ wz => k = .int .i64 0 ∧ Upd [] w wz) (fun _ _ _ => 0)
      case atStart => exact ⟨rfl, hUq⟩
      case round =>
        obtain ⟨rfl, hU2⟩ := hrel
        go_wp2_with fail
        go_loopw [11, 12, 13] (fun k _ _ wz => k = .int .i64 0 ∧ Upd [] w wz) (fun _ _ _ _ => 0)
        case atStart => exact ⟨rfl, hU2⟩
        case round =>
          obtain ⟨rfl, hU3⟩ := hrel
          go_wp2_with fail
          go_loopw [14, 15] (fun k _ wz => k = .int .i64 0 ∧ Upd [] w wz) (fun _ _ _ => 0)
          case atStart => exact ⟨rfl, hU3⟩
          case round =>
            obtain ⟨rfl, hU4⟩ := hrel
            go_wp2
            go_ret
            exact ⟨rfl, hU4⟩

set_option maxHeartbeats 2000000 in
set_option maxRecDepth 100000 in
theorem flatTerms_nil (w : World) : Calls Tryz.prog 44 #[.slice none 0 0] w fun e w' => e = .returned (.bool true) ∧ Upd [] w w' := by
  have hmk := make0 (t := 69) (e := 127) Tryz.underlying69 (by kernel_rfl)
  go_enter Tryz.func44, Tryz.ntmps44
  go_wp2_with fail
  go_loopw [3, 4] (fun k _ wr => k = .int .i64 0 ∧ Upd [] w wr) (fun _ _ _ => 0)
  case atStart => exact ⟨rfl, Upd.refl _ _⟩
  case round =>
    obtain ⟨rfl, hU1⟩ := hrel
    have hm0 := hmk wr
    go_wp2_with fail
    obtain ⟨W, hW⟩ : ∃ W, W = wr.alloc (.cells #[] 127) := ⟨_, rfl⟩
    have HU : Hid (Upd [] w W) := by rw [hW]; exact hU1.alloc _
    rw [← hW]
    clear hW hm0 hmk
    go_loopw [6, 7, 8] (fun k _ _ wq => k = .int .i64 0 ∧ Upd [] w wq) (fun _ _ _ _ => 0)
    case atStart => exact ⟨rfl, HU.out⟩
    case round =>
      obtain ⟨rfl, hUq⟩ := hrel
      go_wp2_with fail
      go_loopw [9, 10] (fun k _ wz => k = .int .i64 0 ∧ Upd [] w wz) (fun _ _ _ => 0)
      case atStart => exact ⟨rfl, hUq⟩
      case round =>
        obtain ⟨rfl, hU2⟩ := hrel
        go_wp2_with fail
        go_loopw [11, 12, 13] (fun k _ _ wz => k = .int .i64 0 ∧ Upd [] w wz) (fun _ _ _ _ => 0)
        case atStart => exact ⟨rfl, hU2⟩
        case round =>
          obtain ⟨rfl, hU3⟩ := hrel
          go_wp2_with fail
          go_loopw [14, 15] (fun k _ wz => k = .int .i64 0 ∧ Upd [] w wz) (fun _ _ _ => 0)
          case atStart => exact ⟨rfl, hU3⟩
          case round =>
            obtain ⟨rfl, hU4⟩ := hrel
            go_wp2
            go_ret
            exact ⟨rfl, hU4⟩

set_option maxHeartbeats 2000000 in
set_option maxRecDepth 100000 in
theorem flatTokens_nil (w : World) : Calls Tryz.prog 45 #[.slice none 0 0] w fun e w' => e = .returned (.bool true) ∧ Upd [] w w' := by
  have hmk := make0 (t := 70) (e := 133) Tryz.underlying70 (by kernel_rfl)
  go_enter Tryz.func45, Tryz.ntmps45
  go_wp2_with fail
  go_loopw [3, 4] (fun k _ wr => k = .int .i64 0 ∧ Upd [] w wr) (fun _ _ _ => 0)
  case atStart => exact ⟨rfl, Upd.refl _ _⟩
  case round =>
    obtain ⟨rfl, hU1⟩ := hrel
    have hm0 := hmk wr
    go_wp2_with fail
    obtain ⟨W, hW⟩ : ∃ W, W = wr.alloc (.cells #[] 133) := ⟨_, rfl⟩
    have HU : Hid (Upd [] w W) := by rw [hW]; exact hU1.alloc _
    rw [← hW]
    clear hW hm0 hmk
    go_loopw [6, 7, 8] (fun k _ _ wq => k = .int .i64 0 ∧ Upd [] w wq) (fun _ _ _ _ => 0)
    case atStart => exact ⟨rfl, HU.out⟩
    case round =>
      obtain ⟨rfl, hUq⟩ := hrel
      go_wp2_with fail
      go_loopw [9, 10] (fun k _ wz => k = .int .i64 0 ∧ Upd [] w wz) (fun _ _ _ => 0)
      case atStart => exact ⟨rfl, hUq⟩
      case round =>
        obtain ⟨rfl, hU2⟩ := hrel
        go_wp2_with fail
        go_loopw [11, 12, 13] (fun k _ _ wz => k = .int .i64 0 ∧ Upd [] w wz) (fun _ _ _ _ => 0)
        case atStart => exact ⟨rfl, hU2⟩
        case round =>
          obtain ⟨rfl, hU3⟩ := hrel
          go_wp2_with fail
          go_loopw [14, 15] (fun k _ wz => k = .int .i64 0 ∧ Upd [] w wz) (fun _ _ _ => 0)
          case atStart => exact ⟨rfl, hU3⟩
          case round =>
            obtain ⟨rfl, hU4⟩ := hrel
            go_wp2
            go_ret
            exact ⟨rfl, hU4⟩

set_option maxHeartbeats 2000000 in
set_option maxRecDepth 100000 in
theorem flatNodes_nil (w : World) : Calls Tryz.prog 46 #[.slice none 0 0] w fun e w' => e = .returned (.bool true) ∧ Upd [] w w' := by
  have hmk := make0 (t := 71) (e := 138) Tryz.underlying71 (by kernel_rfl)
  go_enter Tryz.func46, Tryz.ntmps46
  go_wp2_with fail
  go_loopw [3, 4] (fun k _ wr => k = .int .i64 0 ∧ Upd [] w wr) (fun _ _ _ => 0)
  case atStart => exact ⟨rfl, Upd.refl _ _⟩
  case round =>
    obtain ⟨rfl, hU1⟩ := hrel
    have hm0 := hmk wr
    go_wp2_with fail
    obtain ⟨W, hW⟩ : ∃ W, W = wr.alloc (.cells #[] 138) := ⟨_, rfl⟩
    have HU : Hid (Upd [] w W) := by rw [hW]; exact hU1.alloc _
    rw [← hW]
    clear hW hm0 hmk
    go_loopw [6, 7, 8] (fun k _ _ wq => k = .int .i64 0 ∧ Upd [] w wq) (fun _ _ _ _ => 0)
    case atStart => exact ⟨rfl, HU.out⟩
    case round =>
      obtain ⟨rfl, hUq⟩ := hrel
      go_wp2_with fail
      go_loopw [9, 10] (fun k _ wz => k = .int .i64 0 ∧ Upd [] w wz) (fun _ _ _ => 0)
      case atStart => exact ⟨rfl, hUq⟩
      case round =>
        obtain ⟨rfl, hU2⟩ := hrel
        go_wp2_with fail
        go_loopw [11, 12, 13] (fun k _ _ wz => k = .int .i64 0 ∧ Upd [] w wz) (fun _ _ _ _ => 0)
        case atStart => exact ⟨rfl, hU2⟩
        case round =>
          obtain ⟨rfl, hU3⟩ := hrel
          go_wp2_with fail
          go_loopw [14, 15] (fun k _ wz => k = .int .i64 0 ∧ Upd [] w wz) (fun _ _ _ => 0)
          case atStart => exact ⟨rfl, hU3⟩
          case round =>
            obtain ⟨rfl, hU4⟩ := hrel
            go_wp2
            go_ret
            exact ⟨rfl, hU4⟩

end Go.Proofs.YtpojkmpimnnjiaaGreat
