/- The kit's flat.. of no lists at all. -/
import Derived.Test.YtofcniodobjopaaGreatBgN0
import Derived.Laws.MakeOwn
namespace Go.Proofs.YtofcniodobjopaaGreat
open Go.RowKit

set_option maxHeartbeats 2000000 in
set_option maxRecDepth 100000 in
theorem flatLimbs_nil (w : World) : Calls Tryz.prog 38 #[.slice none 0 0] w fun e w' => e = .returned (.bool true) ∧ Upd [] w w' := by
  have hmk := make0 (t := 57) (e := 129) Tryz.underlying57 (by kernel_rfl)
  go_enter Tryz.func38, Tryz.ntmps38
  go_wp2_with fail
  go_loopw [3, 4] (fun k _ wr => k = .int .i64 0 ∧ Upd [] w wr) (fun _ _ _ => 0)
  case atStart => exact ⟨rfl, Upd.refl _ _⟩
  case round =>
    obtain ⟨rfl, hU1⟩ := hrel
    have hm0 := hmk wr
    go_wp2_with fail
    obtain ⟨W, hW⟩ : ∃ W, W = wr.alloc (.cells #[] 129) := ⟨_, rfl⟩
    have HU : Hid (Upd [] w W) := by rw [hW]; exact hU1.alloc _
    rw [← hW]
    clear hW hm0 hmk
    go_loopw [6, 7, 8] (fun k _ _ wq => k = .int .i64 0 ∧ Upd [] w wq) (fun _ _ _ _ => 0)
    case atStart => exact ⟨rfl, HU.out⟩
    case round =>
      obtain ⟨rfl, hUq⟩ := hrel
      go_wp2_with fail
      go_loopw [9, 10] (fun k _ wz => k = .int .i64 0 ∧ Upd [] w wz) (fun _ _ _ => 0)
      case atStart => exact ⟨rfl, hUq⟩
      case round =>
        obtain ⟨rfl, hU2⟩ := hrel
        go_wp2_with fail
        go_loopw [11, 12, 13] (fun k _ _ wz => k = .int .i64 0 ∧ Upd [] w wz) (fun _ _ _ _ => 0)
        case atStart => exact ⟨rfl, hU2⟩
        case round =>
          obtain ⟨rfl, hU3⟩ := hrel
          go_wp2_with fail
          go_loopw [14, 15] (fun k _ wz => k = .int .i64 0 ∧ Upd [] w wz) (fun _ _ _ => 0)
          case atStart => exact ⟨rfl, hU3⟩
          case round =>
            obtain ⟨rfl, hU4⟩ := hrel
            go_wp2
            go_ret
            exact ⟨rfl, hU4⟩

set_option maxHeartbeats 2000000 in
set_option maxRecDepth 100000 in
theorem flatWords_nil (w : World) : Calls Tryz.prog 39 #[.slice none 0 0] w fun e w' => e = .returned (.bool true) ∧ Upd [] w w' := by
  have hmk := make0 (t := 58) (e := 131) Tryz.underlying58 (by kernel_rfl)
  go_enter Tryz.func39, Tryz.ntmps39
  go_wp2_with fail
  go_loopw [3, 4] (fun k _ wr => k = .int .i64 0 ∧ Upd [] w wr) (fun _ _ _ => 0)
  case atStart => exact ⟨rfl, Upd.refl _ _⟩
  case round =>
    obtain ⟨rfl, hU1⟩ := hrel
    have hm0 := hmk wr
    go_wp2_with fail
    obtain ⟨W, hW⟩ : ∃ W, W = wr.alloc (.cells #[] 131) := ⟨_, rfl⟩
    have HU : Hid (Upd [] w W) := by rw [hW]; exact hU1.alloc _
    rw [← hW]
    clear hW hm0 hmk
    go_loopw [6, 7, 8] (fun k _ _ wq => k = .int .i64 0 ∧ Upd [] w wq) (fun _ _ _ _ => 0)
    case atStart => exact ⟨rfl, HU.out⟩
    case round =>
      obtain ⟨rfl, hUq⟩ := hrel
      go_wp2_with fail
      go_loopw [9, 10] (fun k _ wz => k = .int .i64 0 ∧ Upd [] w wz) (fun _ _ _ => 0)
      case atStart => exact ⟨rfl, hUq⟩
      case round =>
        obtain ⟨rfl, hU2⟩ := hrel
        go_wp2_with fail
        go_loopw [11, 12, 13] (fun k _ _ wz => k = .int .i64 0 ∧ Upd [] w wz) (fun _ _ _ _ => 0)
        case atStart => exact ⟨rfl, hU2⟩
        case round =>
          obtain ⟨rfl, hU3⟩ := hrel
          go_wp2_with fail
          go_loopw [14, 15] (fun k _ wz => k = .int .i64 0 ∧ Upd [] w wz) (fun _ _ _ => 0)
          case atStart => exact ⟨rfl, hU3⟩
          case round =>
            obtain ⟨rfl, hU4⟩ := hrel
            go_wp2
            go_ret
            exact ⟨rfl, hU4⟩

set_option maxHeartbeats 2000000 in
set_option maxRecDepth 100000 in
theorem flatInts_nil (w : World) : Calls Tryz.prog 40 #[.slice none 0 0] w fun e w' => e = .returned (.bool true) ∧ Upd [] w w' := by
  have hmk := make0 (t := 31) (e := 25) Tryz.underlying31 (by kernel_rfl)
  go_enter Tryz.func40, Tryz.ntmps40
  go_wp2_with fail
  go_loopw [3, 4] (fun k _ wr => k = .int .i64 0 ∧ Upd [] w wr) (fun _ _ _ => 0)
  case atStart => exact ⟨rfl, Upd.refl _ _⟩
  case round =>
    obtain ⟨rfl, hU1⟩ := hrel
    have hm0 := hmk wr
    go_wp2_with fail
    obtain ⟨W, hW⟩ : ∃ W, W = wr.alloc (.cells #[] 25) := ⟨_, rfl⟩
    have HU : Hid (Upd [] w W) := by rw [hW]; exact hU1.alloc _
    rw [← hW]
    clear hW hm0 hmk
    go_loopw [6, 7, 8] (fun k _ _ wq => k = .int .i64 0 ∧ Upd [] w wq) (fun _ _ _ _ => 0)
    case atStart => exact ⟨rfl, HU.out⟩
    case round =>
      obtain ⟨rfl, hUq⟩ := hrel
      go_wp2_with fail
      go_loopw [9, 10] (fun k _ wz => k = .int .i64 0 ∧ Upd [] w wz) (fun _ _ _ => 0)
      case atStart => exact ⟨rfl, hUq⟩
      case round =>
        obtain ⟨rfl, hU2⟩ := hrel
        go_wp2_with fail
        go_loopw [11, 12, 13] (fun k _ _ wz => k = .int .i64 0 ∧ Upd [] w wz) (fun _ _ _ _ => 0)
        case atStart => exact ⟨rfl, hU2⟩
        case round =>
          obtain ⟨rfl, hU3⟩ := hrel
          go_wp2_with fail
          go_loopw [14, 15] (fun k _ wz => k = .int .i64 0 ∧ Upd [] w wz) (fun _ _ _ => 0)
          case atStart => exact ⟨rfl, hU3⟩
          case round =>
            obtain ⟨rfl, hU4⟩ := hrel
            go_wp2
            go_ret
            exact ⟨rfl, hU4⟩

set_option maxHeartbeats 2000000 in
set_option maxRecDepth 100000 in
theorem flatLongs_nil (w : World) : Calls Tryz.prog 41 #[.slice none 0 0] w fun e w' => e = .returned (.bool true) ∧ Upd [] w w' := by
  have hmk := make0 (t := 59) (e := 133) Tryz.underlying59 (by kernel_rfl)
  go_enter Tryz.func41, Tryz.ntmps41
  go_wp2_with fail
  go_loopw [3, 4] (fun k _ wr => k = .int .i64 0 ∧ Upd [] w wr) (fun _ _ _ => 0)
  case atStart => exact ⟨rfl, Upd.refl _ _⟩
  case round =>
    obtain ⟨rfl, hU1⟩ := hrel
    have hm0 := hmk wr
    go_wp2_with fail
    obtain ⟨W, hW⟩ : ∃ W, W = wr.alloc (.cells #[] 133) := ⟨_, rfl⟩
    have HU : Hid (Upd [] w W) := by rw [hW]; exact hU1.alloc _
    rw [← hW]
    clear hW hm0 hmk
    go_loopw [6, 7, 8] (fun k _ _ wq => k = .int .i64 0 ∧ Upd [] w wq) (fun _ _ _ _ => 0)
    case atStart => exact ⟨rfl, HU.out⟩
    case round =>
      obtain ⟨rfl, hUq⟩ := hrel
      go_wp2_with fail
      go_loopw [9, 10] (fun k _ wz => k = .int .i64 0 ∧ Upd [] w wz) (fun _ _ _ => 0)
      case atStart => exact ⟨rfl, hUq⟩
      case round =>
        obtain ⟨rfl, hU2⟩ := hrel
        go_wp2_with fail
        go_loopw [11, 12, 13] (fun k _ _ wz => k = .int .i64 0 ∧ Upd [] w wz) (fun _ _ _ _ => 0)
        case atStart => exact ⟨rfl, hU2⟩
        case round =>
          obtain ⟨rfl, hU3⟩ := hrel
          go_wp2_with fail
          go_loopw [14, 15] (fun k _ wz => k = .int .i64 0 ∧ Upd [] w wz) (fun _ _ _ => 0)
          case atStart => exact ⟨rfl, hU3⟩
          case round =>
            obtain ⟨rfl, hU4⟩ := hrel
            go_wp2
            go_ret
            exact ⟨rfl, hU4⟩

set_option maxHeartbeats 2000000 in
set_option maxRecDepth 100000 in
theorem flatTexts_nil (w : World) : Calls Tryz.prog 42 #[.slice none 0 0] w fun e w' => e = .returned (.bool true) ∧ Upd [] w w' := by
  have hmk := make0 (t := 60) (e := 134) Tryz.underlying60 (by kernel_rfl)
  go_enter Tryz.func42, Tryz.ntmps42
  go_wp2_with fail
  go_loopw [3, 4] (fun k _ wr => k = .int .i64 0 ∧ Upd [] w wr) (fun _ _ _ => 0)
  case atStart => exact ⟨rfl, Upd.refl _ _⟩
  case round =>
    obtain ⟨rfl, hU1⟩ := hrel
    have hm0 := hmk wr
    go_wp2_with fail
    obtain ⟨W, hW⟩ : ∃ W, W = wr.alloc (.cells #[] 134) := ⟨_, rfl⟩
    have HU : Hid (Upd [] w W) := by rw [hW]; exact hU1.alloc _
    rw [← hW]
    clear hW hm0 hmk
    go_loopw [6, 7, 8] (fun k _ _ wq => k = .int .i64 0 ∧ Upd [] w wq) (fun _ _ _ _ => 0)
    case atStart => exact ⟨rfl, HU.out⟩
    case round =>
      obtain ⟨rfl, hUq⟩ := hrel
      go_wp2_with fail
      go_loopw [9, 10] (fun k _ wz => k = .int .i64 0 ∧ Upd [] w wz) (fun _ _ _ => 0)
      case atStart => exact ⟨rfl, hUq⟩
      case round =>
        obtain ⟨rfl, hU2⟩ := hrel
        go_wp2_with fail
        go_loopw [11, 12, 13] (fun k _ _ wz => k = .int .i64 0 ∧ Upd [] w wz) (fun _ _ _ _ => 0)
        case atStart => exact ⟨rfl, hU2⟩
        case round =>
          obtain ⟨rfl, hU3⟩ := hrel
          go_wp2_with fail
          go_loopw [14, 15] (fun k _ wz => k = .int .i64 0 ∧ Upd [] w wz) (fun _ _ _ => 0)
          case atStart => exact ⟨rfl, hU3⟩
          case round =>
            obtain ⟨rfl, hU4⟩ := hrel
            go_wp2
            go_ret
            exact ⟨rfl, hU4⟩

end Go.Proofs.YtofcniodobjopaaGreat
