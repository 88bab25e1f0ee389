/- The kit's flat.. of no lists at all. -/
import Derived.Test.YtalhbbabijlngaaGreatDoorJAH
import Derived.Laws.MakeOwn
namespace Go.Proofs.YtalhbbabijlngaaGreatDoor
open Go.RowKit
theorem make0 {t e : TypeId} (ht : Tryz.prog.underlying t = some (.slice e)) (hinf : (Tryz.prog.info? e).map (fun i => (i.zero, i.size, i.bytes)) = some (some (.slice none 0 0), 1, 24)) (W : World) :
  (Instr.makeSlice t (.int .i64 0) (.int .i64 0)).run Tryz.prog W = .ok (.slice (some ⟨W.heap.size, 0, none⟩) 0 0) (W.alloc (.cells #[] e)) := by
 obtain ⟨i, hi, hz, hs, hb⟩ := info_parts hinf
 have h := run_make (P := Tryz.prog) W t e i (.slice none 0 0) ht hi hz .i64 .i64 0 0 (by omega) (by omega) (by rw [hb]; omega) (by omega)
 have hm : madeCells (Value.slice none 0 0).cells ((0 : Int).toNat * i.size) = #[] := by
  apply Array.eq_empty_of_size_eq_zero
  rw [size_madeCells]; simp
 rw [hm] at h
 simpa using h
end Go.Proofs.YtalhbbabijlngaaGreatDoor
namespace Go.Proofs.YtalhbbabijlngaaGreatDoor
open Go.RowKit
set_option maxHeartbeats 2000000 in
set_option maxRecDepth 100000 in
theorem flatWords_nil (w : World) : Calls Tryz.prog 93 #[.slice none 0 0] w fun e w' => e = .returned (.bool true) ∧ Upd [] w w' := by
 have hmk := make0 (t := 71) (e := 156) Tryz.underlying71 (by kernel_rfl)
 go_enter Tryz.func93, Tryz.ntmps93
 go_wp2_with fail
 go_loopw [3, 4] (fun k _ wr => k = .int .i64 0 ∧ Upd [] w wr) (fun _ _ _ => 0)
 case atStart => exact ⟨rfl, Upd.refl _ _⟩
 case round =>
  obtain ⟨rfl, hU1⟩ := hrel
  have hm0 := hmk wr
  go_wp2_with fail
  obtain ⟨W, hW⟩ : ∃ W, W = wr.alloc (.cells #[] 156) := ⟨_, rfl⟩
  have HU : Hid (Upd [] w W) := by rw [hW]; exact hU1.alloc _
  rw [← hW]
  clear hW hm0 hmk
  go_loopw [6, 7, 8] (fun k _ _ wq => k = .int .i64 0 ∧ Upd [] w wq) (fun _ _ _ _ => 0)
  case atStart => exact ⟨rfl, HU.out⟩
  case round =>
   obtain ⟨rfl, hUq⟩ := hrel
   go_wp2_with fail
   go_loopw [9, 10] (fun k _ wz => k = .int .i64 0 ∧ Upd [] w wz) (fun _ _ _ => 0)
   case atStart => exact ⟨rfl, hUq⟩
   case round =>
    obtain ⟨rfl, hU2⟩ := hrel
    go_wp2_with fail
    go_loopw [11, 12, 13] (fun k _ _ wz => k = .int .i64 0 ∧ Upd [] w wz) (fun _ _ _ _ => 0)
    case atStart => exact ⟨rfl, hU2⟩
    case round =>
     obtain ⟨rfl, hU3⟩ := hrel
     go_wp2_with fail
     go_loopw [14, 15] (fun k _ wz => k = .int .i64 0 ∧ Upd [] w wz) (fun _ _ _ => 0)
     case atStart => exact ⟨rfl, hU3⟩
     case round =>
      obtain ⟨rfl, hU4⟩ := hrel
      go_wp2
      go_ret
      exact ⟨rfl, hU4⟩
set_option maxHeartbeats 2000000 in
set_option maxRecDepth 100000 in
theorem flatInts_nil (w : World) : Calls Tryz.prog 94 #[.slice none 0 0] w fun e w' => e = .returned (.bool true) ∧ Upd [] w w' := by
 have hmk := make0 (t := 72) (e := 157) Tryz.underlying72 (by kernel_rfl)
 go_enter Tryz.func94, Tryz.ntmps94
 go_wp2_with fail
 go_loopw [3, 4] (fun k _ wr => k = .int .i64 0 ∧ Upd [] w wr) (fun _ _ _ => 0)
 case atStart => exact ⟨rfl, Upd.refl _ _⟩
 case round =>
  obtain ⟨rfl, hU1⟩ := hrel
  have hm0 := hmk wr
  go_wp2_with fail
  obtain ⟨W, hW⟩ : ∃ W, W = wr.alloc (.cells #[] 157) := ⟨_, rfl⟩
  have HU : Hid (Upd [] w W) := by rw [hW]; exact hU1.alloc _
  rw [← hW]
  clear hW hm0 hmk
  go_loopw [6, 7, 8] (fun k _ _ wq => k = .int .i64 0 ∧ Upd [] w wq) (fun _ _ _ _ => 0)
  case atStart => exact ⟨rfl, HU.out⟩
  case round =>
   obtain ⟨rfl, hUq⟩ := hrel
   go_wp2_with fail
   go_loopw [9, 10] (fun k _ wz => k = .int .i64 0 ∧ Upd [] w wz) (fun _ _ _ => 0)
   case atStart => exact ⟨rfl, hUq⟩
   case round =>
    obtain ⟨rfl, hU2⟩ := hrel
    go_wp2_with fail
    go_loopw [11, 12, 13] (fun k _ _ wz => k = .int .i64 0 ∧ Upd [] w wz) (fun _ _ _ _ => 0)
    case atStart => exact ⟨rfl, hU2⟩
    case round =>
     obtain ⟨rfl, hU3⟩ := hrel
     go_wp2_with fail
     go_loopw [14, 15] (fun k _ wz => k = .int .i64 0 ∧ Upd [] w wz) (fun _ _ _ => 0)
     case atStart => exact ⟨rfl, hU3⟩
     case round =>
      obtain ⟨rfl, hU4⟩ := hrel
      go_wp2
      go_ret
      exact ⟨rfl, hU4⟩
set_option maxHeartbeats 2000000 in
set_option maxRecDepth 100000 in
theorem flatLongs_nil (w : World) : Calls Tryz.prog 95 #[.slice none 0 0] w fun e w' => e = .returned (.bool true) ∧ Upd [] w w' := by
 have hmk := make0 (t := 73) (e := 158) Tryz.underlying73 (by kernel_rfl)
 go_enter Tryz.func95, Tryz.ntmps95
 go_wp2_with fail
 go_loopw [3, 4] (fun k _ wr => k = .int .i64 0 ∧ Upd [] w wr) (fun _ _ _ => 0)
 case atStart => exact ⟨rfl, Upd.refl _ _⟩
 case round =>
  obtain ⟨rfl, hU1⟩ := hrel
  have hm0 := hmk wr
  go_wp2_with fail
  obtain ⟨W, hW⟩ : ∃ W, W = wr.alloc (.cells #[] 158) := ⟨_, rfl⟩
  have HU : Hid (Upd [] w W) := by rw [hW]; exact hU1.alloc _
  rw [← hW]
  clear hW hm0 hmk
  go_loopw [6, 7, 8] (fun k _ _ wq => k = .int .i64 0 ∧ Upd [] w wq) (fun _ _ _ _ => 0)
  case atStart => exact ⟨rfl, HU.out⟩
  case round =>
   obtain ⟨rfl, hUq⟩ := hrel
   go_wp2_with fail
   go_loopw [9, 10] (fun k _ wz => k = .int .i64 0 ∧ Upd [] w wz) (fun _ _ _ => 0)
   case atStart => exact ⟨rfl, hUq⟩
   case round =>
    obtain ⟨rfl, hU2⟩ := hrel
    go_wp2_with fail
    go_loopw [11, 12, 13] (fun k _ _ wz => k = .int .i64 0 ∧ Upd [] w wz) (fun _ _ _ _ => 0)
    case atStart => exact ⟨rfl, hU2⟩
    case round =>
     obtain ⟨rfl, hU3⟩ := hrel
     go_wp2_with fail
     go_loopw [14, 15] (fun k _ wz => k = .int .i64 0 ∧ Upd [] w wz) (fun _ _ _ => 0)
     case atStart => exact ⟨rfl, hU3⟩
     case round =>
      obtain ⟨rfl, hU4⟩ := hrel
      go_wp2
      go_ret
      exact ⟨rfl, hU4⟩
set_option maxHeartbeats 2000000 in
set_option maxRecDepth 100000 in
theorem flatTexts_nil (w : World) : Calls Tryz.prog 96 #[.slice none 0 0] w fun e w' => e = .returned (.bool true) ∧ Upd [] w w' := by
 have hmk := make0 (t := 74) (e := 55) Tryz.underlying74 (by kernel_rfl)
 go_enter Tryz.func96, Tryz.ntmps96
 go_wp2_with fail
 go_loopw [3, 4] (fun k _ wr => k = .int .i64 0 ∧ Upd [] w wr) (fun _ _ _ => 0)
 case atStart => exact ⟨rfl, Upd.refl _ _⟩
 case round =>
  obtain ⟨rfl, hU1⟩ := hrel
  have hm0 := hmk wr
  go_wp2_with fail
  obtain ⟨W, hW⟩ : ∃ W, W = wr.alloc (.cells #[] 55) := ⟨_, rfl⟩
  have HU : Hid (Upd [] w W) := by rw [hW]; exact hU1.alloc _
  rw [← hW]
  clear hW hm0 hmk
  go_loopw [6, 7, 8] (fun k _ _ wq => k = .int .i64 0 ∧ Upd [] w wq) (fun _ _ _ _ => 0)
  case atStart => exact ⟨rfl, HU.out⟩
  case round =>
   obtain ⟨rfl, hUq⟩ := hrel
   go_wp2_with fail
   go_loopw [9, 10] (fun k _ wz => k = .int .i64 0 ∧ Upd [] w wz) (fun _ _ _ => 0)
   case atStart => exact ⟨rfl, hUq⟩
   case round =>
    obtain ⟨rfl, hU2⟩ := hrel
    go_wp2_with fail
    go_loopw [11, 12, 13] (fun k _ _ wz => k = .int .i64 0 ∧ Upd [] w wz) (fun _ _ _ _ => 0)
    case atStart => exact ⟨rfl, hU2⟩
    case round =>
     obtain ⟨rfl, hU3⟩ := hrel
     go_wp2_with fail
     go_loopw [14, 15] (fun k _ wz => k = .int .i64 0 ∧ Upd [] w wz) (fun _ _ _ => 0)
     case atStart => exact ⟨rfl, hU3⟩
     case round =>
      obtain ⟨rfl, hU4⟩ := hrel
      go_wp2
      go_ret
      exact ⟨rfl, hU4⟩
end Go.Proofs.YtalhbbabijlngaaGreatDoor
