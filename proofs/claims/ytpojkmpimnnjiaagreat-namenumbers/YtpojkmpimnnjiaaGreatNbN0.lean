/- The kit's flat.. of no lists at all. -/
import Derived.Test.YtpojkmpimnnjiaaGreatBgC
import Derived.Laws.MakeOwn
namespace Go.Proofs.YtpojkmpimnnjiaaGreat
open Go.RowKit

theorem make0 {t e : TypeId} (ht : Tryz.prog.underlying t = some (.slice e)) (hinf : (Tryz.prog.info? e).map (fun i => (i.zero, i.size, i.bytes)) = some (some (.slice none 0 0), 1, 24)) (W : World) :
    (Instr.makeSlice t (.int .i64 0) (.int .i64 0)).run Tryz.prog W = .ok (.slice (some ⟨W.heap.size, 0, none⟩) 0 0) (W.alloc (.cells #[] e)) := by
  obtain ⟨i, hi, hz, hs, hb⟩ := info_parts hinf
  have h := run_make (P := Tryz.prog) W t e i (.slice none 0 0) ht hi hz .i64 .i64 0 0 (by omega) (by omega) (by rw [hb]; omega) (by omega)
  have hm : madeCells (Value.slice none 0 0).cells ((0 : Int).toNat * i.size) = #[] := by
    apply Array.eq_empty_of_size_eq_zero
    rw [size_madeCells]; simp
  rw [hm] at h
  simpa using h

end Go.Proofs.YtpojkmpimnnjiaaGreat
