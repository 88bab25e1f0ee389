/- cmp.Compare, strings.Compare, by their contracts. -/
import Derived.Test.YtnpocmhaoaigfaaGreatDoorSizD
import Derived.Lib.Bytealg
import Derived.Laws.Externs
namespace Go.Proofs.YtnpocmhaoaigfaaGreatDoor
open Go.RowKit

theorem cmpZ_lt {x y : Int} (h : x < y) : cmpZ x y = -1 := by unfold cmpZ; rw [if_pos h]
theorem cmpZ_gt {x y : Int} (h : y < x) : cmpZ x y = 1 := by unfold cmpZ; rw [if_neg (by omega), if_pos h]

set_option maxHeartbeats 400000 in
theorem cmpI_any (x y : Int) (w : World) :
    Calls Tryz.prog 41 #[.int .i64 x, .int .i64 y] w fun e w' => e = .returned (.int .i64 (cmpZ x y)) ∧ w' = w := by
  rcases Int.lt_trichotomy x y with h | h | h
  · rw [cmpZ_lt h]
    go_enter Tryz.func41, Tryz.ntmps41
    go_wp2
    go_ret
    exact ⟨rfl, rfl⟩
  · subst h
    rw [cmpZ_self]
    go_enter Tryz.func41, Tryz.ntmps41
    go_wp2
    go_ret
    exact ⟨rfl, rfl⟩
  · rw [cmpZ_gt h]
    go_enter Tryz.func41, Tryz.ntmps41
    go_wp2
    go_ret
    exact ⟨rfl, rfl⟩

set_option maxHeartbeats 400000 in
theorem cmpK_any (x y : Int) (w : World) :
    Calls Tryz.prog 37 #[.int .u8 x, .int .u8 y] w fun e w' => e = .returned (.int .i64 (cmpZ x y)) ∧ w' = w := by
  rcases Int.lt_trichotomy x y with h | h | h
  · rw [cmpZ_lt h]
    go_enter Tryz.func37, Tryz.ntmps37
    go_wp2
    go_ret
    exact ⟨rfl, rfl⟩
  · subst h
    rw [cmpZ_self]
    go_enter Tryz.func37, Tryz.ntmps37
    go_wp2
    go_ret
    exact ⟨rfl, rfl⟩
  · rw [cmpZ_gt h]
    go_enter Tryz.func37, Tryz.ntmps37
    go_wp2
    go_ret
    exact ⟨rfl, rfl⟩

theorem compare_lex (a b : List UInt8) : Lib.compareBytes a b = lexZ (a.map fun c => (c.toNat : Int)) (b.map fun c => (c.toNat : Int)) := by
  induction a generalizing b with
  | nil => cases b <;> rfl
  | cons x r ih =>
    cases b with
    | nil => rfl
    | cons y s =>
      simp only [Lib.compareBytes, List.map_cons, lexZ]
      by_cases h : x = y
      · subst h
        rw [if_neg (UInt8.lt_irrefl x), if_neg (UInt8.lt_irrefl x), if_pos rfl, ih]
      · have h2 : ¬ (x.toNat : Int) = (y.toNat : Int) := fun e => h (UInt8.toNat_inj.1 (by omega))
        rw [if_neg h2]
        by_cases hl : x < y
        · have := UInt8.lt_iff_toNat_lt.1 hl
          rw [if_pos hl, cmpZ_lt (by omega)]
        · have h3 : ¬ x.toNat < y.toNat := fun e => hl (UInt8.lt_iff_toNat_lt.2 e)
          rw [if_neg hl, if_pos (UInt8.lt_iff_toNat_lt.2 (by omega)), cmpZ_gt (by omega)]

theorem f_cmps : Tryz.prog.funcs[99]? = some Tryz.f99 := by kernel_rfl
theorem n_cmps : (Tryz.f99.name == "runtime.NumGoroutine") = false := by kernel_rfl
theorem b_cmps : Tryz.f99.body.isNone = true := by kernel_rfl
theorem x_cmps : Extern.findNext Tryz.f99 = none := by kernel_rfl
theorem e_cmps : Extern.find Tryz.f99 = some Extern.BytealgCompare.compare := by kernel_rfl
theorem run_cmps (a b : ByteArray) (w : World) : (callFunc 99 #[.string a, .string b]).run Tryz.prog w = .ok (.value (.int .i64 (lexZ (bz a) (bz b)))) w := by
  rw [run_callFunc_extern f_cmps n_cmps b_cmps x_cmps e_cmps, Lib.run_compareString, compare_lex]
  rfl

set_option maxHeartbeats 400000 in
theorem cmpS_any (a b : ByteArray) (w : World) :
    Calls Tryz.prog 39 #[.string a, .string b] w fun e w' => e = .returned (.int .i64 (lexZ (bz a) (bz b))) ∧ w' = w := by
  have hr := run_cmps a b w
  go_enter Tryz.func39, Tryz.ntmps39
  go_wp2
  go_ret
  exact ⟨rfl, rfl⟩

end Go.Proofs.YtnpocmhaoaigfaaGreatDoor
