/- Int, by its contract. -/
import Derived.Test.YtpeganecbjefoaaDoorAddT
import Derived.Deep.RegionWith
import Derived.Deep.RegionHeld3
namespace Go.Proofs.YtpeganecbjefoaaDoor
open Go.RowKit

theorem two_val (M : List Nat) (hl : M.length ≤ 2) : val M = M.getD 1 0 * 4294967296 + M.getD 0 0 := by
  match M, hl with
  | [], _ => simp [val]
  | [x], _ => simp [val]
  | [x, y], _ => simp [val]; omega
  | _ :: _ :: _ :: _, h => simp at h

theorem wrap_pos (S : Nat) (h : S < 9223372036854775808) : wrap64 (S : Int) = S := by unfold wrap64; omega
theorem wrap_neg (S : Nat) (h : S ≤ 9223372036854775808) : wrap64 (IntKind.u64.wrap (-(S : Int))) = sg true S := by
  rw [show sg true S = -(S : Int) from rfl, IntKind.wrap_u64]
  unfold wrap64
  by_cases h0 : S = 0
  · subst h0; rfl
  · have e : (-(S : Int)) % 18446744073709551616 = 18446744073709551616 - S := by omega
    rw [e]
    omega

/-- Whether an integer is one of 64 bits. -/
def isI64 (z : Int) : Bool := decide (-9223372036854775808 ≤ z ∧ z ≤ 9223372036854775807)

theorem big_val {M : List Nat} {n : Nat} (h : Norm M n) (hl : 2 < M.length) : 18446744073709551616 ≤ n := by
  rcases Nat.lt_or_ge n 18446744073709551616 with h1 | h1
  · have := (h.len_le 2).2 (by simpa using h1); omega
  · exact h1

set_option maxHeartbeats 2000000 in
set_option maxRecDepth 100000 in
/-- Int, of an integer of more than two limbs. -/
theorem Int_big (a ai at' : Option Addr) (c ci ct : Nat) (neg : Bool) (M : List Nat) (z : Int) (w : World) (HT : TI w neg a M z) (hl : 2 < M.length) :
    Calls Tryd.prog 16 #[.agg #[.int .u8 1, .bool neg, .slice a M.length c, .string ⟨#[]⟩, .int .i64 0, .slice ai 0 ci, .slice at' 0 ct]] w fun e w' => e = .returned (.tuple #[.int .i64 0, .bool false]) ∧ Upd [] w w' := by
  have HR : Hid (∀ W, Upd [] w W → _) := fun W hu => HT.right (W := W) ai at' c ci ct hu
  have h32 := HT.len
  have hd : decide ((M.length : Int) > 2) = true := by simp; omega
  clear HT
  go_enter Tryd.func16, Tryd.ntmps16
  go_wp2_with fail
  refine (HR.out _ (by repeat (first | exact Upd.refl _ _ | refine Upd.alloc ?_ _))).mono ?_
  rintro e w1 ⟨rfl, rfl⟩
  go_wp2
  go_ret2
  exact ⟨rfl, by repeat (first | exact Upd.refl _ _ | refine Upd.alloc ?_ _)⟩

set_option maxHeartbeats 2000000 in
set_option maxRecDepth 100000 in
/-- Int, of an integer of two limbs at most. -/
theorem Int_two (a ai at' : Option Addr) (c ci ct S x y : Nat) (neg : Bool) (M : List Nat) (z : Int) (w : World) (HT : TI w neg a M z) (hl : M.length ≤ 2) (hx : x = M.getD 0 0) (hy : y = M.getD 1 0) (hxl : x < 4294967296) (hyl : y < 4294967296) (hS : S = y * 4294967296 + x)
    (hz : sg neg S = z) :
    Calls Tryd.prog 16 #[.agg #[.int .u8 1, .bool neg, .slice a M.length c, .string ⟨#[]⟩, .int .i64 0, .slice ai 0 ci, .slice at' 0 ct]] w fun e w' => e = .returned (.tuple #[.int .i64 (if isI64 z then z else 0), .bool (isI64 z)]) ∧ Upd [] w w' := by
  have HR : Hid (∀ W, Upd [] w W → _) := fun W hu => HT.right (W := W) ai at' c ci ct hu
  have hor := or_shift y x hyl hxl
  rw [← hS] at hor
  have hSl : S < 18446744073709551616 := by omega
  have HL1 : Hid (∀ W, At W a M → Calls Tryd.prog 43 #[.slice a M.length c, .int .i64 1] W fun e w' => e = .returned (.int .u32 (y : Nat)) ∧ w' = W) := fun W h => by
    rw [hy]; exact limbAt_any a c 1 M W (by omega) h
  have HL0 : Hid (∀ W, At W a M → Calls Tryd.prog 43 #[.slice a M.length c, .int .i64 0] W fun e w' => e = .returned (.int .u32 (x : Nat)) ∧ w' = W) := fun W h => by
    rw [hx]; exact limbAt_any a c 0 M W (by omega) h
  have hd : decide ((M.length : Int) > 2) = false := by simp; omega
  have HM : Hid (At w a M) := HT.mem
  clear HT hx hy hS
  subst hz
  obtain ⟨R, hR⟩ : ∃ R, R = if isI64 (sg neg S) then sg neg S else 0 := ⟨_, rfl⟩
  obtain ⟨B, hB⟩ : ∃ B, B = isI64 (sg neg S) := ⟨_, rfl⟩
  rw [← hR, ← hB]
  have HRR : Hid _ := hR
  have HBB : Hid _ := hB
  clear hR hB
  go_enter Tryd.func16, Tryd.ntmps16
  go_wp2_with fail
  refine (HR.out _ (by repeat (first | exact Upd.refl _ _ | refine Upd.alloc ?_ _))).mono ?_
  rintro e w1 ⟨rfl, rfl⟩
  go_wp2_with fail
  go_region_with (first
    | (go_at_call_of 43 (Value.int .i64 1); refine (HL1.out _ ?_).mono ?_; (exact HM.out.mono (by repeat (first | exact Upd.refl _ _ | refine Upd.drew ?_ | refine Upd.alloc ?_ _))); rintro e w3 ⟨rfl, rfl⟩)
    | (go_at_call_of 43 (Value.int .i64 0); refine (HL0.out _ ?_).mono ?_; (exact HM.out.mono (by repeat (first | exact Upd.refl _ _ | refine Upd.drew ?_ | refine Upd.alloc ?_ _))); rintro e w3 ⟨rfl, rfl⟩))
  all_goals
    cases neg
    · by_cases h63 : S < 9223372036854775808
      · have hi : isI64 (sg false S) = true := by simp [isI64, sg]; omega
        have hlt : decide ((S : Int) < 9223372036854775808) = true := by simp; omega
        have HI : Hid _ := hi
        have HW : Hid _ := wrap_pos S h63
        clear h63 hi
        go_wp2
        go_ret2
        exact ⟨by rw [HRR.out, HBB.out, HI.out]; simp [sg]; exact HW.out, by repeat (first | exact Upd.refl _ _ | refine Upd.drew ?_ | refine Upd.alloc ?_ _)⟩
      · have hi : isI64 (sg false S) = false := by simp [isI64, sg]; omega
        have hlt : decide ((S : Int) < 9223372036854775808) = false := by simp; omega
        have HI : Hid _ := hi
        clear h63 hi
        go_wp2
        go_ret2
        exact ⟨by rw [HRR.out, HBB.out, HI.out]; simp, by repeat (first | exact Upd.refl _ _ | refine Upd.drew ?_ | refine Upd.alloc ?_ _)⟩
    · by_cases h63 : S ≤ 9223372036854775808
      · have hi : isI64 (sg true S) = true := by simp [isI64, sg]; omega
        have hlt : decide ((S : Int) ≤ 9223372036854775808) = true := by simp; omega
        have hwr : wrap64 (IntKind.u64.wrap (-(S : Int))) = sg true S := wrap_neg S h63
        have HI : Hid _ := hi
        have HW : Hid _ := hwr
        clear h63 hi hwr
        go_wp2
        go_ret2
        exact ⟨by rw [HRR.out, HBB.out, HI.out]; simp; exact HW.out, by repeat (first | exact Upd.refl _ _ | refine Upd.drew ?_ | refine Upd.alloc ?_ _)⟩
      · have hi : isI64 (sg true S) = false := by simp [isI64, sg]; omega
        have hlt : decide ((S : Int) ≤ 9223372036854775808) = false := by simp; omega
        have HI : Hid _ := hi
        clear h63 hi
        go_wp2
        go_ret2
        exact ⟨by rw [HRR.out, HBB.out, HI.out]; simp, by repeat (first | exact Upd.refl _ _ | refine Upd.drew ?_ | refine Upd.alloc ?_ _)⟩

/-- Int, of an integer. -/
theorem Int_any (a ai at' : Option Addr) (c ci ct : Nat) (neg : Bool) (M : List Nat) (z : Int) (w : World) (HT : TI w neg a M z) :
    Calls Tryd.prog 16 #[.agg #[.int .u8 1, .bool neg, .slice a M.length c, .string ⟨#[]⟩, .int .i64 0, .slice ai 0 ci, .slice at' 0 ct]] w fun e w' => e = .returned (.tuple #[.int .i64 (if isI64 z then z else 0), .bool (isI64 z)]) ∧ Upd [] w w' := by
  by_cases hl : M.length ≤ 2
  · refine Int_two a ai at' c ci ct z.natAbs _ _ neg M z w HT hl rfl rfl (HT.norm.dig.getD _) (HT.norm.dig.getD _) ?_ HT.sg
    rw [← two_val M hl, HT.norm.eq]
  · have hb := big_val HT.norm (by omega)
    have hi : isI64 z = false := by simp [isI64]; omega
    rw [hi]
    exact Int_big a ai at' c ci ct neg M z w HT (by omega)

end Go.Proofs.YtpeganecbjefoaaDoor
