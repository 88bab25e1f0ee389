/- Int, by its contract. -/
import Derived.Test.YtpjlhpopoacjdaaDoorAddT
import Derived.Deep.RegionWith
import Derived.Deep.RegionHeld3
import Derived.Test.YtpjlhpopoacjdaaDoorBitF
import Derived.Test.YtpjlhpopoacjdaaDoorRefR

namespace Go.Proofs.YtpjlhpopoacjdaaDoor
open Go.RowKit

theorem two_val (M : List Nat) (hl : M.length ≤ 2) : val M = M.getD 1 0 * 4294967296 + M.getD 0 0 := by
  match M, hl with
  | [], _ => simp [val]
  | [x], _ => simp [val]
  | [x, y], _ => simp [val]; omega
  | _ :: _ :: _ :: _, h => simp at h

theorem wrap_pos (S : Nat) (h : S < 9223372036854775808) : wrap64 (S : Int) = S := by unfold wrap64; omega
theorem wrap_neg (S : Nat) (h : S ≤ 9223372036854775808) : wrap64 (IntKind.u64.wrap (-(S : Int))) = sg true S := by
  rw [show sg true S = -(S : Int) from rfl, IntKind.wrap_u64]
  unfold wrap64
  by_cases h0 : S = 0
  · subst h0; rfl
  · have e : (-(S : Int)) % 18446744073709551616 = 18446744073709551616 - S := by omega
    rw [e]
    omega

/-- Whether an integer is one of 64 bits. -/
def isI64 (z : Int) : Bool := decide (-9223372036854775808 ≤ z ∧ z ≤ 9223372036854775807)

theorem big_val {M : List Nat} {n : Nat} (h : Norm M n) (hl : 2 < M.length) : 18446744073709551616 ≤ n := by
  rcases Nat.lt_or_ge n 18446744073709551616 with h1 | h1
  · have := (h.len_le 2).2 (by simpa using h1); omega
  · exact h1

set_option maxHeartbeats 2000000 in
set_option maxRecDepth 100000 in
/-- Int, of an integer of more than two limbs. -/
theorem Int_big (a ai at' : Option Addr) (c ci ct : Nat) (neg : Bool) (M : List Nat) (z : Int) (w : World) (HT : TI w neg a M z) (hl : 2 < M.length) :
    Calls Tryd.prog 16 #[.agg #[.int .u8 1, .bool neg, .slice a M.length c, .string ⟨#[]⟩, .int .i64 0, .slice ai 0 ci, .slice at' 0 ct]] w fun e w' => e = .returned (.tuple #[.int .i64 0, .bool false]) ∧ Upd [] w w' := by
  have HR : Hid (∀ W, Upd [] w W → _) := fun W hu => HT.right (W := W) ai at' c ci ct hu
  have h32 := HT.len
  have hd : decide ((M.length : Int) > 2) = true := by simp; omega
  clear HT
  go_enter Tryd.func16, Tryd.ntmps16
  go_wp2_with fail
  refine (HR.out _ (by repeat (first | exact Upd.refl _ _ | refine Upd.alloc ?_ _))).mono ?_
  rintro e w1 ⟨rfl, rfl⟩
  go_wp2
  go_ret2
  exact ⟨rfl, by repeat (first | exact Upd.refl _ _ | refine Upd.alloc ?_ _)⟩

set_option maxHeartbeats 2000000 in
set_option maxRecDepth 100000 in
/-- Int, of an integer of two limbs at most. -/
theorem Int_two (a ai at' : Option Addr) (c ci ct S x y : Nat) (neg : Bool) (M : List Nat) (z : Int) (w : World) (HT : TI w neg a M z) (hl : M.length ≤ 2) (hx : x = M.getD 0 0) (hy : y = M.getD 1 0) (hxl : x < 4294967296) (hyl : y < 4294967296) (hS : S = y * 4294967296 + x)
    (hz : sg neg S = z) :
    Calls Tryd.prog 16 #[.agg #[.int .u8 1, .bool neg, .slice a M.length c, .string ⟨#[]⟩, .int .i64 0, .slice ai 0 ci, .slice at' 0 ct]] w fun e w' => e = .returned (.tuple #[.int .i64 (if isI64 z then z else 0), .bool (isI64 z)]) ∧ Upd [] w w' := by
  have HR : Hid (∀ W, Upd [] w W → _) := fun W hu => HT.right (W := W) ai at' c ci ct hu
  have hor := or_shift y x hyl hxl
  rw [← hS] at hor
  have hSl : S < 18446744073709551616 := by omega
  have HL1 : Hid (∀ W, At W a M → Calls Tryd.prog 43 #[.slice a M.length c, .int .i64 1] W fun e w' => e = .returned (.int .u32 (y : Nat)) ∧ w' = W) := fun W h => by
    rw [hy]; exact limbAt_any a c 1 M W (by omega) h
  have HL0 : Hid (∀ W, At W a M → Calls Tryd.prog 43 #[.slice a M.length c, .int .i64 0] W fun e w' => e = .returned (.int .u32 (x : Nat)) ∧ w' = W) := fun W h => by
    rw [hx]; exact limbAt_any a c 0 M W (by omega) h
  have hd : decide ((M.length : Int) > 2) = false := by simp; omega
  have HM : Hid (At w a M) := HT.mem
  clear HT hx hy hS
  subst hz
  obtain ⟨R, hR⟩ : ∃ R, R = if isI64 (sg neg S) then sg neg S else 0 := ⟨_, rfl⟩
  obtain ⟨B, hB⟩ : ∃ B, B = isI64 (sg neg S) := ⟨_, rfl⟩
  rw [← hR, ← hB]
  have HRR : Hid _ := hR
  have HBB : Hid _ := hB
  clear hR hB
  go_enter Tryd.func16, Tryd.ntmps16
  go_wp2_with fail
  refine (HR.out _ (by repeat (first | exact Upd.refl _ _ | refine Upd.alloc ?_ _))).mono ?_
  rintro e w1 ⟨rfl, rfl⟩
  go_wp2_with fail
  go_region_with (first
    | (go_at_call_of 43 (Value.int .i64 1); refine (HL1.out _ ?_).mono ?_; (exact HM.out.mono (by repeat (first | exact Upd.refl _ _ | refine Upd.drew ?_ | refine Upd.alloc ?_ _))); rintro e w3 ⟨rfl, rfl⟩)
    | (go_at_call_of 43 (Value.int .i64 0); refine (HL0.out _ ?_).mono ?_; (exact HM.out.mono (by repeat (first | exact Upd.refl _ _ | refine Upd.drew ?_ | refine Upd.alloc ?_ _))); rintro e w3 ⟨rfl, rfl⟩))
  all_goals
    cases neg
    · by_cases h63 : S < 9223372036854775808
      · have hi : isI64 (sg false S) = true := by simp [isI64, sg]; omega
        have hlt : decide ((S : Int) < 9223372036854775808) = true := by simp; omega
        have HI : Hid _ := hi
        have HW : Hid _ := wrap_pos S h63
        clear h63 hi
        go_wp2
        go_ret2
        exact ⟨by rw [HRR.out, HBB.out, HI.out]; simp [sg]; exact HW.out, by repeat (first | exact Upd.refl _ _ | refine Upd.drew ?_ | refine Upd.alloc ?_ _)⟩
      · have hi : isI64 (sg false S) = false := by simp [isI64, sg]; omega
        have hlt : decide ((S : Int) < 9223372036854775808) = false := by simp; omega
        have HI : Hid _ := hi
        clear h63 hi
        go_wp2
        go_ret2
        exact ⟨by rw [HRR.out, HBB.out, HI.out]; simp, by repeat (first | exact Upd.refl _ _ | refine Upd.drew ?_ | refine Upd.alloc ?_ _)⟩
    · by_cases h63 : S ≤ 9223372036854775808
      · have hi : isI64 (sg true S) = true := by simp [isI64, sg]; omega
        have hlt : decide ((S : Int) ≤ 9223372036854775808) = true := by simp; omega
        have hwr : wrap64 (IntKind.u64.wrap (-(S : Int))) = sg true S := wrap_neg S h63
        have HI : Hid _ := hi
        have HW : Hid _ := hwr
        clear h63 hi hwr
        go_wp2
        go_ret2
        exact ⟨by rw [HRR.out, HBB.out, HI.out]; simp; exact HW.out, by repeat (first | exact Upd.refl _ _ | refine Upd.drew ?_ | refine Upd.alloc ?_ _)⟩
      · have hi : isI64 (sg true S) = false := by simp [isI64, sg]; omega
        have hlt : decide ((S : Int) ≤ 9223372036854775808) = false := by simp; omega
        have HI : Hid _ := hi
        clear h63 hi
        go_wp2
        go_ret2
        exact ⟨by rw [HRR.out, HBB.out, HI.out]; simp, by repeat (first | exact Upd.refl _ _ | refine Upd.drew ?_ | refine Upd.alloc ?_ _)⟩

/-- Int, of an integer. -/
theorem Int_any (a ai at' : Option Addr) (c ci ct : Nat) (neg : Bool) (M : List Nat) (z : Int) (w : World) (HT : TI w neg a M z) :
    Calls Tryd.prog 16 #[.agg #[.int .u8 1, .bool neg, .slice a M.length c, .string ⟨#[]⟩, .int .i64 0, .slice ai 0 ci, .slice at' 0 ct]] w fun e w' => e = .returned (.tuple #[.int .i64 (if isI64 z then z else 0), .bool (isI64 z)]) ∧ Upd [] w w' := by
  by_cases hl : M.length ≤ 2
  · refine Int_two a ai at' c ci ct z.natAbs _ _ neg M z w HT hl rfl rfl (HT.norm.dig.getD _) (HT.norm.dig.getD _) ?_ HT.sg
    rw [← two_val M hl, HT.norm.eq]
  · have hb := big_val HT.norm (by omega)
    have hi : isI64 z = false := by simp [isI64]; omega
    rw [hi]
    exact Int_big a ai at' c ci ct neg M z w HT (by omega)

end Go.Proofs.YtpjlhpopoacjdaaDoor

/- Int of the reference, by its contract. -/
namespace Go.Proofs.YtpjlhpopoacjdaaDoor
open Go.RowKit

theorem or_bit64 (x r : Nat) (hx : x < 2 ^ r) (hr : r < 64) : bits BinOp.or IntKind.u64 (x : Int) (2 ^ r % 18446744073709551616) = ((x + 2 ^ r : Nat) : Int) := by
  have h64 : (2 : Nat) ^ 64 = 18446744073709551616 := by decide
  have h2 : 2 ^ r < 18446744073709551616 := by rw [← h64]; exact Nat.pow_lt_pow_right (by decide) hr
  have e : ((2 : Int) ^ r % 18446744073709551616) = ((2 ^ r : Nat) : Int) := by
    have e1 : (2 : Int) ^ r = ((2 ^ r : Nat) : Int) := by simp
    rw [e1]; omega
  rw [e, bits_or_u64_nat x (2 ^ r) (by omega) h2, Nat.or_comm]
  have h := Nat.shiftLeft_add_eq_or_of_lt hx 1
  rw [Nat.shiftLeft_eq, Nat.one_mul] at h
  rw [← h, Nat.add_comm]

set_option maxHeartbeats 4000000 in
set_option maxRecDepth 100000 in
theorem rInt_any (a ai at' : Option Addr) (c ci ct : Nat) (neg : Bool) (A : List Nat) (z : Int) (w : World) (HT : TI w neg a A z) :
    Calls Tryd.prog 17 #[.agg #[.int .u8 1, .bool neg, .slice a A.length c, .string ⟨#[]⟩, .int .i64 0, .slice ai 0 ci, .slice at' 0 ct]] w fun e w' => e = .returned (.tuple #[.int .i64 (if isI64 z then z else 0), .bool (isI64 z)]) ∧ Upd [] w w' := by
  have IA : Hid (TI w neg a A z) := HT
  obtain ⟨R, hR⟩ : ∃ R, R = if isI64 z then z else 0 := ⟨_, rfl⟩
  obtain ⟨B, hB⟩ : ∃ B, B = isI64 z := ⟨_, rfl⟩
  rw [← hR, ← hB]
  have HRR : Hid (R = if isI64 z then z else 0) := hR
  have HBB : Hid (B = isI64 z) := hB
  have HSG : Hid (sg neg z.natAbs = z) := HT.sg
  clear HT hR hB
  go_enter Tryd.func17, Tryd.ntmps17
  go_wp2_with fail
  have u0 := (Upd.refl [] w).alloc (.cells #[.int .u8 1, .bool neg, .slice a A.length c, .string ⟨#[]⟩, .int .i64 0, .slice ai 0 ci, .slice at' 0 ct] 26)
  have t0 := Tb.new w #[.int .u8 1, .bool neg, .slice a A.length c, .string ⟨#[]⟩, .int .i64 0, .slice ai 0 ci, .slice at' 0 ct] _ rfl
  refine (TI.rRight (TI.mono IA.out u0) ai at' c ci ct).mono ?_
  rintro e w1 ⟨rfl, h1⟩
  have u1 := u0.trans h1
  have t1 := t0.mono h1 (by simp)
  clear u0 t0 h1
  go_wp2_with (first | (refine load_G _ _ rfl _ _ rfl t1 rfl rfl ?_))
  refine (bits_any a ai at' c ci ct neg A z w1 (TI.mono IA.out u1)).mono ?_
  rintro e w2 ⟨h2, al, cl, L, rfl, nL, hL, _, hc1, hc2⟩
  have u2 := u1.trans h2
  have t2 := t1.mono h2 (by simp)
  have HNL : Hid (NormB L z.natAbs) := nL
  have U2 : Hid (Upd [] w w2) := u2
  have ca1 : w2.cell? ⟨w.heap.size, 1, none⟩ = some (.bool neg) := t2.cell 1
  have hl10 : L.length ≤ 1024 := (nL.len_le 1024).2 (by rw [← pow_eq]; exact IA.out.small)
  clear u1 t1 h2 nL u2 t2 IA
  by_cases hlen : L.length ≤ 64
  · have hgt : decide ((L.length : Int) > 64) = false := by simp; omega
    go_wp2_with fail
    go_loopw [5, 6] (fun mv i wr => ∃ k : Nat, k ≤ L.length ∧ i = .int .i64 k ∧ mv = .int .u64 (nb (L.take k) : Nat) ∧ wr = w2) (fun _ i _ => L.length - (intOf i).toNat)
    case atStart => exact ⟨0, Nat.zero_le _, rfl, rfl, by simp⟩
    case round =>
      obtain ⟨k, hk, rfl, hmv, hwr⟩ := hrel
      obtain ⟨m, hm⟩ : ∃ m, m = nb (L.take k) := ⟨_, rfl⟩
      rw [← hm] at hmv
      have HM : Hid (m = nb (L.take k)) := hm
      have hmk : m < 2 ^ k := by rw [hm]; exact nb_take_lt L k
      have hml : m < 18446744073709551616 := by
        have h64 : (2 : Nat) ^ 64 = 18446744073709551616 := by decide
        have : 2 ^ k ≤ 2 ^ 64 := Nat.pow_le_pow_right (by decide) (by omega)
        omega
      subst hmv
      rw [hwr]
      clear hm hwr
      by_cases hk2 : k < L.length
      · rcases hL with h | ⟨lb, lo, rfl, hltl, hcl⟩
        · rw [h] at hk2; simp at hk2
        have hcx := hcl k hk2
        obtain ⟨x, hx⟩ : ∃ x, x = L.getD k false := ⟨_, rfl⟩
        rw [← hx] at hcx
        have HX : Hid (x = L.getD k false) := hx
        have HOR : Hid (bits BinOp.or IntKind.u64 (m : Int) (2 ^ k % 18446744073709551616) = ((m + 2 ^ k : Nat) : Int)) := or_bit64 m k hmk (by omega)
        clear hx hcl hmk
        cases x
        · go_wp2
          go_roundw
          case rel =>
            refine ⟨k + 1, by omega, by go_num, ?_, by simp⟩
            rw [nb_take, ← HX.out, ← HM.out]
            simp
          case measure => simp [intOf]; omega
        · go_wp2
          go_roundw
          case rel =>
            refine ⟨k + 1, by omega, by go_num, ?_, by simp⟩
            rw [nb_take, ← HX.out, ← HM.out]
            rw [show IntKind.u64.wrap (2 ^ k) = 2 ^ k % 18446744073709551616 from IntKind.wrap_u64 _, HOR.out]
            simp
          case measure => simp [intOf]; omega
      · have hkk : k = L.length := by omega
        have hmz : m = z.natAbs := by rw [HM.out, hkk, List.take_of_length_le (Nat.le_refl _), HNL.out.eq]
        have HMZ : Hid (m = z.natAbs) := hmz
        clear hmz hmk
        cases neg
        · by_cases h63 : m < 9223372036854775808
          · have hz : z = (m : Int) := by have h1 := HSG.out; rw [← HMZ.out] at h1; simpa [sg] using h1.symm
            have hi : isI64 z = true := by simp [isI64]; omega
            have hlt : decide ((m : Int) ≥ 9223372036854775808) = false := by simp; omega
            have HI : Hid (isI64 z = true) := hi
            have HZ : Hid (z = (m : Int)) := hz
            have HW : Hid (wrap64 (m : Int) = m) := wrap_pos m h63
            clear h63 hi hz
            go_wp2
            go_ret2
            exact ⟨by rw [HRR.out, HBB.out, HI.out, HZ.out]; simp; exact HW.out, U2.out⟩
          · have hz : z = (m : Int) := by have h1 := HSG.out; rw [← HMZ.out] at h1; simpa [sg] using h1.symm
            have hi : isI64 z = false := by simp [isI64]; omega
            have hlt : decide ((m : Int) ≥ 9223372036854775808) = true := by simp; omega
            have HI : Hid (isI64 z = false) := hi
            clear h63 hi hz
            go_wp2
            go_ret2
            exact ⟨by rw [HRR.out, HBB.out, HI.out]; simp, U2.out⟩
        · by_cases h63 : m ≤ 9223372036854775808
          · have hz : z = -(m : Int) := by have h1 := HSG.out; rw [← HMZ.out] at h1; simpa [sg] using h1.symm
            have hi : isI64 z = true := by simp [isI64]; omega
            have hlt : decide ((m : Int) ≤ 9223372036854775808) = true := by simp; omega
            have HI : Hid (isI64 z = true) := hi
            have HZ : Hid (z = sg true m) := by show z = sg true m; rw [hz]; rfl
            have HW : Hid (wrap64 (IntKind.u64.wrap (-(m : Int))) = sg true m) := wrap_neg m h63
            clear h63 hi hz
            go_wp2
            go_ret2
            exact ⟨by rw [HRR.out, HBB.out, HI.out, HZ.out]; simp; exact HW.out, U2.out⟩
          · have hz : z = -(m : Int) := by have h1 := HSG.out; rw [← HMZ.out] at h1; simpa [sg] using h1.symm
            have hi : isI64 z = false := by simp [isI64]; omega
            have hlt : decide ((m : Int) ≤ 9223372036854775808) = false := by simp; omega
            have HI : Hid (isI64 z = false) := hi
            clear h63 hi hz
            go_wp2
            go_ret2
            exact ⟨by rw [HRR.out, HBB.out, HI.out]; simp, U2.out⟩
  · have hgt : decide ((L.length : Int) > 64) = true := by simp; omega
    have hi : isI64 z = false := by
      have h1 : ¬ z.natAbs < 2 ^ 64 := fun h => hlen ((HNL.out.len_le 64).2 h)
      have h64 : (2 : Nat) ^ 64 = 18446744073709551616 := by decide
      rw [h64] at h1
      simp [isI64]; omega
    have HI : Hid (isI64 z = false) := hi
    clear hi
    go_wp2
    go_ret2
    exact ⟨by rw [HRR.out, HBB.out, HI.out]; simp, U2.out⟩

end Go.Proofs.YtpjlhpopoacjdaaDoor
